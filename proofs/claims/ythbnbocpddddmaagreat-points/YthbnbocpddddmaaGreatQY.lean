import Derived.Test.YthbnbocpddddmaaGreatQE
import Derived.Test.YthbnbocpddddmaaGreatQA
namespace Go.Proofs.YthbnbocpddddmaaGreat
open Go.RowKit

set_option maxRecDepth 100000 in
set_option maxHeartbeats 400000 in
theorem cursor_anyT (m : Nat) (w : World) :
    Calls Tryz.prog 137 #[.pointer (some ⟨m, 0, none⟩)] w fun e w' => ∃ cb : Nat, e = .returned (.pointer (some ⟨cb, 0, none⟩)) ∧ w'.heap[cb]? = some (curBlk m 0 0) ∧ w.heap.size ≤ cb ∧ Fr (fun _ => False) w w' := by
  go_enter Tryz.func137, Tryz.ntmps137
  go_wp2_with fail
  go_ret
  exact ⟨_, rfl, blk_new _ _, Nat.le_refl _, Fr.alloc (Fr.refl _ _) _⟩

set_option maxRecDepth 100000 in
set_option maxHeartbeats 800000 in
theorem passed_anyT (m : Nat) (t : Bool) (c : Int) (own : Nat → Prop) (xs : Row) (s k : Int) (w : World) (h : MapT w m t c own xs) (b0 : 0 ≤ c) (b1 : c ≤ 8000000000000000000) (hs : xs.length ≤ 4000) (h3 : s = 0 ∨ s = 1 ∨ s = 2) :
    Calls Tryz.prog 163 #[.pointer (some ⟨m, 0, none⟩), .agg #[.int .i64 s, kv k]] w fun e w' => ∃ n : Nat, e = .returned (.int .i64 (pas t s k xs)) ∧
      MapT w' m t (c + n) own xs ∧ n ≤ 3 * dg (xs.length + 1) ∧ Fr (fun x => x = m) w w' := by
  have hrl := lrank_le t k xs
  have hrl' : (lrank t k xs : Int) ≤ 4000 := by omega
  have hml : m < w.heap.size := h.lt m ((h.choose_spec.choose_spec.2.2.2.1 m).2 (Or.inl rfl))
  rcases h3 with rfl | rfl | rfl
  · have ep : pas t 0 k xs = 0 := by unfold pas; simp
    rw [ep]
    have h' := h.fr (Fr.alloc (Fr.refl (fun _ => False) w) (.cells #[.int .i64 0, kv k] 280)) (fun _ _ e => e)
    clear hrl hrl' ep
    go_enter Tryz.func163, Tryz.ntmps163
    go_wp2_with fail
    go_ret
    refine ⟨0, rfl, ?_, Nat.zero_le _, Fr.mono (Fr.alloc (Fr.refl (fun _ => False) w) _) fun _ _ e => e.elim⟩
    simpa using h'
  · have hF : Fr (fun _ => False) w (w.alloc (.cells #[.int .i64 1, kv k] 280)) := Fr.alloc (Fr.refl _ _) _
    have hfind := find_anyT m t c own xs k _ (h.fr hF fun _ _ e => e) b0 b1 hs
    have hb := blk_new w (.cells #[.int .i64 1, kv k] 280)
    have q0 := cell_of hb 0
    have q1 := cell_of hb 1
    cases hsm : lsame k xs with
    | true =>
      rw [hsm] at hfind
      have ep : pas t 1 k xs = (lrank t k xs : Int) := by unfold pas; simp [hsm]
      rw [ep]
      clear hsm h hrl ep
      go_enter Tryz.func163, Tryz.ntmps163
      go_wp2_with fail
      refine hfind.mono ?_
      rintro e w3 ⟨n, rfl, g1, g2, g3, g4⟩
      have z0 := (g4.cell (b := w.heap.size) 0 (by simp) (by omega)).trans q0
      go_wp2_with fail
      go_ret
      exact ⟨n, rfl, g1, g2, Fr.trans (hF.mono fun _ _ e => e.elim) g4 fun _ _ e => e⟩
    | false =>
      rw [hsm] at hfind
      have ep : pas t 1 k xs = (lrank t k xs : Int) := by unfold pas; simp [hsm]
      rw [ep]
      clear hsm h hrl ep
      go_enter Tryz.func163, Tryz.ntmps163
      go_wp2_with fail
      refine hfind.mono ?_
      rintro e w3 ⟨n, rfl, g1, g2, g3, g4⟩
      have z0 := (g4.cell (b := w.heap.size) 0 (by simp) (by omega)).trans q0
      go_wp2_with fail
      go_ret
      exact ⟨n, rfl, g1, g2, Fr.trans (hF.mono fun _ _ e => e.elim) g4 fun _ _ e => e⟩
  · have hF : Fr (fun _ => False) w (w.alloc (.cells #[.int .i64 2, kv k] 280)) := Fr.alloc (Fr.refl _ _) _
    have hfind := find_anyT m t c own xs k _ (h.fr hF fun _ _ e => e) b0 b1 hs
    have hb := blk_new w (.cells #[.int .i64 2, kv k] 280)
    have q0 := cell_of hb 0
    have q1 := cell_of hb 1
    cases hsm : lsame k xs with
    | true =>
      rw [hsm] at hfind
      have ep : pas t 2 k xs = (lrank t k xs : Int) + 1 := by unfold pas; simp [hsm]
      rw [ep]
      clear hsm h hrl ep
      go_enter Tryz.func163, Tryz.ntmps163
      go_wp2_with fail
      refine hfind.mono ?_
      rintro e w3 ⟨n, rfl, g1, g2, g3, g4⟩
      have z0 := (g4.cell (b := w.heap.size) 0 (by simp) (by omega)).trans q0
      go_wp2_with fail
      go_ret
      exact ⟨n, rfl, g1, g2, Fr.trans (hF.mono fun _ _ e => e.elim) g4 fun _ _ e => e⟩
    | false =>
      rw [hsm] at hfind
      have ep : pas t 2 k xs = (lrank t k xs : Int) := by unfold pas; simp [hsm]
      rw [ep]
      clear hsm h hrl ep
      go_enter Tryz.func163, Tryz.ntmps163
      go_wp2_with fail
      refine hfind.mono ?_
      rintro e w3 ⟨n, rfl, g1, g2, g3, g4⟩
      have z0 := (g4.cell (b := w.heap.size) 0 (by simp) (by omega)).trans q0
      go_wp2_with fail
      go_ret
      exact ⟨n, rfl, g1, g2, Fr.trans (hF.mono fun _ _ e => e.elim) g4 fun _ _ e => e⟩

set_option maxRecDepth 100000 in
set_option maxHeartbeats 400000 in
theorem next_anyT (m : Nat) (t : Bool) (c : Int) (own : Nat → Prop) (xs : Row) (s k : Int) (w : World) (h : MapT w m t c own xs) (b0 : 0 ≤ c) (b1 : c ≤ 8000000000000000000) (hs : xs.length ≤ 4000) (h3 : s = 0 ∨ s = 1 ∨ s = 2) :
    Calls Tryz.prog 153 #[.pointer (some ⟨m, 0, none⟩), .agg #[.int .i64 s, kv k]] w fun e w' => ∃ n : Nat, e = .returned (.tuple #[kv (latK xs (pas t s k xs)), kv (latV xs (pas t s k xs)), .bool (latB xs (pas t s k xs))]) ∧
      MapT w' m t (c + n) own xs ∧ n ≤ 3 * dg (xs.length + 1) ∧ Fr (fun x => x = m) w w' := by
  have hF : Fr (fun _ => False) w (w.alloc (.cells #[.int .i64 s, kv k] 280)) := Fr.alloc (Fr.refl _ _) _
  have hp := passed_anyT m t c own xs s k _ (h.fr hF fun _ _ e => e) b0 b1 hs h3
  generalize pas t s k xs = i at *
  clear h h3
  go_enter Tryz.func153, Tryz.ntmps153
  go_wp2_with fail
  refine hp.mono ?_
  rintro e w3 ⟨n, rfl, g1, g2, g4⟩
  have hat := at_anyT m t _ own xs i _ g1 hs
  go_wp2_with fail
  refine hat.mono ?_
  rintro e w4 ⟨rfl, fr⟩
  go_wp2_with fail
  go_ret3
  exact ⟨n, rfl, g1.fr fr fun _ _ e => e, g2, ((hF.mono fun _ _ e => e.elim).trans g4 fun _ _ e => e).trans fr fun _ _ e => e.elim⟩

set_option maxRecDepth 100000 in
set_option maxHeartbeats 400000 in
theorem prev_anyT (m : Nat) (t : Bool) (c : Int) (own : Nat → Prop) (xs : Row) (s k : Int) (w : World) (h : MapT w m t c own xs) (b0 : 0 ≤ c) (b1 : c ≤ 8000000000000000000) (hs : xs.length ≤ 4000) (h3 : s = 0 ∨ s = 1 ∨ s = 2) :
    Calls Tryz.prog 154 #[.pointer (some ⟨m, 0, none⟩), .agg #[.int .i64 s, kv k]] w fun e w' => ∃ n : Nat, e = .returned (.tuple #[kv (latK xs (pas t s k xs - 1)), kv (latV xs (pas t s k xs - 1)), .bool (latB xs (pas t s k xs - 1))]) ∧
      MapT w' m t (c + n) own xs ∧ n ≤ 3 * dg (xs.length + 1) ∧ Fr (fun x => x = m) w w' := by
  have hF : Fr (fun _ => False) w (w.alloc (.cells #[.int .i64 s, kv k] 280)) := Fr.alloc (Fr.refl _ _) _
  have hp := passed_anyT m t c own xs s k _ (h.fr hF fun _ _ e => e) b0 b1 hs h3
  have hi : 0 ≤ pas t s k xs ∧ pas t s k xs ≤ 4001 := by
    have := lrank_le t k xs
    unfold pas
    (repeat' split) <;> omega
  generalize pas t s k xs = i at *
  obtain ⟨i0, i1⟩ := hi
  clear h h3
  go_enter Tryz.func154, Tryz.ntmps154
  go_wp2_with fail
  refine hp.mono ?_
  rintro e w3 ⟨n, rfl, g1, g2, g4⟩
  have hat := at_anyT m t _ own xs (i - 1) _ g1 hs
  go_wp2_with fail
  refine hat.mono ?_
  rintro e w4 ⟨rfl, fr⟩
  go_wp2_with fail
  go_ret3
  exact ⟨n, rfl, g1.fr fr fun _ _ e => e, g2, ((hF.mono fun _ _ e => e.elim).trans g4 fun _ _ e => e).trans fr fun _ _ e => e.elim⟩

set_option maxRecDepth 100000 in
set_option maxHeartbeats 800000 in
theorem cnext_anyT (m cb : Nat) (t : Bool) (c : Int) (own : Nat → Prop) (xs : Row) (s k : Int) (w : World) (h : MapT w m t c own xs) (hc : w.heap[cb]? = some (curBlk m s k)) (hn : ¬ own cb) (b0 : 0 ≤ c) (b1 : c ≤ 8000000000000000000) (hs : xs.length ≤ 4000) (h3 : s = 0 ∨ s = 1 ∨ s = 2) (hb : latB xs (pas t s k xs) = true) :
    Calls Tryz.prog 138 #[.pointer (some ⟨cb, 0, none⟩)] w fun e w' => ∃ n : Nat, e = .returned (.tuple #[kv (latK xs (pas t s k xs)), kv (latV xs (pas t s k xs)), .bool true]) ∧
      MapT w' m t (c + n) own xs ∧ w'.heap[cb]? = some (curBlk m 2 (latK xs (pas t s k xs))) ∧ n ≤ 3 * dg (xs.length + 1) ∧ Fr (fun x => x = m ∨ x = cb) w w' := by
  have hp := next_anyT m t c own xs s k w.drew (h.same rfl) b0 b1 hs h3
  have hne : cb ≠ m := fun e => hn (e ▸ (h.choose_spec.choose_spec.2.2.2.1 m).2 (Or.inl rfl))
  rw [hb] at hp
  generalize latK xs (pas t s k xs) = K at *
  generalize latV xs (pas t s k xs) = V at *
  have x1 := lt_of_blk hc
  have c0 : w.cell? ⟨cb, 0, none⟩ = some (.pointer (some ⟨m, 0, none⟩)) := cell_of hc 0
  have c1 : w.cell? ⟨cb, 1, none⟩ = some (.int .i64 s) := cell_of hc 1
  have c2 : w.cell? ⟨cb, 2, none⟩ = some (kv k) := cell_of hc 2
  clear h h3 hb
  go_enter Tryz.func138, Tryz.ntmps138
  go_wp2_with fail
  go_region_held3 (fun w' => w'.cell? ⟨cb, 0, none⟩ = some (.pointer (some ⟨m, 0, none⟩)) ∧ w'.cell? ⟨cb, 1, none⟩ = some (.int .i64 s) ∧ w'.cell? ⟨cb, 2, none⟩ = some (kv k))
    (first | exact ⟨c0, c1, c2⟩ | exact ⟨k0, k1, k2⟩)
    ((go_at_call 153; refine hp.mono ?_; rintro e w3 ⟨n, rfl, g1, g2, g4⟩; have k0 := (g4.cell (b := cb) 0 (by simpa using x1) hne).trans c0; have k1 := (g4.cell (b := cb) 1 (by simpa using x1) hne).trans c1; have k2 := (g4.cell (b := cb) 2 (by simpa using x1) hne).trans c2))
  have hc3 : w3.heap[cb]? = some (curBlk m s k) := (g4.block cb x1 hne).trans hc
  have g5 : Fr (fun x => x = m) w w3 := Fr.trans (S' := fun x => x = m) (Fr.drew (Fr.refl _ _)) g4 fun _ _ e => e
  have f1' : w3.frozen? ⟨cb, 1, none⟩ = false := frozen_of hc3 1
  have f2' : w3.frozen? ⟨cb, 2, none⟩ = false := frozen_of hc3 2
  have hsc := store_c
  go_wp2_with fail
  go_ret3
  have F2 : Fr (fun x => x = cb) w3 ((w3.setCell ⟨cb, 1, none⟩ (.int .i64 2)).setCell ⟨cb, 2, none⟩ (kv K)) := Fr.setCell (Fr.setCell (Fr.refl _ _) (by exact fun _ => rfl) _) (by exact fun _ => rfl) _
  exact ⟨n, rfl, g1.fr F2 fun x hx e => hn (e ▸ hx), (blk_set (blk_set hc3 1 _) 2 _).trans rfl, g2, (g5.mono fun _ _ e => Or.inl e).trans F2 fun _ _ e => Or.inr e⟩

set_option maxRecDepth 100000 in
set_option maxHeartbeats 800000 in
theorem cprev_anyT (m cb : Nat) (t : Bool) (c : Int) (own : Nat → Prop) (xs : Row) (s k : Int) (w : World) (h : MapT w m t c own xs) (hc : w.heap[cb]? = some (curBlk m s k)) (hn : ¬ own cb) (b0 : 0 ≤ c) (b1 : c ≤ 8000000000000000000) (hs : xs.length ≤ 4000) (h3 : s = 0 ∨ s = 1 ∨ s = 2) (hb : latB xs (pas t s k xs - 1) = true) :
    Calls Tryz.prog 139 #[.pointer (some ⟨cb, 0, none⟩)] w fun e w' => ∃ n : Nat, e = .returned (.tuple #[kv (latK xs (pas t s k xs - 1)), kv (latV xs (pas t s k xs - 1)), .bool true]) ∧
      MapT w' m t (c + n) own xs ∧ w'.heap[cb]? = some (curBlk m 1 (latK xs (pas t s k xs - 1))) ∧ n ≤ 3 * dg (xs.length + 1) ∧ Fr (fun x => x = m ∨ x = cb) w w' := by
  have hp := prev_anyT m t c own xs s k w.drew (h.same rfl) b0 b1 hs h3
  have hne : cb ≠ m := fun e => hn (e ▸ (h.choose_spec.choose_spec.2.2.2.1 m).2 (Or.inl rfl))
  rw [hb] at hp
  generalize latK xs (pas t s k xs - 1) = K at *
  generalize latV xs (pas t s k xs - 1) = V at *
  have x1 := lt_of_blk hc
  have c0 : w.cell? ⟨cb, 0, none⟩ = some (.pointer (some ⟨m, 0, none⟩)) := cell_of hc 0
  have c1 : w.cell? ⟨cb, 1, none⟩ = some (.int .i64 s) := cell_of hc 1
  have c2 : w.cell? ⟨cb, 2, none⟩ = some (kv k) := cell_of hc 2
  clear h h3 hb
  go_enter Tryz.func139, Tryz.ntmps139
  go_wp2_with fail
  go_region_held3 (fun w' => w'.cell? ⟨cb, 0, none⟩ = some (.pointer (some ⟨m, 0, none⟩)) ∧ w'.cell? ⟨cb, 1, none⟩ = some (.int .i64 s) ∧ w'.cell? ⟨cb, 2, none⟩ = some (kv k))
    (first | exact ⟨c0, c1, c2⟩ | exact ⟨k0, k1, k2⟩)
    ((go_at_call 154; refine hp.mono ?_; rintro e w3 ⟨n, rfl, g1, g2, g4⟩; have k0 := (g4.cell (b := cb) 0 (by simpa using x1) hne).trans c0; have k1 := (g4.cell (b := cb) 1 (by simpa using x1) hne).trans c1; have k2 := (g4.cell (b := cb) 2 (by simpa using x1) hne).trans c2))
  have hc3 : w3.heap[cb]? = some (curBlk m s k) := (g4.block cb x1 hne).trans hc
  have g5 : Fr (fun x => x = m) w w3 := Fr.trans (S' := fun x => x = m) (Fr.drew (Fr.refl _ _)) g4 fun _ _ e => e
  have f1' : w3.frozen? ⟨cb, 1, none⟩ = false := frozen_of hc3 1
  have f2' : w3.frozen? ⟨cb, 2, none⟩ = false := frozen_of hc3 2
  have hsc := store_c
  go_wp2_with fail
  go_ret3
  have F2 : Fr (fun x => x = cb) w3 ((w3.setCell ⟨cb, 1, none⟩ (.int .i64 1)).setCell ⟨cb, 2, none⟩ (kv K)) := Fr.setCell (Fr.setCell (Fr.refl _ _) (by exact fun _ => rfl) _) (by exact fun _ => rfl) _
  exact ⟨n, rfl, g1.fr F2 fun x hx e => hn (e ▸ hx), (blk_set (blk_set hc3 1 _) 2 _).trans rfl, g2, (g5.mono fun _ _ e => Or.inl e).trans F2 fun _ _ e => Or.inr e⟩

end Go.Proofs.YthbnbocpddddmaaGreat

namespace Go.Proofs.YthbnbocpddddmaaGreat
open Go.RowKit

set_option maxRecDepth 100000 in
set_option maxHeartbeats 800000 in
theorem cnextG_anyT (m cb : Nat) (t : Bool) (c : Int) (own : Nat → Prop) (xs : Row) (s k : Int) (w : World) (h : MapT w m t c own xs) (hc : w.heap[cb]? = some (curBlk m s k)) (hn : ¬ own cb) (b0 : 0 ≤ c) (b1 : c ≤ 8000000000000000000) (hs : xs.length ≤ 4000) (h3 : s = 0 ∨ s = 1 ∨ s = 2) :
    Calls Tryz.prog 138 #[.pointer (some ⟨cb, 0, none⟩)] w fun e w' => ∃ n : Nat, e = .returned (.tuple #[kv (latK xs (pas t s k xs)), kv (latV xs (pas t s k xs)), .bool (latB xs (pas t s k xs))]) ∧
      MapT w' m t (c + n) own xs ∧ w'.heap[cb]? = some (curBlk m (if latB xs (pas t s k xs) = true then 2 else s) (if latB xs (pas t s k xs) = true then latK xs (pas t s k xs) else k)) ∧ n ≤ 3 * dg (xs.length + 1) ∧ Fr (fun x => x = m ∨ x = cb) w w' := by
  cases hb : latB xs (pas t s k xs) with
  | true =>
    simp only [if_true]
    exact cnext_anyT m cb t c own xs s k w h hc hn b0 b1 hs h3 hb
  | false =>
    simp only [Bool.false_eq_true, if_false]
    have hp := next_anyT m t c own xs s k w.drew (h.same rfl) b0 b1 hs h3
    have hne : cb ≠ m := fun e => hn (e ▸ (h.choose_spec.choose_spec.2.2.2.1 m).2 (Or.inl rfl))
    rw [hb] at hp
    generalize latK xs (pas t s k xs) = K at *
    generalize latV xs (pas t s k xs) = V at *
    have x1 := lt_of_blk hc
    have c0 : w.cell? ⟨cb, 0, none⟩ = some (.pointer (some ⟨m, 0, none⟩)) := cell_of hc 0
    have c1 : w.cell? ⟨cb, 1, none⟩ = some (.int .i64 s) := cell_of hc 1
    have c2 : w.cell? ⟨cb, 2, none⟩ = some (kv k) := cell_of hc 2
    clear h h3 hb
    go_enter Tryz.func138, Tryz.ntmps138
    go_wp2_with fail
    go_region_held3 (fun w' => w'.cell? ⟨cb, 0, none⟩ = some (.pointer (some ⟨m, 0, none⟩)) ∧ w'.cell? ⟨cb, 1, none⟩ = some (.int .i64 s) ∧ w'.cell? ⟨cb, 2, none⟩ = some (kv k))
      (first | exact ⟨c0, c1, c2⟩ | exact ⟨k0, k1, k2⟩)
      ((go_at_call 153; refine hp.mono ?_; rintro e w3 ⟨n, rfl, g1, g2, g4⟩; have k0 := (g4.cell (b := cb) 0 (by simpa using x1) hne).trans c0; have k1 := (g4.cell (b := cb) 1 (by simpa using x1) hne).trans c1; have k2 := (g4.cell (b := cb) 2 (by simpa using x1) hne).trans c2))
    have hc3 : w3.heap[cb]? = some (curBlk m s k) := (g4.block cb x1 hne).trans hc
    have g5 : Fr (fun x => x = m) w w3 := Fr.trans (S' := fun x => x = m) (Fr.drew (Fr.refl _ _)) g4 fun _ _ e => e
    go_wp2_with fail
    go_ret3
    exact ⟨n, rfl, g1, hc3, g2, g5.mono fun _ _ e => Or.inl e⟩

set_option maxRecDepth 100000 in
set_option maxHeartbeats 800000 in
theorem cprevG_anyT (m cb : Nat) (t : Bool) (c : Int) (own : Nat → Prop) (xs : Row) (s k : Int) (w : World) (h : MapT w m t c own xs) (hc : w.heap[cb]? = some (curBlk m s k)) (hn : ¬ own cb) (b0 : 0 ≤ c) (b1 : c ≤ 8000000000000000000) (hs : xs.length ≤ 4000) (h3 : s = 0 ∨ s = 1 ∨ s = 2) :
    Calls Tryz.prog 139 #[.pointer (some ⟨cb, 0, none⟩)] w fun e w' => ∃ n : Nat, e = .returned (.tuple #[kv (latK xs (pas t s k xs - 1)), kv (latV xs (pas t s k xs - 1)), .bool (latB xs (pas t s k xs - 1))]) ∧
      MapT w' m t (c + n) own xs ∧ w'.heap[cb]? = some (curBlk m (if latB xs (pas t s k xs - 1) = true then 1 else s) (if latB xs (pas t s k xs - 1) = true then latK xs (pas t s k xs - 1) else k)) ∧ n ≤ 3 * dg (xs.length + 1) ∧ Fr (fun x => x = m ∨ x = cb) w w' := by
  cases hb : latB xs (pas t s k xs - 1) with
  | true =>
    simp only [if_true]
    exact cprev_anyT m cb t c own xs s k w h hc hn b0 b1 hs h3 hb
  | false =>
    simp only [Bool.false_eq_true, if_false]
    have hp := prev_anyT m t c own xs s k w.drew (h.same rfl) b0 b1 hs h3
    have hne : cb ≠ m := fun e => hn (e ▸ (h.choose_spec.choose_spec.2.2.2.1 m).2 (Or.inl rfl))
    rw [hb] at hp
    generalize latK xs (pas t s k xs - 1) = K at *
    generalize latV xs (pas t s k xs - 1) = V at *
    have x1 := lt_of_blk hc
    have c0 : w.cell? ⟨cb, 0, none⟩ = some (.pointer (some ⟨m, 0, none⟩)) := cell_of hc 0
    have c1 : w.cell? ⟨cb, 1, none⟩ = some (.int .i64 s) := cell_of hc 1
    have c2 : w.cell? ⟨cb, 2, none⟩ = some (kv k) := cell_of hc 2
    clear h h3 hb
    go_enter Tryz.func139, Tryz.ntmps139
    go_wp2_with fail
    go_region_held3 (fun w' => w'.cell? ⟨cb, 0, none⟩ = some (.pointer (some ⟨m, 0, none⟩)) ∧ w'.cell? ⟨cb, 1, none⟩ = some (.int .i64 s) ∧ w'.cell? ⟨cb, 2, none⟩ = some (kv k))
      (first | exact ⟨c0, c1, c2⟩ | exact ⟨k0, k1, k2⟩)
      ((go_at_call 154; refine hp.mono ?_; rintro e w3 ⟨n, rfl, g1, g2, g4⟩; have k0 := (g4.cell (b := cb) 0 (by simpa using x1) hne).trans c0; have k1 := (g4.cell (b := cb) 1 (by simpa using x1) hne).trans c1; have k2 := (g4.cell (b := cb) 2 (by simpa using x1) hne).trans c2))
    have hc3 : w3.heap[cb]? = some (curBlk m s k) := (g4.block cb x1 hne).trans hc
    have g5 : Fr (fun x => x = m) w w3 := Fr.trans (S' := fun x => x = m) (Fr.drew (Fr.refl _ _)) g4 fun _ _ e => e
    go_wp2_with fail
    go_ret3
    exact ⟨n, rfl, g1, hc3, g2, g5.mono fun _ _ e => Or.inl e⟩

set_option maxRecDepth 100000 in
set_option maxHeartbeats 400000 in
theorem cseek_anyT (m cb : Nat) (s k q : Int) (w : World) (hc : w.heap[cb]? = some (curBlk m s k)) :
    Calls Tryz.prog 140 #[.pointer (some ⟨cb, 0, none⟩), kv q] w fun e w' => e = .returned (.tuple #[]) ∧ w'.heap[cb]? = some (curBlk m 1 q) ∧ Fr (fun x => x = cb) w w' := by
  have c1 : w.cell? ⟨cb, 1, none⟩ = some (.int .i64 s) := cell_of hc 1
  have c2 : w.cell? ⟨cb, 2, none⟩ = some (kv k) := cell_of hc 2
  have f1 : w.frozen? ⟨cb, 1, none⟩ = false := frozen_of hc 1
  have f2 : w.frozen? ⟨cb, 2, none⟩ = false := frozen_of hc 2
  have hsc := store_c
  go_enter Tryz.func140, Tryz.ntmps140
  go_wp2_with fail
  go_end0
  exact ⟨rfl, (blk_set (blk_set hc 1 _) 2 _).trans rfl, Fr.setCell (Fr.setCell (Fr.refl _ _) (by exact fun _ => rfl) _) (by exact fun _ => rfl) _⟩

end Go.Proofs.YthbnbocpddddmaaGreat
