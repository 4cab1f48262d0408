import Derived.Test.YthbnbocpddddmaaGreatQJ
import Derived.Test.YthbnbocpddddmaaGreatQA
import Derived.Test.YthbnbocpddddmaaGreatUC
namespace Go.Proofs.YthbnbocpddddmaaGreat
open Go.RowKit

set_option maxRecDepth 100000 in
set_option maxHeartbeats 1000000 in
theorem alike_anyT (m : Nat) (t : Bool) (c : Int) (own : Nat → Prop) (xs : Row) (w : World) (h : MapT w m t c own xs) :
    Calls Tryz.prog 164 #[.pointer (some ⟨m, 0, none⟩)] w fun e w' => ∃ n : Nat, e = .returned (.pointer (some ⟨n, 0, none⟩)) ∧ ∃ own' : Nat → Prop, MapT w' n t 0 own' [] ∧ (∀ x, own' x → w.heap.size ≤ x) ∧ Fr (fun _ => False) w w' := by
  obtain ⟨p, oE, h1, h2, h3, h4, h5⟩ := h
  have c0 : w.cell? ⟨m, 0, none⟩ = some (.iface 213 (.agg #[])) := cell_of h1 0
  have c1 : w.cell? ⟨m, 1, none⟩ = some (.bool t) := cell_of h1 1
  have c2 : w.cell? ⟨m, 2, none⟩ = some (.int .i64 0) := cell_of h1 2
  have hml : m < w.drew.heap.size := lt_of_blk h1
  clear h1 h2 h3 h4 h5
  go_enter Tryz.func164, Tryz.ntmps164
  go_wp2_with fail
  go_region_held3 (fun w' => w'.cell? ⟨m, 0, none⟩ = some (.iface 213 (.agg #[])) ∧ w'.cell? ⟨m, 1, none⟩ = some (.bool t) ∧ w'.cell? ⟨m, 2, none⟩ = some (.int .i64 0))
    (first | exact ⟨c0, c1, c2⟩ | exact ⟨k0, k1, k2⟩)
    ((go_at_call 15; refine (newT_any t _).mono ?_; rintro e w1 ⟨n, rfl, own', q1, q2, q3⟩; have k0 := (q3.cell (b := m) 0 hml (fun e => e)).trans c0; have k1 := (q3.cell (b := m) 1 hml (fun e => e)).trans c1; have k2 := (q3.cell (b := m) 2 hml (fun e => e)).trans c2))
  have F : Fr (fun _ => False) w w1 := Fr.trans (S' := fun _ => False) (Fr.drew (Fr.refl _ _)) q3 fun _ _ e => e
  go_wp2_with fail
  go_ret
  exact ⟨n, rfl, own', q1, q2, F⟩

set_option maxRecDepth 100000 in
set_option maxHeartbeats 1000000 in
theorem add_anyT (m : Nat) (t : Bool) (c : Int) (own : Nat → Prop) (xs : Row) (k v : Int) (w : World) (h : MapT w m t c own xs) (hsr : Srt t (xs ++ [(k, v)])) (hs : xs.length ≤ 1000) :
    Calls Tryz.prog 165 #[.pointer (some ⟨m, 0, none⟩), kv k, kv v] w fun e w' => e = .returned (.tuple #[]) ∧ ∃ own' : Nat → Prop, MapT w' m t c own' (xs ++ [(k, v)]) ∧ (∀ x, own' x → own x ∨ w.heap.size ≤ x) ∧ Fr own w w' := by
  obtain ⟨p, oE, h1, h2, h3, h4, h5⟩ := h
  have c3 : w.cell? ⟨m, 3, none⟩ = some (.iface 130 (.pointer (some ⟨p, 0, none⟩))) := cell_of h1 3
  have hlen := tLen_any p oE xs w.drew (h2.fr (Fr.drew (Fr.refl (fun _ => False) _)) fun _ _ e => e)
  have hins := tInsert_any p oE xs xs.length k v w.drew (h2.fr (Fr.drew (Fr.refl (fun _ => False) _)) fun _ _ e => e) (Nat.le_refl _) (by omega)
  rw [List.take_length, List.drop_length] at hins
  have hml := method_lenT
  have hmi := method_insertT
  have hmw : m < w.drew.heap.size := lt_of_blk h1
  have HQ : Hid ((∀ x, own x ↔ x = m ∨ oE x) ∧ ¬ oE m ∧ w.heap[m]? = some (mapBlk t (.iface 130 (.pointer (some ⟨p, 0, none⟩))) c) ∧ Srt t (xs ++ [(k, v)])) := ⟨h4, h3, h1, hsr⟩
  clear h1 h2 h4 h5 hsr
  go_enter Tryz.func165, Tryz.ntmps165
  go_wp2_with fail
  go_region_held3 (fun w' => w'.cell? ⟨m, 3, none⟩ = some (.iface 130 (.pointer (some ⟨p, 0, none⟩))))
    (first | exact c3 | exact k3)
    (first
      | (go_at_call 252; refine hlen.mono ?_; rintro e w2 ⟨rfl, rfl⟩)
      | (go_at_call 251; refine hins.mono ?_; rintro e w3 ⟨rfl, oE', q1, q2, q3⟩; have k3 := (q3.cell (b := m) 3 hmw h3).trans c3))
  have q3 : Fr oE w w3 := Fr.trans (S' := oE) (Fr.drew (Fr.refl _ _)) q3 fun _ _ e => e
  go_wp2_with fail
  go_end0
  obtain ⟨h4, _, h1, hsr⟩ := HQ.out
  have nm : ¬ oE' m := fun e => by
    rcases q2 m e with e | e
    · exact h3 e
    · exact absurd hmw (Nat.not_lt.2 e)
  refine ⟨rfl, fun x => x = m ∨ oE' x, ⟨p, oE', (q3.block m (lt_of_blk h1) h3).trans h1, q1, nm, fun x => Iff.rfl, hsr⟩, fun x hx => ?_, q3.mono fun x _ e => (h4 x).2 (Or.inr e)⟩
  rcases hx with e | e
  · exact Or.inl ((h4 x).2 (Or.inl e))
  · rcases q2 x e with e | e
    · exact Or.inl ((h4 x).2 (Or.inr e))
    · exact Or.inr e

theorem piece_succT {xs : Row} {i j : Nat} {p : Int × Int} (h : xs[i + j]? = some p) : (xs.drop i).take (j + 1) = (xs.drop i).take j ++ [p] := by
  rw [List.take_add_one, List.getElem?_drop, h]; rfl

set_option maxRecDepth 100000 in
set_option maxHeartbeats 2000000 in
theorem piece_anyT (m : Nat) (t : Bool) (c : Int) (own : Nat → Prop) (xs : Row) (i j : Nat) (w : World) (h : MapT w m t c own xs) (hij : i ≤ j) (hj : j ≤ xs.length) (hs : xs.length ≤ 400) :
    Calls Tryz.prog 155 #[.pointer (some ⟨m, 0, none⟩), .int .i64 i, .int .i64 j] w fun e w' => ∃ n : Nat, e = .returned (.pointer (some ⟨n, 0, none⟩)) ∧ ∃ own' : Nat → Prop, MapT w' n t 0 own' ((xs.drop i).take (j - i)) ∧ (∀ x, own' x → w.heap.size ≤ x) ∧ Fr (fun _ => False) w w' := by
  have halike := alike_anyT m t c own xs w h
  have hmeth := method_atT
  obtain ⟨p, oE, h1, h2, h3, h4, h5⟩ := h
  have hjl : (j : Int) ≤ 400 := by omega
  go_enter Tryz.func155, Tryz.ntmps155
  go_wp2_with fail
  refine halike.mono ?_
  rintro e w1 ⟨n, rfl, own1, q1, q2, q3⟩
  go_wp2_with fail
  go_loopg [8] (j - i) (fun gk s8 wr => ∃ (l : Nat) (own' : Nat → Prop), gk + l = j - i ∧ s8 = .int .i64 ((i + l : Nat) : Int) ∧ MapT wr n t 0 own' ((xs.drop i).take l) ∧ (∀ x, own' x → w.heap.size ≤ x) ∧ Fr (fun _ => False) w wr)
  case atStart => exact ⟨0, own1, by omega, rfl, q1, q2, q3⟩
  case round =>
    clear q1 q2 q3
    obtain ⟨l, own', y0, rfl, hM, hown, F⟩ := hrel
    by_cases hl : i + l < j
    · have hl1 : ((i + l : Nat) : Int) < (j : Int) := by omega
      obtain ⟨⟨k, v⟩, hkv⟩ : ∃ q, xs[i + l]? = some q := ⟨_, List.getElem?_eq_getElem (by omega)⟩
      have hb := (F.block m (lt_of_blk h1) (fun e => e)).trans h1
      have c3 : wr.cell? ⟨m, 3, none⟩ = some (.iface 130 (.pointer (some ⟨p, 0, none⟩))) := cell_of hb 3
      have hat := tAt_any p oE xs (i + l) k v wr (h2.fr F fun _ _ e => e) hkv (by omega)
      have hsr : Srt t ((xs.drop i).take l ++ [(k, v)]) := by
        rw [← piece_succT hkv]
        exact List.Pairwise.sublist ((List.take_sublist _ _).trans (List.drop_sublist _ _)) h5
      have hll : ((xs.drop i).take l).length ≤ 1000 := Nat.le_trans (List.length_take_le' ..) (by rw [List.length_drop]; omega)
      have hadd := fun w' h' => add_anyT n t 0 own' ((xs.drop i).take l) k v w' h' hsr hll
      rw [← piece_succT hkv] at hadd
      have HY : Hid (gk + l = j - i ∧ i + l < j ∧ (∀ x, own' x → w.heap.size ≤ x) ∧ Fr (fun _ => False) w wr ∧ MapT wr n t 0 own' ((xs.drop i).take l)) := ⟨y0, hl, hown, F, hM⟩
      have hil : i + l < 400 := by omega
      generalize hI : i + l = I at *
      have HI : Hid (i + l = I) := hI
      clear hI y0 hl hown F hM hb hsr hll hkv
      go_wp2_with fail
      refine hat.mono ?_
      rintro e w3 ⟨rfl, f3⟩
      go_wp2_with fail
      refine (hadd _ (HY.out.2.2.2.2.fr f3 fun _ _ e => e)).mono ?_
      rintro e w4 ⟨rfl, o4, m4, s4, f4⟩
      go_wp2_with fail
      go_roundg (gk - 1)
      case measure => have := HY.out; have := HI.out; omega
      case rel =>
        obtain ⟨y0, hl, hown, F, _⟩ := HY.out
        have hI := HI.out
        refine ⟨l + 1, o4, by omega, by rw [show i + (l + 1) = I + 1 by omega]; go_num, m4, fun x e => ?_, (F.trans f3 fun _ _ e => e).trans f4 fun x hx e => by have := hown x e; omega⟩
        rcases s4 x e with e | e
        · exact hown x e
        · exact Nat.le_trans (Nat.le_trans F.size f3.size) e
    · have hl1 : ¬ ((i + l : Nat) : Int) < (j : Int) := by omega
      have ej : l = j - i := by omega
      subst ej
      go_wp2_with fail
      go_ret
      exact ⟨n, rfl, own', hM, hown, F⟩

set_option maxRecDepth 100000 in
set_option maxHeartbeats 1000000 in
theorem split_anyT (m : Nat) (t : Bool) (c : Int) (own : Nat → Prop) (xs : Row) (k : Int) (w : World) (h : MapT w m t c own xs) (b0 : 0 ≤ c) (b1 : c ≤ 8000000000000000000) (hs : xs.length ≤ 400) :
    Calls Tryz.prog 141 #[.pointer (some ⟨m, 0, none⟩), kv k] w fun e w' => ∃ n1 n2 : Nat, e = .returned (.tuple #[.pointer (some ⟨n1, 0, none⟩), .pointer (some ⟨n2, 0, none⟩)]) ∧ ∃ (n : Nat) (o1 o2 : Nat → Prop),
      MapT w' m t (c + n) own xs ∧ n ≤ 3 * dg (xs.length + 1) ∧ MapT w' n1 t 0 o1 (xs.take (lrank t k xs)) ∧ MapT w' n2 t 0 o2 (xs.drop (lrank t k xs)) ∧ (∀ x, o1 x → w.heap.size ≤ x) ∧ (∀ x, o2 x → w.heap.size ≤ x) ∧ (∀ x, o1 x → ¬ o2 x) ∧ Fr (fun x => x = m) w w' := by
  have hbare := bare_anyT m t c own xs w h
  have hfind := find_anyT m t c own xs k w h b0 b1 (by omega)
  have hom : own m := (h.choose_spec.choose_spec.2.2.2.1 m).2 (Or.inl rfl)
  have hml := h.lt m hom
  have hrl := lrank_le t k xs
  have hp1 := fun c' w' h' => piece_anyT m t c' own xs 0 (lrank t k xs) w' h' (Nat.zero_le _) hrl hs
  have hp2 := fun c' w' h' => piece_anyT m t c' own xs (lrank t k xs) xs.length w' h' hrl (Nat.le_refl _) hs
  rw [← List.length_drop, List.take_length] at hp2
  rw [List.drop_zero, Nat.sub_zero] at hp1
  clear h
  go_enter Tryz.func141, Tryz.ntmps141
  go_wp2_with fail
  refine hbare.mono ?_
  rintro e w2 ⟨rfl, rfl⟩
  go_wp2_with fail
  refine hfind.mono ?_
  rintro e w3 ⟨n, rfl, g1, g2, g3, g4⟩
  go_wp2_with fail
  refine (hp1 _ _ g1).mono ?_
  rintro e w4 ⟨n1, rfl, o1, m1, s1, f1⟩
  have g1' := g1.fr f1 fun _ _ e => e
  go_wp2_with fail
  refine (len_anyT m t _ own xs _ g1').mono ?_
  rintro e w5 ⟨rfl, rfl⟩
  go_wp2_with fail
  refine (hp2 _ _ g1').mono ?_
  rintro e w6 ⟨n2, rfl, o2, m2, s2, f2⟩
  go_wp2_with fail
  go_ret2
  refine ⟨n1, n2, rfl, n, o1, o2, g1'.fr f2 fun _ _ e => e, g2, m1.fr f2 fun _ _ e => e, m2, fun x e => Nat.le_trans g4.size (s1 x e), fun x e => Nat.le_trans (Nat.le_trans g4.size f1.size) (s2 x e), fun x e e' => ?_, (g4.trans f1 fun _ _ e => e.elim).trans f2 fun _ _ e => e.elim⟩
  have := m1.lt x e
  have := s2 x e'
  omega

end Go.Proofs.YthbnbocpddddmaaGreat

namespace Go.Proofs.YthbnbocpddddmaaGreat
open Go.RowKit

set_option maxRecDepth 100000 in
set_option maxHeartbeats 1000000 in
theorem alike_anyK (m : Nat) (t : Bool) (c : Int) (own : Nat → Prop) (xs : Row) (w : World) (h : MapK w m t c own xs) :
    Calls Tryz.prog 164 #[.pointer (some ⟨m, 0, none⟩)] w fun e w' => ∃ n : Nat, e = .returned (.pointer (some ⟨n, 0, none⟩)) ∧ ∃ own' : Nat → Prop, MapK w' n t 0 own' [] ∧ (∀ x, own' x → w.heap.size ≤ x) ∧ Fr (fun _ => False) w w' := by
  obtain ⟨p, oE, h1, h2, h3, h4, h5⟩ := h
  have c0 : w.cell? ⟨m, 0, none⟩ = some (.iface 213 (.agg #[])) := cell_of h1 0
  have c1 : w.cell? ⟨m, 1, none⟩ = some (.bool t) := cell_of h1 1
  have c2 : w.cell? ⟨m, 2, none⟩ = some (.int .i64 1) := cell_of h1 2
  have hml : m < w.drew.heap.size := lt_of_blk h1
  clear h1 h2 h3 h4 h5
  go_enter Tryz.func164, Tryz.ntmps164
  go_wp2_with fail
  go_region_held3 (fun w' => w'.cell? ⟨m, 0, none⟩ = some (.iface 213 (.agg #[])) ∧ w'.cell? ⟨m, 1, none⟩ = some (.bool t) ∧ w'.cell? ⟨m, 2, none⟩ = some (.int .i64 1))
    (first | exact ⟨c0, c1, c2⟩ | exact ⟨k0, k1, k2⟩)
    ((go_at_call 15; refine (newK_any t _).mono ?_; rintro e w1 ⟨n, rfl, own', q1, q2, q3⟩; have k0 := (q3.cell (b := m) 0 hml (fun e => e)).trans c0; have k1 := (q3.cell (b := m) 1 hml (fun e => e)).trans c1; have k2 := (q3.cell (b := m) 2 hml (fun e => e)).trans c2))
  have F : Fr (fun _ => False) w w1 := Fr.trans (S' := fun _ => False) (Fr.drew (Fr.refl _ _)) q3 fun _ _ e => e
  go_wp2_with fail
  go_ret
  exact ⟨n, rfl, own', q1, q2, F⟩

set_option maxRecDepth 100000 in
set_option maxHeartbeats 1000000 in
theorem add_anyK (m : Nat) (t : Bool) (c : Int) (own : Nat → Prop) (xs : Row) (k v : Int) (w : World) (h : MapK w m t c own xs) (hsr : Srt t (xs ++ [(k, v)])) (hs : xs.length ≤ 1000) :
    Calls Tryz.prog 165 #[.pointer (some ⟨m, 0, none⟩), kv k, kv v] w fun e w' => e = .returned (.tuple #[]) ∧ ∃ own' : Nat → Prop, MapK w' m t c own' (xs ++ [(k, v)]) ∧ (∀ x, own' x → own x ∨ w.heap.size ≤ x) ∧ Fr own w w' := by
  obtain ⟨p, oE, h1, h2, h3, h4, h5⟩ := h
  have c3 : w.cell? ⟨m, 3, none⟩ = some (.iface 136 (.pointer (some ⟨p, 0, none⟩))) := cell_of h1 3
  have hlen := kLen_any p oE xs w.drew (h2.fr (Fr.drew (Fr.refl (fun _ => False) _)) fun _ _ e => e)
  have hins := kInsert_any p oE xs xs.length k v w.drew (h2.fr (Fr.drew (Fr.refl (fun _ => False) _)) fun _ _ e => e) (Nat.le_refl _) (by omega)
  rw [List.take_length, List.drop_length] at hins
  have hml := method_lenK
  have hmi := method_insertK
  have hmw : m < w.drew.heap.size := lt_of_blk h1
  have HQ : Hid ((∀ x, own x ↔ x = m ∨ oE x) ∧ ¬ oE m ∧ w.heap[m]? = some (mapBlk t (.iface 136 (.pointer (some ⟨p, 0, none⟩))) c) ∧ Srt t (xs ++ [(k, v)])) := ⟨h4, h3, h1, hsr⟩
  clear h1 h2 h4 h5 hsr
  go_enter Tryz.func165, Tryz.ntmps165
  go_wp2_with fail
  go_region_held3 (fun w' => w'.cell? ⟨m, 3, none⟩ = some (.iface 136 (.pointer (some ⟨p, 0, none⟩))))
    (first | exact c3 | exact k3)
    (first
      | (go_at_call 268; refine hlen.mono ?_; rintro e w2 ⟨rfl, rfl⟩)
      | (go_at_call 267; refine hins.mono ?_; rintro e w3 ⟨rfl, oE', q1, q2, q3⟩; have k3 := (q3.cell (b := m) 3 hmw h3).trans c3))
  have q3 : Fr oE w w3 := Fr.trans (S' := oE) (Fr.drew (Fr.refl _ _)) q3 fun _ _ e => e
  go_wp2_with fail
  go_end0
  obtain ⟨h4, _, h1, hsr⟩ := HQ.out
  have nm : ¬ oE' m := fun e => by
    rcases q2 m e with e | e
    · exact h3 e
    · exact absurd hmw (Nat.not_lt.2 e)
  refine ⟨rfl, fun x => x = m ∨ oE' x, ⟨p, oE', (q3.block m (lt_of_blk h1) h3).trans h1, q1, nm, fun x => Iff.rfl, hsr⟩, fun x hx => ?_, q3.mono fun x _ e => (h4 x).2 (Or.inr e)⟩
  rcases hx with e | e
  · exact Or.inl ((h4 x).2 (Or.inl e))
  · rcases q2 x e with e | e
    · exact Or.inl ((h4 x).2 (Or.inr e))
    · exact Or.inr e

theorem piece_succK {xs : Row} {i j : Nat} {p : Int × Int} (h : xs[i + j]? = some p) : (xs.drop i).take (j + 1) = (xs.drop i).take j ++ [p] := by
  rw [List.take_add_one, List.getElem?_drop, h]; rfl

set_option maxRecDepth 100000 in
set_option maxHeartbeats 2000000 in
theorem piece_anyK (m : Nat) (t : Bool) (c : Int) (own : Nat → Prop) (xs : Row) (i j : Nat) (w : World) (h : MapK w m t c own xs) (hij : i ≤ j) (hj : j ≤ xs.length) (hs : xs.length ≤ 400) :
    Calls Tryz.prog 155 #[.pointer (some ⟨m, 0, none⟩), .int .i64 i, .int .i64 j] w fun e w' => ∃ n : Nat, e = .returned (.pointer (some ⟨n, 0, none⟩)) ∧ ∃ own' : Nat → Prop, MapK w' n t 0 own' ((xs.drop i).take (j - i)) ∧ (∀ x, own' x → w.heap.size ≤ x) ∧ Fr (fun _ => False) w w' := by
  have halike := alike_anyK m t c own xs w h
  have hmeth := method_atK
  obtain ⟨p, oE, h1, h2, h3, h4, h5⟩ := h
  have hjl : (j : Int) ≤ 400 := by omega
  go_enter Tryz.func155, Tryz.ntmps155
  go_wp2_with fail
  refine halike.mono ?_
  rintro e w1 ⟨n, rfl, own1, q1, q2, q3⟩
  go_wp2_with fail
  go_loopg [8] (j - i) (fun gk s8 wr => ∃ (l : Nat) (own' : Nat → Prop), gk + l = j - i ∧ s8 = .int .i64 ((i + l : Nat) : Int) ∧ MapK wr n t 0 own' ((xs.drop i).take l) ∧ (∀ x, own' x → w.heap.size ≤ x) ∧ Fr (fun _ => False) w wr)
  case atStart => exact ⟨0, own1, by omega, rfl, q1, q2, q3⟩
  case round =>
    clear q1 q2 q3
    obtain ⟨l, own', y0, rfl, hM, hown, F⟩ := hrel
    by_cases hl : i + l < j
    · have hl1 : ((i + l : Nat) : Int) < (j : Int) := by omega
      obtain ⟨⟨k, v⟩, hkv⟩ : ∃ q, xs[i + l]? = some q := ⟨_, List.getElem?_eq_getElem (by omega)⟩
      have hb := (F.block m (lt_of_blk h1) (fun e => e)).trans h1
      have c3 : wr.cell? ⟨m, 3, none⟩ = some (.iface 136 (.pointer (some ⟨p, 0, none⟩))) := cell_of hb 3
      have hat := kAt_any p oE xs (i + l) k v wr (h2.fr F fun _ _ e => e) hkv (by omega)
      have hsr : Srt t ((xs.drop i).take l ++ [(k, v)]) := by
        rw [← piece_succK hkv]
        exact List.Pairwise.sublist ((List.take_sublist _ _).trans (List.drop_sublist _ _)) h5
      have hll : ((xs.drop i).take l).length ≤ 1000 := Nat.le_trans (List.length_take_le' ..) (by rw [List.length_drop]; omega)
      have hadd := fun w' h' => add_anyK n t 0 own' ((xs.drop i).take l) k v w' h' hsr hll
      rw [← piece_succK hkv] at hadd
      have HY : Hid (gk + l = j - i ∧ i + l < j ∧ (∀ x, own' x → w.heap.size ≤ x) ∧ Fr (fun _ => False) w wr ∧ MapK wr n t 0 own' ((xs.drop i).take l)) := ⟨y0, hl, hown, F, hM⟩
      have hil : i + l < 400 := by omega
      generalize hI : i + l = I at *
      have HI : Hid (i + l = I) := hI
      clear hI y0 hl hown F hM hb hsr hll hkv
      go_wp2_with fail
      refine hat.mono ?_
      rintro e w3 ⟨rfl, f3⟩
      go_wp2_with fail
      refine (hadd _ (HY.out.2.2.2.2.fr f3 fun _ _ e => e)).mono ?_
      rintro e w4 ⟨rfl, o4, m4, s4, f4⟩
      go_wp2_with fail
      go_roundg (gk - 1)
      case measure => have := HY.out; have := HI.out; omega
      case rel =>
        obtain ⟨y0, hl, hown, F, _⟩ := HY.out
        have hI := HI.out
        refine ⟨l + 1, o4, by omega, by rw [show i + (l + 1) = I + 1 by omega]; go_num, m4, fun x e => ?_, (F.trans f3 fun _ _ e => e).trans f4 fun x hx e => by have := hown x e; omega⟩
        rcases s4 x e with e | e
        · exact hown x e
        · exact Nat.le_trans (Nat.le_trans F.size f3.size) e
    · have hl1 : ¬ ((i + l : Nat) : Int) < (j : Int) := by omega
      have ej : l = j - i := by omega
      subst ej
      go_wp2_with fail
      go_ret
      exact ⟨n, rfl, own', hM, hown, F⟩

set_option maxRecDepth 100000 in
set_option maxHeartbeats 1000000 in
theorem split_anyK (m : Nat) (t : Bool) (c : Int) (own : Nat → Prop) (xs : Row) (k : Int) (w : World) (h : MapK w m t c own xs) (b0 : 0 ≤ c) (b1 : c ≤ 8000000000000000000) (hs : xs.length ≤ 400) :
    Calls Tryz.prog 141 #[.pointer (some ⟨m, 0, none⟩), kv k] w fun e w' => ∃ n1 n2 : Nat, e = .returned (.tuple #[.pointer (some ⟨n1, 0, none⟩), .pointer (some ⟨n2, 0, none⟩)]) ∧ ∃ (n : Nat) (o1 o2 : Nat → Prop),
      MapK w' m t (c + n) own xs ∧ n ≤ 10000 ∧ MapK w' n1 t 0 o1 (xs.take (lrank t k xs)) ∧ MapK w' n2 t 0 o2 (xs.drop (lrank t k xs)) ∧ (∀ x, o1 x → w.heap.size ≤ x) ∧ (∀ x, o2 x → w.heap.size ≤ x) ∧ (∀ x, o1 x → ¬ o2 x) ∧ Fr (fun x => x = m) w w' := by
  have hbare := bare_anyK m t c own xs w h
  have hfind := find_anyK m t c own xs k w h b0 b1 (by omega)
  have hom : own m := (h.choose_spec.choose_spec.2.2.2.1 m).2 (Or.inl rfl)
  have hml := h.lt m hom
  have hrl := lrank_le t k xs
  have hp1 := fun c' w' h' => piece_anyK m t c' own xs 0 (lrank t k xs) w' h' (Nat.zero_le _) hrl hs
  have hp2 := fun c' w' h' => piece_anyK m t c' own xs (lrank t k xs) xs.length w' h' hrl (Nat.le_refl _) hs
  rw [← List.length_drop, List.take_length] at hp2
  rw [List.drop_zero, Nat.sub_zero] at hp1
  clear h
  go_enter Tryz.func141, Tryz.ntmps141
  go_wp2_with fail
  refine hbare.mono ?_
  rintro e w2 ⟨rfl, rfl⟩
  go_wp2_with fail
  refine hfind.mono ?_
  rintro e w3 ⟨n, rfl, g1, g2, g3, g4⟩
  go_wp2_with fail
  refine (hp1 _ _ g1).mono ?_
  rintro e w4 ⟨n1, rfl, o1, m1, s1, f1⟩
  have g1' := g1.fr f1 fun _ _ e => e
  go_wp2_with fail
  refine (len_anyK m t _ own xs _ g1').mono ?_
  rintro e w5 ⟨rfl, rfl⟩
  go_wp2_with fail
  refine (hp2 _ _ g1').mono ?_
  rintro e w6 ⟨n2, rfl, o2, m2, s2, f2⟩
  go_wp2_with fail
  go_ret2
  refine ⟨n1, n2, rfl, n, o1, o2, g1'.fr f2 fun _ _ e => e, g2, m1.fr f2 fun _ _ e => e, m2, fun x e => Nat.le_trans g4.size (s1 x e), fun x e => Nat.le_trans (Nat.le_trans g4.size f1.size) (s2 x e), fun x e e' => ?_, (g4.trans f1 fun _ _ e => e.elim).trans f2 fun _ _ e => e.elim⟩
  have := m1.lt x e
  have := s2 x e'
  omega

end Go.Proofs.YthbnbocpddddmaaGreat

namespace Go.Proofs.YthbnbocpddddmaaGreat
open Go.RowKit

theorem alike_anyG (g : Bool) (m : Nat) (t : Bool) (c : Int) (own : Nat → Prop) (xs : Row) (w : World) (h : MapG g w m t c own xs) :
    Calls Tryz.prog 164 #[.pointer (some ⟨m, 0, none⟩)] w fun e w' => ∃ n : Nat, e = .returned (.pointer (some ⟨n, 0, none⟩)) ∧ ∃ own' : Nat → Prop, MapG g w' n t 0 own' [] ∧ (∀ x, own' x → w.heap.size ≤ x) ∧ Fr (fun _ => False) w w' := by
  cases g
  · exact alike_anyT m t c own xs w h
  · exact alike_anyK m t c own xs w h

theorem add_anyG (g : Bool) (m : Nat) (t : Bool) (c : Int) (own : Nat → Prop) (xs : Row) (k v : Int) (w : World) (h : MapG g w m t c own xs) (hsr : Srt t (xs ++ [(k, v)])) (hs : xs.length ≤ 1000) :
    Calls Tryz.prog 165 #[.pointer (some ⟨m, 0, none⟩), kv k, kv v] w fun e w' => e = .returned (.tuple #[]) ∧ ∃ own' : Nat → Prop, MapG g w' m t c own' (xs ++ [(k, v)]) ∧ (∀ x, own' x → own x ∨ w.heap.size ≤ x) ∧ Fr own w w' := by
  cases g
  · exact add_anyT m t c own xs k v w h hsr hs
  · exact add_anyK m t c own xs k v w h hsr hs

theorem split_anyG (g : Bool) (m : Nat) (t : Bool) (c : Int) (own : Nat → Prop) (xs : Row) (k : Int) (w : World) (h : MapG g w m t c own xs) (b0 : 0 ≤ c) (b1 : c ≤ 8000000000000000000) (hs : xs.length ≤ 400) :
    Calls Tryz.prog 141 #[.pointer (some ⟨m, 0, none⟩), kv k] w fun e w' => ∃ n1 n2 : Nat, e = .returned (.tuple #[.pointer (some ⟨n1, 0, none⟩), .pointer (some ⟨n2, 0, none⟩)]) ∧ ∃ (n : Nat) (o1 o2 : Nat → Prop),
      MapG g w' m t (c + n) own xs ∧ n ≤ 10000 ∧ MapG g w' n1 t 0 o1 (xs.take (lrank t k xs)) ∧ MapG g w' n2 t 0 o2 (xs.drop (lrank t k xs)) ∧ (∀ x, o1 x → w.heap.size ≤ x) ∧ (∀ x, o2 x → w.heap.size ≤ x) ∧ (∀ x, o1 x → ¬ o2 x) ∧ Fr (fun x => x = m) w w' := by
  cases g
  · exact (split_anyT m t c own xs k w h b0 b1 hs).mono fun e w' ⟨n1, n2, q1, n, o1, o2, q2, q3, q4⟩ => ⟨n1, n2, q1, n, o1, o2, q2, Nat.le_trans q3 (few_le hs), q4⟩
  · exact split_anyK m t c own xs k w h b0 b1 hs

theorem eq_rule (w : World) : Sem.run Tryz.prog (Op.equalIn 9999 45 (Value.iface 213 (Value.agg #[])) (Value.iface 213 (Value.agg #[]))) w = .ok true w := by kernel_rfl
theorem guard_order (t u : Bool) (w : World) : Sem.run Tryz.prog (eqGuard BinOp.neq 47 (Operand.tmp 14) (Operand.tmp 18) (Value.agg #[Value.iface 213 (Value.agg #[]), Value.bool t]) (Value.agg #[Value.iface 213 (Value.agg #[]), Value.bool u])) w = .ok () w := by cases t <;> cases u <;> kernel_rfl

set_option maxRecDepth 100000 in
set_option maxHeartbeats 1000000 in
theorem apart_any (ga gb : Bool) (a b : Nat) (t u : Bool) (ca cb : Int) (oa ob : Nat → Prop) (xs ys : Row) (w : World) (ha : MapG ga w a t ca oa xs) (hb : MapG gb w b u cb ob ys) :
    Calls Tryz.prog 166 #[.pointer (some ⟨a, 0, none⟩), .pointer (some ⟨b, 0, none⟩)] w fun e w' => e = .returned (.int .i64 (if t = u then 0 else 2)) ∧ w' = w.drew := by
  obtain ⟨ia, p1, _, _⟩ := ha.blk
  obtain ⟨ib, q1, _, _⟩ := hb.blk
  have h1 := bare_anyG ga a t ca oa xs w ha
  have h2 := bare_anyG gb b u cb ob ys w hb
  have c0 : w.cell? ⟨a, 0, none⟩ = some (.iface 213 (.agg #[])) := cell_of p1 0
  have c1 : w.cell? ⟨a, 1, none⟩ = some (.bool t) := cell_of p1 1
  have d0 : w.cell? ⟨b, 0, none⟩ = some (.iface 213 (.agg #[])) := cell_of q1 0
  have d1 : w.cell? ⟨b, 1, none⟩ = some (.bool u) := cell_of q1 1
  have hE := eq_rule w.drew
  have hG := guard_order t u w.drew
  clear ha hb p1 q1
  by_cases htu : t = u
  · subst htu
    simp only [if_true]
    go_enter Tryz.func166, Tryz.ntmps166
    go_wp2_with fail
    refine h1.mono ?_
    rintro e w1 ⟨rfl, rfl⟩
    go_wp2_with fail
    refine h2.mono ?_
    rintro e w1 ⟨rfl, rfl⟩
    go_wp2_with fail
    go_region
    go_wp2_with fail
    go_ret
    exact ⟨rfl, rfl⟩
  · rw [if_neg htu]
    go_enter Tryz.func166, Tryz.ntmps166
    go_wp2_with fail
    refine h1.mono ?_
    rintro e w1 ⟨rfl, rfl⟩
    go_wp2_with fail
    refine h2.mono ?_
    rintro e w1 ⟨rfl, rfl⟩
    go_wp2_with fail
    go_region
    go_wp2_with fail
    go_ret
    exact ⟨rfl, rfl⟩


/-- The kept part of a beginning. -/
def keepTo (too : Bool) (L : List Hd) (j : Nat) : Row := (L.take j).filterMap (hkeep too)

theorem keepTo_succ {too : Bool} {L : List Hd} {j : Nat} {h : Hd} (e : L[j]? = some h) : keepTo too L (j + 1) = keepTo too L j ++ (if h.a = true ∧ h.b = too then [(h.k, h.v)] else []) := by
  unfold keepTo
  rw [List.take_add_one, e, List.filterMap_append]
  congr 1
  unfold hkeep
  by_cases c : h.a = true ∧ h.b = too
  · simp [c.1, c.2]
  · simp only [Option.toList_some, List.filterMap_cons, if_neg c, List.filterMap_nil]

theorem keepTo_sub (too : Bool) (L : List Hd) (j : Nat) : (keepTo too L j).Sublist (L.filterMap (hkeep too)) := (List.take_sublist j L).filterMap _
theorem keepTo_len (too : Bool) (L : List Hd) (j : Nat) : (keepTo too L j).length ≤ j := Nat.le_trans (List.length_filterMap_le ..) (List.length_take_le ..)

/-- The cells of what a row of held keys holds. -/
theorem held_cells {w : World} {base : Nat} {v : Value} {L : List Hd} (h : w.ownsRow base 304 5 v L.length (hcells L)) {j : Nat} {p : Hd} (hp : L[j]? = some p) :
    ∃ g cap, v = .slice (some ⟨g, 0, none⟩) L.length cap ∧ v.ownBlock = some g ∧ w.cell? ⟨g, j * 5, none⟩ = some (kv p.k) ∧ w.cell? ⟨g, j * 5 + 1, none⟩ = some (kv p.v) ∧ w.cell? ⟨g, j * 5 + 2, none⟩ = some (kv p.u) ∧ w.cell? ⟨g, j * 5 + 3, none⟩ = some (.bool p.a) ∧ w.cell? ⟨g, j * 5 + 4, none⟩ = some (.bool p.b) := by
  obtain ⟨e1, e2⟩ := h
  rcases e2 with ⟨rfl, e⟩ | ⟨g, cap, cur, rfl, q1, q2, q3, q4, q5, q6⟩
  · have := (List.getElem?_eq_some_iff.1 hp).1; omega
  · have hc : ∀ o u, (hcell p)[o]? = some u → w.cell? ⟨g, j * 5 + o, none⟩ = some u := fun o u hu => by
      have := hcells_get hp o u hu
      rw [cell_of q2]
      rw [← q6, List.getElem?_take] at this
      split at this
      · simpa using this
      · cases this
    exact ⟨g, cap, rfl, rfl, hc 0 _ rfl, hc 1 _ rfl, hc 2 _ rfl, hc 3 _ rfl, hc 4 _ rfl⟩

set_option maxRecDepth 100000 in
set_option maxHeartbeats 4000000 in
theorem kept_one (ga gb : Bool) (a b : Nat) (t : Bool) (ca cb : Int) (oa ob : Nat → Prop) (xs ys : Row) (too : Bool) (w : World) (h : Pr w ga gb a b t ca cb oa ob xs ys)
    (lx : xs.length ≤ 400) (ly : ys.length ≤ 400) (a0 : 0 ≤ ca) (a1 : ca ≤ 8000000000000000000) (b0 : 0 ≤ cb) (b1 : cb ≤ 8000000000000000000) :
    Calls Tryz.prog 156 #[.pointer (some ⟨a, 0, none⟩), .pointer (some ⟨b, 0, none⟩), .bool too] w fun e w' => ∃ n : Nat, e = .returned (.tuple #[.pointer (some ⟨n, 0, none⟩), .int .i64 0]) ∧ ∃ (d : Nat) (own' : Nat → Prop),
      MapG ga w' n t 0 own' (lboth ys too xs) ∧ (∀ x, own' x → w.heap.size ≤ x) ∧ d ≤ 800 ∧ Pr w' ga gb a b t (ca + d) (cb + d) oa ob xs ys ∧ Fr (fun x => x = a ∨ x = b) w w' := by
  have hap := apart_any ga gb a b t t ca cb oa ob xs ys w h.1 h.2.1
  simp only [if_true] at hap
  have hal := alike_anyG ga a t ca oa xs w.drew (h.1.fr (Fr.drew (Fr.refl (fun _ => False) _)) fun _ _ e => e)
  have hmet := fun w' (f : Fr (fun _ => False) w w') => met_any ga gb a b t ca cb oa ob xs ys w' (h.old f) lx ly a0 a1 b0 b1
  have hltA := h.1.lt
  have hltB := h.2.1.lt
  have hsA := h.1.self
  have hsB := h.2.1.self
  have hK := lmet_keep (t := t) too 800 xs ys h.1.srt h.2.1.srt (by omega)
  have hS : Srt t (lboth ys too xs) := lboth_srt h.1.srt
  have hlm := lmet_len t 800 xs ys
  generalize hLL : lmet t 800 xs ys = L at *
  rw [← hK] at hS ⊢
  clear h hK hLL
  have hsc := store_c
  go_enter Tryz.func156, Tryz.ntmps156
  go_wp2_with fail
  refine hap.mono ?_
  rintro e w1 ⟨rfl, rfl⟩
  go_wp2_with fail
  refine hal.mono ?_
  rintro e w2 ⟨n, rfl, own2, q1, q2, q3⟩
  have F2 : Fr (fun _ => False) w w2 := Fr.trans (S' := fun _ => False) (Fr.drew (Fr.refl _ _)) q3 fun _ _ e => e
  go_wp2_with fail
  refine (hmet _ F2).mono ?_
  rintro e w3 ⟨v, d, rfl, o3, hd, P3, F3⟩
  have M3 := q1.fr F3 fun x hx e => by
    have h1 := q2 x hx
    have h2 := hltA a hsA
    have h3 := hltB b hsB
    have h4 : w.drew.heap.size = w.heap.size := rfl
    omega
  have hvx : ∀ x, own2 x → v.ownBlock ≠ some x := fun x hx e => by have := (o3.lt x e).1; have := q1.lt x hx; omega
  have FF : Fr (fun x => x = a ∨ x = b) w w3 := (F2.mono fun _ _ e => e.elim).trans F3 fun _ _ e => e
  obtain ⟨av, cv, rfl⟩ := own_sl o3
  have q2' : ∀ x, own2 x → w.heap.size ≤ x := q2
  have hLl : (L.length : Int) ≤ 800 := by omega
  clear hap hal hmet q1 q2 q3 F2 F3
  go_wp2_with fail
  go_loopg [24] L.length (fun gk s24 wr => ∃ (j : Nat) (own' : Nat → Prop), gk + j = L.length ∧ s24 = .int .i64 j ∧ MapG ga wr n t 0 own' (keepTo too L j) ∧ (∀ x, own' x → w.heap.size ≤ x) ∧ wr.ownsRow w2.heap.size 304 5 (.slice av L.length cv) L.length (hcells L) ∧ (∀ x, own' x → (Value.slice av L.length cv).ownBlock ≠ some x) ∧ Pr wr ga gb a b t (ca + d) (cb + d) oa ob xs ys ∧ Fr (fun x => x = a ∨ x = b) w wr)
  case atStart => exact ⟨0, own2, by omega, rfl, M3, q2', o3, hvx, P3, FF⟩
  case round =>
    clear M3 q2' o3 hvx P3 FF
    obtain ⟨j, own', y0, rfl, hM, hown, o3, hvx, P, F⟩ := hrel
    by_cases hj : j < L.length
    · have hj1 : (j : Int) < (L.length : Int) := by omega
      obtain ⟨p, hp⟩ : ∃ p, L[j]? = some p := ⟨_, List.getElem?_eq_getElem hj⟩
      obtain ⟨g, cap, hv, hg, k0, k1, k2, k3, k4⟩ := held_cells o3 hp
      have hav : av = some ⟨g, 0, none⟩ := by simpa using (by simpa using hv : av = some ⟨g, 0, none⟩ ∧ cv = cap).1
      subst hav
      have hsucc := keepTo_succ (too := too) hp
      have hsub := keepTo_sub too L (j + 1)
      have hkl := keepTo_len too L j
      have HY : Hid (gk + j = L.length ∧ j < L.length) := ⟨y0, hj⟩
      have A1 : Fr (fun _ => False) wr (wr.alloc (.cells #[kv p.k, kv p.v, kv p.u, .bool p.a, .bool p.b] 304)) := Fr.alloc (Fr.refl _ _) _
      by_cases hc : p.a = true ∧ p.b = too
      · rw [if_pos hc] at hsucc
        obtain ⟨hc1, hc2⟩ := hc
        have hsr : Srt t (keepTo too L j ++ [(p.k, p.v)]) := by rw [← hsucc]; exact List.Pairwise.sublist hsub hS
        have hadd := add_anyG ga n t 0 own' (keepTo too L j) p.k p.v _ (hM.fr A1 fun _ _ e => e) hsr (by omega)
        rw [← hsucc] at hadd
        have HW : Hid ((∀ x, own' x → w.heap.size ≤ x) ∧ wr.ownsRow w2.heap.size 304 5 (.slice (some ⟨g, 0, none⟩) L.length cv) L.length (hcells L) ∧ (∀ x, own' x → (Value.slice (some ⟨g, 0, none⟩) L.length cv).ownBlock ≠ some x) ∧ Pr wr ga gb a b t (ca + d) (cb + d) oa ob xs ys ∧ Fr (fun x => x = a ∨ x = b) w wr) := ⟨hown, o3, hvx, P, F⟩
        rw [hc1] at k3 hadd A1
        rw [hc2] at k4 hadd A1
        clear hsr hsucc hsub hkl hp hM hown o3 hvx P F y0 hj hS
        go_wp2_with fail
        refine hadd.mono ?_
        rintro e w5 ⟨rfl, o5, m5, s5, f5⟩
        go_wp2_with fail
        go_roundg (gk - 1)
        case measure => have := HY.out; omega
        case rel =>
          obtain ⟨hown, o3, hvx, P, F⟩ := HW.out
          have f5' : Fr own' wr w5 := Fr.trans (S' := own') (A1.mono fun _ _ e => e.elim) f5 fun _ _ e => e
          have hsz : ∀ x, o5 x → own' x ∨ wr.heap.size ≤ x := fun x e => by
            rcases s5 x e with e | e
            · exact Or.inl e
            · exact Or.inr (Nat.le_trans A1.size e)
          refine ⟨j + 1, o5, by have := HY.out; omega, by go_num, m5, fun x e => ?_, own_kept o3 f5' fun x hx e => hvx x e hx, fun x e e' => ?_, P.fr f5' (fun x hx e => by have := hown x e; have := hltA x hx; omega) (fun x hx e => by have := hown x e; have := hltB x hx; omega), F.trans f5' fun x hx e => by have := hown x e; omega⟩
          · rcases hsz x e with e | e
            · exact hown x e
            · exact Nat.le_trans F.size e
          · rcases hsz x e with e | e
            · exact hvx x e e'
            · have := (o3.lt x e').2; omega
      · rw [if_neg hc, List.append_nil] at hsucc
        have HW : Hid (MapG ga wr n t 0 own' (keepTo too L (j + 1)) ∧ (∀ x, own' x → w.heap.size ≤ x) ∧ wr.ownsRow w2.heap.size 304 5 (.slice (some ⟨g, 0, none⟩) L.length cv) L.length (hcells L) ∧ (∀ x, own' x → (Value.slice (some ⟨g, 0, none⟩) L.length cv).ownBlock ≠ some x) ∧ Pr wr ga gb a b t (ca + d) (cb + d) oa ob xs ys ∧ Fr (fun x => x = a ∨ x = b) w wr) := ⟨by rw [hsucc]; exact hM, hown, o3, hvx, P, F⟩
        clear hsucc hsub hkl hp hM hown o3 hvx P F y0 hj hS
        cases hpa : p.a
        · rw [hpa] at k3 A1
          clear hpa hc
          go_wp2_with fail
          go_roundg (gk - 1)
          case measure => have := HY.out; omega
          case rel =>
            obtain ⟨hM, hown, o3, hvx, P, F⟩ := HW.out
            exact ⟨j + 1, own', by have := HY.out; omega, by go_num, hM.fr A1 fun _ _ e => e, hown, own_kept o3 A1 fun _ _ e => e, hvx, P.old A1, F.trans A1 fun _ _ e => e.elim⟩
        · rw [hpa] at k3 A1 hc
          have hc' : (p.b == too) = false := by simpa using hc
          generalize p.b = pb at *
          clear hpa hc
          go_wp2_with fail
          go_roundg (gk - 1)
          case measure => have := HY.out; omega
          case rel =>
            obtain ⟨hM, hown, o3, hvx, P, F⟩ := HW.out
            exact ⟨j + 1, own', by have := HY.out; omega, by go_num, hM.fr A1 fun _ _ e => e, hown, own_kept o3 A1 fun _ _ e => e, hvx, P.old A1, F.trans A1 fun _ _ e => e.elim⟩
    · have hj1 : ¬ (j : Int) < (L.length : Int) := by omega
      have ej : j = L.length := by omega
      subst ej
      have HW : Hid (MapG ga wr n t 0 own' (L.filterMap (hkeep too)) ∧ (∀ x, own' x → w.heap.size ≤ x) ∧ Pr wr ga gb a b t (ca + d) (cb + d) oa ob xs ys ∧ Fr (fun x => x = a ∨ x = b) w wr) := ⟨by unfold keepTo at hM; rw [List.take_length] at hM; exact hM, hown, P, F⟩
      clear hM hown o3 hvx P F y0 hj hS
      go_wp2_with fail
      go_ret2
      obtain ⟨hM, hown, P, F⟩ := HW.out
      exact ⟨n, rfl, d, own', hM, hown, hd, P, F⟩

set_option maxRecDepth 100000 in
set_option maxHeartbeats 1000000 in
theorem kept_other (ga gb : Bool) (a b : Nat) (t u : Bool) (ca cb : Int) (oa ob : Nat → Prop) (xs ys : Row) (too : Bool) (w : World) (ha : MapG ga w a t ca oa xs) (hb : MapG gb w b u cb ob ys) (hne : t ≠ u) :
    Calls Tryz.prog 156 #[.pointer (some ⟨a, 0, none⟩), .pointer (some ⟨b, 0, none⟩), .bool too] w fun e w' => e = .returned (.tuple #[.pointer none, .int .i64 2]) ∧ Fr (fun _ => False) w w' := by
  have hap := apart_any ga gb a b t u ca cb oa ob xs ys w ha hb
  rw [if_neg hne] at hap
  clear ha hb hne
  go_enter Tryz.func156, Tryz.ntmps156
  go_wp2_with fail
  refine hap.mono ?_
  rintro e w1 ⟨rfl, rfl⟩
  go_wp2_with fail
  go_ret2
  exact ⟨rfl, Fr.drew (Fr.refl _ _)⟩

set_option maxRecDepth 100000 in
set_option maxHeartbeats 1000000 in
theorem common_one (ga gb : Bool) (a b : Nat) (t : Bool) (ca cb : Int) (oa ob : Nat → Prop) (xs ys : Row) (w : World) (h : Pr w ga gb a b t ca cb oa ob xs ys)
    (lx : xs.length ≤ 400) (ly : ys.length ≤ 400) (a0 : 0 ≤ ca) (a1 : ca ≤ 8000000000000000000) (b0 : 0 ≤ cb) (b1 : cb ≤ 8000000000000000000) :
    Calls Tryz.prog 142 #[.pointer (some ⟨a, 0, none⟩), .pointer (some ⟨b, 0, none⟩)] w fun e w' => ∃ n : Nat, e = .returned (.tuple #[.pointer (some ⟨n, 0, none⟩), .int .i64 0]) ∧ ∃ (d : Nat) (own' : Nat → Prop),
      MapG ga w' n t 0 own' (lboth ys true xs) ∧ (∀ x, own' x → w.heap.size ≤ x) ∧ d ≤ 800 ∧ Pr w' ga gb a b t (ca + d) (cb + d) oa ob xs ys ∧ Fr (fun x => x = a ∨ x = b) w w' := by
  have hk := kept_one ga gb a b t ca cb oa ob xs ys true w h lx ly a0 a1 b0 b1
  clear h
  go_enter Tryz.func142, Tryz.ntmps142
  go_wp2_with fail
  refine hk.mono ?_
  rintro e w1 ⟨n, rfl, hh⟩
  go_wp2_with fail
  go_ret2
  exact ⟨n, rfl, hh⟩

set_option maxRecDepth 100000 in
set_option maxHeartbeats 1000000 in
theorem common_other (ga gb : Bool) (a b : Nat) (t u : Bool) (ca cb : Int) (oa ob : Nat → Prop) (xs ys : Row) (w : World) (ha : MapG ga w a t ca oa xs) (hb : MapG gb w b u cb ob ys) (hne : t ≠ u) :
    Calls Tryz.prog 142 #[.pointer (some ⟨a, 0, none⟩), .pointer (some ⟨b, 0, none⟩)] w fun e w' => e = .returned (.tuple #[.pointer none, .int .i64 2]) ∧ Fr (fun _ => False) w w' := by
  have hk := kept_other ga gb a b t u ca cb oa ob xs ys true w ha hb hne
  clear ha hb hne
  go_enter Tryz.func142, Tryz.ntmps142
  go_wp2_with fail
  refine hk.mono ?_
  rintro e w1 ⟨rfl, f⟩
  go_wp2_with fail
  go_ret2
  exact ⟨rfl, f⟩

set_option maxRecDepth 100000 in
set_option maxHeartbeats 1000000 in
theorem without_one (ga gb : Bool) (a b : Nat) (t : Bool) (ca cb : Int) (oa ob : Nat → Prop) (xs ys : Row) (w : World) (h : Pr w ga gb a b t ca cb oa ob xs ys)
    (lx : xs.length ≤ 400) (ly : ys.length ≤ 400) (a0 : 0 ≤ ca) (a1 : ca ≤ 8000000000000000000) (b0 : 0 ≤ cb) (b1 : cb ≤ 8000000000000000000) :
    Calls Tryz.prog 143 #[.pointer (some ⟨a, 0, none⟩), .pointer (some ⟨b, 0, none⟩)] w fun e w' => ∃ n : Nat, e = .returned (.tuple #[.pointer (some ⟨n, 0, none⟩), .int .i64 0]) ∧ ∃ (d : Nat) (own' : Nat → Prop),
      MapG ga w' n t 0 own' (lboth ys false xs) ∧ (∀ x, own' x → w.heap.size ≤ x) ∧ d ≤ 800 ∧ Pr w' ga gb a b t (ca + d) (cb + d) oa ob xs ys ∧ Fr (fun x => x = a ∨ x = b) w w' := by
  have hk := kept_one ga gb a b t ca cb oa ob xs ys false w h lx ly a0 a1 b0 b1
  clear h
  go_enter Tryz.func143, Tryz.ntmps143
  go_wp2_with fail
  refine hk.mono ?_
  rintro e w1 ⟨n, rfl, hh⟩
  go_wp2_with fail
  go_ret2
  exact ⟨n, rfl, hh⟩

set_option maxRecDepth 100000 in
set_option maxHeartbeats 1000000 in
theorem without_other (ga gb : Bool) (a b : Nat) (t u : Bool) (ca cb : Int) (oa ob : Nat → Prop) (xs ys : Row) (w : World) (ha : MapG ga w a t ca oa xs) (hb : MapG gb w b u cb ob ys) (hne : t ≠ u) :
    Calls Tryz.prog 143 #[.pointer (some ⟨a, 0, none⟩), .pointer (some ⟨b, 0, none⟩)] w fun e w' => e = .returned (.tuple #[.pointer none, .int .i64 2]) ∧ Fr (fun _ => False) w w' := by
  have hk := kept_other ga gb a b t u ca cb oa ob xs ys false w ha hb hne
  clear ha hb hne
  go_enter Tryz.func143, Tryz.ntmps143
  go_wp2_with fail
  refine hk.mono ?_
  rintro e w1 ⟨rfl, f⟩
  go_wp2_with fail
  go_ret2
  exact ⟨rfl, f⟩

end Go.Proofs.YthbnbocpddddmaaGreat
