/- Maps that are made of a map, over one engine: alike, add, piece, Split. -/
import Derived.Test.YthbnbocpddddmaaGreatWNew
import Derived.Test.YthbnbocpddddmaaGreatKeys
namespace Go.Proofs.YthbnbocpddddmaaGreat
open Go.RowKit

set_option maxRecDepth 100000 in
set_option maxHeartbeats 1000000 in
theorem alike_anyT (m : Nat) (t : Bool) (c : Int) (own : Nat → Prop) (xs : Row) (w : World) (h : MapT w m t c own xs) :
    Calls Tryz.prog 86 #[.pointer (some ⟨m, 0, none⟩)] w fun e w' => ∃ n : Nat, e = .returned (.pointer (some ⟨n, 0, none⟩)) ∧ ∃ own' : Nat → Prop, MapT w' n t 0 own' [] ∧ (∀ x, own' x → w.heap.size ≤ x) ∧ Fr (fun _ => False) w w' := by
  obtain ⟨p, oE, h1, h2, h3, h4, h5⟩ := h
  have c0 : w.cell? ⟨m, 0, none⟩ = some (.iface 187 (.agg #[])) := cell_of h1 0
  have c1 : w.cell? ⟨m, 1, none⟩ = some (.bool t) := cell_of h1 1
  have c2 : w.cell? ⟨m, 2, none⟩ = some (.int .i64 0) := cell_of h1 2
  have hml : m < w.drew.heap.size := lt_of_blk h1
  clear h1 h2 h3 h4 h5
  go_enter Tryz.func86, Tryz.ntmps86
  go_wp2_with fail
  go_region_held3 (fun w' => w'.cell? ⟨m, 0, none⟩ = some (.iface 187 (.agg #[])) ∧ w'.cell? ⟨m, 1, none⟩ = some (.bool t) ∧ w'.cell? ⟨m, 2, none⟩ = some (.int .i64 0))
    (first | exact ⟨c0, c1, c2⟩ | exact ⟨k0, k1, k2⟩)
    ((go_at_call 11; refine (newT_any t _).mono ?_; rintro e w1 ⟨n, rfl, own', q1, q2, q3⟩; have k0 := (q3.cell (b := m) 0 hml (fun e => e)).trans c0; have k1 := (q3.cell (b := m) 1 hml (fun e => e)).trans c1; have k2 := (q3.cell (b := m) 2 hml (fun e => e)).trans c2))
  have F : Fr (fun _ => False) w w1 := Fr.trans (S' := fun _ => False) (Fr.drew (Fr.refl _ _)) q3 fun _ _ e => e
  go_wp2_with fail
  go_ret
  exact ⟨n, rfl, own', q1, q2, F⟩

set_option maxRecDepth 100000 in
set_option maxHeartbeats 1000000 in
theorem add_anyT (m : Nat) (t : Bool) (c : Int) (own : Nat → Prop) (xs : Row) (k v : Int) (w : World) (h : MapT w m t c own xs) (hsr : Srt t (xs ++ [(k, v)])) (hs : xs.length ≤ 1000) :
    Calls Tryz.prog 87 #[.pointer (some ⟨m, 0, none⟩), .int .i64 k, .int .i64 v] w fun e w' => e = .returned (.tuple #[]) ∧ ∃ own' : Nat → Prop, MapT w' m t c own' (xs ++ [(k, v)]) ∧ (∀ x, own' x → own x ∨ w.heap.size ≤ x) ∧ Fr own w w' := by
  obtain ⟨p, oE, h1, h2, h3, h4, h5⟩ := h
  have c3 : w.cell? ⟨m, 3, none⟩ = some (.iface 110 (.pointer (some ⟨p, 0, none⟩))) := cell_of h1 3
  have hlen := tLen_any p oE xs w.drew (h2.fr (Fr.drew (Fr.refl (fun _ => False) _)) fun _ _ e => e)
  have hins := tInsert_any p oE xs xs.length k v w.drew (h2.fr (Fr.drew (Fr.refl (fun _ => False) _)) fun _ _ e => e) (Nat.le_refl _) (by omega)
  rw [List.take_length, List.drop_length] at hins
  have hml := method_lenT
  have hmi := method_insertT
  have hmw : m < w.drew.heap.size := lt_of_blk h1
  have HQ : Hid ((∀ x, own x ↔ x = m ∨ oE x) ∧ ¬ oE m ∧ w.heap[m]? = some (mapBlk t (.iface 110 (.pointer (some ⟨p, 0, none⟩))) c) ∧ Srt t (xs ++ [(k, v)])) := ⟨h4, h3, h1, hsr⟩
  clear h1 h2 h4 h5 hsr
  go_enter Tryz.func87, Tryz.ntmps87
  go_wp2_with fail
  go_region_held3 (fun w' => w'.cell? ⟨m, 3, none⟩ = some (.iface 110 (.pointer (some ⟨p, 0, none⟩))))
    (first | exact c3 | exact k3)
    (first
      | (go_at_call 201; refine hlen.mono ?_; rintro e w2 ⟨rfl, rfl⟩)
      | (go_at_call 200; refine hins.mono ?_; rintro e w3 ⟨rfl, oE', q1, q2, q3⟩; have k3 := (q3.cell (b := m) 3 hmw h3).trans c3))
  have q3 : Fr oE w w3 := Fr.trans (S' := oE) (Fr.drew (Fr.refl _ _)) q3 fun _ _ e => e
  go_wp2_with fail
  go_end0
  obtain ⟨h4, _, h1, hsr⟩ := HQ.out
  have nm : ¬ oE' m := fun e => by
    rcases q2 m e with e | e
    · exact h3 e
    · exact absurd hmw (Nat.not_lt.2 e)
  refine ⟨rfl, fun x => x = m ∨ oE' x, ⟨p, oE', (q3.block m (lt_of_blk h1) h3).trans h1, q1, nm, fun x => Iff.rfl, hsr⟩, fun x hx => ?_, q3.mono fun x _ e => (h4 x).2 (Or.inr e)⟩
  rcases hx with e | e
  · exact Or.inl ((h4 x).2 (Or.inl e))
  · rcases q2 x e with e | e
    · exact Or.inl ((h4 x).2 (Or.inr e))
    · exact Or.inr e

theorem piece_succT {xs : Row} {i j : Nat} {p : Int × Int} (h : xs[i + j]? = some p) : (xs.drop i).take (j + 1) = (xs.drop i).take j ++ [p] := by
  rw [List.take_add_one, List.getElem?_drop, h]; rfl

set_option maxRecDepth 100000 in
set_option maxHeartbeats 2000000 in
theorem piece_anyT (m : Nat) (t : Bool) (c : Int) (own : Nat → Prop) (xs : Row) (i j : Nat) (w : World) (h : MapT w m t c own xs) (hij : i ≤ j) (hj : j ≤ xs.length) (hs : xs.length ≤ 400) :
    Calls Tryz.prog 83 #[.pointer (some ⟨m, 0, none⟩), .int .i64 i, .int .i64 j] w fun e w' => ∃ n : Nat, e = .returned (.pointer (some ⟨n, 0, none⟩)) ∧ ∃ own' : Nat → Prop, MapT w' n t 0 own' ((xs.drop i).take (j - i)) ∧ (∀ x, own' x → w.heap.size ≤ x) ∧ Fr (fun _ => False) w w' := by
  have halike := alike_anyT m t c own xs w h
  have hmeth := method_atT
  obtain ⟨p, oE, h1, h2, h3, h4, h5⟩ := h
  have hjl : (j : Int) ≤ 400 := by omega
  go_enter Tryz.func83, Tryz.ntmps83
  go_wp2_with fail
  refine halike.mono ?_
  rintro e w1 ⟨n, rfl, own1, q1, q2, q3⟩
  go_wp2_with fail
  go_loopg [8] (j - i) (fun gk s8 wr => ∃ (l : Nat) (own' : Nat → Prop), gk + l = j - i ∧ s8 = .int .i64 ((i + l : Nat) : Int) ∧ MapT wr n t 0 own' ((xs.drop i).take l) ∧ (∀ x, own' x → w.heap.size ≤ x) ∧ Fr (fun _ => False) w wr)
  case atStart => exact ⟨0, own1, by omega, rfl, q1, q2, q3⟩
  case round =>
    clear q1 q2 q3
    obtain ⟨l, own', y0, rfl, hM, hown, F⟩ := hrel
    by_cases hl : i + l < j
    · have hl1 : ((i + l : Nat) : Int) < (j : Int) := by omega
      obtain ⟨⟨k, v⟩, hkv⟩ : ∃ q, xs[i + l]? = some q := ⟨_, List.getElem?_eq_getElem (by omega)⟩
      have hb := (F.block m (lt_of_blk h1) (fun e => e)).trans h1
      have c3 : wr.cell? ⟨m, 3, none⟩ = some (.iface 110 (.pointer (some ⟨p, 0, none⟩))) := cell_of hb 3
      have hat := tAt_any p oE xs (i + l) k v wr (h2.fr F fun _ _ e => e) hkv (by omega)
      have hsr : Srt t ((xs.drop i).take l ++ [(k, v)]) := by
        rw [← piece_succT hkv]
        exact List.Pairwise.sublist ((List.take_sublist _ _).trans (List.drop_sublist _ _)) h5
      have hll : ((xs.drop i).take l).length ≤ 1000 := Nat.le_trans (List.length_take_le' ..) (by rw [List.length_drop]; omega)
      have hadd := fun w' h' => add_anyT n t 0 own' ((xs.drop i).take l) k v w' h' hsr hll
      rw [← piece_succT hkv] at hadd
      have HY : Hid (gk + l = j - i ∧ i + l < j ∧ (∀ x, own' x → w.heap.size ≤ x) ∧ Fr (fun _ => False) w wr ∧ MapT wr n t 0 own' ((xs.drop i).take l)) := ⟨y0, hl, hown, F, hM⟩
      have hil : i + l < 400 := by omega
      generalize hI : i + l = I at *
      have HI : Hid (i + l = I) := hI
      clear hI y0 hl hown F hM hb hsr hll hkv
      go_wp2_with fail
      refine hat.mono ?_
      rintro e w3 ⟨rfl, f3⟩
      go_wp2_with fail
      refine (hadd _ (HY.out.2.2.2.2.fr f3 fun _ _ e => e)).mono ?_
      rintro e w4 ⟨rfl, o4, m4, s4, f4⟩
      go_wp2_with fail
      go_roundg (gk - 1)
      case measure => have := HY.out; have := HI.out; omega
      case rel =>
        obtain ⟨y0, hl, hown, F, _⟩ := HY.out
        have hI := HI.out
        refine ⟨l + 1, o4, by omega, by rw [show i + (l + 1) = I + 1 by omega]; go_num, m4, fun x e => ?_, (F.trans f3 fun _ _ e => e).trans f4 fun x hx e => by have := hown x e; omega⟩
        rcases s4 x e with e | e
        · exact hown x e
        · exact Nat.le_trans (Nat.le_trans F.size f3.size) e
    · have hl1 : ¬ ((i + l : Nat) : Int) < (j : Int) := by omega
      have ej : l = j - i := by omega
      subst ej
      go_wp2_with fail
      go_ret
      exact ⟨n, rfl, own', hM, hown, F⟩

set_option maxRecDepth 100000 in
set_option maxHeartbeats 1000000 in
theorem split_anyT (m : Nat) (t : Bool) (c : Int) (own : Nat → Prop) (xs : Row) (k : Int) (w : World) (h : MapT w m t c own xs) (b0 : 0 ≤ c) (b1 : c ≤ 8000000000000000000) (hs : xs.length ≤ 400) :
    Calls Tryz.prog 37 #[.pointer (some ⟨m, 0, none⟩), .int .i64 k] w fun e w' => ∃ n1 n2 : Nat, e = .returned (.tuple #[.pointer (some ⟨n1, 0, none⟩), .pointer (some ⟨n2, 0, none⟩)]) ∧ ∃ (n : Nat) (o1 o2 : Nat → Prop),
      MapT w' m t (c + n) own xs ∧ n ≤ 3 * dg (xs.length + 1) ∧ MapT w' n1 t 0 o1 (xs.take (lrank t k xs)) ∧ MapT w' n2 t 0 o2 (xs.drop (lrank t k xs)) ∧ (∀ x, o1 x → w.heap.size ≤ x) ∧ (∀ x, o2 x → w.heap.size ≤ x) ∧ (∀ x, o1 x → ¬ o2 x) ∧ Fr (fun x => x = m) w w' := by
  have hbare := bare_anyT m t c own xs w h
  have hfind := find_anyT m t c own xs k w h b0 b1 (by omega)
  have hom : own m := (h.choose_spec.choose_spec.2.2.2.1 m).2 (Or.inl rfl)
  have hml := h.lt m hom
  have hrl := lrank_le t k xs
  have hp1 := fun c' w' h' => piece_anyT m t c' own xs 0 (lrank t k xs) w' h' (Nat.zero_le _) hrl hs
  have hp2 := fun c' w' h' => piece_anyT m t c' own xs (lrank t k xs) xs.length w' h' hrl (Nat.le_refl _) hs
  rw [← List.length_drop, List.take_length] at hp2
  rw [List.drop_zero, Nat.sub_zero] at hp1
  clear h
  go_enter Tryz.func37, Tryz.ntmps37
  go_wp2_with fail
  refine hbare.mono ?_
  rintro e w2 ⟨rfl, rfl⟩
  go_wp2_with fail
  refine hfind.mono ?_
  rintro e w3 ⟨n, rfl, g1, g2, g3, g4⟩
  go_wp2_with fail
  refine (hp1 _ _ g1).mono ?_
  rintro e w4 ⟨n1, rfl, o1, m1, s1, f1⟩
  have g1' := g1.fr f1 fun _ _ e => e
  go_wp2_with fail
  refine (len_anyT m t _ own xs _ g1').mono ?_
  rintro e w5 ⟨rfl, rfl⟩
  go_wp2_with fail
  refine (hp2 _ _ g1').mono ?_
  rintro e w6 ⟨n2, rfl, o2, m2, s2, f2⟩
  go_wp2_with fail
  go_ret2
  refine ⟨n1, n2, rfl, n, o1, o2, g1'.fr f2 fun _ _ e => e, g2, m1.fr f2 fun _ _ e => e, m2, fun x e => Nat.le_trans g4.size (s1 x e), fun x e => Nat.le_trans (Nat.le_trans g4.size f1.size) (s2 x e), fun x e e' => ?_, (g4.trans f1 fun _ _ e => e.elim).trans f2 fun _ _ e => e.elim⟩
  have := m1.lt x e
  have := s2 x e'
  omega

end Go.Proofs.YthbnbocpddddmaaGreat
