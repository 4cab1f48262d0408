/- The tree as an engine: a row of keys and values, by place. -/
import Derived.Test.YthbnbocpddddmaaGreatWPlace
namespace Go.Proofs.YthbnbocpddddmaaGreat
open Go.RowKit

/-- The tree at block p holds the row xs; 'own': its blocks. -/
def EngT (w : World) (p : Nat) (own : Nat → Prop) (xs : Row) : Prop :=
  ∃ T : Tr, w.heap[p]? = some (treeBlk T.ad) ∧ Lies 336 w T ∧ T.avl ∧ ¬ T.has p ∧ T.items = xs ∧ ∀ x, own x ↔ x = p ∨ T.has x

theorem EngT.lt {w : World} {p : Nat} {own : Nat → Prop} {xs : Row} (h : EngT w p own xs) : ∀ x, own x → x < w.heap.size := by
  obtain ⟨T, h1, h2, h3, h4, h5, h6⟩ := h
  intro x hx
  rcases (h6 x).1 hx with rfl | e
  · exact lt_of_blk h1
  · exact h2.lt x e

theorem EngT.own {w : World} {p : Nat} {own : Nat → Prop} {xs : Row} (h : EngT w p own xs) : own p := by
  obtain ⟨T, h1, h2, h3, h4, h5, h6⟩ := h
  exact (h6 p).2 (Or.inl rfl)

theorem EngT.congr {w w' : World} {p : Nat} {own : Nat → Prop} {xs : Row} (h : EngT w p own xs) (hc : ∀ x, own x → w'.heap[x]? = w.heap[x]?) : EngT w' p own xs := by
  obtain ⟨T, h1, h2, h3, h4, h5, h6⟩ := h
  exact ⟨T, (hc p ((h6 p).2 (Or.inl rfl))).trans h1, h2.congr fun x hx => hc x ((h6 x).2 (Or.inr hx)), h3, h4, h5, h6⟩

theorem EngT.fr {S : Nat → Prop} {w w' : World} {p : Nat} {own : Nat → Prop} {xs : Row} (h : EngT w p own xs) (f : Fr S w w') (hd : ∀ x, own x → ¬ S x) : EngT w' p own xs :=
  h.congr fun x hx => f.block x (h.lt x hx) (hd x hx)

set_option maxHeartbeats 400000 in
theorem tLen_any (p : Nat) (own : Nat → Prop) (xs : Row) (w : World) (h : EngT w p own xs) :
    Calls Tryz.prog 201 #[.pointer (some ⟨p, 0, none⟩)] w fun e w' => e = .returned (.int .i64 xs.length) ∧ w' = w := by
  obtain ⟨T, h1, h2, h3, h4, h5, h6⟩ := h
  have t0 : w.cell? ⟨p, 0, none⟩ = some (.pointer T.ad) := cell_of h1 0
  have tl := h2.top
  rw [← T.size_items, h5] at tl
  generalize hTa : T.ad = tp at t0 tl
  clear hTa h1 h2 h3 h4 h5 h6
  go_enter Tryz.func201, Tryz.ntmps201
  go_wp2_with fail
  refine (count_any tp xs.length T.ht _ tl).mono ?_
  rintro e w2 ⟨rfl, rfl⟩
  go_wp2_with fail
  go_ret
  exact ⟨rfl, rfl⟩

set_option maxHeartbeats 400000 in
theorem tAt_any (p : Nat) (own : Nat → Prop) (xs : Row) (i : Nat) (k v : Int) (w : World) (h : EngT w p own xs) (hi : xs[i]? = some (k, v)) (hs : xs.length ≤ 10000) :
    Calls Tryz.prog 198 #[.pointer (some ⟨p, 0, none⟩), .int .i64 i] w fun e w' => e = .returned (.tuple #[.int .i64 k, .int .i64 v]) ∧ Fr (fun _ => False) w w' := by
  obtain ⟨T, h1, h2, h3, h4, rfl, h6⟩ := h
  have hl : i < T.items.length := (List.getElem?_eq_some_iff.1 hi).1
  rw [Tr.size_items] at hl hs
  obtain ⟨k', v', lp, rp, s, g, hb, hkv⟩ := h2.nth i hl
  rw [hi] at hkv
  simp only [Option.some.injEq, Prod.mk.injEq] at hkv
  obtain ⟨rfl, rfl⟩ := hkv
  have hp := place_any p T i w h1 h2 (by omega) (by omega) hs
  rw [Int.toNat_natCast] at hp
  have c0 : w.cell? ⟨T.nthB i, 0, none⟩ = some (.int .i64 k) := cell_of hb 0
  have c1 : w.cell? ⟨T.nthB i, 1, none⟩ = some (.int .i64 v) := cell_of hb 1
  generalize hbb : T.nthB i = bb at *
  clear h1 h2 h3 h4 h6 hb hi hbb
  go_enter Tryz.func198, Tryz.ntmps198
  go_wp2_with fail
  refine hp.mono ?_
  rintro e w2 ⟨rfl, rfl⟩
  go_wp2_with fail
  go_quiet (fail)
  go_wp2_with fail
  go_ret2
  exact ⟨rfl, ⟨rfl, rfl, rfl, Nat.le_refl _, fun _ _ _ => rfl⟩⟩

set_option maxHeartbeats 400000 in
theorem tSet_any (p : Nat) (own : Nat → Prop) (xs : Row) (i : Nat) (k v u : Int) (w : World) (h : EngT w p own xs) (hi : xs[i]? = some (k, v)) (hs : xs.length ≤ 10000) :
    Calls Tryz.prog 203 #[.pointer (some ⟨p, 0, none⟩), .int .i64 i, .int .i64 u] w fun e w' => e = .returned (.tuple #[]) ∧ EngT w' p own (xs.set i (k, u)) ∧ Fr own w w' := by
  obtain ⟨T, h1, h2, h3, h4, rfl, h6⟩ := h
  have hl : i < T.items.length := (List.getElem?_eq_some_iff.1 hi).1
  rw [Tr.size_items] at hl hs
  obtain ⟨k', v', lp, rp, s, g, hb, hkv⟩ := h2.nth i hl
  rw [hi] at hkv
  simp only [Option.some.injEq, Prod.mk.injEq] at hkv
  obtain ⟨rfl, rfl⟩ := hkv
  have hp := place_any p T i w h1 h2 (by omega) (by omega) hs
  rw [Int.toNat_natCast] at hp
  have c1 : w.cell? ⟨T.nthB i, 1, none⟩ = some (.int .i64 v) := cell_of hb 1
  have f1 : w.frozen? ⟨T.nthB i, 1, none⟩ = false := frozen_of hb 1
  have hh := T.has_nthB i hl
  have fin : EngT (w.setCell ⟨T.nthB i, 1, none⟩ (.int .i64 u)) p own (T.items.set i (k, u)) ∧ Fr own w (w.setCell ⟨T.nthB i, 1, none⟩ (.int .i64 u)) := by
    obtain ⟨a1, k2, v2, a2, a3⟩ := h2.set (w' := w.setCell ⟨T.nthB i, 1, none⟩ (.int .i64 u)) i hl u (fun k v lp rp s g hq => by rw [blk_set hq 1]; rfl) (fun x hx _ => blk_set_ne _ _ hx)
    rw [hi] at a2
    simp only [Option.some.injEq, Prod.mk.injEq] at a2
    obtain ⟨rfl, rfl⟩ := a2
    refine ⟨⟨T.setV (T.nthB i) u, ?_, a1, (Tr.avl_setV _ _ _).2 h3, fun e => h4 ((Tr.has_setV _ _ _ _).1 e), a3, fun x => by rw [h6, Tr.has_setV]⟩, Fr.setCell (Fr.refl _ _) (by exact fun _ => (h6 _).2 (Or.inr hh)) _⟩
    have np : p ≠ T.nthB i := fun e => h4 (e ▸ hh)
    rw [blk_set_ne _ _ np, Tr.ad_setV]; exact h1
  generalize hbb : T.nthB i = bb at *
  clear h1 h2 h3 h4 h6 hb hi hbb hh
  go_enter Tryz.func203, Tryz.ntmps203
  go_wp2_with fail
  refine hp.mono ?_
  rintro e w2 ⟨rfl, rfl⟩
  go_wp2_with fail
  go_end0
  exact ⟨rfl, fin⟩

set_option maxHeartbeats 400000 in
theorem tInsert_any (p : Nat) (own : Nat → Prop) (xs : Row) (i : Nat) (k v : Int) (w : World) (h : EngT w p own xs) (hi : i ≤ xs.length) (hs : xs.length ≤ 5000) :
    Calls Tryz.prog 200 #[.pointer (some ⟨p, 0, none⟩), .int .i64 i, .int .i64 k, .int .i64 v] w fun e w' => e = .returned (.tuple #[]) ∧
      ∃ own', EngT w' p own' (xs.take i ++ (k, v) :: xs.drop i) ∧ (∀ x, own' x → own x ∨ w.heap.size ≤ x) ∧ Fr own w w' := by
  obtain ⟨T, h1, h2, h3, h4, rfl, h6⟩ := h
  have t0 : w.cell? ⟨p, 0, none⟩ = some (.pointer T.ad) := cell_of h1 0
  have e0 := T.size_items
  have hins := insert_any T i k v w h2 h3 (by omega) (by omega) (by omega)
  rw [Int.toNat_natCast] at hins
  have pl := lt_of_blk h1
  generalize hTa : T.ad = tp at t0 hins
  have HTA : Hid (T.ad = tp) := hTa
  clear hTa
  go_enter Tryz.func200, Tryz.ntmps200
  go_wp2_with fail
  refine hins.mono ?_
  rintro e w2 ⟨U, rfl, lU, aU, eU, g1, g2, gx, gfr⟩
  have hp2 := (gfr.block p pl h4).trans h1
  have c0 : w2.cell? ⟨p, 0, none⟩ = some (.pointer T.ad) := cell_of hp2 0
  have f0 : w2.frozen? ⟨p, 0, none⟩ = false := frozen_of hp2 0
  have nU : ¬ U.has p := fun e => by
    rcases gx p e with e | e
    · exact h4 e
    · omega
  go_wp2_with fail
  go_end0
  refine ⟨rfl, fun x => x = p ∨ U.has x, ⟨U, ?_, lU.congr fun x hx => blk_set_ne _ _ fun e => nU (e ▸ hx), aU, nU, eU, fun x => Iff.rfl⟩, fun x hx => ?_, ?_⟩
  · rw [blk_set hp2 0]; rfl
  · rcases hx with e | e
    · exact Or.inl ((h6 x).2 (Or.inl e))
    · rcases gx x e with e | e
      · exact Or.inl ((h6 x).2 (Or.inr e))
      · exact Or.inr e
  · exact Fr.setCell (gfr.mono fun x _ e => (h6 x).2 (Or.inr e)) (by exact fun _ => (h6 p).2 (Or.inl rfl)) _

theorem tFind_eng (p m mb kb : Nat) (own : Nat → Prop) (xs : Row) (turned : Bool) (items : Value) (c k : Int) (w : World) (h : EngT w p own xs) (hsr : Srt turned xs) (hm : w.heap[m]? = some (mapBlk turned items c))
    (hmb : w.heap[mb]? = some (.cells #[.pointer (some ⟨m, 0, none⟩)] 31 (0, 0))) (hkb : w.heap[kb]? = some (.cells #[.int .i64 k] 3 (0, 0)))
    (nT : ¬ own m) (n1 : mb ≠ m) (n2 : kb ≠ m) (b0 : 0 ≤ c) (b1 : c ≤ 8000000000000000000) (hs : xs.length ≤ 5000) :
    Calls Tryz.prog 199 #[.pointer (some ⟨p, 0, none⟩), .func (.func 92) #[] #[.pointer (some ⟨mb, 0, none⟩), .pointer (some ⟨kb, 0, none⟩)]] w fun e w' => ∃ n : Nat,
      e = .returned (.tuple #[.int .i64 (lrank turned k xs), .bool (lsame k xs)]) ∧ w'.heap[m]? = some (mapBlk turned items (c + n)) ∧ n ≤ 3 * dg (xs.length + 1) ∧ (0 < xs.length → 1 ≤ n) ∧ Fr (fun x => x = m) w w' := by
  obtain ⟨T, h1, h2, h3, h4, rfl, h6⟩ := h
  have e0 := T.size_items
  refine (tFind_any p m mb kb T turned items c k w h1 hm hmb hkb h2 (fun e => nT ((h6 m).2 (Or.inr e))) n1 n2 b0 b1 (by omega)).mono ?_
  rintro e w' ⟨rfl, g1, g2⟩
  obtain ⟨r1, r2⟩ := tree_rank turned k T hsr
  exact ⟨_, by rw [r1, r2], g1, cnt_few _ T h3, fun hl => T.cnt_pos _ (by omega), g2⟩

end Go.Proofs.YthbnbocpddddmaaGreat
