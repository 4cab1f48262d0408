import Derived.Test.YthbnbocpddddmaaGreatQC
import Derived.Test.YthbnbocpddddmaaGreatQB
import Derived.Test.YthbnbocpddddmaaGreatQA
namespace Go.Proofs.YthbnbocpddddmaaGreat
open Go.RowKit

theorem ad_some {t : Tr} (h : 0 < t.ht) : ∃ c A k v M, t = .node c A k v M := by
  cases t with
  | nil => simp [Tr.ht] at h
  | node c A k v M => exact ⟨c, A, k, v, M, rfl⟩

/-- balanced: of a node whose two sides are balanced, and at most two levels apart. -/
theorem balanced_any (b : Nat) (L R : Tr) (k v : Int) (w : World) (h : Loose w b L k v R) (hs : L.size + R.size ≤ 20000) (aL : L.avl) (aR : R.avl)
    (h1 : L.ht ≤ R.ht + 2) (h2 : R.ht ≤ L.ht + 2) :
    Calls Tryz.prog 259 #[.pointer (some ⟨b, 0, none⟩)] w fun e w' => ∃ T : Tr, e = .returned (.pointer T.ad) ∧ Lies 360 w' T ∧ T.avl ∧
      T.items = L.items ++ (k, v) :: R.items ∧ max L.ht R.ht ≤ T.ht ∧ T.ht ≤ max L.ht R.ht + 1 ∧ (L.ht ≤ R.ht + 1 → R.ht ≤ L.ht + 1 → T.ht = max L.ht R.ht + 1) ∧
      (∀ x, T.has x ↔ x = b ∨ L.has x ∨ R.has x) ∧ Fr (fun x => x = b ∨ L.has x ∨ R.has x) w w' := by
  by_cases c1 : L.ht = R.ht + 2
  · obtain ⟨c, A, k2, v2, M, rfl⟩ := ad_some (t := L) (by omega)
    obtain ⟨aA, aM, q1, q2⟩ := aL
    simp only [Tr.ht, Tr.size] at c1 hs h1 h2
    by_cases c2 : A.ht < M.ht
    · obtain ⟨d, B, k3, v3, C, rfl⟩ := ad_some (t := M) (by omega)
      obtain ⟨aB, aC, q3, q4⟩ := aM
      simp only [Tr.ht, Tr.size] at c1 c2 hs h1 h2 q1 q2
      refine (balanced_low2 b c d A B C R k v k2 v2 k3 v3 w h (by omega) (by simp only [Tr.ht]; omega) (by simp only [Tr.ht]; omega)).mono ?_
      rintro e w' ⟨rfl, t, fr⟩
      refine ⟨_, rfl, t, ⟨⟨aA, aB, by omega, by omega⟩, ⟨aC, aR, by omega, by omega⟩, by simp only [Tr.ht]; omega, by simp only [Tr.ht]; omega⟩, by simp [Tr.items], by simp only [Tr.ht]; omega, by simp only [Tr.ht]; omega, by simp only [Tr.ht]; omega, ?_, ?_⟩
      · intro x; simp only [Tr.has]; constructor
        · rintro (e | (e | e | e) | (e | e | e)) <;> simp [e]
        · rintro (e | (e | e | (e | e | e)) | e) <;> simp [e]
      · exact fr.mono fun x _ e => by rcases e with e | e | e <;> simp [Tr.has, e]
    · refine (balanced_low1 b c A M R k v k2 v2 w h (by omega) (by simp only [Tr.ht]; omega) (by omega)).mono ?_
      rintro e w' ⟨rfl, t, fr⟩
      refine ⟨_, rfl, t, ⟨aA, ⟨aM, aR, by omega, by omega⟩, by simp only [Tr.ht]; omega, by simp only [Tr.ht]; omega⟩, by simp [Tr.items], by simp only [Tr.ht]; omega, by simp only [Tr.ht]; omega, by simp only [Tr.ht]; omega, ?_, ?_⟩
      · intro x; simp only [Tr.has]; constructor
        · rintro (e | e | (e | e | e)) <;> simp [e]
        · rintro (e | (e | e | e) | e) <;> simp [e]
      · exact fr.mono fun x _ e => by rcases e with e | e <;> simp [Tr.has, e]
  · by_cases c3 : R.ht = L.ht + 2
    · obtain ⟨c, M, k2, v2, A, rfl⟩ := ad_some (t := R) (by omega)
      obtain ⟨aM, aA, q1, q2⟩ := aR
      simp only [Tr.ht, Tr.size] at c3 hs h1 h2
      by_cases c2 : A.ht < M.ht
      · obtain ⟨d, B, k3, v3, C, rfl⟩ := ad_some (t := M) (by omega)
        obtain ⟨aB, aC, q3, q4⟩ := aM
        simp only [Tr.ht, Tr.size] at c3 c2 hs h1 h2 q1 q2
        refine (balanced_high2 b c d A B C L k v k2 v2 k3 v3 w h (by omega) (by simp only [Tr.ht]; omega) (by simp only [Tr.ht]; omega)).mono ?_
        rintro e w' ⟨rfl, t, fr⟩
        refine ⟨_, rfl, t, ⟨⟨aL, aB, by omega, by omega⟩, ⟨aC, aA, by omega, by omega⟩, by simp only [Tr.ht]; omega, by simp only [Tr.ht]; omega⟩, by simp [Tr.items], by simp only [Tr.ht]; omega, by simp only [Tr.ht]; omega, by simp only [Tr.ht]; omega, ?_, ?_⟩
        · intro x; simp only [Tr.has]; constructor
          · rintro (e | (e | e | e) | (e | e | e)) <;> simp [e]
          · rintro (e | e | (e | (e | e | e) | e)) <;> simp [e]
        · exact fr.mono fun x _ e => by rcases e with e | e | e <;> simp [Tr.has, e]
      · refine (balanced_high1 b c A M L k v k2 v2 w h (by omega) (by simp only [Tr.ht]; omega) (by omega)).mono ?_
        rintro e w' ⟨rfl, t, fr⟩
        refine ⟨_, rfl, t, ⟨⟨aL, aM, by omega, by omega⟩, aA, by simp only [Tr.ht]; omega, by simp only [Tr.ht]; omega⟩, by simp [Tr.items], by simp only [Tr.ht]; omega, by simp only [Tr.ht]; omega, by simp only [Tr.ht]; omega, ?_, ?_⟩
        · intro x; simp only [Tr.has]; constructor
          · rintro (e | (e | e | e) | e) <;> simp [e]
          · rintro (e | e | (e | e | e)) <;> simp [e]
        · exact fr.mono fun x _ e => by rcases e with e | e <;> simp [Tr.has, e]
    · refine (balanced_mid b L R k v w h (by omega) (by omega) (by omega)).mono ?_
      rintro e w' ⟨rfl, t, fr⟩
      refine ⟨_, rfl, t, ⟨aL, aR, by omega, by omega⟩, rfl, by simp only [Tr.ht]; omega, by simp only [Tr.ht]; omega, fun _ _ => rfl, fun x => Iff.rfl, fr.mono fun x _ e => Or.inl e⟩

/-- What insert comes to. -/
def Inserted (w w' : World) (t T : Tr) (i : Nat) (k v : Int) : Prop :=
  Lies 360 w' T ∧ T.avl ∧ T.items = t.items.take i ++ (k, v) :: t.items.drop i ∧ t.ht ≤ T.ht ∧ T.ht ≤ t.ht + 1 ∧
    (∀ x, T.has x → t.has x ∨ w.heap.size ≤ x) ∧ Fr (fun x => t.has x) w w'

/-- Behind the call on the left side, and the store. -/
theorem ins_left {w w1 : World} {b : Nat} {L R T : Tr} {k v k1 v1 : Int} {i : Nat} (h : Lies 360 w (.node b L k1 v1 R)) (hi : Inserted w w1 L T i k v) :
    w1.cell? ⟨b, 2, none⟩ = some (.pointer L.ad) ∧ w1.frozen? ⟨b, 2, none⟩ = false ∧ Loose (w1.setCell ⟨b, 2, none⟩ (.pointer T.ad)) b T k1 v1 R ∧
      Fr (fun x => x = b ∨ L.has x ∨ R.has x) w (w1.setCell ⟨b, 2, none⟩ (.pointer T.ad)) := by
  obtain ⟨hb, lL, lR, n1, n2, n3⟩ := h
  obtain ⟨lT, aT, eT, h1, h2, hx, fr⟩ := hi
  have hb1 := (fr.block b (lt_of_blk hb) n1).trans hb
  have nT : ¬ T.has b := fun e => by
    rcases hx b e with e | e
    · exact n1 e
    · have := lt_of_blk hb; omega
  refine ⟨cell_of hb1 2, frozen_of hb1 2, ⟨⟨_, _, by rw [blk_set hb1 2]; rfl⟩, lT.congr fun x hx => blk_set_ne _ _ fun e => nT (e ▸ hx), (lR.fr fr fun x hx e => n3 x e hx).congr fun x hx => blk_set_ne _ _ fun e => n2 (e ▸ hx), nT, n2, fun x hx' e => ?_⟩, ?_⟩
  · rcases hx x hx' with e' | e'
    · exact n3 x e' e
    · have := lR.lt x e; omega
  · exact Fr.setCell (fr.mono fun x _ e => Or.inr (Or.inl e)) (by exact fun _ => Or.inl rfl) _

theorem ins_right {w w1 : World} {b : Nat} {L R T : Tr} {k v k1 v1 : Int} {i : Nat} (h : Lies 360 w (.node b L k1 v1 R)) (hi : Inserted w w1 R T i k v) :
    w1.cell? ⟨b, 3, none⟩ = some (.pointer R.ad) ∧ w1.frozen? ⟨b, 3, none⟩ = false ∧ Loose (w1.setCell ⟨b, 3, none⟩ (.pointer T.ad)) b L k1 v1 T ∧
      Fr (fun x => x = b ∨ L.has x ∨ R.has x) w (w1.setCell ⟨b, 3, none⟩ (.pointer T.ad)) := by
  obtain ⟨hb, lL, lR, n1, n2, n3⟩ := h
  obtain ⟨lT, aT, eT, h1, h2, hx, fr⟩ := hi
  have hb1 := (fr.block b (lt_of_blk hb) n2).trans hb
  have nT : ¬ T.has b := fun e => by
    rcases hx b e with e | e
    · exact n2 e
    · have := lt_of_blk hb; omega
  refine ⟨cell_of hb1 3, frozen_of hb1 3, ⟨⟨_, _, by rw [blk_set hb1 3]; rfl⟩, (lL.fr fr fun x hx e => n3 x hx e).congr fun x hx => blk_set_ne _ _ fun e => n1 (e ▸ hx), lT.congr fun x hx => blk_set_ne _ _ fun e => nT (e ▸ hx), n1, nT, fun x hx' e => ?_⟩, ?_⟩
  · rcases hx x e with e' | e'
    · exact n3 x hx' e'
    · have := lL.lt x hx'; omega
  · exact Fr.setCell (fr.mono fun x _ e => Or.inr (Or.inr e)) (by exact fun _ => Or.inl rfl) _

theorem take_left {α : Type} (a c : List α) (x y : α) (i : Nat) (h : i ≤ a.length) : (a.take i ++ y :: a.drop i) ++ x :: c = (a ++ x :: c).take i ++ y :: (a ++ x :: c).drop i := by
  rw [List.take_append_of_le_length h, List.drop_append_of_le_length h]; simp

theorem take_right {α : Type} (a c : List α) (x y : α) (i : Nat) (h : a.length < i) : a ++ x :: (c.take (i - a.length - 1) ++ y :: c.drop (i - a.length - 1)) = (a ++ x :: c).take i ++ y :: (a ++ x :: c).drop i := by
  obtain ⟨j, rfl⟩ : ∃ j, i = a.length + 1 + j := ⟨i - a.length - 1, by omega⟩
  have e : a.length + 1 + j - a.length - 1 = j := by omega
  rw [e, show a ++ x :: c = (a ++ [x]) ++ c by simp, show a.length + 1 + j = (a ++ [x]).length + j by simp, List.take_length_add_append, List.drop_length_add_append]
  simp

theorem leaf_inserted (w : World) (k v : Int) : Inserted w (w.alloc (.cells #[kv k, kv v, .pointer none, .pointer none, .int .i64 1, .int .i64 1] 360)) .nil (.node w.heap.size .nil k v .nil) 0 k v :=
  ⟨⟨blk_new _ _, trivial, trivial, fun e => e.elim, fun e => e.elim, fun _ e => e.elim⟩, ⟨trivial, trivial, by simp [Tr.ht], by simp [Tr.ht]⟩, rfl, by simp [Tr.ht], by simp [Tr.ht], fun x e => by
    rcases e with rfl | e | e
    · exact Or.inr (Nat.le_refl _)
    · exact e.elim
    · exact e.elim, Fr.alloc (Fr.refl _ _) _⟩

set_option maxHeartbeats 1000000 in
theorem insert_any (t : Tr) : ∀ (i k v : Int) (w : World), Lies 360 w t → t.avl → 0 ≤ i → i ≤ t.size → t.size ≤ 10000 →
    Calls Tryz.prog 257 #[.pointer t.ad, .int .i64 i, kv k, kv v] w fun e w' => ∃ T : Tr, e = .returned (.pointer T.ad) ∧ Inserted w w' t T i.toNat k v := by
  induction t with
  | nil =>
    intro i k v w _ _ i0 i1 _
    have ei : i = 0 := by simp only [Tr.size] at i1; omega
    subst ei
    show Calls Tryz.prog 257 #[.pointer none, .int .i64 0, kv k, kv v] w _
    go_enter Tryz.func257, Tryz.ntmps257
    go_wp2_with fail
    go_ret
    exact ⟨.node w.heap.size .nil k v .nil, rfl, leaf_inserted w k v⟩
  | node b L k1 v1 R ihl ihr =>
    intro i k v w hlies ha i0 i1 hsz
    have hlies' := hlies
    obtain ⟨hb, lL, lR, n1, n2, n3⟩ := hlies'
    obtain ⟨aL, aR, q1, q2⟩ := ha
    simp only [Tr.size] at i1 hsz
    have c2 : w.cell? ⟨b, 2, none⟩ = some (.pointer L.ad) := cell_of hb 2
    have c3 : w.cell? ⟨b, 3, none⟩ = some (.pointer R.ad) := cell_of hb 3
    have tl := lL.top
    show Calls Tryz.prog 257 #[.pointer (some ⟨b, 0, none⟩), .int .i64 i, kv k, kv v] w _
    by_cases c : i ≤ L.size
    · have hl := fun w' (e : w' = w) => ihl i k v w' (e ▸ lL) aL i0 c (by omega)
      have hins := fun w1 T => ins_left (w1 := w1) (T := T) (k := k) (v := v) (i := i.toNat) hlies
      have sl := L.size_items
      clear ihl ihr hb n1 n2 n3
      generalize hL : L.ad = lp at *
      go_enter Tryz.func257, Tryz.ntmps257
      go_wp2_with fail
      refine (count_any lp L.size L.ht _ tl).mono ?_
      rintro e w1 ⟨rfl, rfl⟩
      go_wp2_with fail
      refine (hl _ rfl).mono ?_
      rintro e w2 ⟨T, rfl, hT⟩
      obtain ⟨d2, f2, hlo, hfr⟩ := hins w2 T hT
      obtain ⟨lT, aT, eT, g1, g2, gx, gfr⟩ := hT
      have sT := T.size_items
      rw [eT] at sT
      simp at sT
      go_wp2_with fail
      refine (balanced_any b T R k1 v1 _ hlo (by omega) aT aR (by omega) (by omega)).mono ?_
      rintro e w3 ⟨U, rfl, lU, aU, eU, u1, u2, u3, ux, ufr⟩
      go_wp2_with fail
      go_ret
      refine ⟨U, rfl, lU, aU, ?_, ?_, ?_, ?_, ?_⟩
      · rw [eU, eT]; exact take_left _ _ _ _ _ (by omega)
      · simp only [Tr.ht]; omega
      · simp only [Tr.ht]; omega
      · intro x hx
        rcases (ux x).1 hx with e | e | e
        · exact Or.inl (Or.inl e)
        · rcases gx x e with e | e
          · exact Or.inl (Or.inr (Or.inl e))
          · exact Or.inr e
        · exact Or.inl (Or.inr (Or.inr e))
      · refine Fr.trans hfr ufr ?_
        rintro x hx (e | e | e)
        · exact Or.inl e
        · rcases gx x e with e | e
          · exact Or.inr (Or.inl e)
          · omega
        · exact Or.inr (Or.inr e)
    · obtain ⟨sl, esl⟩ : ∃ sl : Int, sl = L.size := ⟨_, rfl⟩
      rw [← esl] at tl
      have hl := fun w' (e : w'.heap = w.heap) => ihr (i - sl - 1) k v w' (lR.congr fun _ _ => by rw [e]) aR (by omega) (by omega) (by omega)
      have hins := fun w0 w1 T (e : Lies 360 w0 (.node b L k1 v1 R)) => ins_right (w := w0) (w1 := w1) (T := T) (k := k) (v := v) (i := (i - sl - 1).toNat) e
      have hl0 := fun w0 (e : w0.heap = w.heap) => hlies.congr (w' := w0) fun _ _ => by rw [e]
      have sL := L.size_items
      have sR := R.size_items
      have e1 : IntKind.i64.wrap (i - sl) = i - sl := by rw [IntKind.wrap_i64]; omega
      have e2 : IntKind.i64.wrap (i - sl - 1) = i - sl - 1 := by rw [IntKind.wrap_i64]; omega
      have c' : ¬ i ≤ sl := by omega
      have HS : Hid (sl = L.size ∧ L.items.length = L.size ∧ R.items.length = R.size ∧ L.size + R.size + 1 ≤ 10000 ∧ L.ht ≤ R.ht + 1 ∧ R.ht ≤ L.ht + 1 ∧ 0 ≤ i ∧ i ≤ L.size + R.size + 1) := ⟨esl, sL, sR, hsz, q1, q2, i0, by omega⟩
      clear ihl ihr hb n1 n2 n3 hlies esl sL sR i1 hsz c q1 q2
      generalize hL : L.ad = lp at *
      generalize hR : R.ad = rp at *
      go_enter Tryz.func257, Tryz.ntmps257
      go_wp2_with fail
      refine (count_any lp sl L.ht _ tl).mono ?_
      rintro e w1 ⟨rfl, rfl⟩
      go_wp2_with fail
      go_region_with (first
        | (go_at_call 256; refine (count_any lp sl L.ht _ (by exact tl.same rfl)).mono ?_; rintro e w1 ⟨rfl, rfl⟩)
        | (go_at_call 257; refine (hl _ (by exact rfl)).mono ?_; rintro e w2 ⟨T, rfl, hT⟩; obtain ⟨d2, f2, hlo, hfr⟩ := hins _ w2 T (by exact hl0 _ rfl) hT; generalize hTa : T.ad = tp at *))
      all_goals
        obtain ⟨lT, aT, eT, g1, g2, gx, gfr⟩ := hT
        obtain ⟨esl, sL, sR, hsz, q1, q2, i0, i1⟩ := HS.out
        have sT := T.size_items
        rw [eT] at sT
        simp at sT
        have HT : Hid (T.items = R.items.take (i - sl - 1).toNat ++ (k, v) :: R.items.drop (i - sl - 1).toNat) := eT
        have HSZ : Hid (L.size + T.size ≤ 20000 ∧ L.ht ≤ T.ht + 2 ∧ T.ht ≤ L.ht + 2) := ⟨by omega, by omega, by omega⟩
        clear eT sT esl sL sR
        go_wp2_with fail
        refine (balanced_any b L T k1 v1 _ (by exact hlo) HSZ.out.1 aL aT HSZ.out.2.1 HSZ.out.2.2).mono ?_
        rintro e w3 ⟨U, rfl, lU, aU, eU, u1, u2, u3, ux, ufr⟩
        go_wp2_with fail
        go_ret
        obtain ⟨esl, sL, sR, hsz, q1, q2, i0, i1⟩ := HS.out
        refine ⟨U, rfl, lU, aU, ?_, ?_, ?_, ?_, ?_⟩
        · rw [eU, HT.out, show (i - sl - 1).toNat = i.toNat - L.items.length - 1 by omega]; exact take_right _ _ _ _ _ (by omega)
        · simp only [Tr.ht]; omega
        · simp only [Tr.ht]; omega
        · intro x hx
          rcases (ux x).1 hx with e | e | e
          · exact Or.inl (Or.inl e)
          · exact Or.inl (Or.inr (Or.inl e))
          · rcases gx x e with e | e
            · exact Or.inl (Or.inr (Or.inr e))
            · exact Or.inr e
        · have hfr' : Fr (fun x => x = b ∨ L.has x ∨ R.has x) _ _ := hfr
          refine Fr.trans (S' := fun x => x = b ∨ L.has x ∨ T.has x) ⟨hfr'.os, hfr'.tape, hfr'.output, hfr'.size, hfr'.block⟩ ufr ?_
          rintro x hx (e | e | e)
          · exact Or.inl e
          · exact Or.inr (Or.inl e)
          · rcases gx x e with e | e
            · exact Or.inr (Or.inr e)
            · exact absurd hx (Nat.not_lt.2 e)

end Go.Proofs.YthbnbocpddddmaaGreat

namespace Go.Proofs.YthbnbocpddddmaaGreat
open Go.RowKit

set_option maxHeartbeats 1000000 in
theorem place_any (tb : Nat) (T : Tr) (i : Int) (w : World) (htb : w.heap[tb]? = some (treeBlk T.ad)) (hT : Lies 360 w T) (i0 : 0 ≤ i) (i1 : i < T.size) (hs : T.size ≤ 10000) :
    Calls Tryz.prog 255 #[.pointer (some ⟨tb, 0, none⟩), .int .i64 i] w fun e w' => e = .returned (.pointer (some ⟨T.nthB i.toNat, 0, none⟩)) ∧ w' = w := by
  have t0 : w.cell? ⟨tb, 0, none⟩ = some (.pointer T.ad) := cell_of htb 0
  generalize hTa : T.ad = tp at t0
  have HTA : Hid (T.ad = tp) := hTa
  clear hTa htb
  go_enter Tryz.func255, Tryz.ntmps255
  go_wp2_with fail
  go_loopg [1, 5] T.size (fun gk s1 s5 wr => ∃ (t : Tr) (j : Nat), t.size = gk ∧ s1 = .int .i64 j ∧ s5 = .pointer t.ad ∧ Lies 360 w t ∧ wr = w ∧ j < t.size ∧ t.size ≤ 10000 ∧ T.nthB i.toNat = t.nthB j)
  case atStart => exact ⟨T, i.toNat, rfl, by rw [Int.toNat_of_nonneg i0], by rw [HTA.out], hT, rfl, by omega, hs, rfl⟩
  case round =>
    obtain ⟨t, j, hk, rfl, rfl, hl, rfl, z1, z0, z2⟩ := hrel
    cases t with
    | nil => simp [Tr.size] at z1
    | node b L k1 v1 R =>
      have hb := hl.1
      have lL := hl.2.1
      have lR := hl.2.2.1
      have tl := lL.top
      have c2 : wr.cell? ⟨b, 2, none⟩ = some (.pointer L.ad) := cell_of hb 2
      have c3 : wr.cell? ⟨b, 3, none⟩ = some (.pointer R.ad) := cell_of hb 3
      simp only [Tr.size] at hk z1 z0
      show Code.wp _ _ _ _ _
      simp only [Tr.ad]
      obtain ⟨sl, esl⟩ : ∃ sl : Nat, sl = L.size := ⟨_, rfl⟩
      rw [← esl] at tl
      have HK : Hid (sl = L.size ∧ L.size + R.size + 1 = gk ∧ j < L.size + R.size + 1 ∧ L.size + R.size + 1 ≤ 10000) := ⟨esl, hk, z1, z0⟩
      have zj : j ≤ 10000 := by omega
      have zs : sl ≤ 10000 := by omega
      generalize hLa : L.ad = lp at c2 tl
      have HLA : Hid (L.ad = lp) := hLa
      have HZ : Hid (T.nthB i.toNat = (Tr.node b L k1 v1 R).nthB j) := z2
      clear hLa hk z1 z0 esl z2 hb
      by_cases c : j = sl
      · have b1 : ((j : Int) != (sl : Int)) = false := by simp [c]
        go_wp2_with fail
        refine (count_any lp sl L.ht _ tl).mono ?_
        rintro e w2 ⟨rfl, rfl⟩
        go_wp2_with fail
        go_ret
        obtain ⟨esl, hk, z1, z0⟩ := HK.out
        rw [HZ.out]
        refine ⟨?_, rfl⟩
        simp only [Tr.nthB]
        rw [if_neg (by omega), if_pos (by omega)]
        rfl
      · have b1 : ((j : Int) != (sl : Int)) = true := by rw [bne_iff_ne]; omega
        by_cases d : j < sl
        · have d' : (j : Int) < (sl : Int) := by omega
          go_wp2_with fail
          refine (count_any lp sl L.ht _ tl).mono ?_
          rintro e w2 ⟨rfl, rfl⟩
          go_wp2_with fail
          refine (count_any lp sl L.ht _ tl).mono ?_
          rintro e w2 ⟨rfl, rfl⟩
          go_wp2_with fail
          obtain ⟨esl, hk, z1, z0⟩ := HK.out
          go_roundg L.size
          case measure => omega
          case rel => exact ⟨L, j, rfl, rfl, by rw [HLA.out], lL, rfl, by omega, by omega, by rw [HZ.out]; simp only [Tr.nthB]; rw [if_pos (by omega)]⟩
        · have d' : ¬ (j : Int) < (sl : Int) := by omega
          have HC : Hid (sl < j) := by unfold Hid; omega
          go_wp2_with fail
          refine (count_any lp sl L.ht _ tl).mono ?_
          rintro e w2 ⟨rfl, rfl⟩
          go_wp2_with fail
          refine (count_any lp sl L.ht _ tl).mono ?_
          rintro e w2 ⟨rfl, rfl⟩
          go_wp2_with fail
          refine (count_any lp sl L.ht _ tl).mono ?_
          rintro e w2 ⟨rfl, rfl⟩
          go_wp2_with fail
          obtain ⟨esl, hk, z1, z0⟩ := HK.out
          have hc := HC.out
          go_roundg R.size
          case measure => omega
          case rel => exact ⟨R, j - L.size - 1, rfl, by congr 1; omega, rfl, lR, rfl, by omega, by omega, by rw [HZ.out]; simp only [Tr.nthB]; rw [if_neg (by omega), if_neg (by omega)]⟩

end Go.Proofs.YthbnbocpddddmaaGreat
