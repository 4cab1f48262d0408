import Derived.Test.YthbnbocpddddmaaGreatQE
import Derived.BigRegion
namespace Go.Proofs.YthbnbocpddddmaaGreat
open Go.RowKit

set_option maxHeartbeats 400000 in
theorem first_any (T : Tr) (w : World) (hT : Lies 360 w T) (hp : 0 < T.size) :
    Calls Tryz.prog 260 #[.pointer T.ad] w fun e w' => e = .returned (.pointer (some ⟨T.nthB 0, 0, none⟩)) ∧ w' = w := by
  generalize hTa : T.ad = tp
  have HTA : Hid (T.ad = tp) := hTa
  clear hTa
  go_enter Tryz.func260, Tryz.ntmps260
  go_wp2_with fail
  go_loopg [0] T.size (fun gk s0 wr => ∃ t : Tr, t.size = gk ∧ 0 < t.size ∧ s0 = .pointer t.ad ∧ Lies 360 w t ∧ wr = w ∧ T.nthB 0 = t.nthB 0)
  case atStart => exact ⟨T, rfl, hp, by rw [HTA.out], hT, rfl, rfl⟩
  case round =>
    obtain ⟨t, hk, z0, rfl, hl, rfl, z2⟩ := hrel
    cases t with
    | nil => simp [Tr.size] at z0
    | node b L k1 v1 R =>
      have c2 : wr.cell? ⟨b, 2, none⟩ = some (.pointer L.ad) := cell_of hl.1 2
      have lL := hl.2.1
      have HZ : Hid (T.nthB 0 = (Tr.node b L k1 v1 R).nthB 0) := z2
      clear z2 hl z0
      show Code.wp _ _ _ _ _
      simp only [Tr.ad]
      cases L with
      | nil =>
        simp only [Tr.ad] at c2
        clear lL hk
        go_wp2_with fail
        go_ret
        rw [HZ.out]
        exact ⟨by simp [Tr.nthB, Tr.size], rfl⟩
      | node b2 L2 k2 v2 R2 =>
        simp only [Tr.ad] at c2
        have HK : Hid ((Tr.node b (.node b2 L2 k2 v2 R2) k1 v1 R).size = gk) := hk
        clear hk
        go_wp2_with fail
        go_roundg (Tr.node b2 L2 k2 v2 R2).size
        case measure => have := HK.out; simp only [Tr.size] at *; omega
        case rel => exact ⟨.node b2 L2 k2 v2 R2, rfl, by simp [Tr.size], rfl, lL, rfl, by rw [HZ.out]; simp [Tr.nthB, Tr.size]⟩

/-- What remove comes to. -/
def Removed (w w' : World) (t T : Tr) (i : Nat) : Prop :=
  Lies 360 w' T ∧ T.avl ∧ T.items = t.items.eraseIdx i ∧ T.ht ≤ t.ht ∧ t.ht ≤ T.ht + 1 ∧ (∀ x, T.has x → t.has x) ∧ Fr (fun x => t.has x) w w'

theorem erase_left {α : Type} (a c : List α) (x : α) (i : Nat) (h : i < a.length) : a.eraseIdx i ++ x :: c = (a ++ x :: c).eraseIdx i := by
  rw [List.eraseIdx_append_of_lt_length h]
theorem erase_right {α : Type} (a c : List α) (x : α) (i : Nat) (h : a.length < i) : a ++ x :: c.eraseIdx (i - a.length - 1) = (a ++ x :: c).eraseIdx i := by
  rw [List.eraseIdx_append_of_length_le (by omega)]
  obtain ⟨j, rfl⟩ : ∃ j, i = a.length + 1 + j := ⟨i - a.length - 1, by omega⟩
  rw [show a.length + 1 + j - a.length = j + 1 by omega, Nat.add_sub_cancel, List.eraseIdx_cons_succ]
theorem erase_mid {α : Type} (a c : List α) (x : α) : a ++ c = (a ++ x :: c).eraseIdx a.length := by
  rw [List.eraseIdx_append_of_length_le (Nat.le_refl _)]; simp

theorem rem_left {w w1 : World} {b : Nat} {L R T : Tr} {k1 v1 : Int} {i : Nat} (h : Lies 360 w (.node b L k1 v1 R)) (hi : Removed w w1 L T i) :
    w1.cell? ⟨b, 2, none⟩ = some (.pointer L.ad) ∧ w1.frozen? ⟨b, 2, none⟩ = false ∧ Loose (w1.setCell ⟨b, 2, none⟩ (.pointer T.ad)) b T k1 v1 R ∧
      Fr (fun x => x = b ∨ L.has x ∨ R.has x) w (w1.setCell ⟨b, 2, none⟩ (.pointer T.ad)) := by
  obtain ⟨hb, lL, lR, n1, n2, n3⟩ := h
  obtain ⟨lT, aT, eT, h1, h2, hx, fr⟩ := hi
  have hb1 := (fr.block b (lt_of_blk hb) n1).trans hb
  have nT : ¬ T.has b := fun e => n1 (hx b e)
  refine ⟨cell_of hb1 2, frozen_of hb1 2, ⟨⟨_, _, by rw [blk_set hb1 2]; rfl⟩, lT.congr fun x hx => blk_set_ne _ _ fun e => nT (e ▸ hx), (lR.fr fr fun x hx e => n3 x e hx).congr fun x hx => blk_set_ne _ _ fun e => n2 (e ▸ hx), nT, n2, fun x hx' e => n3 x (hx x hx') e⟩, ?_⟩
  exact Fr.setCell (fr.mono fun x _ e => Or.inr (Or.inl e)) (by exact fun _ => Or.inl rfl) _

/-- On the right; the node's own key and value may have been set anew (k2, v2 in the world w). -/
theorem rem_right {w w1 : World} {b : Nat} {L R T : Tr} {k1 v1 : Int} {i : Nat} (h : Loose w b L k1 v1 R) (hi : Removed w w1 R T i) :
    w1.cell? ⟨b, 3, none⟩ = some (.pointer R.ad) ∧ w1.frozen? ⟨b, 3, none⟩ = false ∧ Loose (w1.setCell ⟨b, 3, none⟩ (.pointer T.ad)) b L k1 v1 T ∧
      Fr (fun x => x = b ∨ L.has x ∨ R.has x) w (w1.setCell ⟨b, 3, none⟩ (.pointer T.ad)) := by
  obtain ⟨⟨s, g, hb⟩, lL, lR, n1, n2, n3⟩ := h
  obtain ⟨lT, aT, eT, h1, h2, hx, fr⟩ := hi
  have hb1 := (fr.block b (lt_of_blk hb) n2).trans hb
  have nT : ¬ T.has b := fun e => n2 (hx b e)
  refine ⟨cell_of hb1 3, frozen_of hb1 3, ⟨⟨_, _, by rw [blk_set hb1 3]; rfl⟩, (lL.fr fr fun x hx e => n3 x hx e).congr fun x hx => blk_set_ne _ _ fun e => n1 (e ▸ hx), lT.congr fun x hx => blk_set_ne _ _ fun e => nT (e ▸ hx), n1, nT, fun x hx' e => n3 x hx' (hx x e)⟩, ?_⟩
  exact Fr.setCell (fr.mono fun x _ e => Or.inr (Or.inr e)) (by exact fun _ => Or.inl rfl) _

/-- Behind balanced. -/
theorem rem_fin {w w2 w3 : World} {b : Nat} {L R L' R' U : Tr} {k1 v1 k2 v2 : Int} {i : Nat} (lU : Lies 360 w3 U) (aU : U.avl) (eU : U.items = L'.items ++ (k2, v2) :: R'.items)
    (u1 : max L'.ht R'.ht ≤ U.ht) (u2 : U.ht ≤ max L'.ht R'.ht + 1) (u3 : L'.ht ≤ R'.ht + 1 → R'.ht ≤ L'.ht + 1 → U.ht = max L'.ht R'.ht + 1) (ux : ∀ x, U.has x ↔ x = b ∨ L'.has x ∨ R'.has x) (ufr : Fr (fun x => x = b ∨ L'.has x ∨ R'.has x) w2 w3)
    (hfr : Fr (fun x => x = b ∨ L.has x ∨ R.has x) w w2) (hL : ∀ x, L'.has x → L.has x) (hR : ∀ x, R'.has x → R.has x) (a1 : L.ht ≤ R.ht + 1) (a2 : R.ht ≤ L.ht + 1)
    (q1 : L'.ht ≤ L.ht) (q2 : L.ht ≤ L'.ht + 1) (q3 : R'.ht ≤ R.ht) (q4 : R.ht ≤ R'.ht + 1) (q5 : L'.ht = L.ht ∨ R'.ht = R.ht) (he : L'.items ++ (k2, v2) :: R'.items = (L.items ++ (k1, v1) :: R.items).eraseIdx i) :
    Removed w w3 (.node b L k1 v1 R) U i := by
  refine ⟨lU, aU, by rw [eU, he]; rfl, ?_, ?_, ?_, ?_⟩
  · simp only [Tr.ht]; omega
  · simp only [Tr.ht]; omega
  · intro x hx
    rcases (ux x).1 hx with e | e | e
    · exact Or.inl e
    · exact Or.inr (Or.inl (hL x e))
    · exact Or.inr (Or.inr (hR x e))
  · refine Fr.trans hfr ufr ?_
    rintro x _ (e | e | e)
    · exact Or.inl e
    · exact Or.inr (Or.inl (hL x e))
    · exact Or.inr (Or.inr (hR x e))

theorem loose_set {w : World} {b : Nat} {L R : Tr} {k1 v1 : Int} (h : Lies 360 w (.node b L k1 v1 R)) (k v : Int) :
    Loose ((w.setCell ⟨b, 0, none⟩ (kv k)).setCell ⟨b, 1, none⟩ (kv v)) b L k v R := by
  obtain ⟨hb, lL, lR, n1, n2, n3⟩ := h
  have e0 : ∀ x, x ≠ b → ((w.setCell ⟨b, 0, none⟩ (kv k)).setCell ⟨b, 1, none⟩ (kv v)).heap[x]? = w.heap[x]? := fun x hx => by rw [blk_set_ne _ _ hx, blk_set_ne _ _ hx]
  exact ⟨⟨_, _, by rw [blk_set (blk_set hb 0 _) 1 _]; rfl⟩, lL.congr fun x hx => e0 x fun e => n1 (e ▸ hx), lR.congr fun x hx => e0 x fun e => n2 (e ▸ hx), n1, n2, n3⟩

theorem head_erase {α : Type} {l : List α} {x : α} (h : l[0]? = some x) : x :: l.eraseIdx 0 = l := by
  cases l with
  | nil => simp at h
  | cons y l => simp at h; subst h; rfl

set_option maxHeartbeats 1000000 in
theorem remove_any (t : Tr) : ∀ (i : Int) (w : World), Lies 360 w t → t.avl → 0 ≤ i → i < t.size → t.size ≤ 10000 →
    Calls Tryz.prog 258 #[.pointer t.ad, .int .i64 i] w fun e w' => ∃ T : Tr, e = .returned (.pointer T.ad) ∧ Removed w w' t T i.toNat := by
  induction t with
  | nil => intro i w _ _ i0 i1 _; simp [Tr.size] at i1; omega
  | node b L k1 v1 R ihl ihr =>
    intro i w hlies ha i0 i1 hsz
    have hlies' := hlies
    obtain ⟨hb, lL, lR, n1, n2, n3⟩ := hlies'
    obtain ⟨aL, aR, q1, q2⟩ := ha
    simp only [Tr.size] at i1 hsz
    have c2 : w.cell? ⟨b, 2, none⟩ = some (.pointer L.ad) := cell_of hb 2
    have c3 : w.cell? ⟨b, 3, none⟩ = some (.pointer R.ad) := cell_of hb 3
    have tl := lL.top
    have sL := L.size_items
    have sR := R.size_items
    show Calls Tryz.prog 258 #[.pointer (some ⟨b, 0, none⟩), .int .i64 i] w _
    obtain ⟨sl, esl⟩ : ∃ sl : Int, sl = L.size := ⟨_, rfl⟩
    rw [← esl] at tl
    by_cases ca : i < L.size
    · have hl := fun w' (e : w' = w) => ihl i w' (e ▸ lL) aL i0 ca (by omega)
      have hrem := fun w1 T => rem_left (w1 := w1) (T := T) (i := i.toNat) hlies
      have ci : i < sl := by omega
      have HS : Hid (L.size + R.size + 1 ≤ 10000 ∧ L.ht ≤ R.ht + 1 ∧ R.ht ≤ L.ht + 1 ∧ 0 ≤ i ∧ i < L.size ∧ L.items.length = L.size) := ⟨hsz, q1, q2, i0, ca, sL⟩
      clear ihl ihr hb n1 n2 n3 hlies esl hsz q1 q2 ca sL sR i1
      generalize hL : L.ad = lp at *
      go_enter Tryz.func258, Tryz.ntmps258
      go_wp2_with fail
      refine (count_any lp sl L.ht _ tl).mono ?_
      rintro e w1 ⟨rfl, rfl⟩
      go_wp2_with fail
      refine (hl _ rfl).mono ?_
      rintro e w2 ⟨T, rfl, hT⟩
      obtain ⟨d2, f2, hlo, hfr⟩ := hrem w2 T hT
      obtain ⟨lT, aT, eT, g1, g2, gx, gfr⟩ := hT
      obtain ⟨hsz, q1, q2, i0, ca, sL⟩ := HS.out
      have sT := T.size_items
      rw [eT, List.length_eraseIdx_of_lt (by omega)] at sT
      have HT : Hid (T.items = L.items.eraseIdx i.toNat) := eT
      have HB : Hid (T.size + R.size ≤ 20000 ∧ T.ht ≤ R.ht + 2 ∧ R.ht ≤ T.ht + 2) := ⟨by omega, by omega, by omega⟩
      clear eT sT sL hsz
      go_wp2_with fail
      refine (balanced_any b T R k1 v1 _ hlo HB.out.1 aT aR HB.out.2.1 HB.out.2.2).mono ?_
      rintro e w3 ⟨U, rfl, lU, aU, eU, u1, u2, u3, ux, ufr⟩
      go_wp2_with fail
      go_ret
      obtain ⟨hsz, q1, q2, i0, ca, sL⟩ := HS.out
      refine ⟨U, rfl, rem_fin lU aU eU u1 u2 u3 ux ufr hfr gx (fun _ h => h) q1 q2 g1 g2 (Nat.le_refl _) (by omega) (Or.inr rfl) ?_⟩
      rw [HT.out]; exact erase_left _ _ _ _ (by omega)
    · by_cases cb : (L.size : Int) < i
      · have hl := fun w' (e : w' = w) => ihr (i - sl - 1) w' (e ▸ lR) aR (by omega) (by omega) (by omega)
        have hrem := fun w1 T => rem_right (w1 := w1) (T := T) (i := (i - sl - 1).toNat) hlies.loose
        have ci : ¬ i < sl := by omega
        have ci2 : sl < i := by omega
        have ci3 : i ≤ 10000 := by omega
        have ci4 : 0 ≤ sl := by omega
        have HS : Hid (L.size + R.size + 1 ≤ 10000 ∧ L.ht ≤ R.ht + 1 ∧ R.ht ≤ L.ht + 1 ∧ (L.size : Int) < i ∧ i < L.size + R.size + 1 ∧ L.items.length = L.size ∧ R.items.length = R.size ∧ sl = L.size) := ⟨hsz, q1, q2, cb, by omega, sL, sR, esl⟩
        clear ihl ihr hb n1 n2 n3 hlies esl hsz q1 q2 ca cb sL sR i1
        generalize hL : L.ad = lp at *
        generalize hR : R.ad = rp at *
        go_enter Tryz.func258, Tryz.ntmps258
        go_wp2_with fail
        refine (count_any lp sl L.ht _ tl).mono ?_
        rintro e w1 ⟨rfl, rfl⟩
        go_wp2_with fail
        refine (hl _ rfl).mono ?_
        rintro e w2 ⟨T, rfl, hT⟩
        obtain ⟨d2, f2, hlo, hfr⟩ := hrem w2 T hT
        obtain ⟨lT, aT, eT, g1, g2, gx, gfr⟩ := hT
        obtain ⟨hsz, q1, q2, cb, i1, sL, sR, esl⟩ := HS.out
        have sT := T.size_items
        rw [eT, List.length_eraseIdx_of_lt (by omega)] at sT
        have HT : Hid (T.items = R.items.eraseIdx (i - sl - 1).toNat) := eT
        have HB : Hid (L.size + T.size ≤ 20000 ∧ L.ht ≤ T.ht + 2 ∧ T.ht ≤ L.ht + 2) := ⟨by omega, by omega, by omega⟩
        clear eT sT sL sR hsz esl
        go_wp2_with fail
        refine (balanced_any b L T k1 v1 _ hlo HB.out.1 aL aT HB.out.2.1 HB.out.2.2).mono ?_
        rintro e w3 ⟨U, rfl, lU, aU, eU, u1, u2, u3, ux, ufr⟩
        go_wp2_with fail
        go_ret
        obtain ⟨hsz, q1, q2, cb, i1, sL, sR, esl⟩ := HS.out
        refine ⟨U, rfl, rem_fin lU aU eU u1 u2 u3 ux ufr hfr (fun _ h => h) gx q1 q2 (Nat.le_refl _) (by omega) g1 g2 (Or.inl rfl) ?_⟩
        rw [HT.out, show (i - sl - 1).toNat = i.toNat - L.items.length - 1 by omega]; exact erase_right _ _ _ _ (by omega)
      · have ei : i = sl := by omega
        have ej : i.toNat = L.items.length := by omega
        rw [ej, ei]
        have hmid := erase_mid L.items R.items (k1, v1)
        by_cases eL : L.size = 0
        · have hLn : L = .nil := by cases L with | nil => rfl | node => simp [Tr.size] at eL
          subst hLn
          have HF : Hid (Removed w w (.node b .nil k1 v1 R) R (Tr.items .nil).length) := by
            refine ⟨lR, aR, hmid, ?_, ?_, fun x h => Or.inr (Or.inr h), Fr.refl _ _⟩
            · simp only [Tr.ht]; omega
            · simp only [Tr.ht] at *; omega
          simp only [Tr.ad] at c2 tl
          clear ihl ihr hb n1 n2 n3 hlies lL lR esl hmid ei ej
          generalize hR : R.ad = rp at *
          go_enter Tryz.func258, Tryz.ntmps258
          go_wp2_with fail
          refine (count_any none sl _ _ tl).mono ?_
          rintro e w1 ⟨rfl, rfl⟩
          go_wp2_with fail
          go_ret
          exact ⟨R, by rw [hR]; rfl, HF.out⟩
        · by_cases eR : R.size = 0
          · have hRn : R = .nil := by cases R with | nil => rfl | node => simp [Tr.size] at eR
            subst hRn
            obtain ⟨cb2, L2, k2, v2, R2, rfl⟩ : ∃ cb2 L2 k2 v2 R2, L = .node cb2 L2 k2 v2 R2 := by cases L with | nil => simp [Tr.size] at eL | node a b c d e => exact ⟨a, b, c, d, e, rfl⟩
            have HF : Hid (Removed w w (.node b (.node cb2 L2 k2 v2 R2) k1 v1 .nil) (.node cb2 L2 k2 v2 R2) (Tr.items (.node cb2 L2 k2 v2 R2)).length) := by
              refine ⟨lL, aL, ?_, ?_, ?_, fun x h => Or.inr (Or.inl h), Fr.refl _ _⟩
              · exact (List.append_nil _).symm.trans hmid
              · simp only [Tr.ht]; omega
              · simp only [Tr.ht] at *; omega
            simp only [Tr.ad] at c2 c3 tl
            clear ihl ihr hb n1 n2 n3 hlies lL lR esl hmid ei ej
            go_enter Tryz.func258, Tryz.ntmps258
            go_wp2_with fail
            refine (count_any _ sl _ _ tl).mono ?_
            rintro e w1 ⟨rfl, rfl⟩
            go_wp2_with fail
            go_ret
            exact ⟨_, rfl, HF.out⟩
          · obtain ⟨cb2, L2, k2, v2, R2, rfl⟩ : ∃ cb2 L2 k2 v2 R2, L = .node cb2 L2 k2 v2 R2 := by cases L with | nil => simp [Tr.size] at eL | node a b c d e => exact ⟨a, b, c, d, e, rfl⟩
            have hRp : 0 < R.size := by omega
            have hfirst := fun w' (e : w' = w) => first_any R w' (e ▸ lR) hRp
            obtain ⟨kn, vn, lp2, rp2, s2, g2, hbn, hin⟩ := lR.nth 0 hRp
            have hhn := R.has_nthB 0 hRp
            have hbne : R.nthB 0 ≠ b := fun e => n2 (e ▸ hhn)
            have d0 : w.cell? ⟨R.nthB 0, 0, none⟩ = some (kv kn) := cell_of hbn 0
            have d1 : w.cell? ⟨R.nthB 0, 1, none⟩ = some (kv vn) := cell_of hbn 1
            have e0 : w.cell? ⟨b, 0, none⟩ = some (kv k1) := cell_of hb 0
            have e1 : w.cell? ⟨b, 1, none⟩ = some (kv v1) := cell_of hb 1
            have f0 : w.frozen? ⟨b, 0, none⟩ = false := frozen_of hb 0
            have f1 : w.frozen? ⟨b, 1, none⟩ = false := frozen_of hb 1
            have hls := loose_set hlies kn vn
            have hfrs : Fr (fun x => x = b ∨ (Tr.node cb2 L2 k2 v2 R2).has x ∨ R.has x) w ((w.setCell ⟨b, 0, none⟩ (kv kn)).setCell ⟨b, 1, none⟩ (kv vn)) := Fr.setCell (Fr.setCell (Fr.refl _ _) (by exact fun _ => Or.inl rfl) _) (by exact fun _ => Or.inl rfl) _
            have hl := fun w' (e : w'.heap = ((w.setCell ⟨b, 0, none⟩ (kv kn)).setCell ⟨b, 1, none⟩ (kv vn)).heap) => ihr 0 w' (hls.2.2.1.congr fun x _ => by rw [e]) aR (by omega) (by omega) (by omega)
            have hrem := fun w0 w1 T (e : w0.heap = ((w.setCell ⟨b, 0, none⟩ (kv kn)).setCell ⟨b, 1, none⟩ (kv vn)).heap) => rem_right (w := w0) (w1 := w1) (T := T) (i := (0 : Int).toNat) (hls.congr fun x _ => by rw [e])
            have HS : Hid ((Tr.node cb2 L2 k2 v2 R2).size + R.size + 1 ≤ 10000 ∧ (Tr.node cb2 L2 k2 v2 R2).ht ≤ R.ht + 1 ∧ R.ht ≤ (Tr.node cb2 L2 k2 v2 R2).ht + 1 ∧ R.items.length = R.size ∧ R.items[0]? = some (kn, vn) ∧ 0 < R.size) := ⟨hsz, q1, q2, sR, hin, hRp⟩
            have HM : Hid ((Tr.node cb2 L2 k2 v2 R2).items ++ R.items = ((Tr.node cb2 L2 k2 v2 R2).items ++ (k1, v1) :: R.items).eraseIdx (Tr.node cb2 L2 k2 v2 R2).items.length) := hmid
            obtain ⟨rb, L3, k3, v3, R3, hRr⟩ : ∃ rb L3 k3 v3 R3, R = .node rb L3 k3 v3 R3 := by cases R with | nil => simp [Tr.size] at eR | node a b c d e => exact ⟨a, b, c, d, e, rfl⟩
            have hRa : R.ad = some ⟨rb, 0, none⟩ := by rw [hRr]; rfl
            rw [hRa] at c3 hfirst hl
            have hrad := fun w1 : World => hRa
            simp only [Tr.ad] at c2 tl
            have c3' : ((w.setCell ⟨b, 0, none⟩ (kv kn)).setCell ⟨b, 1, none⟩ (kv vn)).cell? ⟨b, 3, none⟩ = some (.pointer (some ⟨rb, 0, none⟩)) := by
              rw [World.cell?_setCell_other _ _ _ _ (by simp), World.cell?_setCell_other _ _ _ _ (by simp)]; exact c3
            generalize R.nthB 0 = bn at *
            generalize (Tr.node cb2 L2 k2 v2 R2) = LL at *
            clear ihl ihr hb n1 n2 n3 hlies lL lR esl hmid ei ej hls hhn hbn hin hRr hRa hrad hsz sL sR eL eR q1 q2 i0 i1 ca cb hRp
            have hbne' : b ≠ bn := Ne.symm hbne
            have hsc := store_c
            go_enter Tryz.func258, Tryz.ntmps258
            go_wp2_with fail
            refine (count_any _ sl _ _ tl).mono ?_
            rintro e w1 ⟨rfl, rfl⟩
            go_wp2_with fail
            refine (hfirst _ rfl).mono ?_
            rintro e w1 ⟨rfl, rfl⟩
            go_wp2_with fail
            go_region
            go_wp2_with fail
            refine (hl _ (by exact rfl)).mono ?_
            rintro e w2 ⟨T, rfl, hT⟩
            obtain ⟨d2, f2, hlo, hfr⟩ := hrem _ w2 T (by exact rfl) hT
            obtain ⟨lT, aT, eT, g1, g2, gx, gfr⟩ := hT
            obtain ⟨hsz, q1, q2, sR, hin, hRp⟩ := HS.out
            have sT := T.size_items
            rw [eT, List.length_eraseIdx_of_lt (by simp; omega)] at sT
            have HT : Hid (T.items = R.items.eraseIdx 0) := eT
            have HB : Hid (LL.size + T.size ≤ 20000 ∧ LL.ht ≤ T.ht + 2 ∧ T.ht ≤ LL.ht + 2) := ⟨by omega, by omega, by omega⟩
            have HFR : Hid (Fr (fun x => x = b ∨ LL.has x ∨ R.has x) w1 (w2.setCell ⟨b, 3, none⟩ (.pointer T.ad))) := Fr.trans hfrs (by exact ⟨hfr.os, hfr.tape, hfr.output, hfr.size, hfr.block⟩) (fun _ _ e => e)
            clear eT sT hsz sR hin hRp hl hrem hfirst hfrs hfr c3 c3' d0 d1 e0 e1 f0 f1
            go_wp2_with fail
            refine (balanced_any b LL T kn vn _ hlo HB.out.1 aL aT HB.out.2.1 HB.out.2.2).mono ?_
            rintro e w3 ⟨U, rfl, lU, aU, eU, u1, u2, u3, ux, ufr⟩
            go_wp2_with fail
            go_ret
            obtain ⟨hsz, q1, q2, sR, hin, hRp⟩ := HS.out
            refine ⟨U, rfl, rem_fin lU aU eU u1 u2 u3 ux ufr HFR.out (fun _ h => h) gx q1 q2 (Nat.le_refl _) (by omega) g1 g2 (Or.inl rfl) ?_⟩
            rw [HT.out, head_erase hin]; exact HM.out

set_option maxHeartbeats 400000 in
theorem tRemove_any (p : Nat) (own : Nat → Prop) (xs : Row) (i : Nat) (w : World) (h : EngT w p own xs) (hi : i < xs.length) (hs : xs.length ≤ 5000) :
    Calls Tryz.prog 253 #[.pointer (some ⟨p, 0, none⟩), .int .i64 i] w fun e w' => e = .returned (.tuple #[]) ∧
      ∃ own', EngT w' p own' (xs.eraseIdx i) ∧ (∀ x, own' x → own x ∨ w.heap.size ≤ x) ∧ Fr own w w' := by
  obtain ⟨T, h1, h2, h3, h4, rfl, h6⟩ := h
  have t0 : w.cell? ⟨p, 0, none⟩ = some (.pointer T.ad) := cell_of h1 0
  have e0 := T.size_items
  have hrem := remove_any T i w h2 h3 (by omega) (by omega) (by omega)
  rw [Int.toNat_natCast] at hrem
  have pl := lt_of_blk h1
  generalize hTa : T.ad = tp at t0 hrem
  have HTA : Hid (T.ad = tp) := hTa
  clear hTa
  go_enter Tryz.func253, Tryz.ntmps253
  go_wp2_with fail
  refine hrem.mono ?_
  rintro e w2 ⟨U, rfl, lU, aU, eU, g1, g2, gx, gfr⟩
  have hp2 := (gfr.block p pl h4).trans h1
  have c0 : w2.cell? ⟨p, 0, none⟩ = some (.pointer T.ad) := cell_of hp2 0
  have f0 : w2.frozen? ⟨p, 0, none⟩ = false := frozen_of hp2 0
  have nU : ¬ U.has p := fun e => h4 (gx p e)
  go_wp2_with fail
  go_end0
  refine ⟨rfl, fun x => x = p ∨ U.has x, ⟨U, ?_, lU.congr fun x hx => blk_set_ne _ _ fun e => nU (e ▸ hx), aU, nU, eU, fun x => Iff.rfl⟩, fun x hx => ?_, ?_⟩
  · rw [blk_set hp2 0]; rfl
  · rcases hx with e | e
    · exact Or.inl ((h6 x).2 (Or.inl e))
    · exact Or.inl ((h6 x).2 (Or.inr (gx x e)))
  · exact Fr.setCell (gfr.mono fun x _ e => (h6 x).2 (Or.inr e)) (by exact fun _ => (h6 p).2 (Or.inl rfl)) _

end Go.Proofs.YthbnbocpddddmaaGreat

namespace Go.Proofs.YthbnbocpddddmaaGreat
open Go.RowKit


theorem method_removeT (a : Addr) (w : World) : (method 489 130 (.pointer (some a)) "Remove").run Tryz.prog w = .ok (253, .pointer (some a)) w := by kernel_rfl

set_option maxRecDepth 100000 in
set_option maxHeartbeats 600000 in
theorem delete_moreT (m : Nat) (t : Bool) (c : Int) (own : Nat → Prop) (xs : Row) (k : Int) (w : World) (h : MapT w m t c own xs) (b0 : 0 ≤ c) (b1 : c ≤ 8000000000000000000) (hs : xs.length ≤ 400) :
    Calls Tryz.prog 136 #[.pointer (some ⟨m, 0, none⟩), kv k] w fun e w' => ∃ (n : Nat) (own' : Nat → Prop), e = .returned (.tuple #[kv (lget t k xs), .bool (lsame k xs)]) ∧
      MapT w' m t (c + n) own' (ldel t k xs) ∧ n ≤ 3 * dg (xs.length + 1) ∧ (0 < xs.length → 1 ≤ n) ∧ (∀ x, own' x → own x ∨ w.heap.size ≤ x) ∧ Fr own w w' := by
  have hfind := find_anyT m t c own xs k w h b0 b1 (by omega)
  have hsr : Srt t xs := h.choose_spec.choose_spec.2.2.2.2
  have hom : own m := (h.choose_spec.choose_spec.2.2.2.1 m).2 (Or.inl rfl)
  have hmeth := method_atT
  have hmeth2 := method_removeT
  unfold ldel lget
  clear h
  cases hsm : lsame k xs with
  | true =>
    obtain ⟨⟨kq, u⟩, hu, _⟩ := at_rank hsr hsm
    rw [hsm] at hfind
    simp only [if_true]
    rw [hu]
    simp only [Option.getD_some]
    have hlt := (List.getElem?_eq_some_iff.1 hu).1
    have HU : Hid (xs[lrank t k xs]? = some (kq, u)) := hu
    have HP : Hid (Srt t (xs.eraseIdx (lrank t k xs))) := List.Pairwise.sublist (List.eraseIdx_sublist _ _) hsr
    clear hsm hu hsr
    go_enter Tryz.func136, Tryz.ntmps136
    go_wp2_with fail
    refine hfind.mono ?_
    rintro e w3 ⟨n, rfl, g1, g2, g3, g4⟩
    obtain ⟨p, oE, h1, h2, h3, h4, h5⟩ := g1
    have c2 : w3.cell? ⟨m, 3, none⟩ = some (.iface 130 (.pointer (some ⟨p, 0, none⟩))) := cell_of h1 3
    have hat := tAt_any p oE xs (lrank t k xs) kq u w3 h2 HU.out (by omega)
    go_wp2_with fail
    refine hat.mono ?_
    rintro e w4 ⟨rfl, fr⟩
    have h1' := (fr.block m (lt_of_blk h1) (fun e => e)).trans h1
    have c2' : w4.cell? ⟨m, 3, none⟩ = some (.iface 130 (.pointer (some ⟨p, 0, none⟩))) := cell_of h1' 3
    have hrem := tRemove_any p oE xs (lrank t k xs) w4 (h2.fr fr fun _ _ e => e) hlt (by omega)
    go_wp2_with fail
    refine hrem.mono ?_
    rintro e w5 ⟨rfl, oE', q1, q2, q3⟩
    go_wp2_with fail
    go_ret2
    have nm : ¬ oE' m := fun e => by
      rcases q2 m e with e | e
      · exact h3 e
      · have := lt_of_blk h1'; omega
    refine ⟨n, fun x => x = m ∨ oE' x, rfl, ⟨p, oE', (q3.block m (lt_of_blk h1') h3).trans h1', q1, nm, fun x => Iff.rfl, HP.out⟩, g2, g3, fun x hx => ?_, ?_⟩
    · rcases hx with e | e
      · rw [e]; exact Or.inl hom
      · rcases q2 x e with e | e
        · exact Or.inl ((h4 x).2 (Or.inr e))
        · exact Or.inr (Nat.le_trans (Nat.le_trans g4.size fr.size) e)
    · exact ((g4.mono fun x _ e => by rw [e]; exact hom).trans fr fun _ _ e => e.elim).trans q3 fun x _ e => (h4 x).2 (Or.inr e)
  | false =>
    rw [hsm] at hfind
    simp only [Bool.false_eq_true, if_false]
    clear hsm hsr
    go_enter Tryz.func136, Tryz.ntmps136
    go_wp2_with fail
    refine hfind.mono ?_
    rintro e w3 ⟨n, rfl, g1, g2, g3, g4⟩
    go_wp2_with fail
    go_ret2
    exact ⟨n, own, rfl, g1, g2, g3, fun x hx => Or.inl hx, g4.mono fun x _ e => by rw [e]; exact hom⟩

theorem delete_anyT (m : Nat) (t : Bool) (c : Int) (own : Nat → Prop) (xs : Row) (k : Int) (w : World) (h : MapT w m t c own xs) (b0 : 0 ≤ c) (b1 : c ≤ 8000000000000000000) (hs : xs.length ≤ 400) :
    Calls Tryz.prog 136 #[.pointer (some ⟨m, 0, none⟩), kv k] w fun e w' => ∃ (n : Nat) (own' : Nat → Prop), e = .returned (.tuple #[kv (lget t k xs), .bool (lsame k xs)]) ∧
      MapT w' m t (c + n) own' (ldel t k xs) ∧ n ≤ 3 * dg (xs.length + 1) ∧ (∀ x, own' x → own x ∨ w.heap.size ≤ x) ∧ Fr own w w' :=
  (delete_moreT m t c own xs k w h b0 b1 hs).mono fun _ _ ⟨n, o, q1, q2, q3, _, q5⟩ => ⟨n, o, q1, q2, q3, q5⟩

end Go.Proofs.YthbnbocpddddmaaGreat
