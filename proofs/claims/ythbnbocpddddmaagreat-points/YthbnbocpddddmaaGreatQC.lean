import Derived.Test.YthbnbocpddddmaaGreatQA
namespace Go.Proofs.YthbnbocpddddmaaGreat
open Go.RowKit

set_option maxHeartbeats 1000000 in
theorem measure_any (b : Nat) (k v : Int) (lp rp : Option Addr) (s0 h0 sl hl sr hr : Int) (w : World) (hb : w.heap[b]? = some (nodeBlk 360 k v lp rp s0 h0))
    (tl : Top 360 w lp sl hl) (tr : Top 360 w rp sr hr) (nl : lp ≠ some ⟨b, 0, none⟩) (nr : rp ≠ some ⟨b, 0, none⟩)
    (b1 : 0 ≤ sl) (b2 : sl ≤ 100000) (b3 : 0 ≤ sr) (b4 : sr ≤ 100000) (b5 : 0 ≤ hl) (b6 : hl ≤ 100000) (b7 : 0 ≤ hr) (b8 : hr ≤ 100000) :
    Calls Tryz.prog 264 #[.pointer (some ⟨b, 0, none⟩)] w fun e w' => e = .returned (.tuple #[]) ∧
      w'.heap[b]? = some (nodeBlk 360 k v lp rp (sl + sr + 1) (max hl hr + 1)) ∧ Fr (fun x => x = b) w w' := by
  have c2 : w.cell? ⟨b, 2, none⟩ = some (.pointer lp) := cell_of hb 2
  have c3 : w.cell? ⟨b, 3, none⟩ = some (.pointer rp) := cell_of hb 3
  have c4 : w.cell? ⟨b, 4, none⟩ = some (.int .i64 s0) := cell_of hb 4
  have c5 : w.cell? ⟨b, 5, none⟩ = some (.int .i64 h0) := cell_of hb 5
  have f4 : w.frozen? ⟨b, 4, none⟩ = false := frozen_of hb 4
  have f5 : w.frozen? ⟨b, 5, none⟩ = false := frozen_of hb 5
  have e1 : IntKind.i64.wrap (sl + sr) = sl + sr := by rw [IntKind.wrap_i64]; omega
  have e2 : IntKind.i64.wrap (sl + sr + 1) = sl + sr + 1 := by rw [IntKind.wrap_i64]; omega
  go_enter Tryz.func264, Tryz.ntmps264
  go_wp2_with fail
  go_region_held3 (fun w' => w'.cell? ⟨b, 2, none⟩ = some (.pointer lp) ∧ w'.cell? ⟨b, 3, none⟩ = some (.pointer rp)) (refine ⟨?_, ?_⟩ <;> simp [World.cell?_setCell_other, c2, c3])
   (first
    | (go_at_call_of 256 (Value.pointer lp); refine (count_any lp sl hl _ (by exact tl.congr fun _ _ => rfl)).mono ?_; rintro e w1 ⟨rfl, rfl⟩)
    | (go_at_call_of 256 (Value.pointer rp); refine (count_any rp sr hr _ (by exact tr.congr fun _ _ => rfl)).mono ?_; rintro e w1 ⟨rfl, rfl⟩))
  go_wp2_with fail
  go_region_held3 (fun w' => w'.cell? ⟨b, 2, none⟩ = some (.pointer lp) ∧ w'.cell? ⟨b, 3, none⟩ = some (.pointer rp)) (refine ⟨?_, ?_⟩ <;> simp [World.cell?_setCell_other, c2, c3])
   (first
    | (go_at_call_of 261 (Value.pointer lp); refine (levels_any lp sl hl _ (by exact tl.congr fun x hx => Below.heap_setCell _ _ _ _ (fun e => nl (by rw [hx, e])))).mono ?_; rintro e w1 ⟨rfl, rfl⟩)
    | (go_at_call_of 261 (Value.pointer rp); refine (levels_any rp sr hr _ (by exact tr.congr fun x hx => Below.heap_setCell _ _ _ _ (fun e => nr (by rw [hx, e])))).mono ?_; rintro e w1 ⟨rfl, rfl⟩))
  go_end0
  have em : IntKind.i64.wrap ((if hl < hr then hr else hl) + 1) = max hl hr + 1 := by rw [IntKind.wrap_i64]; split <;> omega
  exact ⟨rfl, (blk_set (blk_set hb 4 _) 5 _).trans (by rw [em]; rfl), Fr.drew (Fr.drew (Fr.setCell (Fr.setCell (Fr.refl _ w) (by exact fun _ => rfl) _) (by exact fun _ => rfl) _))⟩

/-- A node whose two numbers may be stale, over two trees that lie. -/
def Loose (w : World) (b : Nat) (L : Tr) (k v : Int) (R : Tr) : Prop :=
  (∃ s h : Int, w.heap[b]? = some (nodeBlk 360 k v L.ad R.ad s h)) ∧ Lies 360 w L ∧ Lies 360 w R ∧ ¬ L.has b ∧ ¬ R.has b ∧ (∀ x, L.has x → ¬ R.has x)

theorem Lies.loose {w : World} {b : Nat} {L R : Tr} {k v : Int} (h : Lies 360 w (.node b L k v R)) : Loose w b L k v R := ⟨⟨_, _, h.1⟩, h.2⟩

theorem ad_ne {t : Tr} {b : Nat} (h : ¬ t.has b) : t.ad ≠ some ⟨b, 0, none⟩ := by
  cases t with
  | nil => simp [Tr.ad]
  | node c l k v r => intro e; simp [Tr.ad] at e; exact h (Or.inl e.symm)

theorem measure_tree (b : Nat) (L : Tr) (k v : Int) (R : Tr) (w : World) (hl : Loose w b L k v R) (hs : L.size + R.size ≤ 50000) :
    Calls Tryz.prog 264 #[.pointer (some ⟨b, 0, none⟩)] w fun e w' => e = .returned (.tuple #[]) ∧ Lies 360 w' (.node b L k v R) ∧ Fr (fun x => x = b) w w' := by
  obtain ⟨⟨s, h, hb⟩, lL, lR, n1, n2, n3⟩ := hl
  have g1 := L.ht_le_size
  have g2 := R.ht_le_size
  refine (measure_any b k v L.ad R.ad s h L.size L.ht R.size R.ht w hb lL.top lR.top (ad_ne n1) (ad_ne n2) (by omega) (by omega) (by omega) (by omega) (by omega) (by omega) (by omega) (by omega)).mono ?_
  rintro e w1 ⟨rfl, hb1, fr⟩
  refine ⟨rfl, ⟨?_, lL.fr fr fun x hx e => n1 (e ▸ hx), lR.fr fr fun x hx e => n2 (e ▸ hx), n1, n2, n3⟩, fr⟩
  rw [hb1]
  congr 2
  omega

end Go.Proofs.YthbnbocpddddmaaGreat

namespace Go.Proofs.YthbnbocpddddmaaGreat
open Go.RowKit

/-- What the two stores of turnedLow leave. -/
theorem low_pre {w : World} {b c : Nat} {L M R : Tr} {k v k2 v2 : Int} (h : Loose w b L k v (.node c M k2 v2 R)) :
    ∀ w2, w2 = ((w.setCell ⟨b, 3, none⟩ (.pointer M.ad)).setCell ⟨c, 2, none⟩ (.pointer (some ⟨b, 0, none⟩))) →
      Loose w2 b L k v M ∧ Fr (fun x => x = b ∨ x = c) w w2 ∧
      (∀ w3, Fr (fun x => x = b) w2 w3 → Lies 360 w3 (.node b L k v M) → Loose w3 c (.node b L k v M) k2 v2 R) := by
  rintro w2 rfl
  obtain ⟨⟨s, g, hb⟩, lL, ⟨hc, lM, lR, m1, m2, m3⟩, n1, n2, n3⟩ := h
  have hbc : b ≠ c := fun e => n2 (Or.inl e)
  have nM : ¬ M.has b := fun e => n2 (Or.inr (Or.inl e))
  have nR : ¬ R.has b := fun e => n2 (Or.inr (Or.inr e))
  have cL : ¬ L.has c := fun e => n3 c e (Or.inl rfl)
  have e0 : ∀ x, x ≠ b → x ≠ c → ((w.setCell ⟨b, 3, none⟩ (.pointer M.ad)).setCell ⟨c, 2, none⟩ (.pointer (some ⟨b, 0, none⟩))).heap[x]? = w.heap[x]? := fun x h1 h2 => by
    rw [blk_set_ne _ _ h2, blk_set_ne _ _ h1]
  have eb : ((w.setCell ⟨b, 3, none⟩ (.pointer M.ad)).setCell ⟨c, 2, none⟩ (.pointer (some ⟨b, 0, none⟩))).heap[b]? = some (nodeBlk 360 k v L.ad M.ad s g) := by
    rw [blk_set_ne _ _ hbc, blk_set hb 3]; rfl
  have ec : ((w.setCell ⟨b, 3, none⟩ (.pointer M.ad)).setCell ⟨c, 2, none⟩ (.pointer (some ⟨b, 0, none⟩))).heap[c]? = some (nodeBlk 360 k2 v2 (some ⟨b, 0, none⟩) R.ad ((M.size + R.size + 1 : Nat) : Int) ((max M.ht R.ht + 1 : Nat) : Int)) := by
    have : (w.setCell ⟨b, 3, none⟩ (.pointer M.ad)).heap[c]? = some (nodeBlk 360 k2 v2 M.ad R.ad ((M.size + R.size + 1 : Nat) : Int) ((max M.ht R.ht + 1 : Nat) : Int)) := by
      rw [blk_set_ne _ _ (Ne.symm hbc)]; exact hc
    rw [blk_set this 2]; rfl
  refine ⟨⟨⟨s, g, eb⟩, lL.congr fun x hx => e0 x (fun e => n1 (e ▸ hx)) (fun e => cL (e ▸ hx)), lM.congr fun x hx => e0 x (fun e => nM (e ▸ hx)) (fun e => m1 (e ▸ hx)), n1, nM, fun x hx e => n3 x hx (Or.inr (Or.inl e))⟩, ?_, ?_⟩
  · exact Fr.setCell (Fr.setCell (Fr.refl _ _) (by exact fun _ => Or.inl rfl) _) (by exact fun _ => Or.inr rfl) _
  · intro w3 fr hT
    have l2 : c < ((w.setCell ⟨b, 3, none⟩ (.pointer M.ad)).setCell ⟨c, 2, none⟩ (.pointer (some ⟨b, 0, none⟩))).heap.size := lt_of_blk ec
    refine ⟨⟨_, _, (fr.block c l2 (Ne.symm hbc)).trans ec⟩, hT, ?_, ?_, m2, ?_⟩
    · exact (lR.congr fun x hx => e0 x (fun e => nR (e ▸ hx)) (fun e => m2 (e ▸ hx))).fr fr fun x hx e => nR (e ▸ hx)
    · rintro (e | e | e)
      · exact hbc e.symm
      · exact cL e
      · exact m1 e
    · rintro x (e | e | e) hx
      · exact nR (e ▸ hx)
      · exact n3 x e (Or.inr (Or.inr hx))
      · exact m3 x e hx

theorem high_pre {w : World} {b c : Nat} {L M R : Tr} {k v k2 v2 : Int} (h : Loose w b (.node c L k2 v2 M) k v R) :
    ∀ w2, w2 = ((w.setCell ⟨b, 2, none⟩ (.pointer M.ad)).setCell ⟨c, 3, none⟩ (.pointer (some ⟨b, 0, none⟩))) →
      Loose w2 b M k v R ∧ Fr (fun x => x = b ∨ x = c) w w2 ∧
      (∀ w3, Fr (fun x => x = b) w2 w3 → Lies 360 w3 (.node b M k v R) → Loose w3 c L k2 v2 (.node b M k v R)) := by
  rintro w2 rfl
  obtain ⟨⟨s, g, hb⟩, ⟨hc, lL, lM, m1, m2, m3⟩, lR, n1, n2, n3⟩ := h
  have hbc : b ≠ c := fun e => n1 (Or.inl e)
  have nL : ¬ L.has b := fun e => n1 (Or.inr (Or.inl e))
  have nM : ¬ M.has b := fun e => n1 (Or.inr (Or.inr e))
  have cR : ¬ R.has c := fun e => n3 c (Or.inl rfl) e
  have e0 : ∀ x, x ≠ b → x ≠ c → ((w.setCell ⟨b, 2, none⟩ (.pointer M.ad)).setCell ⟨c, 3, none⟩ (.pointer (some ⟨b, 0, none⟩))).heap[x]? = w.heap[x]? := fun x h1 h2 => by
    rw [blk_set_ne _ _ h2, blk_set_ne _ _ h1]
  have eb : ((w.setCell ⟨b, 2, none⟩ (.pointer M.ad)).setCell ⟨c, 3, none⟩ (.pointer (some ⟨b, 0, none⟩))).heap[b]? = some (nodeBlk 360 k v M.ad R.ad s g) := by
    rw [blk_set_ne _ _ hbc, blk_set hb 2]; rfl
  have ec : ((w.setCell ⟨b, 2, none⟩ (.pointer M.ad)).setCell ⟨c, 3, none⟩ (.pointer (some ⟨b, 0, none⟩))).heap[c]? = some (nodeBlk 360 k2 v2 L.ad (some ⟨b, 0, none⟩) ((L.size + M.size + 1 : Nat) : Int) ((max L.ht M.ht + 1 : Nat) : Int)) := by
    have : (w.setCell ⟨b, 2, none⟩ (.pointer M.ad)).heap[c]? = some (nodeBlk 360 k2 v2 L.ad M.ad ((L.size + M.size + 1 : Nat) : Int) ((max L.ht M.ht + 1 : Nat) : Int)) := by
      rw [blk_set_ne _ _ (Ne.symm hbc)]; exact hc
    rw [blk_set this 3]; rfl
  refine ⟨⟨⟨s, g, eb⟩, lM.congr fun x hx => e0 x (fun e => nM (e ▸ hx)) (fun e => m2 (e ▸ hx)), lR.congr fun x hx => e0 x (fun e => n2 (e ▸ hx)) (fun e => cR (e ▸ hx)), nM, n2, fun x hx e => n3 x (Or.inr (Or.inr hx)) e⟩, ?_, ?_⟩
  · exact Fr.setCell (Fr.setCell (Fr.refl _ _) (by exact fun _ => Or.inl rfl) _) (by exact fun _ => Or.inr rfl) _
  · intro w3 fr hT
    have l2 : c < ((w.setCell ⟨b, 2, none⟩ (.pointer M.ad)).setCell ⟨c, 3, none⟩ (.pointer (some ⟨b, 0, none⟩))).heap.size := lt_of_blk ec
    refine ⟨⟨_, _, (fr.block c l2 (Ne.symm hbc)).trans ec⟩, ?_, hT, m1, ?_, ?_⟩
    · exact (lL.congr fun x hx => e0 x (fun e => nL (e ▸ hx)) (fun e => m1 (e ▸ hx))).fr fr fun x hx e => nL (e ▸ hx)
    · rintro (e | e | e)
      · exact hbc e.symm
      · exact m2 e
      · exact cR e
    · rintro x hx (e | e | e)
      · exact nL (e ▸ hx)
      · exact m3 x hx e
      · exact n3 x (Or.inr (Or.inl hx)) e

set_option maxHeartbeats 400000 in
theorem turnedLow_any (b c : Nat) (L M R : Tr) (k v k2 v2 : Int) (w : World) (h : Loose w b L k v (.node c M k2 v2 R)) (hs : L.size + M.size + R.size ≤ 40000) :
    Calls Tryz.prog 262 #[.pointer (some ⟨b, 0, none⟩)] w fun e w' => e = .returned (.pointer (some ⟨c, 0, none⟩)) ∧
      Lies 360 w' (.node c (.node b L k v M) k2 v2 R) ∧ Fr (fun x => x = b ∨ x = c) w w' := by
  obtain ⟨p1, p2, p3⟩ := low_pre h _ rfl
  obtain ⟨⟨s, g, hb⟩, lL, ⟨hc, lM, lR, m1, m2, m3⟩, n1, n2, n3⟩ := h
  have hbc : b ≠ c := fun e => n2 (Or.inl e)
  have hcb : c ≠ b := Ne.symm hbc
  have c3 : w.cell? ⟨b, 3, none⟩ = some (.pointer (some ⟨c, 0, none⟩)) := cell_of hb 3
  have d2 : w.cell? ⟨c, 2, none⟩ = some (.pointer M.ad) := cell_of hc 2
  have f3 : w.frozen? ⟨b, 3, none⟩ = false := frozen_of hb 3
  have f2 : w.frozen? ⟨c, 2, none⟩ = false := frozen_of hc 2
  clear hb hc lL lM lR m1 m2 m3 n1 n2 n3
  go_enter Tryz.func262, Tryz.ntmps262
  go_wp2_with fail
  refine (measure_tree b L k v M _ p1 (by omega)).mono ?_
  rintro e w3 ⟨rfl, t3, fr3⟩
  go_wp2_with fail
  refine (measure_tree c (.node b L k v M) k2 v2 R _ (p3 _ fr3 t3) (by simp only [Tr.size]; omega)).mono ?_
  rintro e w4 ⟨rfl, t4, fr4⟩
  go_wp2_with fail
  go_ret
  exact ⟨rfl, t4, (p2.trans fr3 fun _ _ e => Or.inl e).trans fr4 fun _ _ e => Or.inr e⟩

set_option maxHeartbeats 400000 in
theorem turnedHigh_any (b c : Nat) (L M R : Tr) (k v k2 v2 : Int) (w : World) (h : Loose w b (.node c L k2 v2 M) k v R) (hs : L.size + M.size + R.size ≤ 40000) :
    Calls Tryz.prog 263 #[.pointer (some ⟨b, 0, none⟩)] w fun e w' => e = .returned (.pointer (some ⟨c, 0, none⟩)) ∧
      Lies 360 w' (.node c L k2 v2 (.node b M k v R)) ∧ Fr (fun x => x = b ∨ x = c) w w' := by
  obtain ⟨p1, p2, p3⟩ := high_pre h _ rfl
  obtain ⟨⟨s, g, hb⟩, ⟨hc, lL, lM, m1, m2, m3⟩, lR, n1, n2, n3⟩ := h
  have hbc : b ≠ c := fun e => n1 (Or.inl e)
  have hcb : c ≠ b := Ne.symm hbc
  have c3 : w.cell? ⟨b, 2, none⟩ = some (.pointer (some ⟨c, 0, none⟩)) := cell_of hb 2
  have d2 : w.cell? ⟨c, 3, none⟩ = some (.pointer M.ad) := cell_of hc 3
  have f3 : w.frozen? ⟨b, 2, none⟩ = false := frozen_of hb 2
  have f2 : w.frozen? ⟨c, 3, none⟩ = false := frozen_of hc 3
  clear hb hc lL lM lR m1 m2 m3 n1 n2 n3
  go_enter Tryz.func263, Tryz.ntmps263
  go_wp2_with fail
  refine (measure_tree b M k v R _ p1 (by omega)).mono ?_
  rintro e w3 ⟨rfl, t3, fr3⟩
  go_wp2_with fail
  refine (measure_tree c L k2 v2 (.node b M k v R) _ (p3 _ fr3 t3) (by simp only [Tr.size]; omega)).mono ?_
  rintro e w4 ⟨rfl, t4, fr4⟩
  go_wp2_with fail
  go_ret
  exact ⟨rfl, t4, (p2.trans fr3 fun _ _ e => Or.inl e).trans fr4 fun _ _ e => Or.inr e⟩

end Go.Proofs.YthbnbocpddddmaaGreat

namespace Go.Proofs.YthbnbocpddddmaaGreat
open Go.RowKit

theorem Loose.congr {w w' : World} {b : Nat} {L R : Tr} {k v : Int} (h : Loose w b L k v R) (hc : ∀ x, (x = b ∨ L.has x ∨ R.has x) → w'.heap[x]? = w.heap[x]?) : Loose w' b L k v R := by
  obtain ⟨⟨s, g, hb⟩, lL, lR, n⟩ := h
  exact ⟨⟨s, g, (hc b (Or.inl rfl)).trans hb⟩, lL.congr fun x hx => hc x (Or.inr (Or.inl hx)), lR.congr fun x hx => hc x (Or.inr (Or.inr hx)), n⟩

theorem Top.same {T : TypeId} {w w' : World} {p : Option Addr} {s h : Int} (t : Top T w p s h) (hc : w'.heap = w.heap) : Top T w' p s h := t.congr fun b _ => by rw [hc]

set_option maxHeartbeats 1000000 in
theorem balanced_mid (b : Nat) (L R : Tr) (k v : Int) (w : World) (h : Loose w b L k v R) (hs : L.size + R.size ≤ 30000)
    (h1 : L.ht ≤ R.ht + 1) (h2 : R.ht ≤ L.ht + 1) :
    Calls Tryz.prog 259 #[.pointer (some ⟨b, 0, none⟩)] w fun e w' => e = .returned (.pointer (some ⟨b, 0, none⟩)) ∧
      Lies 360 w' (.node b L k v R) ∧ Fr (fun x => x = b) w w' := by
  have hloose := h
  obtain ⟨⟨s, g, hb⟩, lL, lR, n1, n2, n3⟩ := h
  have c2 : w.cell? ⟨b, 2, none⟩ = some (.pointer L.ad) := cell_of hb 2
  have c3 : w.cell? ⟨b, 3, none⟩ = some (.pointer R.ad) := cell_of hb 3
  have tl := lL.top
  have tr := lR.top
  have g1 := L.ht_le_size
  have g2 := R.ht_le_size
  generalize hp : L.ad = lp at *
  generalize hq : R.ad = rp at *
  obtain ⟨hl, ehl⟩ : ∃ hl : Int, hl = L.ht := ⟨_, rfl⟩
  obtain ⟨hr, ehr⟩ : ∃ hr : Int, hr = R.ht := ⟨_, rfl⟩
  rw [← ehl] at tl
  rw [← ehr] at tr
  have e1 : IntKind.i64.wrap (hl - hr) = hl - hr := by rw [IntKind.wrap_i64]; omega
  have e2 : (hl - hr == 2) = false := by rw [beq_eq_false_iff_ne]; omega
  have e3 : (hl - hr == -2) = false := by rw [beq_eq_false_iff_ne]; omega
  clear hb lL lR n1 n2 n3 ehl ehr hp hq
  go_enter Tryz.func259, Tryz.ntmps259
  go_wp2_with fail
  go_region_held3 (fun w' => w'.cell? ⟨b, 2, none⟩ = some (.pointer lp) ∧ w'.cell? ⟨b, 3, none⟩ = some (.pointer rp)) (refine ⟨?_, ?_⟩ <;> simp [c2, c3])
   (first
    | (go_at_call_of 261 (Value.pointer lp); refine (levels_any lp _ hl _ (by exact tl.same rfl)).mono ?_; rintro e w1 ⟨rfl, rfl⟩)
    | (go_at_call_of 261 (Value.pointer rp); refine (levels_any rp _ hr _ (by exact tr.same rfl)).mono ?_; rintro e w1 ⟨rfl, rfl⟩))
  go_wp2_with fail
  refine (measure_tree b L k v R _ (by exact hloose.congr fun _ _ => rfl) (by omega)).mono ?_
  rintro e w3 ⟨rfl, t3, fr3⟩
  go_wp2_with fail
  go_ret
  exact ⟨rfl, t3, ⟨fr3.os, fr3.tape, fr3.output, fr3.size, fr3.block⟩⟩

/-- The first of the two turns, and the store of what it gives. -/
theorem loose_low2 {w : World} {b c d : Nat} {A B C R : Tr} {k v k2 v2 k3 v3 : Int} (h : Loose w b (.node c A k2 v2 (.node d B k3 v3 C)) k v R) :
    Loose w c A k2 v2 (.node d B k3 v3 C) ∧ ∀ w3, Fr (fun x => x = c ∨ x = d) w w3 → Lies 360 w3 (.node d (.node c A k2 v2 B) k3 v3 C) →
      w3.cell? ⟨b, 2, none⟩ = some (.pointer (some ⟨c, 0, none⟩)) ∧ w3.frozen? ⟨b, 2, none⟩ = false ∧
      Loose (w3.setCell ⟨b, 2, none⟩ (.pointer (some ⟨d, 0, none⟩))) b (.node d (.node c A k2 v2 B) k3 v3 C) k v R := by
  obtain ⟨⟨s, g, hb⟩, lL, lR, n1, n2, n3⟩ := h
  refine ⟨lL.loose, fun w3 fr t3 => ?_⟩
  have nbc : b ≠ c := fun e => n1 (Or.inl e)
  have nbd : b ≠ d := fun e => n1 (Or.inr (Or.inr (Or.inl e)))
  have hb3 : w3.heap[b]? = some (nodeBlk 360 k v (some ⟨c, 0, none⟩) R.ad s g) := (fr.block b (lt_of_blk hb) (by rintro (e | e); exact nbc e; exact nbd e)).trans hb
  have hT : ∀ x, (Tr.node d (.node c A k2 v2 B) k3 v3 C).has x → (Tr.node c A k2 v2 (.node d B k3 v3 C)).has x := by
    rintro x (e | (e | e | e) | e)
    · exact Or.inr (Or.inr (Or.inl e))
    · exact Or.inl e
    · exact Or.inr (Or.inl e)
    · exact Or.inr (Or.inr (Or.inr (Or.inl e)))
    · exact Or.inr (Or.inr (Or.inr (Or.inr e)))
  refine ⟨cell_of hb3 2, frozen_of hb3 2, ⟨s, g, ?_⟩, ?_, ?_, fun e => n1 (hT _ e), n2, fun x hx e => n3 x (hT _ hx) e⟩
  · rw [blk_set hb3 2]; rfl
  · exact t3.congr fun x hx => blk_set_ne _ _ fun e => n1 (hT _ (e ▸ hx))
  · refine (lR.fr fr ?_).congr fun x hx => blk_set_ne _ _ fun e => n2 (e ▸ hx)
    rintro x hx (e | e)
    · exact n3 x (Or.inl e) hx
    · exact n3 x (Or.inr (Or.inr (Or.inl e))) hx

theorem loose_high2 {w : World} {b c d : Nat} {A B C R : Tr} {k v k2 v2 k3 v3 : Int} (h : Loose w b R k v (.node c (.node d B k3 v3 C) k2 v2 A)) :
    Loose w c (.node d B k3 v3 C) k2 v2 A ∧ ∀ w3, Fr (fun x => x = c ∨ x = d) w w3 → Lies 360 w3 (.node d B k3 v3 (.node c C k2 v2 A)) →
      w3.cell? ⟨b, 3, none⟩ = some (.pointer (some ⟨c, 0, none⟩)) ∧ w3.frozen? ⟨b, 3, none⟩ = false ∧
      Loose (w3.setCell ⟨b, 3, none⟩ (.pointer (some ⟨d, 0, none⟩))) b R k v (.node d B k3 v3 (.node c C k2 v2 A)) := by
  obtain ⟨⟨s, g, hb⟩, lR, lL, n2, n1, n3⟩ := h
  refine ⟨lL.loose, fun w3 fr t3 => ?_⟩
  have nbc : b ≠ c := fun e => n1 (Or.inl e)
  have nbd : b ≠ d := fun e => n1 (Or.inr (Or.inl (Or.inl e)))
  have hb3 : w3.heap[b]? = some (nodeBlk 360 k v R.ad (some ⟨c, 0, none⟩) s g) := (fr.block b (lt_of_blk hb) (by rintro (e | e); exact nbc e; exact nbd e)).trans hb
  have hT : ∀ x, (Tr.node d B k3 v3 (.node c C k2 v2 A)).has x → (Tr.node c (.node d B k3 v3 C) k2 v2 A).has x := by
    rintro x (e | e | (e | e | e))
    · exact Or.inr (Or.inl (Or.inl e))
    · exact Or.inr (Or.inl (Or.inr (Or.inl e)))
    · exact Or.inl e
    · exact Or.inr (Or.inl (Or.inr (Or.inr e)))
    · exact Or.inr (Or.inr e)
  refine ⟨cell_of hb3 3, frozen_of hb3 3, ⟨s, g, ?_⟩, ?_, ?_, n2, fun e => n1 (hT _ e), fun x hx e => n3 x hx (hT _ e)⟩
  · rw [blk_set hb3 3]; rfl
  · refine (lR.fr fr ?_).congr fun x hx => blk_set_ne _ _ fun e => n2 (e ▸ hx)
    rintro x hx (e | e)
    · exact n3 x hx (Or.inl e)
    · exact n3 x hx (Or.inr (Or.inl (Or.inl e)))
  · exact t3.congr fun x hx => blk_set_ne _ _ fun e => n1 (hT _ (e ▸ hx))

set_option maxHeartbeats 1000000 in
theorem balanced_low1 (b c : Nat) (A M R : Tr) (k v k2 v2 : Int) (w : World) (h : Loose w b (.node c A k2 v2 M) k v R) (hs : A.size + M.size + R.size ≤ 30000)
    (h1 : (Tr.node c A k2 v2 M).ht = R.ht + 2) (h2 : M.ht ≤ A.ht) :
    Calls Tryz.prog 259 #[.pointer (some ⟨b, 0, none⟩)] w fun e w' => e = .returned (.pointer (some ⟨c, 0, none⟩)) ∧
      Lies 360 w' (.node c A k2 v2 (.node b M k v R)) ∧ Fr (fun x => x = b ∨ x = c) w w' := by
  have hloose := h
  obtain ⟨⟨s, g, hb⟩, lL, lR, n1, n2, n3⟩ := h
  have c2 : w.cell? ⟨b, 2, none⟩ = some (.pointer (some ⟨c, 0, none⟩)) := cell_of hb 2
  have c3 : w.cell? ⟨b, 3, none⟩ = some (.pointer R.ad) := cell_of hb 3
  have f2 : w.frozen? ⟨b, 2, none⟩ = false := frozen_of hb 2
  have hc := lL.1
  have tl := lL.top
  have tr := lR.top
  have lA := lL.2.1
  have lM := lL.2.2.1
  have d2 : w.cell? ⟨c, 2, none⟩ = some (.pointer A.ad) := cell_of hc 2
  have d3 : w.cell? ⟨c, 3, none⟩ = some (.pointer M.ad) := cell_of hc 3
  have ta := lA.top
  have tm := lM.top
  have g1 := A.ht_le_size
  have g2 := R.ht_le_size
  have g3 := M.ht_le_size
  have g4 := (Tr.node c A k2 v2 M).ht_le_size
  simp only [Tr.size] at g4
  generalize hq : R.ad = rp at *
  generalize hpa : A.ad = ap at *
  generalize hpm : M.ad = mp at *
  obtain ⟨hl, ehl⟩ : ∃ hl : Int, hl = (Tr.node c A k2 v2 M).ht := ⟨_, rfl⟩
  obtain ⟨hr, ehr⟩ : ∃ hr : Int, hr = R.ht := ⟨_, rfl⟩
  obtain ⟨ha, eha⟩ : ∃ ha : Int, ha = A.ht := ⟨_, rfl⟩
  obtain ⟨hm, ehm⟩ : ∃ hm : Int, hm = M.ht := ⟨_, rfl⟩
  rw [← ehl] at tl
  rw [← ehr] at tr
  rw [← eha] at ta
  rw [← ehm] at tm
  have e1 : IntKind.i64.wrap (hl - hr) = 2 := by rw [IntKind.wrap_i64]; omega
  have e2 : ¬ ha < hm := by omega
  clear hb hc lL lR lA lM n1 n2 n3 ehl ehr eha ehm g1 g2 g3 g4 h1 h2 hq hpa hpm
  go_enter Tryz.func259, Tryz.ntmps259
  go_wp2_with fail
  go_region_held3 (fun w' => w'.cell? ⟨b, 2, none⟩ = some (.pointer (some ⟨c, 0, none⟩)) ∧ w'.cell? ⟨b, 3, none⟩ = some (.pointer rp)) (refine ⟨?_, ?_⟩ <;> simp [c2, c3])
   (first
    | (go_at_call_of 261 (Value.pointer (some (Addr.mk c 0 none))); refine (levels_any (some ⟨c, 0, none⟩) _ hl _ (by exact tl.same rfl)).mono ?_; rintro e w1 ⟨rfl, rfl⟩)
    | (go_at_call_of 261 (Value.pointer rp); refine (levels_any rp _ hr _ (by exact tr.same rfl)).mono ?_; rintro e w1 ⟨rfl, rfl⟩))
  go_wp2_with fail
  go_region_held3 (fun w' => w'.cell? ⟨b, 2, none⟩ = some (.pointer (some ⟨c, 0, none⟩)) ∧ w'.cell? ⟨c, 2, none⟩ = some (.pointer ap) ∧ w'.cell? ⟨c, 3, none⟩ = some (.pointer mp)) (refine ⟨?_, ?_, ?_⟩ <;> simp [c2, d2, d3])
   (first
    | (go_at_call_of 261 (Value.pointer ap); refine (levels_any ap _ ha _ (by exact ta.same rfl)).mono ?_; rintro e w1 ⟨rfl, rfl⟩)
    | (go_at_call_of 261 (Value.pointer mp); refine (levels_any mp _ hm _ (by exact tm.same rfl)).mono ?_; rintro e w1 ⟨rfl, rfl⟩))
  go_wp2_with fail
  refine (turnedHigh_any b c A M R k v k2 v2 _ (by exact hloose.congr fun _ _ => rfl) (by omega)).mono ?_
  rintro e w3 ⟨rfl, t3, fr3⟩
  go_wp2_with fail
  go_ret
  exact ⟨rfl, t3, ⟨fr3.os, fr3.tape, fr3.output, fr3.size, fr3.block⟩⟩

set_option maxHeartbeats 1000000 in
theorem balanced_high1 (b c : Nat) (A M R : Tr) (k v k2 v2 : Int) (w : World) (h : Loose w b R k v (.node c M k2 v2 A)) (hs : A.size + M.size + R.size ≤ 30000)
    (h1 : (Tr.node c M k2 v2 A).ht = R.ht + 2) (h2 : M.ht ≤ A.ht) :
    Calls Tryz.prog 259 #[.pointer (some ⟨b, 0, none⟩)] w fun e w' => e = .returned (.pointer (some ⟨c, 0, none⟩)) ∧
      Lies 360 w' (.node c (.node b R k v M) k2 v2 A) ∧ Fr (fun x => x = b ∨ x = c) w w' := by
  have hloose := h
  obtain ⟨⟨s, g, hb⟩, lR, lL, n2, n1, n3⟩ := h
  have c2 : w.cell? ⟨b, 3, none⟩ = some (.pointer (some ⟨c, 0, none⟩)) := cell_of hb 3
  have c3 : w.cell? ⟨b, 2, none⟩ = some (.pointer R.ad) := cell_of hb 2
  have f2 : w.frozen? ⟨b, 3, none⟩ = false := frozen_of hb 3
  have hc := lL.1
  have tl := lL.top
  have tr := lR.top
  have lA := lL.2.2.1
  have lM := lL.2.1
  have d2 : w.cell? ⟨c, 3, none⟩ = some (.pointer A.ad) := cell_of hc 3
  have d3 : w.cell? ⟨c, 2, none⟩ = some (.pointer M.ad) := cell_of hc 2
  have ta := lA.top
  have tm := lM.top
  have g1 := A.ht_le_size
  have g2 := R.ht_le_size
  have g3 := M.ht_le_size
  have g4 := (Tr.node c M k2 v2 A).ht_le_size
  simp only [Tr.size] at g4
  generalize hq : R.ad = rp at *
  generalize hpa : A.ad = ap at *
  generalize hpm : M.ad = mp at *
  obtain ⟨hl, ehl⟩ : ∃ hl : Int, hl = (Tr.node c M k2 v2 A).ht := ⟨_, rfl⟩
  obtain ⟨hr, ehr⟩ : ∃ hr : Int, hr = R.ht := ⟨_, rfl⟩
  obtain ⟨ha, eha⟩ : ∃ ha : Int, ha = A.ht := ⟨_, rfl⟩
  obtain ⟨hm, ehm⟩ : ∃ hm : Int, hm = M.ht := ⟨_, rfl⟩
  rw [← ehl] at tl
  rw [← ehr] at tr
  rw [← eha] at ta
  rw [← ehm] at tm
  have e1 : IntKind.i64.wrap (hr - hl) = -2 := by rw [IntKind.wrap_i64]; omega
  have e2 : ¬ ha < hm := by omega
  clear hb hc lL lR lA lM n1 n2 n3 ehl ehr eha ehm g1 g2 g3 g4 h1 h2 hq hpa hpm
  go_enter Tryz.func259, Tryz.ntmps259
  go_wp2_with fail
  go_region_held3 (fun w' => w'.cell? ⟨b, 3, none⟩ = some (.pointer (some ⟨c, 0, none⟩)) ∧ w'.cell? ⟨b, 2, none⟩ = some (.pointer rp)) (refine ⟨?_, ?_⟩ <;> simp [c2, c3])
   (first
    | (go_at_call_of 261 (Value.pointer (some (Addr.mk c 0 none))); refine (levels_any (some ⟨c, 0, none⟩) _ hl _ (by exact tl.same rfl)).mono ?_; rintro e w1 ⟨rfl, rfl⟩)
    | (go_at_call_of 261 (Value.pointer rp); refine (levels_any rp _ hr _ (by exact tr.same rfl)).mono ?_; rintro e w1 ⟨rfl, rfl⟩))
  go_wp2_with fail
  go_region_held3 (fun w' => w'.cell? ⟨b, 3, none⟩ = some (.pointer (some ⟨c, 0, none⟩)) ∧ w'.cell? ⟨c, 3, none⟩ = some (.pointer ap) ∧ w'.cell? ⟨c, 2, none⟩ = some (.pointer mp)) (refine ⟨?_, ?_, ?_⟩ <;> simp [c2, d2, d3])
   (first
    | (go_at_call_of 261 (Value.pointer ap); refine (levels_any ap _ ha _ (by exact ta.same rfl)).mono ?_; rintro e w1 ⟨rfl, rfl⟩)
    | (go_at_call_of 261 (Value.pointer mp); refine (levels_any mp _ hm _ (by exact tm.same rfl)).mono ?_; rintro e w1 ⟨rfl, rfl⟩))
  go_wp2_with fail
  refine (turnedLow_any b c R M A k v k2 v2 _ (by exact hloose.congr fun _ _ => rfl) (by omega)).mono ?_
  rintro e w3 ⟨rfl, t3, fr3⟩
  go_wp2_with fail
  go_ret
  exact ⟨rfl, t3, ⟨fr3.os, fr3.tape, fr3.output, fr3.size, fr3.block⟩⟩

set_option maxHeartbeats 1000000 in
theorem balanced_low2 (b c d : Nat) (A B C R : Tr) (k v k2 v2 k3 v3 : Int) (w : World) (h : Loose w b (.node c A k2 v2 (.node d B k3 v3 C)) k v R) (hs : A.size + B.size + C.size + R.size ≤ 30000)
    (h1 : (Tr.node c A k2 v2 (.node d B k3 v3 C)).ht = R.ht + 2) (h2 : A.ht < (Tr.node d B k3 v3 C).ht) :
    Calls Tryz.prog 259 #[.pointer (some ⟨b, 0, none⟩)] w fun e w' => e = .returned (.pointer (some ⟨d, 0, none⟩)) ∧
      Lies 360 w' (.node d (.node c A k2 v2 B) k3 v3 (.node b C k v R)) ∧ Fr (fun x => x = b ∨ x = c ∨ x = d) w w' := by
  have hloose := h
  obtain ⟨⟨s, g, hb⟩, lL, lR, n1, n2, n3⟩ := h
  have c2 : w.cell? ⟨b, 2, none⟩ = some (.pointer (some ⟨c, 0, none⟩)) := cell_of hb 2
  have c3 : w.cell? ⟨b, 3, none⟩ = some (.pointer R.ad) := cell_of hb 3
  have f2 : w.frozen? ⟨b, 2, none⟩ = false := frozen_of hb 2
  have hc := lL.1
  have tl := lL.top
  have tr := lR.top
  have lA := lL.2.1
  have lM := lL.2.2.1
  have d2 : w.cell? ⟨c, 2, none⟩ = some (.pointer A.ad) := cell_of hc 2
  have d3 : w.cell? ⟨c, 3, none⟩ = some (.pointer (some ⟨d, 0, none⟩)) := cell_of hc 3
  have ta := lA.top
  have tm := lM.top
  have g1 := A.ht_le_size
  have g2 := R.ht_le_size
  have g3 := (Tr.node d B k3 v3 C).ht_le_size
  simp only [Tr.size] at g3
  have g4 := (Tr.node c A k2 v2 (.node d B k3 v3 C)).ht_le_size
  simp only [Tr.size] at g4
  have pre := loose_low2 hloose
  generalize hq : R.ad = rp at *
  generalize hpa : A.ad = ap at *
  obtain ⟨hl, ehl⟩ : ∃ hl : Int, hl = (Tr.node c A k2 v2 (.node d B k3 v3 C)).ht := ⟨_, rfl⟩
  obtain ⟨hr, ehr⟩ : ∃ hr : Int, hr = R.ht := ⟨_, rfl⟩
  obtain ⟨ha, eha⟩ : ∃ ha : Int, ha = A.ht := ⟨_, rfl⟩
  obtain ⟨hm, ehm⟩ : ∃ hm : Int, hm = (Tr.node d B k3 v3 C).ht := ⟨_, rfl⟩
  rw [← ehl] at tl
  rw [← ehr] at tr
  rw [← eha] at ta
  rw [← ehm] at tm
  have e1 : IntKind.i64.wrap (hl - hr) = 2 := by rw [IntKind.wrap_i64]; omega
  have e2 : ha < hm := by omega
  clear hb hc lL lR lA lM n1 n2 n3 ehl ehr eha ehm g1 g2 g3 g4 h1 h2 hq hpa
  go_enter Tryz.func259, Tryz.ntmps259
  go_wp2_with fail
  go_region_held3 (fun w' => w'.cell? ⟨b, 2, none⟩ = some (.pointer (some ⟨c, 0, none⟩)) ∧ w'.cell? ⟨b, 3, none⟩ = some (.pointer rp)) (refine ⟨?_, ?_⟩ <;> simp [c2, c3])
   (first
    | (go_at_call_of 261 (Value.pointer (some (Addr.mk c 0 none))); refine (levels_any (some ⟨c, 0, none⟩) _ hl _ (by exact tl.same rfl)).mono ?_; rintro e w1 ⟨rfl, rfl⟩)
    | (go_at_call_of 261 (Value.pointer rp); refine (levels_any rp _ hr _ (by exact tr.same rfl)).mono ?_; rintro e w1 ⟨rfl, rfl⟩))
  go_wp2_with fail
  go_region_held3 (fun w' => w'.cell? ⟨b, 2, none⟩ = some (.pointer (some ⟨c, 0, none⟩)) ∧ w'.cell? ⟨c, 2, none⟩ = some (.pointer ap) ∧ w'.cell? ⟨c, 3, none⟩ = some (.pointer (some ⟨d, 0, none⟩))) (refine ⟨?_, ?_, ?_⟩ <;> simp [c2, d2, d3])
   (first
    | (go_at_call_of 261 (Value.pointer ap); refine (levels_any ap _ ha _ (by exact ta.same rfl)).mono ?_; rintro e w1 ⟨rfl, rfl⟩)
    | (go_at_call_of 261 (Value.pointer (some (Addr.mk d 0 none))); refine (levels_any (some ⟨d, 0, none⟩) _ hm _ (by exact tm.same rfl)).mono ?_; rintro e w1 ⟨rfl, rfl⟩))
  go_wp2_with fail
  refine (turnedLow_any c d A B C k2 v2 k3 v3 _ (by exact pre.1.congr fun _ _ => rfl) (by omega)).mono ?_
  rintro e w3 ⟨rfl, t3, fr3⟩
  obtain ⟨p1, p2, p3⟩ := pre.2 w3 ⟨fr3.os, fr3.tape, fr3.output, fr3.size, fr3.block⟩ t3
  go_wp2_with fail
  refine (turnedHigh_any b d (.node c A k2 v2 B) C R k v k3 v3 _ (by exact p3) (by simp only [Tr.size]; omega)).mono ?_
  rintro e w4 ⟨rfl, t4, fr4⟩
  go_wp2_with fail
  go_ret
  refine ⟨rfl, t4, ?_⟩
  have fr5 : Fr (fun x => x = c ∨ x = d) w w3 := ⟨fr3.os, fr3.tape, fr3.output, fr3.size, fr3.block⟩
  have fr6 : Fr (fun x => x = b ∨ x = c ∨ x = d) w w3 := fr5.mono fun _ _ e => Or.inr e
  refine Fr.trans (Fr.setCell fr6 (by exact fun _ => Or.inl rfl) _) fr4 ?_
  rintro x _ (e | e)
  · exact Or.inl e
  · exact Or.inr (Or.inr e)

set_option maxHeartbeats 1000000 in
theorem balanced_high2 (b c d : Nat) (A B C R : Tr) (k v k2 v2 k3 v3 : Int) (w : World) (h : Loose w b R k v (.node c (.node d B k3 v3 C) k2 v2 A)) (hs : A.size + B.size + C.size + R.size ≤ 30000)
    (h1 : (Tr.node c (.node d B k3 v3 C) k2 v2 A).ht = R.ht + 2) (h2 : A.ht < (Tr.node d B k3 v3 C).ht) :
    Calls Tryz.prog 259 #[.pointer (some ⟨b, 0, none⟩)] w fun e w' => e = .returned (.pointer (some ⟨d, 0, none⟩)) ∧
      Lies 360 w' (.node d (.node b R k v B) k3 v3 (.node c C k2 v2 A)) ∧ Fr (fun x => x = b ∨ x = c ∨ x = d) w w' := by
  have hloose := h
  obtain ⟨⟨s, g, hb⟩, lR, lL, n2, n1, n3⟩ := h
  have c2 : w.cell? ⟨b, 3, none⟩ = some (.pointer (some ⟨c, 0, none⟩)) := cell_of hb 3
  have c3 : w.cell? ⟨b, 2, none⟩ = some (.pointer R.ad) := cell_of hb 2
  have f2 : w.frozen? ⟨b, 3, none⟩ = false := frozen_of hb 3
  have hc := lL.1
  have tl := lL.top
  have tr := lR.top
  have lA := lL.2.2.1
  have lM := lL.2.1
  have d2 : w.cell? ⟨c, 3, none⟩ = some (.pointer A.ad) := cell_of hc 3
  have d3 : w.cell? ⟨c, 2, none⟩ = some (.pointer (some ⟨d, 0, none⟩)) := cell_of hc 2
  have ta := lA.top
  have tm := lM.top
  have g1 := A.ht_le_size
  have g2 := R.ht_le_size
  have g3 := (Tr.node d B k3 v3 C).ht_le_size
  simp only [Tr.size] at g3
  have g4 := (Tr.node c (.node d B k3 v3 C) k2 v2 A).ht_le_size
  simp only [Tr.size] at g4
  have pre := loose_high2 hloose
  generalize hq : R.ad = rp at *
  generalize hpa : A.ad = ap at *
  obtain ⟨hl, ehl⟩ : ∃ hl : Int, hl = (Tr.node c (.node d B k3 v3 C) k2 v2 A).ht := ⟨_, rfl⟩
  obtain ⟨hr, ehr⟩ : ∃ hr : Int, hr = R.ht := ⟨_, rfl⟩
  obtain ⟨ha, eha⟩ : ∃ ha : Int, ha = A.ht := ⟨_, rfl⟩
  obtain ⟨hm, ehm⟩ : ∃ hm : Int, hm = (Tr.node d B k3 v3 C).ht := ⟨_, rfl⟩
  rw [← ehl] at tl
  rw [← ehr] at tr
  rw [← eha] at ta
  rw [← ehm] at tm
  have e1 : IntKind.i64.wrap (hr - hl) = -2 := by rw [IntKind.wrap_i64]; omega
  have e2 : ha < hm := by omega
  clear hb hc lL lR lA lM n1 n2 n3 ehl ehr eha ehm g1 g2 g3 g4 h1 h2 hq hpa
  go_enter Tryz.func259, Tryz.ntmps259
  go_wp2_with fail
  go_region_held3 (fun w' => w'.cell? ⟨b, 3, none⟩ = some (.pointer (some ⟨c, 0, none⟩)) ∧ w'.cell? ⟨b, 2, none⟩ = some (.pointer rp)) (refine ⟨?_, ?_⟩ <;> simp [c2, c3])
   (first
    | (go_at_call_of 261 (Value.pointer (some (Addr.mk c 0 none))); refine (levels_any (some ⟨c, 0, none⟩) _ hl _ (by exact tl.same rfl)).mono ?_; rintro e w1 ⟨rfl, rfl⟩)
    | (go_at_call_of 261 (Value.pointer rp); refine (levels_any rp _ hr _ (by exact tr.same rfl)).mono ?_; rintro e w1 ⟨rfl, rfl⟩))
  go_wp2_with fail
  go_region_held3 (fun w' => w'.cell? ⟨b, 3, none⟩ = some (.pointer (some ⟨c, 0, none⟩)) ∧ w'.cell? ⟨c, 3, none⟩ = some (.pointer ap) ∧ w'.cell? ⟨c, 2, none⟩ = some (.pointer (some ⟨d, 0, none⟩))) (refine ⟨?_, ?_, ?_⟩ <;> simp [c2, d2, d3])
   (first
    | (go_at_call_of 261 (Value.pointer ap); refine (levels_any ap _ ha _ (by exact ta.same rfl)).mono ?_; rintro e w1 ⟨rfl, rfl⟩)
    | (go_at_call_of 261 (Value.pointer (some (Addr.mk d 0 none))); refine (levels_any (some ⟨d, 0, none⟩) _ hm _ (by exact tm.same rfl)).mono ?_; rintro e w1 ⟨rfl, rfl⟩))
  go_wp2_with fail
  refine (turnedHigh_any c d B C A k2 v2 k3 v3 _ (by exact pre.1.congr fun _ _ => rfl) (by omega)).mono ?_
  rintro e w3 ⟨rfl, t3, fr3⟩
  obtain ⟨p1, p2, p3⟩ := pre.2 w3 ⟨fr3.os, fr3.tape, fr3.output, fr3.size, fr3.block⟩ t3
  go_wp2_with fail
  refine (turnedLow_any b d R B (.node c C k2 v2 A) k v k3 v3 _ (by exact p3) (by simp only [Tr.size]; omega)).mono ?_
  rintro e w4 ⟨rfl, t4, fr4⟩
  go_wp2_with fail
  go_ret
  refine ⟨rfl, t4, ?_⟩
  have fr5 : Fr (fun x => x = c ∨ x = d) w w3 := ⟨fr3.os, fr3.tape, fr3.output, fr3.size, fr3.block⟩
  have fr6 : Fr (fun x => x = b ∨ x = c ∨ x = d) w w3 := fr5.mono fun _ _ e => Or.inr e
  refine Fr.trans (Fr.setCell fr6 (by exact fun _ => Or.inl rfl) _) fr4 ?_
  rintro x _ (e | e)
  · exact Or.inl e
  · exact Or.inr (Or.inr e)

end Go.Proofs.YthbnbocpddddmaaGreat
