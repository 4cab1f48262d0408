/- turnedLow, turnedHigh. -/
import Derived.Test.YthbnbocpddddmaaGreatWMeas
namespace Go.Proofs.YthbnbocpddddmaaGreat
open Go.RowKit

/-- What the two stores of turnedLow leave. -/
theorem low_pre {w : World} {b c : Nat} {L M R : Tr} {k v k2 v2 : Int} (h : Loose w b L k v (.node c M k2 v2 R)) :
    ∀ w2, w2 = ((w.setCell ⟨b, 3, none⟩ (.pointer M.ad)).setCell ⟨c, 2, none⟩ (.pointer (some ⟨b, 0, none⟩))) →
      Loose w2 b L k v M ∧ Fr (fun x => x = b ∨ x = c) w w2 ∧
      (∀ w3, Fr (fun x => x = b) w2 w3 → Lies 336 w3 (.node b L k v M) → Loose w3 c (.node b L k v M) k2 v2 R) := by
  rintro w2 rfl
  obtain ⟨⟨s, g, hb⟩, lL, ⟨hc, lM, lR, m1, m2, m3⟩, n1, n2, n3⟩ := h
  have hbc : b ≠ c := fun e => n2 (Or.inl e)
  have nM : ¬ M.has b := fun e => n2 (Or.inr (Or.inl e))
  have nR : ¬ R.has b := fun e => n2 (Or.inr (Or.inr e))
  have cL : ¬ L.has c := fun e => n3 c e (Or.inl rfl)
  have e0 : ∀ x, x ≠ b → x ≠ c → ((w.setCell ⟨b, 3, none⟩ (.pointer M.ad)).setCell ⟨c, 2, none⟩ (.pointer (some ⟨b, 0, none⟩))).heap[x]? = w.heap[x]? := fun x h1 h2 => by
    rw [blk_set_ne _ _ h2, blk_set_ne _ _ h1]
  have eb : ((w.setCell ⟨b, 3, none⟩ (.pointer M.ad)).setCell ⟨c, 2, none⟩ (.pointer (some ⟨b, 0, none⟩))).heap[b]? = some (nodeBlk 336 k v L.ad M.ad s g) := by
    rw [blk_set_ne _ _ hbc, blk_set hb 3]; rfl
  have ec : ((w.setCell ⟨b, 3, none⟩ (.pointer M.ad)).setCell ⟨c, 2, none⟩ (.pointer (some ⟨b, 0, none⟩))).heap[c]? = some (nodeBlk 336 k2 v2 (some ⟨b, 0, none⟩) R.ad ((M.size + R.size + 1 : Nat) : Int) ((max M.ht R.ht + 1 : Nat) : Int)) := by
    have : (w.setCell ⟨b, 3, none⟩ (.pointer M.ad)).heap[c]? = some (nodeBlk 336 k2 v2 M.ad R.ad ((M.size + R.size + 1 : Nat) : Int) ((max M.ht R.ht + 1 : Nat) : Int)) := by
      rw [blk_set_ne _ _ (Ne.symm hbc)]; exact hc
    rw [blk_set this 2]; rfl
  refine ⟨⟨⟨s, g, eb⟩, lL.congr fun x hx => e0 x (fun e => n1 (e ▸ hx)) (fun e => cL (e ▸ hx)), lM.congr fun x hx => e0 x (fun e => nM (e ▸ hx)) (fun e => m1 (e ▸ hx)), n1, nM, fun x hx e => n3 x hx (Or.inr (Or.inl e))⟩, ?_, ?_⟩
  · exact Fr.setCell (Fr.setCell (Fr.refl _ _) (by exact fun _ => Or.inl rfl) _) (by exact fun _ => Or.inr rfl) _
  · intro w3 fr hT
    have l2 : c < ((w.setCell ⟨b, 3, none⟩ (.pointer M.ad)).setCell ⟨c, 2, none⟩ (.pointer (some ⟨b, 0, none⟩))).heap.size := lt_of_blk ec
    refine ⟨⟨_, _, (fr.block c l2 (Ne.symm hbc)).trans ec⟩, hT, ?_, ?_, m2, ?_⟩
    · exact (lR.congr fun x hx => e0 x (fun e => nR (e ▸ hx)) (fun e => m2 (e ▸ hx))).fr fr fun x hx e => nR (e ▸ hx)
    · rintro (e | e | e)
      · exact hbc e.symm
      · exact cL e
      · exact m1 e
    · rintro x (e | e | e) hx
      · exact nR (e ▸ hx)
      · exact n3 x e (Or.inr (Or.inr hx))
      · exact m3 x e hx

theorem high_pre {w : World} {b c : Nat} {L M R : Tr} {k v k2 v2 : Int} (h : Loose w b (.node c L k2 v2 M) k v R) :
    ∀ w2, w2 = ((w.setCell ⟨b, 2, none⟩ (.pointer M.ad)).setCell ⟨c, 3, none⟩ (.pointer (some ⟨b, 0, none⟩))) →
      Loose w2 b M k v R ∧ Fr (fun x => x = b ∨ x = c) w w2 ∧
      (∀ w3, Fr (fun x => x = b) w2 w3 → Lies 336 w3 (.node b M k v R) → Loose w3 c L k2 v2 (.node b M k v R)) := by
  rintro w2 rfl
  obtain ⟨⟨s, g, hb⟩, ⟨hc, lL, lM, m1, m2, m3⟩, lR, n1, n2, n3⟩ := h
  have hbc : b ≠ c := fun e => n1 (Or.inl e)
  have nL : ¬ L.has b := fun e => n1 (Or.inr (Or.inl e))
  have nM : ¬ M.has b := fun e => n1 (Or.inr (Or.inr e))
  have cR : ¬ R.has c := fun e => n3 c (Or.inl rfl) e
  have e0 : ∀ x, x ≠ b → x ≠ c → ((w.setCell ⟨b, 2, none⟩ (.pointer M.ad)).setCell ⟨c, 3, none⟩ (.pointer (some ⟨b, 0, none⟩))).heap[x]? = w.heap[x]? := fun x h1 h2 => by
    rw [blk_set_ne _ _ h2, blk_set_ne _ _ h1]
  have eb : ((w.setCell ⟨b, 2, none⟩ (.pointer M.ad)).setCell ⟨c, 3, none⟩ (.pointer (some ⟨b, 0, none⟩))).heap[b]? = some (nodeBlk 336 k v M.ad R.ad s g) := by
    rw [blk_set_ne _ _ hbc, blk_set hb 2]; rfl
  have ec : ((w.setCell ⟨b, 2, none⟩ (.pointer M.ad)).setCell ⟨c, 3, none⟩ (.pointer (some ⟨b, 0, none⟩))).heap[c]? = some (nodeBlk 336 k2 v2 L.ad (some ⟨b, 0, none⟩) ((L.size + M.size + 1 : Nat) : Int) ((max L.ht M.ht + 1 : Nat) : Int)) := by
    have : (w.setCell ⟨b, 2, none⟩ (.pointer M.ad)).heap[c]? = some (nodeBlk 336 k2 v2 L.ad M.ad ((L.size + M.size + 1 : Nat) : Int) ((max L.ht M.ht + 1 : Nat) : Int)) := by
      rw [blk_set_ne _ _ (Ne.symm hbc)]; exact hc
    rw [blk_set this 3]; rfl
  refine ⟨⟨⟨s, g, eb⟩, lM.congr fun x hx => e0 x (fun e => nM (e ▸ hx)) (fun e => m2 (e ▸ hx)), lR.congr fun x hx => e0 x (fun e => n2 (e ▸ hx)) (fun e => cR (e ▸ hx)), nM, n2, fun x hx e => n3 x (Or.inr (Or.inr hx)) e⟩, ?_, ?_⟩
  · exact Fr.setCell (Fr.setCell (Fr.refl _ _) (by exact fun _ => Or.inl rfl) _) (by exact fun _ => Or.inr rfl) _
  · intro w3 fr hT
    have l2 : c < ((w.setCell ⟨b, 2, none⟩ (.pointer M.ad)).setCell ⟨c, 3, none⟩ (.pointer (some ⟨b, 0, none⟩))).heap.size := lt_of_blk ec
    refine ⟨⟨_, _, (fr.block c l2 (Ne.symm hbc)).trans ec⟩, ?_, hT, m1, ?_, ?_⟩
    · exact (lL.congr fun x hx => e0 x (fun e => nL (e ▸ hx)) (fun e => m1 (e ▸ hx))).fr fr fun x hx e => nL (e ▸ hx)
    · rintro (e | e | e)
      · exact hbc e.symm
      · exact m2 e
      · exact cR e
    · rintro x hx (e | e | e)
      · exact nL (e ▸ hx)
      · exact m3 x hx e
      · exact n3 x (Or.inr (Or.inl hx)) e

set_option maxHeartbeats 400000 in
theorem turnedLow_any (b c : Nat) (L M R : Tr) (k v k2 v2 : Int) (w : World) (h : Loose w b L k v (.node c M k2 v2 R)) (hs : L.size + M.size + R.size ≤ 40000) :
    Calls Tryz.prog 211 #[.pointer (some ⟨b, 0, none⟩)] w fun e w' => e = .returned (.pointer (some ⟨c, 0, none⟩)) ∧
      Lies 336 w' (.node c (.node b L k v M) k2 v2 R) ∧ Fr (fun x => x = b ∨ x = c) w w' := by
  obtain ⟨p1, p2, p3⟩ := low_pre h _ rfl
  obtain ⟨⟨s, g, hb⟩, lL, ⟨hc, lM, lR, m1, m2, m3⟩, n1, n2, n3⟩ := h
  have hbc : b ≠ c := fun e => n2 (Or.inl e)
  have hcb : c ≠ b := Ne.symm hbc
  have c3 : w.cell? ⟨b, 3, none⟩ = some (.pointer (some ⟨c, 0, none⟩)) := cell_of hb 3
  have d2 : w.cell? ⟨c, 2, none⟩ = some (.pointer M.ad) := cell_of hc 2
  have f3 : w.frozen? ⟨b, 3, none⟩ = false := frozen_of hb 3
  have f2 : w.frozen? ⟨c, 2, none⟩ = false := frozen_of hc 2
  clear hb hc lL lM lR m1 m2 m3 n1 n2 n3
  go_enter Tryz.func211, Tryz.ntmps211
  go_wp2_with fail
  refine (measure_tree b L k v M _ p1 (by omega)).mono ?_
  rintro e w3 ⟨rfl, t3, fr3⟩
  go_wp2_with fail
  refine (measure_tree c (.node b L k v M) k2 v2 R _ (p3 _ fr3 t3) (by simp only [Tr.size]; omega)).mono ?_
  rintro e w4 ⟨rfl, t4, fr4⟩
  go_wp2_with fail
  go_ret
  exact ⟨rfl, t4, (p2.trans fr3 fun _ _ e => Or.inl e).trans fr4 fun _ _ e => Or.inr e⟩

set_option maxHeartbeats 400000 in
theorem turnedHigh_any (b c : Nat) (L M R : Tr) (k v k2 v2 : Int) (w : World) (h : Loose w b (.node c L k2 v2 M) k v R) (hs : L.size + M.size + R.size ≤ 40000) :
    Calls Tryz.prog 212 #[.pointer (some ⟨b, 0, none⟩)] w fun e w' => e = .returned (.pointer (some ⟨c, 0, none⟩)) ∧
      Lies 336 w' (.node c L k2 v2 (.node b M k v R)) ∧ Fr (fun x => x = b ∨ x = c) w w' := by
  obtain ⟨p1, p2, p3⟩ := high_pre h _ rfl
  obtain ⟨⟨s, g, hb⟩, ⟨hc, lL, lM, m1, m2, m3⟩, lR, n1, n2, n3⟩ := h
  have hbc : b ≠ c := fun e => n1 (Or.inl e)
  have hcb : c ≠ b := Ne.symm hbc
  have c3 : w.cell? ⟨b, 2, none⟩ = some (.pointer (some ⟨c, 0, none⟩)) := cell_of hb 2
  have d2 : w.cell? ⟨c, 3, none⟩ = some (.pointer M.ad) := cell_of hc 3
  have f3 : w.frozen? ⟨b, 2, none⟩ = false := frozen_of hb 2
  have f2 : w.frozen? ⟨c, 3, none⟩ = false := frozen_of hc 3
  clear hb hc lL lM lR m1 m2 m3 n1 n2 n3
  go_enter Tryz.func212, Tryz.ntmps212
  go_wp2_with fail
  refine (measure_tree b M k v R _ p1 (by omega)).mono ?_
  rintro e w3 ⟨rfl, t3, fr3⟩
  go_wp2_with fail
  refine (measure_tree c L k2 v2 (.node b M k v R) _ (p3 _ fr3 t3) (by simp only [Tr.size]; omega)).mono ?_
  rintro e w4 ⟨rfl, t4, fr4⟩
  go_wp2_with fail
  go_ret
  exact ⟨rfl, t4, (p2.trans fr3 fun _ _ e => Or.inl e).trans fr4 fun _ _ e => Or.inr e⟩

end Go.Proofs.YthbnbocpddddmaaGreat
