/- balanced. -/
import Derived.Test.YthbnbocpddddmaaGreatWTurn
namespace Go.Proofs.YthbnbocpddddmaaGreat
open Go.RowKit

theorem Loose.congr {w w' : World} {b : Nat} {L R : Tr} {k v : Int} (h : Loose w b L k v R) (hc : ∀ x, (x = b ∨ L.has x ∨ R.has x) → w'.heap[x]? = w.heap[x]?) : Loose w' b L k v R := by
  obtain ⟨⟨s, g, hb⟩, lL, lR, n⟩ := h
  exact ⟨⟨s, g, (hc b (Or.inl rfl)).trans hb⟩, lL.congr fun x hx => hc x (Or.inr (Or.inl hx)), lR.congr fun x hx => hc x (Or.inr (Or.inr hx)), n⟩

theorem Top.same {T : TypeId} {w w' : World} {p : Option Addr} {s h : Int} (t : Top T w p s h) (hc : w'.heap = w.heap) : Top T w' p s h := t.congr fun b _ => by rw [hc]

set_option maxHeartbeats 1000000 in
theorem balanced_mid (b : Nat) (L R : Tr) (k v : Int) (w : World) (h : Loose w b L k v R) (hs : L.size + R.size ≤ 30000)
    (h1 : L.ht ≤ R.ht + 1) (h2 : R.ht ≤ L.ht + 1) :
    Calls Tryz.prog 208 #[.pointer (some ⟨b, 0, none⟩)] w fun e w' => e = .returned (.pointer (some ⟨b, 0, none⟩)) ∧
      Lies 336 w' (.node b L k v R) ∧ Fr (fun x => x = b) w w' := by
  have hloose := h
  obtain ⟨⟨s, g, hb⟩, lL, lR, n1, n2, n3⟩ := h
  have c2 : w.cell? ⟨b, 2, none⟩ = some (.pointer L.ad) := cell_of hb 2
  have c3 : w.cell? ⟨b, 3, none⟩ = some (.pointer R.ad) := cell_of hb 3
  have tl := lL.top
  have tr := lR.top
  have g1 := L.ht_le_size
  have g2 := R.ht_le_size
  generalize hp : L.ad = lp at *
  generalize hq : R.ad = rp at *
  obtain ⟨hl, ehl⟩ : ∃ hl : Int, hl = L.ht := ⟨_, rfl⟩
  obtain ⟨hr, ehr⟩ : ∃ hr : Int, hr = R.ht := ⟨_, rfl⟩
  rw [← ehl] at tl
  rw [← ehr] at tr
  have e1 : IntKind.i64.wrap (hl - hr) = hl - hr := by rw [IntKind.wrap_i64]; omega
  have e2 : (hl - hr == 2) = false := by rw [beq_eq_false_iff_ne]; omega
  have e3 : (hl - hr == -2) = false := by rw [beq_eq_false_iff_ne]; omega
  clear hb lL lR n1 n2 n3 ehl ehr hp hq
  go_enter Tryz.func208, Tryz.ntmps208
  go_wp2_with fail
  go_region_held3 (fun w' => w'.cell? ⟨b, 2, none⟩ = some (.pointer lp) ∧ w'.cell? ⟨b, 3, none⟩ = some (.pointer rp)) (refine ⟨?_, ?_⟩ <;> simp [c2, c3])
   (first
    | (go_at_call_of 210 (Value.pointer lp); refine (levels_any lp _ hl _ (by exact tl.same rfl)).mono ?_; rintro e w1 ⟨rfl, rfl⟩)
    | (go_at_call_of 210 (Value.pointer rp); refine (levels_any rp _ hr _ (by exact tr.same rfl)).mono ?_; rintro e w1 ⟨rfl, rfl⟩))
  go_wp2_with fail
  refine (measure_tree b L k v R _ (by exact hloose.congr fun _ _ => rfl) (by omega)).mono ?_
  rintro e w3 ⟨rfl, t3, fr3⟩
  go_wp2_with fail
  go_ret
  exact ⟨rfl, t3, ⟨fr3.os, fr3.tape, fr3.output, fr3.size, fr3.block⟩⟩

/-- The first of the two turns, and the store of what it gives. -/
theorem loose_low2 {w : World} {b c d : Nat} {A B C R : Tr} {k v k2 v2 k3 v3 : Int} (h : Loose w b (.node c A k2 v2 (.node d B k3 v3 C)) k v R) :
    Loose w c A k2 v2 (.node d B k3 v3 C) ∧ ∀ w3, Fr (fun x => x = c ∨ x = d) w w3 → Lies 336 w3 (.node d (.node c A k2 v2 B) k3 v3 C) →
      w3.cell? ⟨b, 2, none⟩ = some (.pointer (some ⟨c, 0, none⟩)) ∧ w3.frozen? ⟨b, 2, none⟩ = false ∧
      Loose (w3.setCell ⟨b, 2, none⟩ (.pointer (some ⟨d, 0, none⟩))) b (.node d (.node c A k2 v2 B) k3 v3 C) k v R := by
  obtain ⟨⟨s, g, hb⟩, lL, lR, n1, n2, n3⟩ := h
  refine ⟨lL.loose, fun w3 fr t3 => ?_⟩
  have nbc : b ≠ c := fun e => n1 (Or.inl e)
  have nbd : b ≠ d := fun e => n1 (Or.inr (Or.inr (Or.inl e)))
  have hb3 : w3.heap[b]? = some (nodeBlk 336 k v (some ⟨c, 0, none⟩) R.ad s g) := (fr.block b (lt_of_blk hb) (by rintro (e | e); exact nbc e; exact nbd e)).trans hb
  have hT : ∀ x, (Tr.node d (.node c A k2 v2 B) k3 v3 C).has x → (Tr.node c A k2 v2 (.node d B k3 v3 C)).has x := by
    rintro x (e | (e | e | e) | e)
    · exact Or.inr (Or.inr (Or.inl e))
    · exact Or.inl e
    · exact Or.inr (Or.inl e)
    · exact Or.inr (Or.inr (Or.inr (Or.inl e)))
    · exact Or.inr (Or.inr (Or.inr (Or.inr e)))
  refine ⟨cell_of hb3 2, frozen_of hb3 2, ⟨s, g, ?_⟩, ?_, ?_, fun e => n1 (hT _ e), n2, fun x hx e => n3 x (hT _ hx) e⟩
  · rw [blk_set hb3 2]; rfl
  · exact t3.congr fun x hx => blk_set_ne _ _ fun e => n1 (hT _ (e ▸ hx))
  · refine (lR.fr fr ?_).congr fun x hx => blk_set_ne _ _ fun e => n2 (e ▸ hx)
    rintro x hx (e | e)
    · exact n3 x (Or.inl e) hx
    · exact n3 x (Or.inr (Or.inr (Or.inl e))) hx

theorem loose_high2 {w : World} {b c d : Nat} {A B C R : Tr} {k v k2 v2 k3 v3 : Int} (h : Loose w b R k v (.node c (.node d B k3 v3 C) k2 v2 A)) :
    Loose w c (.node d B k3 v3 C) k2 v2 A ∧ ∀ w3, Fr (fun x => x = c ∨ x = d) w w3 → Lies 336 w3 (.node d B k3 v3 (.node c C k2 v2 A)) →
      w3.cell? ⟨b, 3, none⟩ = some (.pointer (some ⟨c, 0, none⟩)) ∧ w3.frozen? ⟨b, 3, none⟩ = false ∧
      Loose (w3.setCell ⟨b, 3, none⟩ (.pointer (some ⟨d, 0, none⟩))) b R k v (.node d B k3 v3 (.node c C k2 v2 A)) := by
  obtain ⟨⟨s, g, hb⟩, lR, lL, n2, n1, n3⟩ := h
  refine ⟨lL.loose, fun w3 fr t3 => ?_⟩
  have nbc : b ≠ c := fun e => n1 (Or.inl e)
  have nbd : b ≠ d := fun e => n1 (Or.inr (Or.inl (Or.inl e)))
  have hb3 : w3.heap[b]? = some (nodeBlk 336 k v R.ad (some ⟨c, 0, none⟩) s g) := (fr.block b (lt_of_blk hb) (by rintro (e | e); exact nbc e; exact nbd e)).trans hb
  have hT : ∀ x, (Tr.node d B k3 v3 (.node c C k2 v2 A)).has x → (Tr.node c (.node d B k3 v3 C) k2 v2 A).has x := by
    rintro x (e | e | (e | e | e))
    · exact Or.inr (Or.inl (Or.inl e))
    · exact Or.inr (Or.inl (Or.inr (Or.inl e)))
    · exact Or.inl e
    · exact Or.inr (Or.inl (Or.inr (Or.inr e)))
    · exact Or.inr (Or.inr e)
  refine ⟨cell_of hb3 3, frozen_of hb3 3, ⟨s, g, ?_⟩, ?_, ?_, n2, fun e => n1 (hT _ e), fun x hx e => n3 x hx (hT _ e)⟩
  · rw [blk_set hb3 3]; rfl
  · refine (lR.fr fr ?_).congr fun x hx => blk_set_ne _ _ fun e => n2 (e ▸ hx)
    rintro x hx (e | e)
    · exact n3 x hx (Or.inl e)
    · exact n3 x hx (Or.inr (Or.inl (Or.inl e)))
  · exact t3.congr fun x hx => blk_set_ne _ _ fun e => n1 (hT _ (e ▸ hx))

set_option maxHeartbeats 1000000 in
theorem balanced_low1 (b c : Nat) (A M R : Tr) (k v k2 v2 : Int) (w : World) (h : Loose w b (.node c A k2 v2 M) k v R) (hs : A.size + M.size + R.size ≤ 30000)
    (h1 : (Tr.node c A k2 v2 M).ht = R.ht + 2) (h2 : M.ht ≤ A.ht) :
    Calls Tryz.prog 208 #[.pointer (some ⟨b, 0, none⟩)] w fun e w' => e = .returned (.pointer (some ⟨c, 0, none⟩)) ∧
      Lies 336 w' (.node c A k2 v2 (.node b M k v R)) ∧ Fr (fun x => x = b ∨ x = c) w w' := by
  have hloose := h
  obtain ⟨⟨s, g, hb⟩, lL, lR, n1, n2, n3⟩ := h
  have c2 : w.cell? ⟨b, 2, none⟩ = some (.pointer (some ⟨c, 0, none⟩)) := cell_of hb 2
  have c3 : w.cell? ⟨b, 3, none⟩ = some (.pointer R.ad) := cell_of hb 3
  have f2 : w.frozen? ⟨b, 2, none⟩ = false := frozen_of hb 2
  have hc := lL.1
  have tl := lL.top
  have tr := lR.top
  have lA := lL.2.1
  have lM := lL.2.2.1
  have d2 : w.cell? ⟨c, 2, none⟩ = some (.pointer A.ad) := cell_of hc 2
  have d3 : w.cell? ⟨c, 3, none⟩ = some (.pointer M.ad) := cell_of hc 3
  have ta := lA.top
  have tm := lM.top
  have g1 := A.ht_le_size
  have g2 := R.ht_le_size
  have g3 := M.ht_le_size
  have g4 := (Tr.node c A k2 v2 M).ht_le_size
  simp only [Tr.size] at g4
  generalize hq : R.ad = rp at *
  generalize hpa : A.ad = ap at *
  generalize hpm : M.ad = mp at *
  obtain ⟨hl, ehl⟩ : ∃ hl : Int, hl = (Tr.node c A k2 v2 M).ht := ⟨_, rfl⟩
  obtain ⟨hr, ehr⟩ : ∃ hr : Int, hr = R.ht := ⟨_, rfl⟩
  obtain ⟨ha, eha⟩ : ∃ ha : Int, ha = A.ht := ⟨_, rfl⟩
  obtain ⟨hm, ehm⟩ : ∃ hm : Int, hm = M.ht := ⟨_, rfl⟩
  rw [← ehl] at tl
  rw [← ehr] at tr
  rw [← eha] at ta
  rw [← ehm] at tm
  have e1 : IntKind.i64.wrap (hl - hr) = 2 := by rw [IntKind.wrap_i64]; omega
  have e2 : ¬ ha < hm := by omega
  clear hb hc lL lR lA lM n1 n2 n3 ehl ehr eha ehm g1 g2 g3 g4 h1 h2 hq hpa hpm
  go_enter Tryz.func208, Tryz.ntmps208
  go_wp2_with fail
  go_region_held3 (fun w' => w'.cell? ⟨b, 2, none⟩ = some (.pointer (some ⟨c, 0, none⟩)) ∧ w'.cell? ⟨b, 3, none⟩ = some (.pointer rp)) (refine ⟨?_, ?_⟩ <;> simp [c2, c3])
   (first
    | (go_at_call_of 210 (Value.pointer (some (Addr.mk c 0 none))); refine (levels_any (some ⟨c, 0, none⟩) _ hl _ (by exact tl.same rfl)).mono ?_; rintro e w1 ⟨rfl, rfl⟩)
    | (go_at_call_of 210 (Value.pointer rp); refine (levels_any rp _ hr _ (by exact tr.same rfl)).mono ?_; rintro e w1 ⟨rfl, rfl⟩))
  go_wp2_with fail
  go_region_held3 (fun w' => w'.cell? ⟨b, 2, none⟩ = some (.pointer (some ⟨c, 0, none⟩)) ∧ w'.cell? ⟨c, 2, none⟩ = some (.pointer ap) ∧ w'.cell? ⟨c, 3, none⟩ = some (.pointer mp)) (refine ⟨?_, ?_, ?_⟩ <;> simp [c2, d2, d3])
   (first
    | (go_at_call_of 210 (Value.pointer ap); refine (levels_any ap _ ha _ (by exact ta.same rfl)).mono ?_; rintro e w1 ⟨rfl, rfl⟩)
    | (go_at_call_of 210 (Value.pointer mp); refine (levels_any mp _ hm _ (by exact tm.same rfl)).mono ?_; rintro e w1 ⟨rfl, rfl⟩))
  go_wp2_with fail
  refine (turnedHigh_any b c A M R k v k2 v2 _ (by exact hloose.congr fun _ _ => rfl) (by omega)).mono ?_
  rintro e w3 ⟨rfl, t3, fr3⟩
  go_wp2_with fail
  go_ret
  exact ⟨rfl, t3, ⟨fr3.os, fr3.tape, fr3.output, fr3.size, fr3.block⟩⟩

set_option maxHeartbeats 1000000 in
theorem balanced_high1 (b c : Nat) (A M R : Tr) (k v k2 v2 : Int) (w : World) (h : Loose w b R k v (.node c M k2 v2 A)) (hs : A.size + M.size + R.size ≤ 30000)
    (h1 : (Tr.node c M k2 v2 A).ht = R.ht + 2) (h2 : M.ht ≤ A.ht) :
    Calls Tryz.prog 208 #[.pointer (some ⟨b, 0, none⟩)] w fun e w' => e = .returned (.pointer (some ⟨c, 0, none⟩)) ∧
      Lies 336 w' (.node c (.node b R k v M) k2 v2 A) ∧ Fr (fun x => x = b ∨ x = c) w w' := by
  have hloose := h
  obtain ⟨⟨s, g, hb⟩, lR, lL, n2, n1, n3⟩ := h
  have c2 : w.cell? ⟨b, 3, none⟩ = some (.pointer (some ⟨c, 0, none⟩)) := cell_of hb 3
  have c3 : w.cell? ⟨b, 2, none⟩ = some (.pointer R.ad) := cell_of hb 2
  have f2 : w.frozen? ⟨b, 3, none⟩ = false := frozen_of hb 3
  have hc := lL.1
  have tl := lL.top
  have tr := lR.top
  have lA := lL.2.2.1
  have lM := lL.2.1
  have d2 : w.cell? ⟨c, 3, none⟩ = some (.pointer A.ad) := cell_of hc 3
  have d3 : w.cell? ⟨c, 2, none⟩ = some (.pointer M.ad) := cell_of hc 2
  have ta := lA.top
  have tm := lM.top
  have g1 := A.ht_le_size
  have g2 := R.ht_le_size
  have g3 := M.ht_le_size
  have g4 := (Tr.node c M k2 v2 A).ht_le_size
  simp only [Tr.size] at g4
  generalize hq : R.ad = rp at *
  generalize hpa : A.ad = ap at *
  generalize hpm : M.ad = mp at *
  obtain ⟨hl, ehl⟩ : ∃ hl : Int, hl = (Tr.node c M k2 v2 A).ht := ⟨_, rfl⟩
  obtain ⟨hr, ehr⟩ : ∃ hr : Int, hr = R.ht := ⟨_, rfl⟩
  obtain ⟨ha, eha⟩ : ∃ ha : Int, ha = A.ht := ⟨_, rfl⟩
  obtain ⟨hm, ehm⟩ : ∃ hm : Int, hm = M.ht := ⟨_, rfl⟩
  rw [← ehl] at tl
  rw [← ehr] at tr
  rw [← eha] at ta
  rw [← ehm] at tm
  have e1 : IntKind.i64.wrap (hr - hl) = -2 := by rw [IntKind.wrap_i64]; omega
  have e2 : ¬ ha < hm := by omega
  clear hb hc lL lR lA lM n1 n2 n3 ehl ehr eha ehm g1 g2 g3 g4 h1 h2 hq hpa hpm
  go_enter Tryz.func208, Tryz.ntmps208
  go_wp2_with fail
  go_region_held3 (fun w' => w'.cell? ⟨b, 3, none⟩ = some (.pointer (some ⟨c, 0, none⟩)) ∧ w'.cell? ⟨b, 2, none⟩ = some (.pointer rp)) (refine ⟨?_, ?_⟩ <;> simp [c2, c3])
   (first
    | (go_at_call_of 210 (Value.pointer (some (Addr.mk c 0 none))); refine (levels_any (some ⟨c, 0, none⟩) _ hl _ (by exact tl.same rfl)).mono ?_; rintro e w1 ⟨rfl, rfl⟩)
    | (go_at_call_of 210 (Value.pointer rp); refine (levels_any rp _ hr _ (by exact tr.same rfl)).mono ?_; rintro e w1 ⟨rfl, rfl⟩))
  go_wp2_with fail
  go_region_held3 (fun w' => w'.cell? ⟨b, 3, none⟩ = some (.pointer (some ⟨c, 0, none⟩)) ∧ w'.cell? ⟨c, 3, none⟩ = some (.pointer ap) ∧ w'.cell? ⟨c, 2, none⟩ = some (.pointer mp)) (refine ⟨?_, ?_, ?_⟩ <;> simp [c2, d2, d3])
   (first
    | (go_at_call_of 210 (Value.pointer ap); refine (levels_any ap _ ha _ (by exact ta.same rfl)).mono ?_; rintro e w1 ⟨rfl, rfl⟩)
    | (go_at_call_of 210 (Value.pointer mp); refine (levels_any mp _ hm _ (by exact tm.same rfl)).mono ?_; rintro e w1 ⟨rfl, rfl⟩))
  go_wp2_with fail
  refine (turnedLow_any b c R M A k v k2 v2 _ (by exact hloose.congr fun _ _ => rfl) (by omega)).mono ?_
  rintro e w3 ⟨rfl, t3, fr3⟩
  go_wp2_with fail
  go_ret
  exact ⟨rfl, t3, ⟨fr3.os, fr3.tape, fr3.output, fr3.size, fr3.block⟩⟩

set_option maxHeartbeats 1000000 in
theorem balanced_low2 (b c d : Nat) (A B C R : Tr) (k v k2 v2 k3 v3 : Int) (w : World) (h : Loose w b (.node c A k2 v2 (.node d B k3 v3 C)) k v R) (hs : A.size + B.size + C.size + R.size ≤ 30000)
    (h1 : (Tr.node c A k2 v2 (.node d B k3 v3 C)).ht = R.ht + 2) (h2 : A.ht < (Tr.node d B k3 v3 C).ht) :
    Calls Tryz.prog 208 #[.pointer (some ⟨b, 0, none⟩)] w fun e w' => e = .returned (.pointer (some ⟨d, 0, none⟩)) ∧
      Lies 336 w' (.node d (.node c A k2 v2 B) k3 v3 (.node b C k v R)) ∧ Fr (fun x => x = b ∨ x = c ∨ x = d) w w' := by
  have hloose := h
  obtain ⟨⟨s, g, hb⟩, lL, lR, n1, n2, n3⟩ := h
  have c2 : w.cell? ⟨b, 2, none⟩ = some (.pointer (some ⟨c, 0, none⟩)) := cell_of hb 2
  have c3 : w.cell? ⟨b, 3, none⟩ = some (.pointer R.ad) := cell_of hb 3
  have f2 : w.frozen? ⟨b, 2, none⟩ = false := frozen_of hb 2
  have hc := lL.1
  have tl := lL.top
  have tr := lR.top
  have lA := lL.2.1
  have lM := lL.2.2.1
  have d2 : w.cell? ⟨c, 2, none⟩ = some (.pointer A.ad) := cell_of hc 2
  have d3 : w.cell? ⟨c, 3, none⟩ = some (.pointer (some ⟨d, 0, none⟩)) := cell_of hc 3
  have ta := lA.top
  have tm := lM.top
  have g1 := A.ht_le_size
  have g2 := R.ht_le_size
  have g3 := (Tr.node d B k3 v3 C).ht_le_size
  simp only [Tr.size] at g3
  have g4 := (Tr.node c A k2 v2 (.node d B k3 v3 C)).ht_le_size
  simp only [Tr.size] at g4
  have pre := loose_low2 hloose
  generalize hq : R.ad = rp at *
  generalize hpa : A.ad = ap at *
  obtain ⟨hl, ehl⟩ : ∃ hl : Int, hl = (Tr.node c A k2 v2 (.node d B k3 v3 C)).ht := ⟨_, rfl⟩
  obtain ⟨hr, ehr⟩ : ∃ hr : Int, hr = R.ht := ⟨_, rfl⟩
  obtain ⟨ha, eha⟩ : ∃ ha : Int, ha = A.ht := ⟨_, rfl⟩
  obtain ⟨hm, ehm⟩ : ∃ hm : Int, hm = (Tr.node d B k3 v3 C).ht := ⟨_, rfl⟩
  rw [← ehl] at tl
  rw [← ehr] at tr
  rw [← eha] at ta
  rw [← ehm] at tm
  have e1 : IntKind.i64.wrap (hl - hr) = 2 := by rw [IntKind.wrap_i64]; omega
  have e2 : ha < hm := by omega
  clear hb hc lL lR lA lM n1 n2 n3 ehl ehr eha ehm g1 g2 g3 g4 h1 h2 hq hpa
  go_enter Tryz.func208, Tryz.ntmps208
  go_wp2_with fail
  go_region_held3 (fun w' => w'.cell? ⟨b, 2, none⟩ = some (.pointer (some ⟨c, 0, none⟩)) ∧ w'.cell? ⟨b, 3, none⟩ = some (.pointer rp)) (refine ⟨?_, ?_⟩ <;> simp [c2, c3])
   (first
    | (go_at_call_of 210 (Value.pointer (some (Addr.mk c 0 none))); refine (levels_any (some ⟨c, 0, none⟩) _ hl _ (by exact tl.same rfl)).mono ?_; rintro e w1 ⟨rfl, rfl⟩)
    | (go_at_call_of 210 (Value.pointer rp); refine (levels_any rp _ hr _ (by exact tr.same rfl)).mono ?_; rintro e w1 ⟨rfl, rfl⟩))
  go_wp2_with fail
  go_region_held3 (fun w' => w'.cell? ⟨b, 2, none⟩ = some (.pointer (some ⟨c, 0, none⟩)) ∧ w'.cell? ⟨c, 2, none⟩ = some (.pointer ap) ∧ w'.cell? ⟨c, 3, none⟩ = some (.pointer (some ⟨d, 0, none⟩))) (refine ⟨?_, ?_, ?_⟩ <;> simp [c2, d2, d3])
   (first
    | (go_at_call_of 210 (Value.pointer ap); refine (levels_any ap _ ha _ (by exact ta.same rfl)).mono ?_; rintro e w1 ⟨rfl, rfl⟩)
    | (go_at_call_of 210 (Value.pointer (some (Addr.mk d 0 none))); refine (levels_any (some ⟨d, 0, none⟩) _ hm _ (by exact tm.same rfl)).mono ?_; rintro e w1 ⟨rfl, rfl⟩))
  go_wp2_with fail
  refine (turnedLow_any c d A B C k2 v2 k3 v3 _ (by exact pre.1.congr fun _ _ => rfl) (by omega)).mono ?_
  rintro e w3 ⟨rfl, t3, fr3⟩
  obtain ⟨p1, p2, p3⟩ := pre.2 w3 ⟨fr3.os, fr3.tape, fr3.output, fr3.size, fr3.block⟩ t3
  go_wp2_with fail
  refine (turnedHigh_any b d (.node c A k2 v2 B) C R k v k3 v3 _ (by exact p3) (by simp only [Tr.size]; omega)).mono ?_
  rintro e w4 ⟨rfl, t4, fr4⟩
  go_wp2_with fail
  go_ret
  refine ⟨rfl, t4, ?_⟩
  have fr5 : Fr (fun x => x = c ∨ x = d) w w3 := ⟨fr3.os, fr3.tape, fr3.output, fr3.size, fr3.block⟩
  have fr6 : Fr (fun x => x = b ∨ x = c ∨ x = d) w w3 := fr5.mono fun _ _ e => Or.inr e
  refine Fr.trans (Fr.setCell fr6 (by exact fun _ => Or.inl rfl) _) fr4 ?_
  rintro x _ (e | e)
  · exact Or.inl e
  · exact Or.inr (Or.inr e)

set_option maxHeartbeats 1000000 in
theorem balanced_high2 (b c d : Nat) (A B C R : Tr) (k v k2 v2 k3 v3 : Int) (w : World) (h : Loose w b R k v (.node c (.node d B k3 v3 C) k2 v2 A)) (hs : A.size + B.size + C.size + R.size ≤ 30000)
    (h1 : (Tr.node c (.node d B k3 v3 C) k2 v2 A).ht = R.ht + 2) (h2 : A.ht < (Tr.node d B k3 v3 C).ht) :
    Calls Tryz.prog 208 #[.pointer (some ⟨b, 0, none⟩)] w fun e w' => e = .returned (.pointer (some ⟨d, 0, none⟩)) ∧
      Lies 336 w' (.node d (.node b R k v B) k3 v3 (.node c C k2 v2 A)) ∧ Fr (fun x => x = b ∨ x = c ∨ x = d) w w' := by
  have hloose := h
  obtain ⟨⟨s, g, hb⟩, lR, lL, n2, n1, n3⟩ := h
  have c2 : w.cell? ⟨b, 3, none⟩ = some (.pointer (some ⟨c, 0, none⟩)) := cell_of hb 3
  have c3 : w.cell? ⟨b, 2, none⟩ = some (.pointer R.ad) := cell_of hb 2
  have f2 : w.frozen? ⟨b, 3, none⟩ = false := frozen_of hb 3
  have hc := lL.1
  have tl := lL.top
  have tr := lR.top
  have lA := lL.2.2.1
  have lM := lL.2.1
  have d2 : w.cell? ⟨c, 3, none⟩ = some (.pointer A.ad) := cell_of hc 3
  have d3 : w.cell? ⟨c, 2, none⟩ = some (.pointer (some ⟨d, 0, none⟩)) := cell_of hc 2
  have ta := lA.top
  have tm := lM.top
  have g1 := A.ht_le_size
  have g2 := R.ht_le_size
  have g3 := (Tr.node d B k3 v3 C).ht_le_size
  simp only [Tr.size] at g3
  have g4 := (Tr.node c (.node d B k3 v3 C) k2 v2 A).ht_le_size
  simp only [Tr.size] at g4
  have pre := loose_high2 hloose
  generalize hq : R.ad = rp at *
  generalize hpa : A.ad = ap at *
  obtain ⟨hl, ehl⟩ : ∃ hl : Int, hl = (Tr.node c (.node d B k3 v3 C) k2 v2 A).ht := ⟨_, rfl⟩
  obtain ⟨hr, ehr⟩ : ∃ hr : Int, hr = R.ht := ⟨_, rfl⟩
  obtain ⟨ha, eha⟩ : ∃ ha : Int, ha = A.ht := ⟨_, rfl⟩
  obtain ⟨hm, ehm⟩ : ∃ hm : Int, hm = (Tr.node d B k3 v3 C).ht := ⟨_, rfl⟩
  rw [← ehl] at tl
  rw [← ehr] at tr
  rw [← eha] at ta
  rw [← ehm] at tm
  have e1 : IntKind.i64.wrap (hr - hl) = -2 := by rw [IntKind.wrap_i64]; omega
  have e2 : ha < hm := by omega
  clear hb hc lL lR lA lM n1 n2 n3 ehl ehr eha ehm g1 g2 g3 g4 h1 h2 hq hpa
  go_enter Tryz.func208, Tryz.ntmps208
  go_wp2_with fail
  go_region_held3 (fun w' => w'.cell? ⟨b, 3, none⟩ = some (.pointer (some ⟨c, 0, none⟩)) ∧ w'.cell? ⟨b, 2, none⟩ = some (.pointer rp)) (refine ⟨?_, ?_⟩ <;> simp [c2, c3])
   (first
    | (go_at_call_of 210 (Value.pointer (some (Addr.mk c 0 none))); refine (levels_any (some ⟨c, 0, none⟩) _ hl _ (by exact tl.same rfl)).mono ?_; rintro e w1 ⟨rfl, rfl⟩)
    | (go_at_call_of 210 (Value.pointer rp); refine (levels_any rp _ hr _ (by exact tr.same rfl)).mono ?_; rintro e w1 ⟨rfl, rfl⟩))
  go_wp2_with fail
  go_region_held3 (fun w' => w'.cell? ⟨b, 3, none⟩ = some (.pointer (some ⟨c, 0, none⟩)) ∧ w'.cell? ⟨c, 3, none⟩ = some (.pointer ap) ∧ w'.cell? ⟨c, 2, none⟩ = some (.pointer (some ⟨d, 0, none⟩))) (refine ⟨?_, ?_, ?_⟩ <;> simp [c2, d2, d3])
   (first
    | (go_at_call_of 210 (Value.pointer ap); refine (levels_any ap _ ha _ (by exact ta.same rfl)).mono ?_; rintro e w1 ⟨rfl, rfl⟩)
    | (go_at_call_of 210 (Value.pointer (some (Addr.mk d 0 none))); refine (levels_any (some ⟨d, 0, none⟩) _ hm _ (by exact tm.same rfl)).mono ?_; rintro e w1 ⟨rfl, rfl⟩))
  go_wp2_with fail
  refine (turnedHigh_any c d B C A k2 v2 k3 v3 _ (by exact pre.1.congr fun _ _ => rfl) (by omega)).mono ?_
  rintro e w3 ⟨rfl, t3, fr3⟩
  obtain ⟨p1, p2, p3⟩ := pre.2 w3 ⟨fr3.os, fr3.tape, fr3.output, fr3.size, fr3.block⟩ t3
  go_wp2_with fail
  refine (turnedLow_any b d R B (.node c C k2 v2 A) k v k3 v3 _ (by exact p3) (by simp only [Tr.size]; omega)).mono ?_
  rintro e w4 ⟨rfl, t4, fr4⟩
  go_wp2_with fail
  go_ret
  refine ⟨rfl, t4, ?_⟩
  have fr5 : Fr (fun x => x = c ∨ x = d) w w3 := ⟨fr3.os, fr3.tape, fr3.output, fr3.size, fr3.block⟩
  have fr6 : Fr (fun x => x = b ∨ x = c ∨ x = d) w w3 := fr5.mono fun _ _ e => Or.inr e
  refine Fr.trans (Fr.setCell fr6 (by exact fun _ => Or.inl rfl) _) fr4 ?_
  rintro x _ (e | e)
  · exact Or.inl e
  · exact Or.inr (Or.inr e)

end Go.Proofs.YthbnbocpddddmaaGreat
