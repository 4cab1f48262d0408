/- measure. -/
import Derived.Test.YthbnbocpddddmaaGreatWTree
namespace Go.Proofs.YthbnbocpddddmaaGreat
open Go.RowKit

set_option maxHeartbeats 1000000 in
theorem measure_any (b : Nat) (k v : Int) (lp rp : Option Addr) (s0 h0 sl hl sr hr : Int) (w : World) (hb : w.heap[b]? = some (nodeBlk 336 k v lp rp s0 h0))
    (tl : Top 336 w lp sl hl) (tr : Top 336 w rp sr hr) (nl : lp ≠ some ⟨b, 0, none⟩) (nr : rp ≠ some ⟨b, 0, none⟩)
    (b1 : 0 ≤ sl) (b2 : sl ≤ 100000) (b3 : 0 ≤ sr) (b4 : sr ≤ 100000) (b5 : 0 ≤ hl) (b6 : hl ≤ 100000) (b7 : 0 ≤ hr) (b8 : hr ≤ 100000) :
    Calls Tryz.prog 213 #[.pointer (some ⟨b, 0, none⟩)] w fun e w' => e = .returned (.tuple #[]) ∧
      w'.heap[b]? = some (nodeBlk 336 k v lp rp (sl + sr + 1) (max hl hr + 1)) ∧ Fr (fun x => x = b) w w' := by
  have c2 : w.cell? ⟨b, 2, none⟩ = some (.pointer lp) := cell_of hb 2
  have c3 : w.cell? ⟨b, 3, none⟩ = some (.pointer rp) := cell_of hb 3
  have c4 : w.cell? ⟨b, 4, none⟩ = some (.int .i64 s0) := cell_of hb 4
  have c5 : w.cell? ⟨b, 5, none⟩ = some (.int .i64 h0) := cell_of hb 5
  have f4 : w.frozen? ⟨b, 4, none⟩ = false := frozen_of hb 4
  have f5 : w.frozen? ⟨b, 5, none⟩ = false := frozen_of hb 5
  have e1 : IntKind.i64.wrap (sl + sr) = sl + sr := by rw [IntKind.wrap_i64]; omega
  have e2 : IntKind.i64.wrap (sl + sr + 1) = sl + sr + 1 := by rw [IntKind.wrap_i64]; omega
  go_enter Tryz.func213, Tryz.ntmps213
  go_wp2_with fail
  go_region_held3 (fun w' => w'.cell? ⟨b, 2, none⟩ = some (.pointer lp) ∧ w'.cell? ⟨b, 3, none⟩ = some (.pointer rp)) (refine ⟨?_, ?_⟩ <;> simp [World.cell?_setCell_other, c2, c3])
   (first
    | (go_at_call_of 205 (Value.pointer lp); refine (count_any lp sl hl _ (by exact tl.congr fun _ _ => rfl)).mono ?_; rintro e w1 ⟨rfl, rfl⟩)
    | (go_at_call_of 205 (Value.pointer rp); refine (count_any rp sr hr _ (by exact tr.congr fun _ _ => rfl)).mono ?_; rintro e w1 ⟨rfl, rfl⟩))
  go_wp2_with fail
  go_region_held3 (fun w' => w'.cell? ⟨b, 2, none⟩ = some (.pointer lp) ∧ w'.cell? ⟨b, 3, none⟩ = some (.pointer rp)) (refine ⟨?_, ?_⟩ <;> simp [World.cell?_setCell_other, c2, c3])
   (first
    | (go_at_call_of 210 (Value.pointer lp); refine (levels_any lp sl hl _ (by exact tl.congr fun x hx => Below.heap_setCell _ _ _ _ (fun e => nl (by rw [hx, e])))).mono ?_; rintro e w1 ⟨rfl, rfl⟩)
    | (go_at_call_of 210 (Value.pointer rp); refine (levels_any rp sr hr _ (by exact tr.congr fun x hx => Below.heap_setCell _ _ _ _ (fun e => nr (by rw [hx, e])))).mono ?_; rintro e w1 ⟨rfl, rfl⟩))
  go_end0
  have em : IntKind.i64.wrap ((if hl < hr then hr else hl) + 1) = max hl hr + 1 := by rw [IntKind.wrap_i64]; split <;> omega
  exact ⟨rfl, (blk_set (blk_set hb 4 _) 5 _).trans (by rw [em]; rfl), Fr.drew (Fr.drew (Fr.setCell (Fr.setCell (Fr.refl _ w) (by exact fun _ => rfl) _) (by exact fun _ => rfl) _))⟩

/-- A node whose two numbers may be stale, over two trees that lie. -/
def Loose (w : World) (b : Nat) (L : Tr) (k v : Int) (R : Tr) : Prop :=
  (∃ s h : Int, w.heap[b]? = some (nodeBlk 336 k v L.ad R.ad s h)) ∧ Lies 336 w L ∧ Lies 336 w R ∧ ¬ L.has b ∧ ¬ R.has b ∧ (∀ x, L.has x → ¬ R.has x)

theorem Lies.loose {w : World} {b : Nat} {L R : Tr} {k v : Int} (h : Lies 336 w (.node b L k v R)) : Loose w b L k v R := ⟨⟨_, _, h.1⟩, h.2⟩

theorem ad_ne {t : Tr} {b : Nat} (h : ¬ t.has b) : t.ad ≠ some ⟨b, 0, none⟩ := by
  cases t with
  | nil => simp [Tr.ad]
  | node c l k v r => intro e; simp [Tr.ad] at e; exact h (Or.inl e.symm)

theorem measure_tree (b : Nat) (L : Tr) (k v : Int) (R : Tr) (w : World) (hl : Loose w b L k v R) (hs : L.size + R.size ≤ 50000) :
    Calls Tryz.prog 213 #[.pointer (some ⟨b, 0, none⟩)] w fun e w' => e = .returned (.tuple #[]) ∧ Lies 336 w' (.node b L k v R) ∧ Fr (fun x => x = b) w w' := by
  obtain ⟨⟨s, h, hb⟩, lL, lR, n1, n2, n3⟩ := hl
  have g1 := L.ht_le_size
  have g2 := R.ht_le_size
  refine (measure_any b k v L.ad R.ad s h L.size L.ht R.size R.ht w hb lL.top lR.top (ad_ne n1) (ad_ne n2) (by omega) (by omega) (by omega) (by omega) (by omega) (by omega) (by omega) (by omega)).mono ?_
  rintro e w1 ⟨rfl, hb1, fr⟩
  refine ⟨rfl, ⟨?_, lL.fr fr fun x hx e => n1 (e ▸ hx), lR.fr fr fun x hx e => n2 (e ▸ hx), n1, n2, n3⟩, fr⟩
  rw [hb1]
  congr 2
  omega

end Go.Proofs.YthbnbocpddddmaaGreat
