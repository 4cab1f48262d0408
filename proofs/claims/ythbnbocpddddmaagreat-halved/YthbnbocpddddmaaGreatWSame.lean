/- Texts.Compare of two ASCII texts that are the same; the closure that compares; maps of texts, by the skip list, as far as the first example goes. -/
import Derived.Test.YthbnbocpddddmaaGreatWTexts
import Derived.Test.YthbnbocpddddmaaGreatWSide
import Derived.Lib.OthersKept
import Derived.Deep.LoopGhost
namespace Go.Proofs.YthbnbocpddddmaaGreat
open Go.RowKit

theorem iterAt_fr {S : Nat → Prop} {a w : World} (h : Fr S a w) {k : Nat} (hk : a.heap.size ≤ k) (s : ByteArray) (pos : Nat) : Fr S a (w.iterAt k s pos) :=
  ⟨h.os, h.tape, h.output, by rw [Lib.iterAt_size]; exact h.size, fun i hi hn => by rw [Lib.iterAt_other w k i s pos (by omega)]; exact h.block i hi hn⟩

theorem lt_of_cell {w : World} {b o : Nat} {v : Value} (h : w.cell? ⟨b, o, none⟩ = some v) : b < w.heap.size := by
  rcases Nat.lt_or_ge b w.heap.size with c | c
  · exact c
  · simp [World.cell?, Array.getElem?_eq_none c] at h

theorem ext_tail (R : ByteArray) : (R.extract 1 R.size).data.toList = R.data.toList.drop 1 := by
  simp only [ByteArray.data_extract, Array.toList_extract, List.extract_eq_take_drop]
  rw [List.take_of_length_le]
  rw [List.length_drop, Array.length_toList]
  exact Nat.le_refl _

theorem iterAt_cell (w : World) (k b o : Nat) (s : ByteArray) (pos : Nat) (h : b ≠ k) : (w.iterAt k s pos).cell? ⟨b, o, none⟩ = w.cell? ⟨b, o, none⟩ := World.cell?_of_block (w := w) (Lib.iterAt_other w k b s pos h)

set_option maxRecDepth 100000 in
set_option maxHeartbeats 1000000 in
theorem texts_same (f : Bool) (a b : ByteArray) (w : World) (hsz : a.size = b.size) (ha : ∀ i (h : i < a.size), (a[i]'h).toNat < 128) (hb : ∀ i (h : i < b.size), (b[i]'h).toNat < 128)
    (he : ∀ i (h : i < a.size) (h' : i < b.size), low f ((a[i]'h).toNat : Int) = low f ((b[i]'h').toNat : Int)) :
    Calls Tryz.prog 277 #[.agg #[.bool f], .string a, .string b] w fun e w' => e = .returned (.int .i64 0) ∧ Fr (fun _ => False) w w' := by
  go_enter Tryz.func277, Tryz.ntmps277
  go_wp2_with fail
  go_loopg [7] a.size (fun gk s7 wr => ∃ (pos : Nat) (R : ByteArray), gk + pos = a.size ∧ s7 = .string R ∧ R.data.toList = b.data.toList.drop pos ∧ wr.heap[w.heap.size + 1]? = some (.stringIter a pos) ∧
    wr.heap[w.heap.size]? = some (.cells #[.bool f] 201 (0, 0)) ∧ Fr (fun _ => False) w wr)
  case atStart =>
    refine ⟨0, b, rfl, rfl, rfl, ?_, ?_, ?_⟩
    · have := blk_new (w.alloc (.cells #[.bool f] 201)) (.stringIter a 0)
      rw [World.size_alloc] at this; exact this
    · show ((w.alloc _).heap.push _)[w.heap.size]? = _
      rw [Array.getElem?_push, if_neg (by simp)]
      exact blk_new _ _
    · exact Fr.alloc (Fr.alloc (Fr.refl _ _) _) _
  case round =>
    obtain ⟨pos, R, y0, rfl, y1, y2, y3, fr⟩ := hrel
    have hRs : R.size = b.size - pos := by
      have := congrArg List.length y1
      rw [List.length_drop, Array.length_toList, Array.length_toList] at this; exact this
    by_cases hp : pos < a.size
    · have hnext := fun ty => Lib.run_next_ascii_at (P := Tryz.prog) wr (w.heap.size + 1) a pos ty y2 hp (ha pos hp)
      have hR0 : 0 < R.size := by omega
      have hpb : pos < b.size := by omega
      have hRe : R[0]'hR0 = b[pos]'hpb := by
        have h1 : R.data.toList[0]? = b.data.toList[pos]? := by rw [y1, List.getElem?_drop]; rfl
        have h2 : R.data.toList[0]? = some (R[0]'hR0) := by rw [List.getElem?_eq_getElem (by simpa using hR0)]; rfl
        have h3 : b.data.toList[pos]? = some (b[pos]'hpb) := by rw [List.getElem?_eq_getElem (by simpa using hpb)]; rfl
        rw [h2, h3] at h1; simpa using h1
      have hdec := decode_asc R (wr.iterAt (w.heap.size + 1) a (pos + 1)) hR0 (by rw [hRe]; exact hb pos hpb)
      have hlow := he pos hp hpb
      rw [← hRe] at hlow
      have hx := ha pos hp
      have hy := hb pos hpb
      rw [← hRe] at hy
      have hRne : R.toList.isEmpty = false := by
        rw [List.isEmpty_eq_false_iff]
        intro e
        have : R.data.toList = [] := by simpa [ByteArray.toList_eq] using e
        simp at this
        simp [ByteArray.size, this] at hR0
      obtain ⟨x, ex⟩ : ∃ x : Int, x = ((a[pos]'hp).toNat : Int) := ⟨_, rfl⟩
      obtain ⟨y, ey⟩ : ∃ y : Int, y = ((R[0]'hR0).toNat : Int) := ⟨_, rfl⟩
      rw [← ex, ← ey] at hlow
      rw [← ey] at hdec
      have hnext' : ∀ ty, (Instr.next (.pointer (some ⟨w.heap.size + 1, 0, none⟩)) true ty).run Tryz.prog wr = .ok (.tuple #[.bool true, .int .i64 pos, .int .i32 x]) (wr.iterAt (w.heap.size + 1) a (pos + 1)) := fun ty => by rw [ex]; exact hnext ty
      have x0 : 0 ≤ x := by omega
      have x1 : x < 128 := by omega
      have y0' : 0 ≤ y := by omega
      have y1' : y < 128 := by omega
      have hsg : sgn (low f x) (low f y) = 0 := by rw [hlow]; unfold sgn; simp
      have hc0 : (wr.iterAt (w.heap.size + 1) a (pos + 1)).cell? ⟨w.heap.size, 0, none⟩ = some (.bool f) := by rw [iterAt_cell _ _ _ _ _ _ (by omega)]; exact cell_of y3 0
      have hp' : (pos : Int) ≤ (a.size : Int) := by omega
      have hp0 : (0 : Int) ≤ (pos : Int) := by omega
      have hp'' : pos ≤ a.size := by omega
      have hR1 : (1 : Int) ≤ (R.size : Int) := by omega
      have hwl : w.heap.size < wr.heap.size := lt_of_blk y3
      have HSL : Hid (sgn (low f x) (low f y) = 0) := hsg
      have HSZ : Hid (a.size = b.size ∧ R.size = b.size - pos ∧ gk + pos = a.size ∧ R.data.toList = b.data.toList.drop pos) := ⟨hsz, hRs, y0, y1⟩
      clear hnext ex ey hRe hlow hx hy hsg hsz hRs y0 y1 ha hb he
      go_wp2_with fail
      refine hdec.mono ?_
      rintro e w2 ⟨rfl, rfl⟩
      go_wp2_with fail
      go_region_held3 (fun w' => w'.cell? ⟨w.heap.size, 0, none⟩ = some (.bool f)) (simp [*])
        (first
          | (go_at_call_of 280 (Value.int IntKind.i32 x); refine (number_ascii f x _ _ x0 x1).mono ?_; rintro e w3 ⟨rfl, q3⟩; have k3 := (q3.cell (b := w.heap.size) 0 (lt_of_cell (by assumption)) (fun e => e)))
          | (go_at_call_of 280 (Value.int IntKind.i32 y); refine (number_ascii f y _ _ y0' y1').mono ?_; rintro e w4 ⟨rfl, q4⟩; have k4 := (q4.cell (b := w.heap.size) 0 (lt_of_cell (by assumption)) (fun e => e)))
          | (go_at_call 279; refine (cmpRune_any _ _ _).mono ?_; rintro e w5 ⟨rfl, rfl⟩))
      have hs0 := HSL.out
      clear HSL
      go_wp2_with fail
      go_roundg (gk - 1)
      case measure => have := HSZ.out; omega
      case rel =>
        obtain ⟨hsz, hRs, y0, y1⟩ := HSZ.out
        have i1 : w.heap.size + 1 < wr.heap.size := lt_of_blk y2
        have i2 : w.heap.size + 1 < w3.heap.size := Nat.lt_of_lt_of_le (by rw [← Lib.iterAt_size wr (w.heap.size + 1) a (pos + 1)] at i1; exact i1) q3.size
        refine ⟨pos + 1, R.extract 1 R.size, by omega, rfl, ?_, ?_, ?_, ?_⟩
        · rw [show (R.extract 1 R.size).data.toList = R.data.toList.drop 1 from ext_tail R, y1, List.drop_drop]
        · exact (q4.block _ i2 (fun e => e)).trans ((q3.block _ (by rw [← Lib.iterAt_size wr (w.heap.size + 1) a (pos + 1)] at i1; exact i1) (fun e => e)).trans (Lib.iterAt_heap wr _ a pos (pos + 1) y2))
        · exact (q4.block _ (by omega) (fun e => e)).trans ((q3.block _ (by rw [← Lib.iterAt_size wr (w.heap.size + 1) a (pos + 1)] at hwl; exact hwl) (fun e => e)).trans ((Lib.iterAt_other wr _ _ a (pos + 1) (by omega)).trans y3))
        · exact Fr.trans (S' := fun _ => False) (Fr.trans (S' := fun _ => False) (Fr.drew (iterAt_fr fr (by omega) a (pos + 1))) q3 fun _ _ e => e) q4 fun _ _ e => e
    · have hnext := fun ty => Lib.run_next_end_at (P := Tryz.prog) wr (w.heap.size + 1) a pos ty y2 hp
      have hR0 : R.size = 0 := by omega
      clear hsz hRs y0 y1 ha hb he
      go_wp2_with fail
      go_ret
      exact ⟨rfl, fr⟩

end Go.Proofs.YthbnbocpddddmaaGreat
