/- Two maps with one row: whole; the row after some askings. -/
import Derived.Test.YthbnbocpddddmabGreatWDelT
import Derived.Test.YthbnbocpddddmabGreatWDelK
import Derived.Test.YthbnbocpddddmabGreatKeys
namespace Go.Proofs.YthbnbocpddddmabGreat
open Go.RowKit

/-- Two maps, one of each engine, with one and the same row. -/
def Two (w : World) (a b : Nat) (t : Bool) (ca cb : Int) (oa ob : Nat → Prop) (xs ys : Row) : Prop :=
  MapT w a t ca oa xs ∧ MapK w b t cb ob ys ∧ (∀ x, oa x → ¬ ob x)

theorem Two.onA {w w' : World} {a b : Nat} {t : Bool} {ca cb ca' : Int} {oa ob oa' : Nat → Prop} {xs ys xs' : Row} (h : Two w a b t ca cb oa ob xs ys) (hm : MapT w' a t ca' oa' xs') (hs : ∀ x, oa' x → oa x ∨ w.heap.size ≤ x) (fr : Fr oa w w') : Two w' a b t ca' cb oa' ob xs' ys := by
  obtain ⟨h1, h2, h3⟩ := h
  refine ⟨hm, h2.fr fr fun x e e' => h3 x e' e, fun x e e' => ?_⟩
  rcases hs x e with c | c
  · exact h3 x c e'
  · have := h2.lt x e'; omega

theorem Two.onB {w w' : World} {a b : Nat} {t : Bool} {ca cb cb' : Int} {oa ob ob' : Nat → Prop} {xs ys ys' : Row} (h : Two w a b t ca cb oa ob xs ys) (hm : MapK w' b t cb' ob' ys') (hs : ∀ x, ob' x → ob x ∨ w.heap.size ≤ x) (fr : Fr ob w w') : Two w' a b t ca cb' oa ob' xs ys' := by
  obtain ⟨h1, h2, h3⟩ := h
  refine ⟨h1.fr fr fun x e => h3 x e, hm, fun x e e' => ?_⟩
  rcases hs x e' with c | c
  · exact h3 x e c
  · have := h1.lt x e; omega

theorem Two.both {w w' : World} {a b : Nat} {t : Bool} {ca cb : Int} {oa ob : Nat → Prop} {xs ys : Row} (h : Two w a b t ca cb oa ob xs ys) (fr : Fr (fun _ => False) w w') : Two w' a b t ca cb oa ob xs ys :=
  ⟨h.1.fr fr fun _ _ e => e, h.2.1.fr fr fun _ _ e => e, h.2.2⟩

theorem MapT.self {w : World} {m : Nat} {t : Bool} {c : Int} {own : Nat → Prop} {xs : Row} (h : MapT w m t c own xs) : own m := (h.choose_spec.choose_spec.2.2.2.1 m).2 (Or.inl rfl)
theorem MapK.self {w : World} {m : Nat} {t : Bool} {c : Int} {own : Nat → Prop} {xs : Row} (h : MapK w m t c own xs) : own m := (h.choose_spec.choose_spec.2.2.2.1 m).2 (Or.inl rfl)

set_option maxRecDepth 100000 in
set_option maxHeartbeats 1000000 in
theorem whole_any (a b : Nat) (t : Bool) (ca cb : Int) (oa ob : Nat → Prop) (xs : Row) (w : World) (h : Two w a b t ca cb oa ob xs xs) (hl : xs.length ≤ 400) :
    Calls Tryz.prog 9 #[.pointer (some ⟨a, 0, none⟩), .pointer (some ⟨b, 0, none⟩)] w fun e w' => e = .returned (.bool true) ∧ Fr (fun _ => False) w w' := by
  have hl' : (xs.length : Int) ≤ 400 := by omega
  go_enter Tryz.func9, Tryz.ntmps9
  go_wp2_with fail
  refine (len_anyT a t ca oa xs _ h.1).mono ?_
  rintro e w1 ⟨rfl, rfl⟩
  go_wp2_with fail
  refine (len_anyK b t cb ob xs _ h.2.1).mono ?_
  rintro e w1 ⟨rfl, rfl⟩
  go_wp2_with fail
  go_loopg [5] xs.length (fun gk s5 wr => ∃ j : Nat, gk + j = xs.length ∧ s5 = .int .i64 j ∧ Two wr a b t ca cb oa ob xs xs ∧ Fr (fun _ => False) w1 wr)
  case atStart => exact ⟨0, by omega, rfl, h, Fr.refl _ _⟩
  case round =>
    obtain ⟨j, y0, rfl, h2, F⟩ := hrel
    have hlen := len_anyT a t ca oa xs wr h2.1
    have y0' : (j : Int) ≤ 400 := by omega
    have HY : Hid (gk + j = xs.length) := y0
    by_cases hj : j < xs.length
    · have hj1 : (j : Int) < (xs.length : Int) := by omega
      have hA := at_anyT a t ca oa xs j wr h2.1 (by omega)
      have hB := fun w' h' => at_anyK b t cb ob xs j w' h' (by omega)
      have hlb : latB xs j = true := by unfold latB; rw [if_pos (by omega)]
      rw [hlb] at hA hB
      generalize latK xs j = K at *
      generalize latV xs j = V at *
      clear hlb y0
      go_wp2_with fail
      refine hlen.mono ?_
      rintro e w2 ⟨rfl, rfl⟩
      go_wp2_with fail
      refine hA.mono ?_
      rintro e w3 ⟨rfl, f3⟩
      have h3 := h2.both f3
      have F3 := F.trans f3 fun _ _ e => e
      go_wp2_with fail
      refine (hB _ h3.2.1).mono ?_
      rintro e w4 ⟨rfl, f4⟩
      go_wp2_with fail
      go_roundg (gk - 1)
      case measure => have := HY.out; omega
      case rel => exact ⟨j + 1, by have := HY.out; omega, by go_num, h3.both f4, F3.trans f4 fun _ _ e => e⟩
    · have hj1 : ¬ (j : Int) < (xs.length : Int) := by omega
      clear y0
      go_wp2_with fail
      refine hlen.mono ?_
      rintro e w2 ⟨rfl, rfl⟩
      go_wp2_with fail
      go_ret
      exact ⟨rfl, F⟩

/-- The row after j askings. -/
def askTo (t : Bool) (xs : Row) (qs : List Int) : Nat → Row
  | 0 => xs
  | j + 1 => if j % 3 = 0 then ldel t (qs.getD j 0) (askTo t xs qs j) else lputF t (qs.getD j 0) j (askTo t xs qs j)

theorem len_putF {t : Bool} {k v : Int} {xs : Row} (h : xs.length ≤ 400) : (lputF t k v xs).length ≤ 400 := by
  unfold lputF
  split
  · rename_i e
    unfold lerr at e
    rw [len_put]
    split
    · exact h
    · rename_i hs
      rw [if_neg hs] at e
      by_cases c : 400 ≤ xs.length
      · rw [if_pos c] at e; omega
      · omega
  · exact h

theorem askTo_len {t : Bool} {xs : Row} (qs : List Int) (h : xs.length ≤ 400) (j : Nat) : (askTo t xs qs j).length ≤ 400 := by
  induction j with
  | zero => exact h
  | succ j ih =>
    simp only [askTo]
    split
    · exact Nat.le_trans (len_del _ _ _) ih
    · exact len_putF ih

end Go.Proofs.YthbnbocpddddmabGreat
