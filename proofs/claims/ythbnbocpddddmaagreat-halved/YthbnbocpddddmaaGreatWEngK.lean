/- The skip list of numbers as a map's engine. -/
import Derived.Test.YthbnbocpddddmaaGreatWNewKI
import Derived.Test.YthbnbocpddddmaaGreatWFindKI
import Derived.Test.YthbnbocpddddmaaGreatWSide
namespace Go.Proofs.YthbnbocpddddmaaGreat
open Go.RowKit

def EngK (w : World) (p : Nat) (own : Nat → Prop) (xs : Row) : Prop := SkI.Eng w p own xs

theorem EngK.lt {w : World} {p : Nat} {own : Nat → Prop} {xs : Row} (h : EngK w p own xs) : ∀ x, own x → x < w.heap.size := SkI.Eng.lt h
theorem EngK.own {w : World} {p : Nat} {own : Nat → Prop} {xs : Row} (h : EngK w p own xs) : own p := SkI.Eng.own h
theorem EngK.congr {w w' : World} {p : Nat} {own : Nat → Prop} {xs : Row} (h : EngK w p own xs) (hc : ∀ x, own x → w'.heap[x]? = w.heap[x]?) : EngK w' p own xs := SkI.Eng.congr h hc
theorem EngK.fr {S : Nat → Prop} {w w' : World} {p : Nat} {own : Nat → Prop} {xs : Row} (h : EngK w p own xs) (f : Fr S w w') (hd : ∀ x, own x → ¬ S x) : EngK w' p own xs := SkI.Eng.fr h f hd

theorem kLen_any (p : Nat) (own : Nat → Prop) (xs : Row) (w : World) (h : EngK w p own xs) :
    Calls Tryz.prog 217 #[.pointer (some ⟨p, 0, none⟩)] w fun e w' => e = .returned (.int .i64 xs.length) ∧ w' = w := SkI.kLen_any p own xs w h
theorem kAt_any (p : Nat) (own : Nat → Prop) (xs : Row) (i : Nat) (k v : Int) (w : World) (h : EngK w p own xs) (hi : xs[i]? = some (k, v)) (hs : xs.length ≤ 5000) :
    Calls Tryz.prog 214 #[.pointer (some ⟨p, 0, none⟩), .int .i64 i] w fun e w' => e = .returned (.tuple #[.int .i64 k, .int .i64 v]) ∧ Fr (fun _ => False) w w' := SkI.kAt_any p own xs i k v w h hi hs
theorem kSet_any (p : Nat) (own : Nat → Prop) (xs : Row) (i : Nat) (k v u : Int) (w : World) (h : EngK w p own xs) (hi : xs[i]? = some (k, v)) (hs : xs.length ≤ 5000) :
    Calls Tryz.prog 219 #[.pointer (some ⟨p, 0, none⟩), .int .i64 i, .int .i64 u] w fun e w' => e = .returned (.tuple #[]) ∧ EngK w' p own (xs.set i (k, u)) ∧ Fr own w w' := SkI.kSet_any p own xs i k v u w h hi hs
theorem kInsert_any (p : Nat) (own : Nat → Prop) (xs : Row) (i : Nat) (k v : Int) (w : World) (h : EngK w p own xs) (hi : i ≤ xs.length) (hs : xs.length ≤ 4000) :
    Calls Tryz.prog 216 #[.pointer (some ⟨p, 0, none⟩), .int .i64 i, .int .i64 k, .int .i64 v] w fun e w' => e = .returned (.tuple #[]) ∧
      ∃ own', EngK w' p own' (xs.take i ++ (k, v) :: xs.drop i) ∧ (∀ x, own' x → own x ∨ w.heap.size ≤ x) ∧ Fr own w w' := SkI.kInsert_any p own xs i k v w h hi hs

theorem side_pos {t : Bool} {a b : Int} : 0 < side t a b ↔ lessB t b a = true := by unfold side sgn lessB; cases t <;> simp <;> (repeat' split) <;> omega

theorem mono_of {t : Bool} {k : Int} {xs : Row} (h : Srt t xs) : xs.Pairwise fun a b => 0 ≤ side t k b.1 → 0 < side t k a.1 := by
  refine List.Pairwise.imp ?_ h
  intro a b hab hk
  rw [side_pos]
  rcases Int.lt_or_eq_of_le hk with c | c
  · exact less_trans hab (side_pos.1 c)
  · rw [side_zero.1 c.symm]; exact hab

theorem count_lrank (t : Bool) (k : Int) (xs : Row) : (xs.countP fun a => decide (0 < side t k a.1)) = lrank t k xs := by
  unfold lrank
  congr 1
  funext a
  rw [Bool.eq_iff_iff, decide_eq_true_iff, side_pos]
theorem any_lsame (t : Bool) (k : Int) (xs : Row) : (xs.any fun a => side t k a.1 == 0) = lsame k xs := by
  unfold lsame
  congr 1
  funext a
  rw [Bool.eq_iff_iff, beq_iff_eq, beq_iff_eq, side_zero]
  exact eq_comm

theorem kFind_eng (p m mb kb : Nat) (own : Nat → Prop) (xs : Row) (turned : Bool) (items : Value) (c k : Int) (w : World) (h : EngK w p own xs) (hsr : Srt turned xs) (hm : w.heap[m]? = some (mapBlk turned items c))
    (hmb : w.heap[mb]? = some (.cells #[.pointer (some ⟨m, 0, none⟩)] 31 (0, 0))) (hkb : w.heap[kb]? = some (.cells #[.int .i64 k] 3 (0, 0)))
    (nT : ¬ own m) (n1 : mb ≠ m) (n2 : kb ≠ m) (b0 : 0 ≤ c) (b1 : c ≤ 8000000000000000000) (hs : xs.length ≤ 4000) :
    Calls Tryz.prog 215 #[.pointer (some ⟨p, 0, none⟩), .func (.func 92) #[] #[.pointer (some ⟨mb, 0, none⟩), .pointer (some ⟨kb, 0, none⟩)]] w fun e w' => ∃ n : Nat,
      e = .returned (.tuple #[.int .i64 (lrank turned k xs), .bool (lsame k xs)]) ∧ w'.heap[m]? = some (mapBlk turned items (c + n)) ∧ n ≤ 10000 ∧ (0 < xs.length → 1 ≤ n) ∧ Fr (fun x => x = m) w w' := by
  have := SkI.kFind_any p m mb kb own xs (side turned k) (mapBlk turned items) _ _ c w h hm hmb hkb nT n1 n2 b0 b1 hs (mono_of hsr)
    (fun c key wr _ g1 g2 g3 g4 g5 => side_any m mb kb turned items c k key wr g1 g2 g3 n1 n2 g4 g5)
  rw [count_lrank, any_lsame] at this
  exact this

end Go.Proofs.YthbnbocpddddmaaGreat
