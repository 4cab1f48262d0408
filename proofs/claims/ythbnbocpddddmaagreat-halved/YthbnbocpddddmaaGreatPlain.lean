/- Looking a key up in a tree: plain. -/
import Derived.Test.YthbnbocpddddmaaGreatMem
namespace Go.Proofs.YthbnbocpddddmaaGreat

namespace Tr
/-- How many items the search has passed on its left; whether it met the key; how often it compared. -/
def rank (f : Int → Int) : Tr → Nat
  | nil => 0
  | node _ l k _ r => if f k = 0 then l.size else if f k < 0 then l.rank f else l.size + 1 + r.rank f
def same (f : Int → Int) : Tr → Bool
  | nil => false
  | node _ l k _ r => if f k = 0 then true else if f k < 0 then l.same f else r.same f
def cnt (f : Int → Int) : Tr → Nat
  | nil => 0
  | node _ l k _ r => if f k = 0 then 1 else if f k < 0 then l.cnt f + 1 else r.cnt f + 1

theorem cnt_le (f : Int → Int) (t : Tr) : t.cnt f ≤ t.ht := by
  induction t with
  | nil => exact Nat.le_refl _
  | node b l k v r il ir => simp only [cnt, ht]; split <;> (try split) <;> omega
theorem cnt_pos (f : Int → Int) (t : Tr) (h : 0 < t.size) : 1 ≤ t.cnt f := by
  cases t with
  | nil => simp [size] at h
  | node b l k v r => simp only [cnt]; split <;> (try split) <;> omega
theorem rank_le (f : Int → Int) (t : Tr) : t.rank f ≤ t.size := by
  induction t with
  | nil => exact Nat.le_refl _
  | node b l k v r il ir => simp only [rank, size]; split <;> (try split) <;> omega
theorem rank_lt (f : Int → Int) (t : Tr) (h : t.same f = true) : t.rank f < t.size := by
  induction t with
  | nil => simp [same] at h
  | node b l k v r il ir =>
    simp only [same] at h
    simp only [rank, size]
    by_cases h1 : f k = 0
    · rw [if_pos h1]; omega
    · rw [if_neg h1] at h ⊢
      by_cases h2 : f k < 0
      · rw [if_pos h2] at h ⊢; have := il h; omega
      · rw [if_neg h2] at h ⊢; have := ir h; omega
end Tr

end Go.Proofs.YthbnbocpddddmaaGreat
