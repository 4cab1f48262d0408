/- The keys that were handed in, and the row that they make: plain. -/
import Derived.Test.YthbnbocpddddmaaGreatLst
namespace Go.Proofs.YthbnbocpddddmaaGreat

/-- The keys lie behind the slice's address. -/
def KeysAt (w : World) (a : Option Addr) (ks : List Int) : Prop :=
  ks = [] ∨ ∃ b off, a = some ⟨b, off, none⟩ ∧ b < w.heap.size ∧ ∀ i k, ks[i]? = some k → w.cell? ⟨b, off + i, none⟩ = some (.int .i64 k)

theorem KeysAt.fr {w w' : World} {a : Option Addr} {ks : List Int} (h : KeysAt w a ks) (f : Fr (fun _ => False) w w') : KeysAt w' a ks := by
  rcases h with h | ⟨b, off, e, hb, hc⟩
  · exact Or.inl h
  · exact Or.inr ⟨b, off, e, Nat.lt_of_lt_of_le hb f.size, fun i k hk => (World.cell?_of_block (w := w) (f.block b hb (fun e => e))).trans (hc i k hk)⟩

/-- The row of the first j keys, with their places. -/
def rowTo (t : Bool) (ks : List Int) : Nat → Row
  | 0 => []
  | j + 1 => lput t (ks.getD j 0) j (rowTo t ks j)

theorem rowTo_len (t : Bool) (ks : List Int) (j : Nat) : (rowTo t ks j).length ≤ j := by
  induction j with
  | zero => exact Nat.le_refl _
  | succ j ih => simp only [rowTo, len_put]; split <;> omega

theorem rowTo_srt (t : Bool) (ks : List Int) (j : Nat) : Srt t (rowTo t ks j) := by
  induction j with
  | zero => exact List.Pairwise.nil
  | succ j ih => exact srt_put ih

theorem lputF_room {t : Bool} {k v : Int} {xs : Row} (h : xs.length < 400) : lputF t k v xs = lput t k v xs ∧ lerr k xs = 0 := by
  have e : lerr k xs = 0 := by unfold lerr; split; rfl; rw [if_neg (by omega)]
  exact ⟨by unfold lputF; rw [if_pos e], e⟩

theorem dg_le (n : Nat) : dg n ≤ n + 1 := by
  induction n using Nat.strongRecOn with
  | _ n ih =>
    unfold dg
    split
    · omega
    · have := ih (n / 2) (by omega); omega

end Go.Proofs.YthbnbocpddddmaaGreat
