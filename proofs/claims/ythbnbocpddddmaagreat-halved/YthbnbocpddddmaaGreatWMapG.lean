/- A map of either engine. -/
import Derived.Test.YthbnbocpddddmaaGreatWNew
import Derived.Test.YthbnbocpddddmaaGreatKeys
namespace Go.Proofs.YthbnbocpddddmaaGreat
open Go.RowKit

/-- A map of the engine that g names (false: the tree). -/
def MapG (g : Bool) (w : World) (m : Nat) (t : Bool) (c : Int) (own : Nat → Prop) (xs : Row) : Prop := match g with
  | false => MapT w m t c own xs
  | true => MapK w m t c own xs

def engI (g : Bool) : Int := if g = true then 1 else 0

theorem MapG.lt {g : Bool} {w : World} {m : Nat} {t : Bool} {c : Int} {own : Nat → Prop} {xs : Row} (h : MapG g w m t c own xs) : ∀ x, own x → x < w.heap.size := by
  cases g
  · exact MapT.lt h
  · exact MapK.lt h

theorem MapG.fr {g : Bool} {S : Nat → Prop} {w w' : World} {m : Nat} {t : Bool} {c : Int} {own : Nat → Prop} {xs : Row} (h : MapG g w m t c own xs) (f : Fr S w w') (hd : ∀ x, own x → ¬ S x) : MapG g w' m t c own xs := by
  cases g
  · exact MapT.fr h f hd
  · exact MapK.fr h f hd

theorem MapG.self {g : Bool} {w : World} {m : Nat} {t : Bool} {c : Int} {own : Nat → Prop} {xs : Row} (h : MapG g w m t c own xs) : own m := by
  cases g
  · exact (Exists.choose_spec (Exists.choose_spec (show MapT w m t c own xs from h))).2.2.2.1 m |>.2 (Or.inl rfl)
  · exact (Exists.choose_spec (Exists.choose_spec (show MapK w m t c own xs from h))).2.2.2.1 m |>.2 (Or.inl rfl)

theorem MapG.srt {g : Bool} {w : World} {m : Nat} {t : Bool} {c : Int} {own : Nat → Prop} {xs : Row} (h : MapG g w m t c own xs) : Srt t xs := by
  cases g
  · exact (Exists.choose_spec (Exists.choose_spec (show MapT w m t c own xs from h))).2.2.2.2
  · exact (Exists.choose_spec (Exists.choose_spec (show MapK w m t c own xs from h))).2.2.2.2

/-- Its block; another count may stand there. -/
theorem MapG.blk {g : Bool} {w : World} {m : Nat} {t : Bool} {c : Int} {own : Nat → Prop} {xs : Row} (h : MapG g w m t c own xs) :
    ∃ items, w.heap[m]? = some (mapBlk t items c) ∧ engOf items = engI g ∧ ∀ w' c', w'.heap[m]? = some (mapBlk t items c') → Fr (fun x => x = m) w w' → MapG g w' m t c' own xs := by
  cases g
  · obtain ⟨p, oE, h1, h2, h3, h4, h5⟩ := h
    exact ⟨_, h1, rfl, fun w' c' hb f => ⟨p, oE, hb, h2.fr f fun x hx e => h3 (e ▸ hx), h3, h4, h5⟩⟩
  · obtain ⟨p, oE, h1, h2, h3, h4, h5⟩ := h
    exact ⟨_, h1, rfl, fun w' c' hb f => ⟨p, oE, hb, h2.fr f fun x hx e => h3 (e ▸ hx), h3, h4, h5⟩⟩

theorem few_le {xs : Row} (hs : xs.length ≤ 400) : 3 * dg (xs.length + 1) ≤ 10000 := by have := dg_le (xs.length + 1); omega

theorem bare_anyG (g : Bool) (m : Nat) (t : Bool) (c : Int) (own : Nat → Prop) (xs : Row) (w : World) (h : MapG g w m t c own xs) :
    Calls Tryz.prog 62 #[.pointer (some ⟨m, 0, none⟩)] w fun e w' => e = .returned (.bool false) ∧ w' = w := by
  cases g
  · exact bare_anyT m t c own xs w h
  · exact bare_anyK m t c own xs w h

theorem len_anyG (g : Bool) (m : Nat) (t : Bool) (c : Int) (own : Nat → Prop) (xs : Row) (w : World) (h : MapG g w m t c own xs) :
    Calls Tryz.prog 34 #[.pointer (some ⟨m, 0, none⟩)] w fun e w' => e = .returned (.int .i64 xs.length) ∧ w' = w := by
  cases g
  · exact len_anyT m t c own xs w h
  · exact len_anyK m t c own xs w h

theorem at_anyG (g : Bool) (m : Nat) (t : Bool) (c : Int) (own : Nat → Prop) (xs : Row) (i : Int) (w : World) (h : MapG g w m t c own xs) (hs : xs.length ≤ 400) :
    Calls Tryz.prog 35 #[.pointer (some ⟨m, 0, none⟩), .int .i64 i] w fun e w' => e = .returned (.tuple #[.int .i64 (latK xs i), .int .i64 (latV xs i), .bool (latB xs i)]) ∧ Fr (fun _ => False) w w' := by
  cases g
  · exact at_anyT m t c own xs i w h (by omega)
  · exact at_anyK m t c own xs i w h (by omega)

theorem rank_anyG (g : Bool) (m : Nat) (t : Bool) (c : Int) (own : Nat → Prop) (xs : Row) (k : Int) (w : World) (h : MapG g w m t c own xs) (b0 : 0 ≤ c) (b1 : c ≤ 8000000000000000000) (hs : xs.length ≤ 400) :
    Calls Tryz.prog 23 #[.pointer (some ⟨m, 0, none⟩), .int .i64 k] w fun e w' => ∃ n : Nat, e = .returned (.int .i64 (lrank t k xs)) ∧
      MapG g w' m t (c + n) own xs ∧ n ≤ 10000 ∧ (g = false → n ≤ 3 * dg (xs.length + 1)) ∧ (0 < xs.length → 1 ≤ n) ∧ Fr (fun x => x = m) w w' := by
  cases g
  · exact (rank_anyT m t c own xs k w h b0 b1 (by omega)).mono fun e w' ⟨n, q1, q2, q3, q4, q5⟩ => ⟨n, q1, q2, Nat.le_trans q3 (few_le hs), fun _ => q3, q4, q5⟩
  · exact (rank_anyK m t c own xs k w h b0 b1 (by omega)).mono fun e w' ⟨n, q1, q2, q3, q4, q5⟩ => ⟨n, q1, q2, q3, fun e => (by cases e), q4, q5⟩

theorem get_anyG (g : Bool) (m : Nat) (t : Bool) (c : Int) (own : Nat → Prop) (xs : Row) (k : Int) (w : World) (h : MapG g w m t c own xs) (b0 : 0 ≤ c) (b1 : c ≤ 8000000000000000000) (hs : xs.length ≤ 400) :
    Calls Tryz.prog 19 #[.pointer (some ⟨m, 0, none⟩), .int .i64 k] w fun e w' => ∃ n : Nat, e = .returned (.tuple #[.int .i64 (lget t k xs), .bool (lsame k xs)]) ∧
      MapG g w' m t (c + n) own xs ∧ n ≤ 10000 ∧ (g = false → n ≤ 3 * dg (xs.length + 1)) ∧ (0 < xs.length → 1 ≤ n) ∧ Fr (fun x => x = m) w w' := by
  cases g
  · exact (get_anyT m t c own xs k w h b0 b1 (by omega)).mono fun e w' ⟨n, q1, q2, q3, q4, q5⟩ => ⟨n, q1, q2, Nat.le_trans q3 (few_le hs), fun _ => q3, q4, q5⟩
  · exact (get_anyK m t c own xs k w h b0 b1 (by omega)).mono fun e w' ⟨n, q1, q2, q3, q4, q5⟩ => ⟨n, q1, q2, q3, fun e => (by cases e), q4, q5⟩

theorem floor_anyG (g : Bool) (m : Nat) (t : Bool) (c : Int) (own : Nat → Prop) (xs : Row) (k : Int) (w : World) (h : MapG g w m t c own xs) (b0 : 0 ≤ c) (b1 : c ≤ 8000000000000000000) (hs : xs.length ≤ 400) :
    Calls Tryz.prog 115 #[.pointer (some ⟨m, 0, none⟩), .int .i64 k] w fun e w' => ∃ n : Nat, e = .returned (.tuple #[.int .i64 (latK xs (lfloor t k xs)), .int .i64 (latV xs (lfloor t k xs)), .bool (latB xs (lfloor t k xs))]) ∧
      MapG g w' m t (c + n) own xs ∧ n ≤ 10000 ∧ (g = false → n ≤ 3 * dg (xs.length + 1)) ∧ (0 < xs.length → 1 ≤ n) ∧ Fr (fun x => x = m) w w' := by
  cases g
  · exact (floor_anyT m t c own xs k w h b0 b1 (by omega)).mono fun e w' ⟨n, q1, q2, q3, q4, q5⟩ => ⟨n, q1, q2, Nat.le_trans q3 (few_le hs), fun _ => q3, q4, q5⟩
  · exact (floor_anyK m t c own xs k w h b0 b1 (by omega)).mono fun e w' ⟨n, q1, q2, q3, q4, q5⟩ => ⟨n, q1, q2, q3, fun e => (by cases e), q4, q5⟩

theorem put_anyG (g : Bool) (m : Nat) (t : Bool) (c : Int) (own : Nat → Prop) (xs : Row) (k v : Int) (w : World) (h : MapG g w m t c own xs) (b0 : 0 ≤ c) (b1 : c ≤ 8000000000000000000) (hs : xs.length ≤ 400) :
    Calls Tryz.prog 16 #[.pointer (some ⟨m, 0, none⟩), .int .i64 k, .int .i64 v] w fun e w' => ∃ (n : Nat) (own' : Nat → Prop), e = .returned (.tuple #[.int .i64 (lget t k xs), .bool (lsame k xs), .int .i64 (lerr k xs)]) ∧
      MapG g w' m t (c + n) own' (lputF t k v xs) ∧ n ≤ 10000 ∧ (g = false → n ≤ 3 * dg (xs.length + 1)) ∧ (0 < xs.length → 1 ≤ n) ∧ (∀ x, own' x → own x ∨ w.heap.size ≤ x) ∧ Fr own w w' := by
  cases g
  · exact (put_anyT m t c own xs k v w h b0 b1 hs).mono fun e w' ⟨n, o, q1, q2, q3, q4, q5⟩ => ⟨n, o, q1, q2, Nat.le_trans q3 (few_le hs), fun _ => q3, q4, q5⟩
  · exact (put_anyK m t c own xs k v w h b0 b1 hs).mono fun e w' ⟨n, o, q1, q2, q3, q4, q5⟩ => ⟨n, o, q1, q2, q3, fun e => (by cases e), q4, q5⟩

theorem newG_any (g t : Bool) (w : World) : Calls Tryz.prog 11 #[.agg #[.iface 187 (.agg #[]), .bool t], .int .i64 (engI g)] w fun e w' => ∃ m : Nat, e = .returned (.tuple #[.pointer (some ⟨m, 0, none⟩), .int .i64 0]) ∧ ∃ own : Nat → Prop, MapG g w' m t 0 own [] ∧ (∀ x, own x → w.heap.size ≤ x) ∧ Fr (fun _ => False) w w' := by
  cases g
  · exact newT_any t w
  · exact newK_any t w

end Go.Proofs.YthbnbocpddddmaaGreat
