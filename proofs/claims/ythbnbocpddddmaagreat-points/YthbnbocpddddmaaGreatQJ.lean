import Derived.Test.YthbnbocpddddmaaGreatQE
import Derived.Test.YthbnbocpddddmaaGreatQI
import Derived.Test.YthbnbocpddddmaaGreatQA
namespace Go.Proofs.YthbnbocpddddmaaGreat
open Go.RowKit

theorem cell_alloc_old {w : World} {b off : Nat} (o : Obj) (h : b < w.heap.size) : (w.alloc o).cell? ⟨b, off, none⟩ = w.cell? ⟨b, off, none⟩ := World.cell?_of_block (w := w) (Below.heap_alloc _ _ _ h)

set_option maxRecDepth 100000 in
set_option maxHeartbeats 400000 in
theorem ints_any (w : World) : Calls Tryz.prog 59 #[] w fun e w' => e = .returned (.agg #[.iface 213 (.agg #[]), .bool false]) ∧ Fr (fun _ => False) w w' := by
  go_enter Tryz.func59, Tryz.ntmps59
  go_wp2_with fail
  exact bodyPost_ret (v := .agg #[.iface 213 (.agg #[]), .bool false]) (by simp [results, Tryz.results59, go_sem]) rfl ⟨rfl, Fr.alloc (Fr.refl _ _) _⟩

set_option maxRecDepth 100000 in
set_option maxHeartbeats 400000 in
theorem turned_any (t : Bool) (w : World) : Calls Tryz.prog 58 #[.agg #[.iface 213 (.agg #[]), .bool t]] w fun e w' => e = .returned (.agg #[.iface 213 (.agg #[]), .bool (!t)]) ∧ Fr (fun _ => False) w w' := by
  go_enter Tryz.func58, Tryz.ntmps58
  go_wp2_with fail
  exact bodyPost_ret (v := .agg #[.iface 213 (.agg #[]), .bool (!t)]) (by simp [results, Tryz.results58, go_sem]) rfl ⟨rfl, Fr.alloc (Fr.alloc (Fr.refl _ _) _) _⟩

set_option maxHeartbeats 400000 in
theorem tNew_any (w : World) : Calls Tryz.prog 60 #[] w fun e w' => ∃ p : Nat, e = .returned (.pointer (some ⟨p, 0, none⟩)) ∧ ∃ own : Nat → Prop, EngT w' p own [] ∧ (∀ x, own x → w.heap.size ≤ x) ∧ Fr (fun _ => False) w w' := by
  go_enter Tryz.func60, Tryz.ntmps60
  go_wp2_with fail
  go_ret
  exact ⟨w.heap.size, rfl, fun x => x = w.heap.size ∨ Tr.nil.has x, ⟨.nil, blk_new _ _, trivial, trivial, fun e => e, rfl, fun x => Iff.rfl⟩, fun x e => by rcases e with e | e; omega; exact e.elim, Fr.alloc (Fr.refl _ _) _⟩

set_option maxRecDepth 100000 in
set_option maxHeartbeats 1000000 in
theorem newT_any (t : Bool) (w : World) : Calls Tryz.prog 15 #[.agg #[.iface 213 (.agg #[]), .bool t], .int .i64 0] w fun e w' => ∃ m : Nat, e = .returned (.tuple #[.pointer (some ⟨m, 0, none⟩), .int .i64 0]) ∧ ∃ own : Nat → Prop, MapT w' m t 0 own [] ∧ (∀ x, own x → w.heap.size ≤ x) ∧ Fr (fun _ => False) w w' := by
  go_enter Tryz.func15, Tryz.ntmps15
  go_wp2_with fail
  go_region_held3 (fun w' => w'.cell? ⟨w.heap.size, 0, none⟩ = some (.iface 213 (.agg #[])) ∧ w'.cell? ⟨w.heap.size, 1, none⟩ = some (.bool t))
    (refine ⟨?_, ?_⟩ <;> simp [*, cell_alloc_old])
    ((go_at_call 60; refine (tNew_any _).mono ?_; rintro e w1 ⟨p, rfl, own, q1, q2, q3⟩; have k2 : w.heap.size < w1.heap.size := (by have := q3.size; simp at this; omega); have k0 := (q3.cell (b := w.heap.size) 0 (by simp) (fun e => e)); have k1 := (q3.cell (b := w.heap.size) 1 (by simp) (fun e => e))))
  go_wp2_with fail
  go_ret2
  have k3 : ¬ own w1.heap.size := fun e => by have := q1.lt _ e; omega
  refine ⟨w1.heap.size, rfl, fun x => x = w1.heap.size ∨ own x, ⟨p, own, blk_new _ _, q1.fr (Fr.alloc (Fr.refl _ _) _) (fun _ _ e => e), k3, fun x => Iff.rfl, List.Pairwise.nil⟩, fun x e => ?_, ?_⟩
  · rcases e with e | e
    · omega
    · have := q2 x e; simp at this; omega
  · exact Fr.alloc (Fr.trans (S' := fun _ => False) (Fr.drew (Fr.alloc (Fr.refl _ _) _)) q3 fun _ _ e => e) _

set_option maxRecDepth 100000 in
set_option maxHeartbeats 1000000 in
theorem newK_any (t : Bool) (w : World) : Calls Tryz.prog 15 #[.agg #[.iface 213 (.agg #[]), .bool t], .int .i64 1] w fun e w' => ∃ m : Nat, e = .returned (.tuple #[.pointer (some ⟨m, 0, none⟩), .int .i64 0]) ∧ ∃ own : Nat → Prop, MapK w' m t 0 own [] ∧ (∀ x, own x → w.heap.size ≤ x) ∧ Fr (fun _ => False) w w' := by
  go_enter Tryz.func15, Tryz.ntmps15
  go_wp2_with fail
  go_region_held3 (fun w' => w'.cell? ⟨w.heap.size, 0, none⟩ = some (.iface 213 (.agg #[])) ∧ w'.cell? ⟨w.heap.size, 1, none⟩ = some (.bool t))
    (refine ⟨?_, ?_⟩ <;> simp [*, cell_alloc_old])
    ((go_at_call 61; refine (SkI.kNew_any _).mono ?_; rintro e w1 ⟨p, rfl, own, q1, q2, q3⟩; have k2 : w.heap.size < w1.heap.size := (by have := q3.size; simp at this; omega); have k0 := (q3.cell (b := w.heap.size) 0 (by simp) (fun e => e)); have k1 := (q3.cell (b := w.heap.size) 1 (by simp) (fun e => e))))
  go_wp2_with fail
  go_ret2
  have k3 : ¬ own w1.heap.size := fun e => by have := SkI.Eng.lt q1 _ e; omega
  refine ⟨w1.heap.size, rfl, fun x => x = w1.heap.size ∨ own x, ⟨p, own, blk_new _ _, SkI.Eng.fr q1 (Fr.alloc (Fr.refl _ _) _) (fun _ _ e => e), k3, fun x => Iff.rfl, List.Pairwise.nil⟩, fun x e => ?_, ?_⟩
  · rcases e with e | e
    · omega
    · have := q2 x e; simp at this; omega
  · exact Fr.alloc (Fr.trans (S' := fun _ => False) (Fr.drew (Fr.alloc (Fr.refl _ _) _)) q3 fun _ _ e => e) _

/-- pick of two. -/
def pk (c : Int) : Int := if c < 0 then (-(c + 1)) % 2 else c % 2
theorem pk_01 (c : Int) : pk c = 0 ∨ pk c = 1 := by unfold pk; split <;> omega

set_option maxHeartbeats 400000 in
theorem pick_any (c : Int) (w : World) (c0 : -9223372036854775808 ≤ c) (c1 : c < 9223372036854775808) : Calls Tryz.prog 44 #[.int .i64 c, .int .i64 2] w fun e w' => e = .returned (.int .i64 (pk c)) ∧ w' = w := by
  unfold pk
  by_cases h : c < 0
  · rw [if_pos h]
    go_enter Tryz.func44, Tryz.ntmps44
    go_wp2_with fail
    go_ret
    have e : -((c + 1).tmod 2) = (-(c + 1)) % 2 := by rw [← Int.neg_tmod, Int.tmod_eq_emod_of_nonneg (by omega)]
    exact ⟨congrArg (fun x => Ending.returned (.int .i64 x)) e, rfl⟩
  · rw [if_neg h]
    go_enter Tryz.func44, Tryz.ntmps44
    go_wp2_with fail
    go_ret
    exact ⟨rfl, rfl⟩

end Go.Proofs.YthbnbocpddddmaaGreat

namespace Go.Proofs.YthbnbocpddddmaaGreat
open Go.RowKit

/-- A map of the engine that g names (false: the tree). -/
def MapG (g : Bool) (w : World) (m : Nat) (t : Bool) (c : Int) (own : Nat → Prop) (xs : Row) : Prop := match g with
  | false => MapT w m t c own xs
  | true => MapK w m t c own xs

def engI (g : Bool) : Int := if g = true then 1 else 0

theorem MapG.lt {g : Bool} {w : World} {m : Nat} {t : Bool} {c : Int} {own : Nat → Prop} {xs : Row} (h : MapG g w m t c own xs) : ∀ x, own x → x < w.heap.size := by
  cases g
  · exact MapT.lt h
  · exact MapK.lt h

theorem MapG.fr {g : Bool} {S : Nat → Prop} {w w' : World} {m : Nat} {t : Bool} {c : Int} {own : Nat → Prop} {xs : Row} (h : MapG g w m t c own xs) (f : Fr S w w') (hd : ∀ x, own x → ¬ S x) : MapG g w' m t c own xs := by
  cases g
  · exact MapT.fr h f hd
  · exact MapK.fr h f hd

theorem MapG.self {g : Bool} {w : World} {m : Nat} {t : Bool} {c : Int} {own : Nat → Prop} {xs : Row} (h : MapG g w m t c own xs) : own m := by
  cases g
  · exact (Exists.choose_spec (Exists.choose_spec (show MapT w m t c own xs from h))).2.2.2.1 m |>.2 (Or.inl rfl)
  · exact (Exists.choose_spec (Exists.choose_spec (show MapK w m t c own xs from h))).2.2.2.1 m |>.2 (Or.inl rfl)

theorem MapG.srt {g : Bool} {w : World} {m : Nat} {t : Bool} {c : Int} {own : Nat → Prop} {xs : Row} (h : MapG g w m t c own xs) : Srt t xs := by
  cases g
  · exact (Exists.choose_spec (Exists.choose_spec (show MapT w m t c own xs from h))).2.2.2.2
  · exact (Exists.choose_spec (Exists.choose_spec (show MapK w m t c own xs from h))).2.2.2.2

/-- Its block; another count may stand there. -/
theorem MapG.blk {g : Bool} {w : World} {m : Nat} {t : Bool} {c : Int} {own : Nat → Prop} {xs : Row} (h : MapG g w m t c own xs) :
    ∃ items, w.heap[m]? = some (mapBlk t items c) ∧ engOf items = engI g ∧ ∀ w' c', w'.heap[m]? = some (mapBlk t items c') → Fr (fun x => x = m) w w' → MapG g w' m t c' own xs := by
  cases g
  · obtain ⟨p, oE, h1, h2, h3, h4, h5⟩ := h
    exact ⟨_, h1, rfl, fun w' c' hb f => ⟨p, oE, hb, h2.fr f fun x hx e => h3 (e ▸ hx), h3, h4, h5⟩⟩
  · obtain ⟨p, oE, h1, h2, h3, h4, h5⟩ := h
    exact ⟨_, h1, rfl, fun w' c' hb f => ⟨p, oE, hb, h2.fr f fun x hx e => h3 (e ▸ hx), h3, h4, h5⟩⟩

theorem few_le {xs : Row} (hs : xs.length ≤ 400) : 3 * dg (xs.length + 1) ≤ 10000 := by have := dg_le (xs.length + 1); omega

theorem bare_anyG (g : Bool) (m : Nat) (t : Bool) (c : Int) (own : Nat → Prop) (xs : Row) (w : World) (h : MapG g w m t c own xs) :
    Calls Tryz.prog 67 #[.pointer (some ⟨m, 0, none⟩)] w fun e w' => e = .returned (.bool false) ∧ w' = w := by
  cases g
  · exact bare_anyT m t c own xs w h
  · exact bare_anyK m t c own xs w h

theorem len_anyG (g : Bool) (m : Nat) (t : Bool) (c : Int) (own : Nat → Prop) (xs : Row) (w : World) (h : MapG g w m t c own xs) :
    Calls Tryz.prog 69 #[.pointer (some ⟨m, 0, none⟩)] w fun e w' => e = .returned (.int .i64 xs.length) ∧ w' = w := by
  cases g
  · exact len_anyT m t c own xs w h
  · exact len_anyK m t c own xs w h

theorem at_anyG (g : Bool) (m : Nat) (t : Bool) (c : Int) (own : Nat → Prop) (xs : Row) (i : Int) (w : World) (h : MapG g w m t c own xs) (hs : xs.length ≤ 400) :
    Calls Tryz.prog 80 #[.pointer (some ⟨m, 0, none⟩), .int .i64 i] w fun e w' => e = .returned (.tuple #[kv (latK xs i), kv (latV xs i), .bool (latB xs i)]) ∧ Fr (fun _ => False) w w' := by
  cases g
  · exact at_anyT m t c own xs i w h (by omega)
  · exact at_anyK m t c own xs i w h (by omega)

theorem compared_anyG (g : Bool) (m : Nat) (t : Bool) (c : Int) (own : Nat → Prop) (xs : Row) (w : World) (h : MapG g w m t c own xs) :
    Calls Tryz.prog 78 #[.pointer (some ⟨m, 0, none⟩)] w fun e w' => e = .returned (.int .i64 c) ∧ w' = w := by
  cases g
  · exact compared_anyT m t c own xs w h
  · exact compared_anyK m t c own xs w h

theorem rank_anyG (g : Bool) (m : Nat) (t : Bool) (c : Int) (own : Nat → Prop) (xs : Row) (k : Int) (w : World) (h : MapG g w m t c own xs) (b0 : 0 ≤ c) (b1 : c ≤ 8000000000000000000) (hs : xs.length ≤ 400) :
    Calls Tryz.prog 25 #[.pointer (some ⟨m, 0, none⟩), kv k] w fun e w' => ∃ n : Nat, e = .returned (.int .i64 (lrank t k xs)) ∧
      MapG g w' m t (c + n) own xs ∧ n ≤ 10000 ∧ (g = false → n ≤ 3 * dg (xs.length + 1)) ∧ (0 < xs.length → 1 ≤ n) ∧ Fr (fun x => x = m) w w' := by
  cases g
  · exact (rank_anyT m t c own xs k w h b0 b1 (by omega)).mono fun e w' ⟨n, q1, q2, q3, q4, q5⟩ => ⟨n, q1, q2, Nat.le_trans q3 (few_le hs), fun _ => q3, q4, q5⟩
  · exact (rank_anyK m t c own xs k w h b0 b1 (by omega)).mono fun e w' ⟨n, q1, q2, q3, q4, q5⟩ => ⟨n, q1, q2, q3, fun e => (by cases e), q4, q5⟩

theorem get_anyG (g : Bool) (m : Nat) (t : Bool) (c : Int) (own : Nat → Prop) (xs : Row) (k : Int) (w : World) (h : MapG g w m t c own xs) (b0 : 0 ≤ c) (b1 : c ≤ 8000000000000000000) (hs : xs.length ≤ 400) :
    Calls Tryz.prog 21 #[.pointer (some ⟨m, 0, none⟩), kv k] w fun e w' => ∃ n : Nat, e = .returned (.tuple #[kv (lget t k xs), .bool (lsame k xs)]) ∧
      MapG g w' m t (c + n) own xs ∧ n ≤ 10000 ∧ (g = false → n ≤ 3 * dg (xs.length + 1)) ∧ (0 < xs.length → 1 ≤ n) ∧ Fr (fun x => x = m) w w' := by
  cases g
  · exact (get_anyT m t c own xs k w h b0 b1 (by omega)).mono fun e w' ⟨n, q1, q2, q3, q4, q5⟩ => ⟨n, q1, q2, Nat.le_trans q3 (few_le hs), fun _ => q3, q4, q5⟩
  · exact (get_anyK m t c own xs k w h b0 b1 (by omega)).mono fun e w' ⟨n, q1, q2, q3, q4, q5⟩ => ⟨n, q1, q2, q3, fun e => (by cases e), q4, q5⟩

theorem ceiling_anyG (g : Bool) (m : Nat) (t : Bool) (c : Int) (own : Nat → Prop) (xs : Row) (k : Int) (w : World) (h : MapG g w m t c own xs) (b0 : 0 ≤ c) (b1 : c ≤ 8000000000000000000) (hs : xs.length ≤ 400) :
    Calls Tryz.prog 109 #[.pointer (some ⟨m, 0, none⟩), kv k] w fun e w' => ∃ n : Nat, e = .returned (.tuple #[kv (latK xs (lrank t k xs)), kv (latV xs (lrank t k xs)), .bool (latB xs (lrank t k xs))]) ∧
      MapG g w' m t (c + n) own xs ∧ n ≤ 10000 ∧ (g = false → n ≤ 3 * dg (xs.length + 1)) ∧ (0 < xs.length → 1 ≤ n) ∧ Fr (fun x => x = m) w w' := by
  cases g
  · exact (ceiling_anyT m t c own xs k w h b0 b1 (by omega)).mono fun e w' ⟨n, q1, q2, q3, q4, q5⟩ => ⟨n, q1, q2, Nat.le_trans q3 (few_le hs), fun _ => q3, q4, q5⟩
  · exact (ceiling_anyK m t c own xs k w h b0 b1 (by omega)).mono fun e w' ⟨n, q1, q2, q3, q4, q5⟩ => ⟨n, q1, q2, q3, fun e => (by cases e), q4, q5⟩

theorem floor_anyG (g : Bool) (m : Nat) (t : Bool) (c : Int) (own : Nat → Prop) (xs : Row) (k : Int) (w : World) (h : MapG g w m t c own xs) (b0 : 0 ≤ c) (b1 : c ≤ 8000000000000000000) (hs : xs.length ≤ 400) :
    Calls Tryz.prog 108 #[.pointer (some ⟨m, 0, none⟩), kv k] w fun e w' => ∃ n : Nat, e = .returned (.tuple #[kv (latK xs (lfloor t k xs)), kv (latV xs (lfloor t k xs)), .bool (latB xs (lfloor t k xs))]) ∧
      MapG g w' m t (c + n) own xs ∧ n ≤ 10000 ∧ (g = false → n ≤ 3 * dg (xs.length + 1)) ∧ (0 < xs.length → 1 ≤ n) ∧ Fr (fun x => x = m) w w' := by
  cases g
  · exact (floor_anyT m t c own xs k w h b0 b1 (by omega)).mono fun e w' ⟨n, q1, q2, q3, q4, q5⟩ => ⟨n, q1, q2, Nat.le_trans q3 (few_le hs), fun _ => q3, q4, q5⟩
  · exact (floor_anyK m t c own xs k w h b0 b1 (by omega)).mono fun e w' ⟨n, q1, q2, q3, q4, q5⟩ => ⟨n, q1, q2, q3, fun e => (by cases e), q4, q5⟩

theorem put_anyG (g : Bool) (m : Nat) (t : Bool) (c : Int) (own : Nat → Prop) (xs : Row) (k v : Int) (w : World) (h : MapG g w m t c own xs) (b0 : 0 ≤ c) (b1 : c ≤ 8000000000000000000) (hs : xs.length ≤ 400) :
    Calls Tryz.prog 18 #[.pointer (some ⟨m, 0, none⟩), kv k, kv v] w fun e w' => ∃ (n : Nat) (own' : Nat → Prop), e = .returned (.tuple #[kv (lget t k xs), .bool (lsame k xs), .int .i64 (lerr k xs)]) ∧
      MapG g w' m t (c + n) own' (lputF t k v xs) ∧ n ≤ 10000 ∧ (g = false → n ≤ 3 * dg (xs.length + 1)) ∧ (0 < xs.length → 1 ≤ n) ∧ (∀ x, own' x → own x ∨ w.heap.size ≤ x) ∧ Fr own w w' := by
  cases g
  · exact (put_anyT m t c own xs k v w h b0 b1 hs).mono fun e w' ⟨n, o, q1, q2, q3, q4, q5⟩ => ⟨n, o, q1, q2, Nat.le_trans q3 (few_le hs), fun _ => q3, q4, q5⟩
  · exact (put_anyK m t c own xs k v w h b0 b1 hs).mono fun e w' ⟨n, o, q1, q2, q3, q4, q5⟩ => ⟨n, o, q1, q2, q3, fun e => (by cases e), q4, q5⟩

theorem newG_any (g t : Bool) (w : World) : Calls Tryz.prog 15 #[.agg #[.iface 213 (.agg #[]), .bool t], .int .i64 (engI g)] w fun e w' => ∃ m : Nat, e = .returned (.tuple #[.pointer (some ⟨m, 0, none⟩), .int .i64 0]) ∧ ∃ own : Nat → Prop, MapG g w' m t 0 own [] ∧ (∀ x, own x → w.heap.size ≤ x) ∧ Fr (fun _ => False) w w' := by
  cases g
  · exact newT_any t w
  · exact newK_any t w

end Go.Proofs.YthbnbocpddddmaaGreat
