import Derived.Test.YthbnbocpddddmaaGreatQB
import Derived.Test.YthbnbocpddddmaaGreatQA
import Derived.OwnWalk
import Derived.Deep.QuietTactic
import Derived.BigQuiet
namespace Go.Proofs.YthbnbocpddddmaaGreat
open Go.RowKit

abbrev f0 : Value := .float .f64 0
abbrev s0 : Value := .string ⟨#[]⟩
/-- A key, an item. -/
abbrev rkey (k : Int) : Value := .agg #[.int .i64 0, s0, fx k, fy k]
def ritem (p : Int × Int) : List Value := [.int .i64 0, s0, fx p.1, fy p.1, .int .i64 0, fx p.2, fy p.2]
abbrev rval (v : Int) : Value := .agg #[.int .i64 0, fx v, fy v]
def rcells (xs : Row) : List Value := xs.flatMap ritem

theorem ord_any {a b : Nat} (h : nanB a = true ∨ nanB b = true) : FloatKind.f64.format.order a b = none := order_nan h

set_option maxHeartbeats 800000 in
theorem part_any (a b : Nat) (w : World) : Calls Tryz.prog 70 #[.float .f64 a, .float .f64 b] w fun e w' => e = .returned (.int .i64 (sgn (rkF a) (rkF b))) ∧ w' = w := by
  unfold sgn
  have h1 := ord_self a
  have h2 := ord_self b
  cases ha : nanB a
  · cases hb : nanB b
    · have hl := ord_lt ha hb
      have hg := ord_gt ha hb
      rw [ha] at h1
      rw [hb] at h2
      by_cases c1 : rkF a < rkF b
      · rw [if_pos c1]
        rw [decide_eq_true c1] at hl
        clear hg ha hb
        go_enter Tryz.func70, Tryz.ntmps70
        go_wp2_with fail
        go_ret
        exact ⟨rfl, rfl⟩
      · rw [if_neg c1]
        rw [decide_eq_false c1] at hl
        by_cases c2 : rkF b < rkF a
        · rw [if_pos c2]
          rw [decide_eq_true c2] at hg
          clear ha hb
          go_enter Tryz.func70, Tryz.ntmps70
          go_wp2_with fail
          go_ret
          exact ⟨rfl, rfl⟩
        · rw [if_neg c2]
          rw [decide_eq_false c2] at hg
          clear ha hb
          go_enter Tryz.func70, Tryz.ntmps70
          go_wp2_with fail
          go_ret
          exact ⟨rfl, rfl⟩
    · have l1 := rk_low ha
      have l2 := nan_rk hb
      rw [if_neg (by omega), if_pos (by omega)]
      rw [ha] at h1
      rw [hb] at h2
      clear ha hb l1 l2
      go_enter Tryz.func70, Tryz.ntmps70
      go_wp2_with fail
      go_ret
      exact ⟨rfl, rfl⟩
  · cases hb : nanB b
    · have l1 := rk_low hb
      have l2 := nan_rk ha
      rw [if_pos (by omega)]
      rw [ha] at h1
      rw [hb] at h2
      clear ha hb l1 l2
      go_enter Tryz.func70, Tryz.ntmps70
      go_wp2_with fail
      go_ret
      exact ⟨rfl, rfl⟩
    · have l1 := nan_rk hb
      have l2 := nan_rk ha
      rw [if_neg (by omega), if_neg (by omega)]
      rw [ha] at h1
      rw [hb] at h2
      clear ha hb l1 l2
      go_enter Tryz.func70, Tryz.ntmps70
      go_wp2_with fail
      go_ret
      exact ⟨rfl, rfl⟩

theorem sgn_neg (a b : Int) : sgn b a = -sgn a b := by unfold sgn; (repeat' split) <;> omega

set_option maxHeartbeats 1600000 in
theorem rcompare_any (t : Bool) (a b : Int) (w : World) : Calls Tryz.prog 22 #[.agg #[.int .i64 3, .bool t], rkey a, rkey b] w fun e w' => e = .returned (.int .i64 (side t a b)) ∧ Fr (fun _ => False) w w' := by
  have e : side t a b = if t = true then -sgn (rk a) (rk b) else sgn (rk a) (rk b) := by
    unfold side
    cases t
    · rfl
    · exact sgn_neg _ _
  rw [e, sgn_rk]
  unfold rkey
  have h1 := part_any (reB a) (reB b)
  have h2 := part_any (imB a) (imB b)
  have s1 : sgn (rkF (reB a)) (rkF (reB b)) = -1 ∨ sgn (rkF (reB a)) (rkF (reB b)) = 0 ∨ sgn (rkF (reB a)) (rkF (reB b)) = 1 := by unfold sgn; (repeat' split) <;> simp
  have s2 : sgn (rkF (imB a)) (rkF (imB b)) = -1 ∨ sgn (rkF (imB a)) (rkF (imB b)) = 0 ∨ sgn (rkF (imB a)) (rkF (imB b)) = 1 := by unfold sgn; (repeat' split) <;> simp
  generalize sgn (rkF (reB a)) (rkF (reB b)) = v1 at *
  generalize sgn (rkF (imB a)) (rkF (imB b)) = v2 at *
  clear e
  rcases s1 with rfl | rfl | rfl
  · cases t
    all_goals
      go_enter Tryz.func22, Tryz.ntmps22
      go_wp2_with fail
      refine (h1 _).mono ?_
      rintro e w' ⟨rfl, rfl⟩
      go_wp2_with fail
      go_ret
      exact ⟨rfl, by repeat (first | exact Fr.refl _ _ | refine Fr.alloc ?_ _)⟩
  · rcases s2 with rfl | rfl | rfl
    all_goals
      cases t
      all_goals
        go_enter Tryz.func22, Tryz.ntmps22
        go_wp2_with fail
        refine (h1 _).mono ?_
        rintro e w' ⟨rfl, rfl⟩
        go_wp2_with fail
        refine (h2 _).mono ?_
        rintro e w' ⟨rfl, rfl⟩
        go_wp2_with fail
        go_ret
        exact ⟨rfl, by repeat (first | exact Fr.refl _ _ | refine Fr.alloc ?_ _)⟩
  · cases t
    all_goals
      go_enter Tryz.func22, Tryz.ntmps22
      go_wp2_with fail
      refine (h1 _).mono ?_
      rintro e w' ⟨rfl, rfl⟩
      go_wp2_with fail
      go_ret
      exact ⟨rfl, by repeat (first | exact Fr.refl _ _ | refine Fr.alloc ?_ _)⟩

/-- The items lie behind the slice's address, from cell 'off' on. -/
def RowAt (w : World) (a : Option Addr) (xs : Row) : Prop :=
  xs = [] ∨ ∃ g off, a = some ⟨g, off, none⟩ ∧ g < w.heap.size ∧ ∀ i p, xs[i]? = some p → ∀ o u, (ritem p)[o]? = some u → w.cell? ⟨g, off + i * 7 + o, none⟩ = some u

theorem RowAt.fr {S : Nat → Prop} {w w' : World} {a : Option Addr} {xs : Row} (h : RowAt w a xs) (f : Fr S w w') (hS : ∀ g off, a = some ⟨g, off, none⟩ → ¬ S g) : RowAt w' a xs := by
  rcases h with h | ⟨g, off, e, hb, hc⟩
  · exact Or.inl h
  · exact Or.inr ⟨g, off, e, Nat.lt_of_lt_of_le hb f.size, fun i p hp o u hu => (World.cell?_of_block (w := w) (f.block g hb (hS g off e))).trans (hc i p hp o u hu)⟩

/-- A list of the document's, at block b: its order, its slice. -/
def refBlk (t : Bool) (a : Option Addr) (n cap : Nat) : Obj := .cells #[.int .i64 3, .bool t, .slice a n cap] 156 (0, 0)

theorem store_f0 (x : Nat) (w : World) (a : Addr) (m : Mode) : (store a (.float .f64 x) m).run Tryz.prog w = stored Tryz.prog w a (.float .f64 x) m := run_store Tryz.prog w a _ m rfl

/-- An item that is nothing. -/
def z7 : Obj := .cells #[.int .i64 0, s0, f0, f0, .int .i64 0, f0, f0] 163

set_option maxRecDepth 100000 in
set_option maxHeartbeats 800000 in
theorem rat_any (b : Nat) (t : Bool) (a : Option Addr) (cap : Nat) (xs : Row) (i : Int) (w : World) (hb : w.heap[b]? = some (refBlk t a xs.length cap)) (hr : RowAt w a xs) :
    Calls Tryz.prog 76 #[.pointer (some ⟨b, 0, none⟩), .int .i64 i] w fun e w' => e = .returned (.tuple #[.agg #[.int .i64 0, s0, fx (latK xs i), fy (latK xs i), .int .i64 0, fx (latV xs i), fy (latV xs i)], .bool (latB xs i)]) ∧ Fr (fun _ => False) w w' := by
  have hF : Fr (fun _ => False) w (w.alloc z7) := Fr.alloc (Fr.refl _ _) _
  have hb' := (hF.block b (lt_of_blk hb) (fun e => e)).trans hb
  have c2 : (w.alloc z7).cell? ⟨b, 2, none⟩ = some (.slice a xs.length cap) := cell_of hb' 2
  have hr := hr.fr hF fun _ _ _ e => e
  have hsf := store_f0
  unfold latK latV latB
  by_cases i0 : i < 0
  · rw [if_neg (by omega), if_neg (by omega), if_neg (by omega)]
    clear hb hr hb' hF
    unfold z7 at *
    go_enter Tryz.func76, Tryz.ntmps76
    go_wp2_with fail
    exact bodyPost_ret (v := .tuple #[.agg #[.int .i64 0, s0, f0, f0, .int .i64 0, f0, f0], .bool false]) (by simp [results, Tryz.results76, go_sem]) rfl ⟨rfl, Fr.alloc (Fr.refl _ _) _⟩
  · by_cases i1 : i < xs.length
    · rw [if_pos (by omega), if_pos (by omega), if_pos (by omega)]
      obtain ⟨j, rfl⟩ := Int.eq_ofNat_of_zero_le (Int.not_lt.1 i0)
      rw [Int.toNat_natCast]
      have hj : j < xs.length := by omega
      obtain ⟨p, hp⟩ : ∃ p, xs[j]? = some p := ⟨_, List.getElem?_eq_getElem hj⟩
      rw [hp]
      simp only [Option.getD_some]
      rcases hr with rfl | ⟨g, off, rfl, hg, hc⟩
      · simp at hj
      · have k0 : (w.alloc z7).cell? ⟨g, off + j * 7, none⟩ = some (.int .i64 0) := hc j p hp 0 _ rfl
        have k1 := hc j p hp 1 _ rfl
        have k2 := hc j p hp 2 _ rfl
        have k3 := hc j p hp 3 _ rfl
        have k4 := hc j p hp 4 _ rfl
        have k5 := hc j p hp 5 _ rfl
        have k6 := hc j p hp 6 _ rfl
        have i2 : ¬ (xs.length : Int) ≤ (j : Int) := by omega
        clear hc hb hg hp hF hb'
        unfold z7 at *
        go_enter Tryz.func76, Tryz.ntmps76
        go_wp2_with fail
        exact bodyPost_ret (v := .tuple #[.agg #[.int .i64 0, s0, fx p.1, fy p.1, .int .i64 0, fx p.2, fy p.2], .bool true]) (by simp [results, Tryz.results76, go_sem]) rfl ⟨rfl, Fr.alloc (Fr.refl _ _) _⟩
    · rw [if_neg (by omega), if_neg (by omega), if_neg (by omega)]
      have i2 : (xs.length : Int) ≤ i := by omega
      clear hb hr hF hb'
      unfold z7 at *
      go_enter Tryz.func76, Tryz.ntmps76
      go_wp2_with fail
      exact bodyPost_ret (v := .tuple #[.agg #[.int .i64 0, s0, f0, f0, .int .i64 0, f0, f0], .bool false]) (by simp [results, Tryz.results76, go_sem]) rfl ⟨rfl, Fr.alloc (Fr.refl _ _) _⟩

theorem Fr.get {w w' : World} (fr : Fr (fun _ => False) w w') {a : Addr} {v : Value} (h : w.cell? a = some v) : w'.cell? a = some v :=
  (World.cell?_of_block (fr.block a.block (World.block_lt_of_cell? w a h) (fun e => e))).trans h

theorem lrank_take {t : Bool} {k : Int} {xs : Row} {j : Nat} {p : Int × Int} (h : xs[j]? = some p) : lrank t k (xs.take (j + 1)) = lrank t k (xs.take j) + (if side t p.1 k < 0 then 1 else 0) := by
  unfold lrank
  rw [List.take_add_one, h, List.countP_append]
  simp only [Option.toList_some, List.countP_singleton]
  by_cases e : lessB t p.1 k = true
  · rw [if_pos e, if_pos (side_neg.2 e)]
  · rw [if_neg e, if_neg (fun c => e (side_neg.1 c))]

set_option maxRecDepth 100000 in
set_option maxHeartbeats 1600000 in
theorem rrank_any (b : Nat) (t : Bool) (a : Option Addr) (cap : Nat) (xs : Row) (k : Int) (w : World) (hb : w.heap[b]? = some (refBlk t a xs.length cap)) (hr : RowAt w a xs) (hl : xs.length ≤ 4000) :
    Calls Tryz.prog 100 #[.pointer (some ⟨b, 0, none⟩), rkey k] w fun e w' => e = .returned (.int .i64 (lrank t k xs)) ∧ Fr (fun _ => False) w w' := by
  have hF : Fr (fun _ => False) w (w.alloc (.cells #[.int .i64 0, s0, fx k, fy k] 66)) := Fr.alloc (Fr.refl _ _) _
  have hq := blk_new w (.cells #[.int .i64 0, s0, fx k, fy k] 66)
  have hb := (hF.block b (lt_of_blk hb) (fun e => e)).trans hb
  have hr := hr.fr hF fun _ _ _ e => e
  have HF : Hid (Fr (fun _ => False) w (w.alloc (.cells #[.int .i64 0, s0, fx k, fy k] 66))) := hF
  clear hF
  generalize hw1 : w.alloc (.cells #[.int .i64 0, s0, fx k, fy k] 66) = w1 at *
  go_enter Tryz.func100, Tryz.ntmps100
  go_wp2_with fail
  go_loopg [5, 6] xs.length (fun gk s5 s6 wr => ∃ j : Nat, gk + j = xs.length ∧ s6 = .int .i64 j ∧ s5 = .int .i64 (lrank t k (xs.take j)) ∧ Fr (fun _ => False) w1 wr)
  case atStart => exact ⟨0, by omega, rfl, rfl, by first | exact Fr.refl _ _ | (rw [← hw1]; exact Fr.refl _ _)⟩
  case round =>
    obtain ⟨j, y0, rfl, rfl, F⟩ := hrel
    have hb' := (F.block b (lt_of_blk hb) (fun e => e)).trans hb
    have c0 : wr.cell? ⟨b, 0, none⟩ = some (.int .i64 3) := cell_of hb' 0
    have c1 : wr.cell? ⟨b, 1, none⟩ = some (.bool t) := cell_of hb' 1
    have c2 : wr.cell? ⟨b, 2, none⟩ = some (.slice a xs.length cap) := cell_of hb' 2
    have hr' := hr.fr F fun _ _ _ e => e
    have hq' := (F.block w.heap.size (lt_of_blk hq) (fun e => e)).trans hq
    have q0 : wr.cell? ⟨w.heap.size, 0, none⟩ = some (.int .i64 0) := cell_of hq' 0
    have q1 : wr.cell? ⟨w.heap.size, 1, none⟩ = some s0 := cell_of hq' 1
    have q2 : wr.cell? ⟨w.heap.size, 2, none⟩ = some (fx k) := cell_of hq' 2
    have q3 : wr.cell? ⟨w.heap.size, 3, none⟩ = some (fy k) := cell_of hq' 3
    by_cases hj : j < xs.length
    · obtain ⟨p, hp⟩ : ∃ p, xs[j]? = some p := ⟨_, List.getElem?_eq_getElem hj⟩
      have hj1 : (j : Int) < (xs.length : Int) := by omega
      have HT : Hid (lrank t k (xs.take (j + 1)) = lrank t k (xs.take j) + (if side t p.1 k < 0 then 1 else 0)) := lrank_take hp
      have hlr : (lrank t k (xs.take j) : Int) ≤ 4000 := by have := lrank_le t k (xs.take j); have : (xs.take j).length ≤ xs.length := List.length_take_le' ..; omega
      rcases hr' with rfl | ⟨g, off, rfl, hg, hc⟩
      · simp at hj
      · have k0 : wr.cell? ⟨g, off + j * 7, none⟩ = some (.int .i64 0) := hc j p hp 0 _ rfl
        have k1 : wr.cell? ⟨g, off + j * 7 + 1, none⟩ = some s0 := hc j p hp 1 _ rfl
        have k2 : wr.cell? ⟨g, off + j * 7 + 2, none⟩ = some (fx p.1) := hc j p hp 2 _ rfl
        have k3 : wr.cell? ⟨g, off + j * 7 + 3, none⟩ = some (fy p.1) := hc j p hp 3 _ rfl
        have HY : Hid (gk + j = xs.length ∧ j < xs.length) := ⟨y0, hj⟩
        clear hc hg hb hr hb' hq hq' hw1 hp y0 hj
        go_wp2_with fail
        go_region_held3 (fun w' => w'.cell? ⟨b, 0, none⟩ = some (.int .i64 3) ∧ w'.cell? ⟨b, 1, none⟩ = some (.bool t) ∧ w'.cell? ⟨b, 2, none⟩ = some (.slice (some ⟨g, off, none⟩) xs.length cap) ∧
            w'.cell? ⟨g, off + j * 7, none⟩ = some (.int .i64 0) ∧ w'.cell? ⟨g, off + j * 7 + 1, none⟩ = some s0 ∧ w'.cell? ⟨g, off + j * 7 + 2, none⟩ = some (fx p.1) ∧ w'.cell? ⟨g, off + j * 7 + 3, none⟩ = some (fy p.1) ∧
            w'.cell? ⟨w.heap.size, 0, none⟩ = some (.int .i64 0) ∧ w'.cell? ⟨w.heap.size, 1, none⟩ = some s0 ∧ w'.cell? ⟨w.heap.size, 2, none⟩ = some (fx k) ∧ w'.cell? ⟨w.heap.size, 3, none⟩ = some (fy k))
          (first | exact ⟨c0, c1, c2, k0, k1, k2, k3, q0, q1, q2, q3⟩ | exact ⟨fr.get c0, fr.get c1, fr.get c2, fr.get k0, fr.get k1, fr.get k2, fr.get k3, fr.get q0, fr.get q1, fr.get q2, fr.get q3⟩)
          ((go_at_call 22; refine (rcompare_any t p.1 k _).mono ?_; rintro e w1 ⟨rfl, fr⟩))
        have F2 := Fr.trans (S' := fun _ => False) (Fr.drew F) fr fun _ _ e => e
        generalize side t p.1 k = sd at *
        clear F fr k0 k1 k2 k3 c0 c1 c2 q0 q1 q2 q3
        by_cases hsd : sd < 0
        · have HT2 : Hid (lrank t k (xs.take (j + 1)) = lrank t k (xs.take j) + 1) := by have := HT.out; rw [if_pos hsd] at this; exact this
          go_wp2_with fail
          go_roundg (gk - 1)
          case measure => have := HY.out; omega
          case rel => exact ⟨j + 1, by have := HY.out; omega, by go_num, by rw [HT2.out]; go_num, F2⟩
        · have HT2 : Hid (lrank t k (xs.take (j + 1)) = lrank t k (xs.take j)) := by have := HT.out; rw [if_neg hsd] at this; exact this
          have hsd' : decide (sd < 0) = false := by simp; omega
          clear hsd
          go_wp2_with fail
          go_roundg (gk - 1)
          case measure => have := HY.out; omega
          case rel => exact ⟨j + 1, by have := HY.out; omega, by go_num, by rw [HT2.out], F2⟩
    · have hj1 : ¬ (j : Int) < (xs.length : Int) := by omega
      have ej : j = xs.length := by omega
      subst ej
      clear hr' hq' hb'
      go_wp2_with fail
      go_ret
      exact ⟨rfl, HF.out.trans F fun _ _ e => e⟩

/-- What Has answers. -/
def lhas (t : Bool) (k : Int) (xs : Row) : Int := if lsame k xs = true then (lrank t k xs : Int) else -1

theorem same_at {t : Bool} {k : Int} {xs : Row} (h : Srt t xs) {p : Int × Int} (hp : xs[lrank t k xs]? = some p) : lsame k xs = decide (side t p.1 k = 0) := by
  cases hs : lsame k xs with
  | true =>
    obtain ⟨v, hv, e⟩ := at_rank h hs
    rw [hv] at hp
    cases hp
    exact (decide_eq_true (side_zero.2 e)).symm
  | false =>
    refine (decide_eq_false fun e => ?_).symm
    rw [lsame, List.any_eq_false] at hs
    exact hs p (List.mem_of_getElem? hp) (by simpa using side_zero.1 e)

theorem same_out {t : Bool} {k : Int} {xs : Row} (h : Srt t xs) (hp : xs.length ≤ lrank t k xs) : lsame k xs = false := by
  cases hs : lsame k xs with
  | true => obtain ⟨v, hv, _⟩ := at_rank h hs; have := (List.getElem?_eq_some_iff.1 hv).1; omega
  | false => rfl

set_option maxRecDepth 100000 in
set_option maxHeartbeats 1600000 in
theorem rhas_any (b : Nat) (t : Bool) (a : Option Addr) (cap : Nat) (xs : Row) (k : Int) (w : World) (hb : w.heap[b]? = some (refBlk t a xs.length cap)) (hr : RowAt w a xs) (hsr : Srt t xs) (hl : xs.length ≤ 4000) :
    Calls Tryz.prog 148 #[.pointer (some ⟨b, 0, none⟩), rkey k] w fun e w' => e = .returned (.int .i64 (lhas t k xs)) ∧ Fr (fun _ => False) w w' := by
  have hF : Fr (fun _ => False) w (w.alloc (.cells #[.int .i64 0, s0, fx k, fy k] 66)) := Fr.alloc (Fr.refl _ _) _
  have hq := blk_new w (.cells #[.int .i64 0, s0, fx k, fy k] 66)
  have hb := (hF.block b (lt_of_blk hb) (fun e => e)).trans hb
  have hr := hr.fr hF fun _ _ _ e => e
  have q0 := cell_of hq 0
  have q1 := cell_of hq 1
  have q2 := cell_of hq 2
  have q3 := cell_of hq 3
  have hrk := rrank_any b t a cap xs k _ hb hr hl
  have hrl := lrank_le t k xs
  have HF : Hid (Fr (fun _ => False) w (w.alloc (.cells #[.int .i64 0, s0, fx k, fy k] 66))) := hF
  clear hF
  unfold lhas
  by_cases hj : lrank t k xs < xs.length
  · obtain ⟨p, hp⟩ : ∃ p, xs[lrank t k xs]? = some p := ⟨_, List.getElem?_eq_getElem hj⟩
    have hj1 : (lrank t k xs : Int) < (xs.length : Int) := by omega
    have hsm := same_at hsr hp
    rw [hsm]
    generalize lrank t k xs = j at *
    rcases hr with rfl | ⟨g, off, rfl, hg, hc⟩
    · simp at hj
    · have k0 := hc j p hp 0 _ rfl
      have k1 := hc j p hp 1 _ rfl
      have k2 := hc j p hp 2 _ rfl
      have k3 := hc j p hp 3 _ rfl
      have c0 := cell_of hb 0
      have c1 := cell_of hb 1
      have c2 := cell_of hb 2
      have hcmp := fun w => rcompare_any t p.1 k w
      generalize side t p.1 k = sd at *
      clear hc hg hb hq hp hj hsr hsm hl hrl
      by_cases hsd : sd = 0
      · subst hsd
        simp only [decide_true, if_true]
        go_enter Tryz.func148, Tryz.ntmps148
        go_wp2_with fail
        refine hrk.mono ?_
        rintro e wr ⟨rfl, F⟩
        have c0 : wr.cell? ⟨b, 0, none⟩ = some (.int .i64 3) := F.get c0
        have c1 : wr.cell? ⟨b, 1, none⟩ = some (.bool t) := F.get c1
        have c2 : wr.cell? ⟨b, 2, none⟩ = some (.slice (some ⟨g, off, none⟩) xs.length cap) := F.get c2
        have q0 : wr.cell? ⟨w.heap.size, 0, none⟩ = some (.int .i64 0) := F.get q0
        have q1 : wr.cell? ⟨w.heap.size, 1, none⟩ = some s0 := F.get q1
        have q2 : wr.cell? ⟨w.heap.size, 2, none⟩ = some (fx k) := F.get q2
        have q3 : wr.cell? ⟨w.heap.size, 3, none⟩ = some (fy k) := F.get q3
        have k0 : wr.cell? ⟨g, off + j * 7, none⟩ = some (.int .i64 0) := F.get k0
        have k1 : wr.cell? ⟨g, off + j * 7 + 1, none⟩ = some s0 := F.get k1
        have k2 : wr.cell? ⟨g, off + j * 7 + 2, none⟩ = some (fx p.1) := F.get k2
        have k3 : wr.cell? ⟨g, off + j * 7 + 3, none⟩ = some (fy p.1) := F.get k3
        clear hrk
        go_wp2_with fail
        go_region_held3 (fun w' => w'.cell? ⟨b, 0, none⟩ = some (.int .i64 3) ∧ w'.cell? ⟨b, 1, none⟩ = some (.bool t) ∧ w'.cell? ⟨b, 2, none⟩ = some (.slice (some ⟨g, off, none⟩) xs.length cap) ∧
            w'.cell? ⟨g, off + j * 7, none⟩ = some (.int .i64 0) ∧ w'.cell? ⟨g, off + j * 7 + 1, none⟩ = some s0 ∧ w'.cell? ⟨g, off + j * 7 + 2, none⟩ = some (fx p.1) ∧ w'.cell? ⟨g, off + j * 7 + 3, none⟩ = some (fy p.1) ∧
            w'.cell? ⟨w.heap.size, 0, none⟩ = some (.int .i64 0) ∧ w'.cell? ⟨w.heap.size, 1, none⟩ = some s0 ∧ w'.cell? ⟨w.heap.size, 2, none⟩ = some (fx k) ∧ w'.cell? ⟨w.heap.size, 3, none⟩ = some (fy k))
          (first | exact ⟨c0, c1, c2, k0, k1, k2, k3, q0, q1, q2, q3⟩ | exact ⟨fr.get c0, fr.get c1, fr.get c2, fr.get k0, fr.get k1, fr.get k2, fr.get k3, fr.get q0, fr.get q1, fr.get q2, fr.get q3⟩)
          ((go_at_call 22; refine (hcmp _).mono ?_; rintro e w1 ⟨rfl, fr⟩))
        have F2 := Fr.trans (S' := fun _ => False) (Fr.drew F) fr fun _ _ e => e
        clear F fr k0 k1 k2 k3 c0 c1 c2 q0 q1 q2 q3
        go_wp2_with fail
        go_ret
        exact ⟨rfl, HF.out.trans F2 fun _ _ e => e⟩
      · have hsd1 : (sd == 0) = false := by rw [beq_eq_false_iff_ne]; exact hsd
        rw [decide_eq_false hsd]
        simp only [Bool.false_eq_true, if_false]
        clear hsd
        go_enter Tryz.func148, Tryz.ntmps148
        go_wp2_with fail
        refine hrk.mono ?_
        rintro e wr ⟨rfl, F⟩
        have c0 : wr.cell? ⟨b, 0, none⟩ = some (.int .i64 3) := F.get c0
        have c1 : wr.cell? ⟨b, 1, none⟩ = some (.bool t) := F.get c1
        have c2 : wr.cell? ⟨b, 2, none⟩ = some (.slice (some ⟨g, off, none⟩) xs.length cap) := F.get c2
        have q0 : wr.cell? ⟨w.heap.size, 0, none⟩ = some (.int .i64 0) := F.get q0
        have q1 : wr.cell? ⟨w.heap.size, 1, none⟩ = some s0 := F.get q1
        have q2 : wr.cell? ⟨w.heap.size, 2, none⟩ = some (fx k) := F.get q2
        have q3 : wr.cell? ⟨w.heap.size, 3, none⟩ = some (fy k) := F.get q3
        have k0 : wr.cell? ⟨g, off + j * 7, none⟩ = some (.int .i64 0) := F.get k0
        have k1 : wr.cell? ⟨g, off + j * 7 + 1, none⟩ = some s0 := F.get k1
        have k2 : wr.cell? ⟨g, off + j * 7 + 2, none⟩ = some (fx p.1) := F.get k2
        have k3 : wr.cell? ⟨g, off + j * 7 + 3, none⟩ = some (fy p.1) := F.get k3
        clear hrk
        go_wp2_with fail
        go_region_held3 (fun w' => w'.cell? ⟨b, 0, none⟩ = some (.int .i64 3) ∧ w'.cell? ⟨b, 1, none⟩ = some (.bool t) ∧ w'.cell? ⟨b, 2, none⟩ = some (.slice (some ⟨g, off, none⟩) xs.length cap) ∧
            w'.cell? ⟨g, off + j * 7, none⟩ = some (.int .i64 0) ∧ w'.cell? ⟨g, off + j * 7 + 1, none⟩ = some s0 ∧ w'.cell? ⟨g, off + j * 7 + 2, none⟩ = some (fx p.1) ∧ w'.cell? ⟨g, off + j * 7 + 3, none⟩ = some (fy p.1) ∧
            w'.cell? ⟨w.heap.size, 0, none⟩ = some (.int .i64 0) ∧ w'.cell? ⟨w.heap.size, 1, none⟩ = some s0 ∧ w'.cell? ⟨w.heap.size, 2, none⟩ = some (fx k) ∧ w'.cell? ⟨w.heap.size, 3, none⟩ = some (fy k))
          (first | exact ⟨c0, c1, c2, k0, k1, k2, k3, q0, q1, q2, q3⟩ | exact ⟨fr.get c0, fr.get c1, fr.get c2, fr.get k0, fr.get k1, fr.get k2, fr.get k3, fr.get q0, fr.get q1, fr.get q2, fr.get q3⟩)
          ((go_at_call 22; refine (hcmp _).mono ?_; rintro e w1 ⟨rfl, fr⟩))
        have F2 := Fr.trans (S' := fun _ => False) (Fr.drew F) fr fun _ _ e => e
        clear F fr k0 k1 k2 k3 c0 c1 c2 q0 q1 q2 q3
        go_wp2_with fail
        go_ret
        exact ⟨rfl, HF.out.trans F2 fun _ _ e => e⟩
  · have hj2 : decide ((lrank t k xs : Int) < (xs.length : Int)) = false := by simp; omega
    have hj3 : decide (lrank t k xs < xs.length) = false := by simp; omega
    rw [same_out hsr (by omega)]
    simp only [Bool.false_eq_true, if_false]
    have c2 := cell_of hb 2
    clear hr hb hj q0 q1 q2 q3 hq hsr hl hrl
    go_enter Tryz.func148, Tryz.ntmps148
    go_wp2_with fail
    refine hrk.mono ?_
    rintro e wr ⟨rfl, F⟩
    have c2 : wr.cell? ⟨b, 2, none⟩ = some (.slice a xs.length cap) := F.get c2
    clear hrk
    go_wp2_with fail
    go_quiet (fail)
    go_wp2_with fail
    go_ret
    exact ⟨rfl, HF.out.trans (F.drewN _) fun _ _ e => e⟩

end Go.Proofs.YthbnbocpddddmaaGreat
