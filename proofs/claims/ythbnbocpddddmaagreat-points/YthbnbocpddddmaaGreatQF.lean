import Derived.Test.YthbnbocpddddmaaGreatQA
import Derived.Test.YthbnbocpddddmaaGreatQFM
import Derived.Deep.LoopGhost
namespace Go.Proofs.YthbnbocpddddmaaGreat.SkI
open Go.RowKit

/-- The last node ahead of place i that reaches level l. -/
def Stop (all : List Nd) (i l p : Nat) (n : Nd) : Prop := all[p]? = some n ∧ p ≤ i ∧ l < n.h ∧ ∀ q m, p < q → q ≤ i → all[q]? = some m → m.h ≤ l

def stopB (st : Nat → Option Addr × Int) : Obj := .cells (lcells 9 st).toArray 367 (0, 0)

/-- A node's cells on a level. -/
theorem SkipAt.cells {w : World} {all : List Nd} {lk : Nat → Nat → Option Addr × Int} (h : SkipAt w all lk) {p : Nat} {n : Nd} (hp : all[p]? = some n) {l : Nat} (hl : l < n.h) :
    w.cell? ⟨n.nb, 2, none⟩ = some (.slice (some ⟨n.lb, 0, none⟩) n.h n.h) ∧ w.cell? ⟨n.lb, l * 2, none⟩ = some (.pointer (lk p l).1) ∧
      w.cell? ⟨n.lb, l * 2 + 1, none⟩ = some (.int .i64 (lk p l).2) := by
  obtain ⟨h1, h2⟩ := h.1 p n hp
  obtain ⟨g1, g2⟩ := lcells_at n.h (lk p) l hl
  rw [Nat.mul_comm] at g1 g2
  exact ⟨cell_of h1 2, by rw [cell_of h2]; simpa using g1, by rw [cell_of h2]; simpa using g2⟩

theorem stop_cells {w : World} {b : Nat} {st : Nat → Option Addr × Int} (h : w.heap[b]? = some (stopB st)) {l : Nat} (hl : l < 9) :
    w.cell? ⟨b, l * 2, none⟩ = some (.pointer (st l).1) ∧ w.cell? ⟨b, l * 2 + 1, none⟩ = some (.int .i64 (st l).2) ∧ w.frozen? ⟨b, l * 2, none⟩ = false ∧ w.frozen? ⟨b, l * 2 + 1, none⟩ = false := by
  obtain ⟨g1, g2⟩ := lcells_at 9 st l hl
  rw [Nat.mul_comm] at g1 g2
  exact ⟨by rw [cell_of h]; simpa using g1, by rw [cell_of h]; simpa using g2, frozen_of h _, frozen_of h _⟩

theorem stop_set {w : World} {b : Nat} {st : Nat → Option Addr × Int} (h : w.heap[b]? = some (stopB st)) {l : Nat} (hl : l < 9) (x : Option Addr) (y : Int) :
    ((w.setCell ⟨b, l * 2, none⟩ (.pointer x)).setCell ⟨b, l * 2 + 1, none⟩ (.int .i64 y)).heap[b]? = some (stopB fun m => if m = l then (x, y) else st m) := by
  rw [blk_set (blk_set h _ _) _ _]
  have := lcells_set 9 st l hl (x, y)
  simp only [stopB]
  rw [← this, Nat.mul_comm 2 l]
  simp

theorem fr_setCells {S : Nat → Prop} {w wr : World} (fr : Fr S w wr) (b o : Nat) (hb : w.heap.size ≤ b) (vs : List Value) : Fr S w (wr.setCells b o vs) := by
  induction vs generalizing wr o with
  | nil => exact fr
  | cons v r ih => exact ih (Fr.setCell fr (by exact fun h => absurd h (by simp; omega)) v) (o + 1)

theorem results_cell1 {fn : Func} {p : Tmp} {ty : TypeId} (h : fn.results = #[.cell p ty]) (tmps : Array Value) (P : Program) (w : World) :
    (results fn tmps).run P w = ((asAddr (tmps.getD p undef)).run P w).andThen fun a w₁ => (loadVar ty a).run P w₁ := by
  simp only [results, h]
  simp [Sem.run_bind, Result.andThen]

theorem stops_size : (Tryz.prog.info? 367).map (·.size) = some 18 := by kernel_rfl

/-- What holds of the outer loop's state. -/
def TrailAt (all : List Nd) (i : Nat) (w : World) (gk : Nat) (s6 s7 s8 : Value) (wr : World) : Prop := ∃ (q : Nat) (n : Nd) (st : Nat → Option Addr × Int), gk ≤ 9 ∧ s6 = .pointer (some ⟨n.nb, 0, none⟩) ∧ s7 = .int .i64 ((i : Int) - q) ∧ s8 = .int .i64 ((gk : Int) - 1) ∧
    all[q]? = some n ∧ q ≤ i ∧ gk ≤ n.h ∧ Fr (fun _ => False) w wr ∧ w.heap.size + 1 < wr.heap.size ∧ (∃ o, wr.heap[w.heap.size]? = some (stopB o)) ∧ wr.heap[w.heap.size + 1]? = some (stopB st) ∧
    ∀ l, gk ≤ l → l < 9 → ∃ q n, Stop all i l q n ∧ st l = (some ⟨n.nb, 0, none⟩, (i : Int) - q)

theorem trail_step {all : List Nd} {i l q : Nat} {n : Nd} {w wr : World} {st : Nat → Option Addr × Int} (y1 : all[q]? = some n) (hq : q ≤ i) (y2 : l < n.h) (hl : l + 1 ≤ 9)
    (hd : ∀ e m, e < i - q → (all.drop (q + 1))[e]? = some m → m.h ≤ l) (fr : Fr (fun _ => False) w wr) (z4 : w.heap.size + 1 < wr.heap.size) (z5 : ∃ o, wr.heap[w.heap.size]? = some (stopB o)) (z6 : wr.heap[w.heap.size + 1]? = some (stopB st))
    (z7 : ∀ m, l + 1 ≤ m → m < 9 → ∃ q n, Stop all i m q n ∧ st m = (some ⟨n.nb, 0, none⟩, (i : Int) - q)) :
    TrailAt all i w l (.pointer (some ⟨n.nb, 0, none⟩)) (.int .i64 ((i : Int) - q)) (.int .i64 ((l : Int) - 1))
      ((wr.setCell ⟨w.heap.size + 1, l * 2, none⟩ (.pointer (some ⟨n.nb, 0, none⟩))).setCell ⟨w.heap.size + 1, l * 2 + 1, none⟩ (.int .i64 ((i : Int) - q))) := by
  refine ⟨q, n, fun m => if m = l then (some ⟨n.nb, 0, none⟩, (i : Int) - q) else st m, by omega, rfl, rfl, rfl, y1, hq, by omega, ?_, by simpa using z4, ?_, stop_set z6 (by omega) _ _, ?_⟩
  · exact Fr.setCell (Fr.setCell fr (by exact fun h => absurd h (by simp)) _) (by exact fun h => absurd h (by simp)) _
  · obtain ⟨o, ho⟩ := z5
    exact ⟨o, by rw [blk_set_ne _ _ (by omega), blk_set_ne _ _ (by omega)]; exact ho⟩
  · intro m hm h9
    by_cases c : m = l
    · subst c
      refine ⟨q, n, ⟨y1, hq, y2, fun q' m' h1 h2 h3 => ?_⟩, by simp⟩
      refine hd (q' - q - 1) m' (by omega) ?_
      rw [List.getElem?_drop, ← h3]; congr 1; omega
    · obtain ⟨q', n', h1, h2⟩ := z7 m (by omega) h9
      exact ⟨q', n', h1, by simp [c, h2]⟩

set_option maxRecDepth 100000 in
set_option maxHeartbeats 1000000 in
theorem trail_any (p : Nat) (ns : List Nd) (hd : Nd) (len : Nat) (laid : Int) (i : Nat) (w : World) (hp : w.heap[p]? = some (listB hd.nb len laid)) (hs : SkipAt w (hd :: ns) (canon (hd :: ns)))
    (h9 : hd.h = 9) (hi : i ≤ ns.length) (hn : ns.length ≤ 5000) :
    Calls Tryz.prog 272 #[.pointer (some ⟨p, 0, none⟩), .int .i64 i] w fun e w' => ∃ st : Nat → Option Addr × Int, e = .returned (.agg (lcells 9 st).toArray) ∧ Fr (fun _ => False) w w' ∧
      ∀ l, l < 9 → ∃ q n, Stop (hd :: ns) i l q n ∧ st l = (some ⟨n.nb, 0, none⟩, (i : Int) - q) := by
  have c0 : w.cell? ⟨p, 0, none⟩ = some (.pointer (some ⟨hd.nb, 0, none⟩)) := cell_of hp 0
  have pl := lt_of_blk hp
  clear hp
  go_enter Tryz.func272, Tryz.ntmps272
  go_wp2_with fail
  go_loopg [6, 7, 8] 9 (fun gk s6 s7 s8 wr => TrailAt (hd :: ns) i w gk s6 s7 s8 wr)
  case atStart =>
    refine ⟨0, hd, fun _ => (none, 0), by omega, rfl, by simp, by simp, rfl, by omega, by omega, Fr.alloc (Fr.alloc (Fr.refl _ _) _) _, by simp, ⟨fun _ => (none, 0), ?_⟩, ?_, fun l h1 h2 => by omega⟩
    · rw [Below.heap_alloc _ _ _ (by simp)]; exact blk_new _ _
    · have := blk_new (w.alloc (stopB fun _ => (none, 0))) (stopB fun _ => (none, 0))
      rw [World.size_alloc] at this; exact this
  case round =>
    obtain ⟨q, n, st, z0, rfl, rfl, rfl, z1, z2, z3, fr, z4, z5, z6, z7⟩ := hrel
    by_cases hg : gk = 0
    · subst hg
      rw [show ((0 : Nat) : Int) - 1 = -1 by omega]
      obtain ⟨o, z5⟩ := z5
      have hr : wr.rangeAt (w.heap.size + 1) 0 (lcells 9 st) := fun j v hv => by rw [Nat.zero_add, cell_of z6]; simpa using hv
      have ht : wr.there w.heap.size 0 (lcells 9 st).toArray.size := fun j hj => by
        rw [Nat.zero_add, cell_of z5]
        refine ⟨?_, frozen_of z5 _⟩
        simp [lcells_len] at hj
        simp [lcells_len, hj]
      have hi2 : (Tryz.prog.info? 367).map (·.size) = some (lcells 9 st).length := by rw [lcells_len]; exact stops_size
      have hi3 : (Tryz.prog.info? 367).map (·.size) = some (lcells 9 st).toArray.size := by simpa using hi2
      have h1c : (lcells 9 st).toArray.all (·.oneCell') = true := by simp [lcells, List.range, List.range.loop, Value.oneCell']
      have hr2 : (wr.setCells w.heap.size 0 (lcells 9 st)).rangeAt w.heap.size 0 (lcells 9 st) := World.rangeAt_setCells_same _ _ _ _ (by simpa using ht)
      have hrun := run_loadVar_mid (P := Tryz.prog) _ w.heap.size 0 367 (lcells 9 st) _ hr2 Tryz.underlying367 rfl hi2
      have hfr2 : Fr (fun _ => False) w (wr.setCells w.heap.size 0 (lcells 9 st)) := fr_setCells fr _ _ (Nat.le_refl _) _
      generalize hcs : lcells 9 st = cs at *
      have HCS : Hid (lcells 9 st = cs) := hcs
      clear hcs
      go_wp2_with (first
        | (refine wpList_load_mid rfl 367 (.tmp 5) rfl (w.heap.size + 1) 0 rfl cs _ hr Tryz.underlying367 rfl hi2 ?_)
        | (refine wpList_store_mid rfl 367 (.tmp 4) (.tmp 62) rfl w.heap.size 0 cs.toArray rfl rfl ht hi3 h1c ?_))
      refine bodyPost_ret (v := .agg cs.toArray) (by rw [results_cell1 Tryz.results272]; exact hrun) rfl ⟨st, by rw [HCS.out], hfr2, fun l hl => z7 l (by omega) hl⟩
    · obtain ⟨l, rfl⟩ : ∃ l, gk = l + 1 := ⟨gk - 1, by omega⟩
      rw [show ((l + 1 : Nat) : Int) - 1 = (l : Int) by omega]
      have hll : (l : Int) ≤ 8 := by omega
      have hll2 : (l : Int) < 9 := by omega
      go_wp2_with fail
      go_loopg [6, 7] (i - q) (fun gk s6 s7 wx => ∃ (q : Nat) (n : Nd), gk + q = i ∧ s6 = .pointer (some ⟨n.nb, 0, none⟩) ∧ s7 = .int .i64 ((i : Int) - q) ∧ (hd :: ns)[q]? = some n ∧ l < n.h ∧ wx.heap = wr.heap ∧ Fr (fun _ => False) w wx)
      case atStart => exact ⟨q, n, by omega, rfl, rfl, z1, by omega, rfl, fr⟩
      case round =>
        obtain ⟨q, n, y0, rfl, rfl, y1, y2, fr2, y3⟩ := hrel
        rw [← fr2] at z4 z5 z6
        have hall : SkipAt wr (hd :: ns) (canon (hd :: ns)) := hs.congr fun x hx => y3.block x (hs.lt x hx) (fun e => e)
        obtain ⟨k1, k2, k3⟩ := hall.cells y1 y2
        obtain ⟨t1, t2, t3, t4⟩ := stop_cells z6 (l := l) (by omega)
        obtain ⟨d1, d2, d3, d4⟩ := dist_spec l ((hd :: ns).drop (q + 1))
        simp only [canon] at k2 k3
        generalize hD : dist l ((hd :: ns).drop (q + 1)) = D at *
        generalize hTg : tgt l ((hd :: ns).drop (q + 1)) = tg at *
        have y2' : (l : Int) < (n.h : Int) := by omega
        have y0' : (q : Int) ≤ (i : Int) := by omega
        have y0'' : (i : Int) ≤ 5000 := by omega
        have hsz : (w.heap.size : Nat) < wr.heap.size := by omega
        rcases d4 with ⟨m, x1, x2, x3, rfl⟩ | ⟨x1, rfl⟩
        · have xD : (D : Int) ≤ 5001 := by simp at x1; omega
          by_cases cD : (D : Int) ≤ (i : Int) - q
          · go_wp2_with fail
            go_quiet (fail)
            go_wp2_with fail
            go_roundg (i - (q + D))
            case measure => omega
            case rel =>
              refine ⟨q + D, m, by omega, rfl, by congr 1; omega, ?_, x3, fr2, Fr.drewN y3 _⟩
              rw [List.getElem?_drop] at x2
              rw [← x2]; congr 1; omega
          · go_wp2_with fail
            go_roundg l
            case measure => omega
            case rel => exact trail_step y1 (by omega) y2 (by omega) (fun e m he hm => d3 e m (by omega) hm) y3 z4 z5 z6 z7
        · go_wp2_with fail
          go_roundg l
          case measure => omega
          case rel => exact trail_step y1 (by omega) y2 (by omega) (fun e m he hm => d3 e m (by have := (List.getElem?_eq_some_iff.1 hm).1; omega) hm) y3 z4 z5 z6 z7

end Go.Proofs.YthbnbocpddddmaaGreat.SkI

namespace Go.Proofs.YthbnbocpddddmaaGreat.SkI
open Go.RowKit

abbrev RowI := List (Int × Int)

/-- The list at block p holds the row xs; 'own': its blocks. -/
def Eng (w : World) (p : Nat) (own : Nat → Prop) (xs : RowI) : Prop :=
  ∃ (hd : Nd) (ns : List Nd) (laid : Int), w.heap[p]? = some (listB hd.nb ns.length laid) ∧ 0 ≤ laid ∧ laid < 18446744073709551616 ∧ SkipAt w (hd :: ns) (canon (hd :: ns)) ∧ hd.h = 9 ∧ (∀ n ∈ ns, 1 ≤ n.h ∧ n.h ≤ 9) ∧
    p ∉ blocks (hd :: ns) ∧ ns.map (fun n => (n.k, n.v)) = xs ∧ ∀ x, own x ↔ x = p ∨ x ∈ blocks (hd :: ns)

theorem Eng.lt {w : World} {p : Nat} {own : Nat → Prop} {xs : RowI} (h : Eng w p own xs) : ∀ x, own x → x < w.heap.size := by
  obtain ⟨hd, ns, laid, h1, _, _, h2, h3, h4, h5, h6, h7⟩ := h
  intro x hx
  rcases (h7 x).1 hx with rfl | e
  · exact lt_of_blk h1
  · exact h2.lt x e

theorem Eng.own {w : World} {p : Nat} {own : Nat → Prop} {xs : RowI} (h : Eng w p own xs) : own p := by
  obtain ⟨hd, ns, laid, h1, _, _, h2, h3, h4, h5, h6, h7⟩ := h
  exact (h7 p).2 (Or.inl rfl)

theorem Eng.congr {w w' : World} {p : Nat} {own : Nat → Prop} {xs : RowI} (h : Eng w p own xs) (hc : ∀ x, own x → w'.heap[x]? = w.heap[x]?) : Eng w' p own xs := by
  obtain ⟨hd, ns, laid, h1, l0, l1, h2, h3, h4, h5, h6, h7⟩ := h
  exact ⟨hd, ns, laid, (hc p ((h7 p).2 (Or.inl rfl))).trans h1, l0, l1, h2.congr fun x hx => hc x ((h7 x).2 (Or.inr hx)), h3, h4, h5, h6, h7⟩

theorem Eng.fr {S : Nat → Prop} {w w' : World} {p : Nat} {own : Nat → Prop} {xs : RowI} (h : Eng w p own xs) (f : Fr S w w') (hd : ∀ x, own x → ¬ S x) : Eng w' p own xs :=
  h.congr fun x hx => f.block x (h.lt x hx) (hd x hx)

theorem index_stop0 (st : Nat → Option Addr × Int) (w : World) : (Instr.index 367 (.agg (lcells 9 st).toArray) (.int .i64 0)).run Tryz.prog w = .ok (.agg #[.pointer (st 0).1, .int .i64 (st 0).2]) w := by kernel_rfl
theorem index_stop1 (st : Nat → Option Addr × Int) (w : World) : (Instr.index 367 (.agg (lcells 9 st).toArray) (.int .i64 1)).run Tryz.prog w = .ok (.agg #[.pointer (st 1).1, .int .i64 (st 1).2]) w := by kernel_rfl
theorem index_stop2 (st : Nat → Option Addr × Int) (w : World) : (Instr.index 367 (.agg (lcells 9 st).toArray) (.int .i64 2)).run Tryz.prog w = .ok (.agg #[.pointer (st 2).1, .int .i64 (st 2).2]) w := by kernel_rfl
theorem index_stop3 (st : Nat → Option Addr × Int) (w : World) : (Instr.index 367 (.agg (lcells 9 st).toArray) (.int .i64 3)).run Tryz.prog w = .ok (.agg #[.pointer (st 3).1, .int .i64 (st 3).2]) w := by kernel_rfl
theorem index_stop4 (st : Nat → Option Addr × Int) (w : World) : (Instr.index 367 (.agg (lcells 9 st).toArray) (.int .i64 4)).run Tryz.prog w = .ok (.agg #[.pointer (st 4).1, .int .i64 (st 4).2]) w := by kernel_rfl
theorem index_stop5 (st : Nat → Option Addr × Int) (w : World) : (Instr.index 367 (.agg (lcells 9 st).toArray) (.int .i64 5)).run Tryz.prog w = .ok (.agg #[.pointer (st 5).1, .int .i64 (st 5).2]) w := by kernel_rfl
theorem index_stop6 (st : Nat → Option Addr × Int) (w : World) : (Instr.index 367 (.agg (lcells 9 st).toArray) (.int .i64 6)).run Tryz.prog w = .ok (.agg #[.pointer (st 6).1, .int .i64 (st 6).2]) w := by kernel_rfl
theorem index_stop7 (st : Nat → Option Addr × Int) (w : World) : (Instr.index 367 (.agg (lcells 9 st).toArray) (.int .i64 7)).run Tryz.prog w = .ok (.agg #[.pointer (st 7).1, .int .i64 (st 7).2]) w := by kernel_rfl
theorem index_stop8 (st : Nat → Option Addr × Int) (w : World) : (Instr.index 367 (.agg (lcells 9 st).toArray) (.int .i64 8)).run Tryz.prog w = .ok (.agg #[.pointer (st 8).1, .int .i64 (st 8).2]) w := by kernel_rfl

theorem index_stop (st : Nat → Option Addr × Int) (l : Nat) (hl : l < 9) (w : World) : (Instr.index 367 (.agg (lcells 9 st).toArray) (.int .i64 l)).run Tryz.prog w = .ok (.agg #[.pointer (st l).1, .int .i64 (st l).2]) w := by
  obtain rfl | rfl | rfl | rfl | rfl | rfl | rfl | rfl | rfl : l = 0 ∨ l = 1 ∨ l = 2 ∨ l = 3 ∨ l = 4 ∨ l = 5 ∨ l = 6 ∨ l = 7 ∨ l = 8 := by omega
  · exact index_stop0 st w
  · exact index_stop1 st w
  · exact index_stop2 st w
  · exact index_stop3 st w
  · exact index_stop4 st w
  · exact index_stop5 st w
  · exact index_stop6 st w
  · exact index_stop7 st w
  · exact index_stop8 st w

theorem field_stop (a : Option Addr) (y : Int) (w : World) : (Instr.field 366 (.agg #[.pointer a, .int .i64 y]) 0).run Tryz.prog w = .ok (.pointer a) w := by kernel_rfl

set_option maxRecDepth 100000 in
set_option maxHeartbeats 400000 in
theorem place_any (p : Nat) (ns : List Nd) (hd : Nd) (laid : Int) (i : Nat) (m : Nd) (w : World) (hp : w.heap[p]? = some (listB hd.nb ns.length laid)) (hs : SkipAt w (hd :: ns) (canon (hd :: ns)))
    (h9 : hd.h = 9) (hh : ∀ n ∈ ns, 1 ≤ n.h ∧ n.h ≤ 9) (hi : ns[i]? = some m) (hn : ns.length ≤ 5000) :
    Calls Tryz.prog 271 #[.pointer (some ⟨p, 0, none⟩), .int .i64 i] w fun e w' => e = .returned (.pointer (some ⟨m.nb, 0, none⟩)) ∧ Fr (fun _ => False) w w' := by
  have hl : i < ns.length := (List.getElem?_eq_some_iff.1 hi).1
  have hfield := field_stop
  have htr := trail_any p ns hd ns.length laid (i + 1) w hp hs h9 (by omega) hn
  have hl' : (i : Int) ≤ 5000 := by omega
  rw [show ((i + 1 : Nat) : Int) = (i : Int) + 1 by omega] at htr
  go_enter Tryz.func271, Tryz.ntmps271
  go_wp2_with fail
  refine htr.mono ?_
  rintro e w2 ⟨st, rfl, fr, hst⟩
  have hx := index_stop0 st
  have e0 : (st 0).1 = some ⟨m.nb, 0, none⟩ := by
    obtain ⟨q, n, ⟨g1, g2, g3, g4⟩, g5⟩ := hst 0 (by omega)
    have hq : q = i + 1 := by
      rcases Nat.lt_or_ge q (i + 1) with c | c
      · have := g4 (i + 1) m c (Nat.le_refl _) (by simpa using hi)
        have := (hh m (List.mem_of_getElem? hi)).1
        omega
      · omega
    subst hq
    rw [List.getElem?_cons_succ, hi] at g1
    rw [g5]; simp at g1; simp [g1]
  rw [e0] at hx
  generalize hcs : (lcells 9 st).toArray = cs at *
  clear hcs hst
  go_wp2_with fail
  go_ret
  exact ⟨rfl, fr⟩

set_option maxHeartbeats 400000 in
theorem kLen_any (p : Nat) (own : Nat → Prop) (xs : RowI) (w : World) (h : Eng w p own xs) :
    Calls Tryz.prog 268 #[.pointer (some ⟨p, 0, none⟩)] w fun e w' => e = .returned (.int .i64 xs.length) ∧ w' = w := by
  obtain ⟨hd, ns, laid, h1, l0, l1, h2, h3, h4, h5, rfl, h7⟩ := h
  have t0 : w.cell? ⟨p, 1, none⟩ = some (.int .i64 ns.length) := cell_of h1 1
  rw [List.length_map]
  clear h1 h2 h3 h4 h5 h7 l0 l1
  go_enter Tryz.func268, Tryz.ntmps268
  go_wp2_with fail
  go_ret
  exact ⟨rfl, rfl⟩

set_option maxHeartbeats 400000 in
theorem kAt_any (p : Nat) (own : Nat → Prop) (xs : RowI) (i : Nat) (k : Int) (v : Int) (w : World) (h : Eng w p own xs) (hi : xs[i]? = some (k, v)) (hs : xs.length ≤ 5000) :
    Calls Tryz.prog 265 #[.pointer (some ⟨p, 0, none⟩), .int .i64 i] w fun e w' => e = .returned (.tuple #[kv k, kv v]) ∧ Fr (fun _ => False) w w' := by
  obtain ⟨hd, ns, laid, h1, l0, l1, h2, h3, h4, h5, rfl, h7⟩ := h
  rw [List.getElem?_map] at hi
  rw [List.length_map] at hs
  cases hm : ns[i]? with
  | none => rw [hm] at hi; cases hi
  | some m =>
    rw [hm] at hi
    simp only [Option.map_some, Option.some.injEq, Prod.mk.injEq] at hi
    obtain ⟨rfl, rfl⟩ := hi
    have hp := place_any p ns hd laid i m w h1 h2 h3 h4 hm hs
    obtain ⟨b1, _⟩ := h2.1 (i + 1) m (by simpa using hm)
    have c0 : w.cell? ⟨m.nb, 0, none⟩ = some (kv m.k) := cell_of b1 0
    have c1 : w.cell? ⟨m.nb, 1, none⟩ = some (kv m.v) := cell_of b1 1
    have bl := lt_of_blk b1
    clear h1 h2 h3 h4 h5 h7 l0 l1 b1
    go_enter Tryz.func265, Tryz.ntmps265
    go_wp2_with fail
    refine hp.mono ?_
    rintro e w2 ⟨rfl, fr⟩
    have d0 : w2.cell? ⟨m.nb, 0, none⟩ = some (kv m.k) := (World.cell?_of_block (w := w) (fr.block m.nb bl (fun e => e))).trans c0
    have d1 : w2.cell? ⟨m.nb, 1, none⟩ = some (kv m.v) := (World.cell?_of_block (w := w) (fr.block m.nb bl (fun e => e))).trans c1
    go_wp2_with fail
    go_quiet (fail)
    go_wp2_with fail
    go_ret2
    exact ⟨rfl, Fr.drewN fr _⟩

/-- A node's value set. -/
theorem skip_set {w : World} {hd : Nd} {ns : List Nd} (h2 : SkipAt w (hd :: ns) (canon (hd :: ns))) {i : Nat} {m : Nd} (hm : ns[i]? = some m) (u : Int) :
    SkipAt (w.setCell ⟨m.nb, 1, none⟩ (kv u)) (hd :: ns.set i { m with v := u }) (canon (hd :: ns.set i { m with v := u })) ∧ blocks (hd :: ns.set i { m with v := u }) = blocks (hd :: ns) ∧
      (ns.set i { m with v := u }).map (fun n => (n.k, n.v)) = (ns.map fun n => (n.k, n.v)).set i (m.k, u) := by
  have hil : i < ns.length := (List.getElem?_eq_some_iff.1 hm).1
  have hb : ∀ (l : List Nd) (j : Nat) (a : Nd), l[j]? = some a → blocks (l.set j { a with v := u }) = blocks l := by
    intro l
    induction l with
    | nil => intro j a h; simp at h
    | cons b l ih =>
      intro j a h
      cases j with
      | zero => simp at h; subst h; simp [blocks]
      | succ j => simp only [List.set_cons_succ, blocks, List.flatMap_cons]; rw [← blocks, ← blocks, ih j a (by simpa using h)]
  have hdist : ∀ (l : Nat) (r : List Nd) (j : Nat) (a : Nd), r[j]? = some a → dist l (r.set j { a with v := u }) = dist l r ∧ tgt l (r.set j { a with v := u }) = tgt l r := by
    intro l r
    induction r with
    | nil => intro j a h; simp at h
    | cons b r ih =>
      intro j a h
      cases j with
      | zero => simp at h; subst h; exact ⟨rfl, rfl⟩
      | succ j => simp only [List.set_cons_succ, dist, tgt]; obtain ⟨e1, e2⟩ := ih j a (by simpa using h); rw [e1, e2]; exact ⟨rfl, rfl⟩
  have hcan : ∀ j, canon (hd :: ns.set i { m with v := u }) j = canon (hd :: ns) j := by
    intro j
    funext l
    simp only [canon]
    simp only [List.drop_succ_cons]
    rcases Nat.lt_or_ge i j with c | c
    · rw [List.drop_set_of_lt c]
    · have e : (ns.set i { m with v := u }).drop j = (ns.drop j).set (i - j) { m with v := u } := by rw [List.drop_set]; simp [Nat.not_lt.2 c]
      obtain ⟨e1, e2⟩ := hdist l (ns.drop j) (i - j) m (by rw [List.getElem?_drop, ← hm]; congr 1; omega)
      rw [e, e1, e2]
  have hblk := hb (hd :: ns) (i + 1) m (by simpa using hm)
  simp only [List.set_cons_succ] at hblk
  obtain ⟨b1, b2⟩ := h2.1 (i + 1) m (by simpa using hm)
  refine ⟨⟨fun j n hj => ?_, by rw [hblk]; exact h2.2⟩, hblk, by rw [List.map_set]⟩
  rw [hcan]
  by_cases c : j = i + 1
  · subst c
    rw [List.getElem?_cons_succ, List.getElem?_set_self hil] at hj
    simp only [Option.some.injEq] at hj
    subst hj
    refine ⟨by rw [blk_set b1 1]; rfl, ?_⟩
    rw [blk_set_ne _ _ (Ne.symm (nb_ne_lb h2.2 (List.mem_of_getElem? (by simpa using hm : (hd :: ns)[i + 1]? = some m)) (List.mem_of_getElem? (by simpa using hm : (hd :: ns)[i + 1]? = some m))))]
    exact b2
  · have hj' : (hd :: ns)[j]? = some n := by
      cases j with
      | zero => exact hj
      | succ j => rw [List.getElem?_cons_succ] at hj ⊢; rw [List.getElem?_set_ne (by omega)] at hj; exact hj
    obtain ⟨a1, a2⟩ := h2.1 j n hj'
    have mm : m ∈ hd :: ns := List.mem_of_getElem? (by simpa using hm : (hd :: ns)[i + 1]? = some m)
    refine ⟨?_, ?_⟩
    · rw [blk_set_ne _ _ (fun e => c (blocks_inj h2.2 hj' (by simpa using hm : (hd :: ns)[i + 1]? = some m) (Or.inl e)))]; exact a1
    · rw [blk_set_ne _ _ (Ne.symm (nb_ne_lb h2.2 mm (List.mem_of_getElem? hj')))]; exact a2

set_option maxHeartbeats 400000 in
theorem kSet_any (p : Nat) (own : Nat → Prop) (xs : RowI) (i : Nat) (k : Int) (v u : Int) (w : World) (h : Eng w p own xs) (hi : xs[i]? = some (k, v)) (hs : xs.length ≤ 5000) :
    Calls Tryz.prog 270 #[.pointer (some ⟨p, 0, none⟩), .int .i64 i, kv u] w fun e w' => e = .returned (.tuple #[]) ∧ Eng w' p own (xs.set i (k, u)) ∧ Fr own w w' := by
  obtain ⟨hd, ns, laid, h1, l0, l1, h2, h3, h4, h5, rfl, h7⟩ := h
  rw [List.getElem?_map] at hi
  rw [List.length_map] at hs
  cases hm : ns[i]? with
  | none => rw [hm] at hi; cases hi
  | some m =>
    rw [hm] at hi
    simp only [Option.map_some, Option.some.injEq, Prod.mk.injEq] at hi
    obtain ⟨rfl, rfl⟩ := hi
    have hp := place_any p ns hd laid i m w h1 h2 h3 h4 hm hs
    have mm : m ∈ hd :: ns := List.mem_of_getElem? (by simpa using hm : (hd :: ns)[i + 1]? = some m)
    have hpm : p ≠ m.nb := fun e => h5 (mem_blocks.2 ⟨m, mm, Or.inl e⟩)
    have fin : ∀ w2, Fr (fun _ => False) w w2 → w2.cell? ⟨m.nb, 1, none⟩ = some (kv m.v) ∧ w2.frozen? ⟨m.nb, 1, none⟩ = false ∧ Eng (w2.setCell ⟨m.nb, 1, none⟩ (kv u)) p own ((ns.map fun n => (n.k, n.v)).set i (m.k, u)) ∧ Fr own w (w2.setCell ⟨m.nb, 1, none⟩ (kv u)) := by
      intro w2 fr
      have h2' := h2.congr fun x hx => fr.block x (h2.lt x hx) (fun e => e)
      obtain ⟨b1, _⟩ := h2'.1 (i + 1) m (by simpa using hm)
      obtain ⟨s1, s2, s3⟩ := skip_set h2' hm u
      refine ⟨cell_of b1 1, frozen_of b1 1, ⟨hd, ns.set i { m with v := u }, laid, ?_, l0, l1, s1, h3, ?_, by rw [s2]; exact h5, s3, by rw [s2]; exact h7⟩, Fr.setCell (fr.mono fun _ _ e => e.elim) (by exact fun _ => (h7 _).2 (Or.inr (mem_blocks.2 ⟨m, mm, Or.inl rfl⟩))) _⟩
      · rw [blk_set_ne _ _ hpm, List.length_set]; exact (fr.block p (lt_of_blk h1) (fun e => e)).trans h1
      · intro n hn
        rcases List.mem_or_eq_of_mem_set hn with e | e
        · exact h4 n e
        · rw [e]; exact h4 m (List.mem_of_getElem? hm)
    clear h1 h2 h3 h4 h5 h7 l0 l1 mm
    have hsc := store_c
    go_enter Tryz.func270, Tryz.ntmps270
    go_wp2_with fail
    refine hp.mono ?_
    rintro e w2 ⟨rfl, fr⟩
    obtain ⟨f1, f2, f3, f4⟩ := fin w2 fr
    clear fin
    go_wp2_with fail
    go_end0
    exact ⟨rfl, f3, f4⟩

end Go.Proofs.YthbnbocpddddmaaGreat.SkI

namespace Go.Proofs.YthbnbocpddddmaaGreat.SkI
open Go.RowKit

theorem dist_none (l : Nat) (a b : List Nd) (h : ∀ n ∈ a, n.h ≤ l) : dist l (a ++ b) = a.length + dist l b ∧ tgt l (a ++ b) = tgt l b := by
  induction a with
  | nil => simp
  | cons n a ih =>
    obtain ⟨i1, i2⟩ := ih fun m hm => h m (by simp [hm])
    have := h n (by simp)
    simp only [List.cons_append, dist, tgt, List.length_cons]
    rw [if_neg (by omega), if_neg (by omega), i1, i2]
    exact ⟨by omega, rfl⟩

theorem dist_some (l : Nat) (a b b' : List Nd) (h : ∃ n ∈ a, l < n.h) : dist l (a ++ b) = dist l (a ++ b') ∧ tgt l (a ++ b) = tgt l (a ++ b') := by
  induction a with
  | nil => obtain ⟨n, hn, _⟩ := h; cases hn
  | cons n a ih =>
    simp only [List.cons_append, dist, tgt]
    by_cases c : l < n.h
    · rw [if_pos c, if_pos c, if_pos c, if_pos c]; exact ⟨rfl, rfl⟩
    · rw [if_neg c, if_neg c, if_neg c, if_neg c]
      obtain ⟨m, hm, hl⟩ := h
      rcases List.mem_cons.1 hm with rfl | hm
      · exact absurd hl c
      · obtain ⟨e1, e2⟩ := ih ⟨m, hm, hl⟩
        rw [e1, e2]; exact ⟨rfl, rfl⟩

/-- A link set. -/
theorem SkipAt.set2 {w : World} {L : List Nd} {lk : Nat → Nat → Option Addr × Int} (h : SkipAt w L lk) {j : Nat} {n : Nd} (hj : L[j]? = some n) {l : Nat} (hl : l < n.h) (x : Option Addr) (y : Int) :
    SkipAt ((w.setCell ⟨n.lb, l * 2, none⟩ (.pointer x)).setCell ⟨n.lb, l * 2 + 1, none⟩ (.int .i64 y)) L (fun j' m => if j' = j ∧ m = l then (x, y) else lk j' m) := by
  refine ⟨fun j' n' hj' => ?_, h.2⟩
  obtain ⟨h1, h2⟩ := h.1 j' n' hj'
  have hm := List.mem_of_getElem? hj
  have hm' := List.mem_of_getElem? hj'
  have ne1 : n'.nb ≠ n.lb := nb_ne_lb h.2 hm' hm
  refine ⟨by rw [blk_set_ne _ _ ne1, blk_set_ne _ _ ne1]; exact h1, ?_⟩
  by_cases c : j' = j
  · subst c
    rw [hj] at hj'; simp only [Option.some.injEq] at hj'; subst hj'
    rw [blk_set (blk_set h2 _ _) _ _]
    simp only [linkB, true_and]
    have := lcells_set n.h (lk j') l hl (x, y)
    rw [Nat.mul_comm 2 l] at this
    rw [← this]
    simp
  · have ne2 : n'.lb ≠ n.lb := fun e => c (blocks_inj h.2 hj' hj (Or.inr e))
    rw [blk_set_ne _ _ ne2, blk_set_ne _ _ ne2]
    simp only [c, false_and, if_false]
    exact h2

theorem SkipAt.set1 {w : World} {L : List Nd} {lk : Nat → Nat → Option Addr × Int} (h : SkipAt w L lk) {j : Nat} {n : Nd} (hj : L[j]? = some n) {l : Nat} (hl : l < n.h) (y : Int) :
    SkipAt (w.setCell ⟨n.lb, l * 2 + 1, none⟩ (.int .i64 y)) L (fun j' m => if j' = j ∧ m = l then ((lk j l).1, y) else lk j' m) := by
  refine ⟨fun j' n' hj' => ?_, h.2⟩
  obtain ⟨h1, h2⟩ := h.1 j' n' hj'
  have hm := List.mem_of_getElem? hj
  have hm' := List.mem_of_getElem? hj'
  have ne1 : n'.nb ≠ n.lb := nb_ne_lb h.2 hm' hm
  refine ⟨by rw [blk_set_ne _ _ ne1]; exact h1, ?_⟩
  by_cases c : j' = j
  · subst c
    rw [hj] at hj'; simp only [Option.some.injEq] at hj'; subst hj'
    rw [blk_set h2 _ _]
    simp only [linkB, true_and]
    have := lcells_set1 n.h (lk j') l hl y
    rw [Nat.mul_comm 2 l] at this
    rw [← this]
    simp
  · have ne2 : n'.lb ≠ n.lb := fun e => c (blocks_inj h.2 hj' hj (Or.inr e))
    rw [blk_set_ne _ _ ne2]
    simp only [c, false_and, if_false]
    exact h2

theorem SkipAt.lk {w : World} {L : List Nd} {lk lk' : Nat → Nat → Option Addr × Int} (h : SkipAt w L lk) (e : ∀ j n, L[j]? = some n → ∀ m, m < n.h → lk j m = lk' j m) : SkipAt w L lk' := by
  refine ⟨fun j n hj => ?_, h.2⟩
  obtain ⟨h1, h2⟩ := h.1 j n hj
  refine ⟨h1, ?_⟩
  rw [h2]
  simp only [linkB]
  rw [lcells_congr n.h (lk j) (lk' j) (e j n hj)]

/-- The links when the levels below l have been done: the new node stands behind all others. -/
def lkL (all : List Nd) (nw : Nd) (i : Nat) (Q : Nat → Nat) (l j m : Nat) : Option Addr × Int :=
  if j < all.length then
    if m < l ∧ j = Q m then (if m < nw.h then (some ⟨nw.nb, 0, none⟩, (i : Int) - Q m + 1) else ((canon all j m).1, (canon all j m).2 + 1)) else canon all j m
  else if m < l ∧ m < nw.h then ((canon all (Q m) m).1, (canon all (Q m) m).2 - ((i : Int) - Q m)) else (none, 0)

theorem lkL_stop {all : List Nd} {nw : Nd} {i l : Nat} {Q : Nat → Nat} {j : Nat} (hj : j < all.length) : lkL all nw i Q l j l = canon all j l := by
  unfold lkL; rw [if_pos hj, if_neg (by omega)]

theorem lkL_succ_lo {all : List Nd} {nw : Nd} {i l : Nat} {Q : Nat → Nat} (hq : Q l < all.length) (hh : l < nw.h) (j m : Nat) :
    (if j = Q l ∧ m = l then ((some ⟨nw.nb, 0, none⟩ : Option Addr), (i : Int) - Q l + 1) else (if j = all.length ∧ m = l then ((canon all (Q l) l).1, (canon all (Q l) l).2 - ((i : Int) - Q l)) else lkL all nw i Q l j m)) = (if j ≤ all.length then lkL all nw i Q (l + 1) j m else lkL all nw i Q l j m) := by
  unfold lkL
  by_cases c : m = l
  · subst c
    by_cases d : j = Q m
    · subst d; simp [hq, hh, Nat.le_of_lt hq]
    · by_cases e : j = all.length
      · subst e; simp [d, hh]
      · by_cases f : j < all.length
        · simp [d, f, e, Nat.le_of_lt f]
        · simp [d, e, f, show ¬ j ≤ all.length by omega]
  · have e1 : (m < l + 1) = (m < l) := by simp; omega
    simp only [c, and_false, if_false, e1]
    by_cases g : j ≤ all.length <;> simp [g]

theorem lkL_succ_hi {all : List Nd} {nw : Nd} {i l : Nat} {Q : Nat → Nat} (hq : Q l < all.length) (hh : ¬ l < nw.h) (j m : Nat) :
    (if j = Q l ∧ m = l then ((canon all (Q l) l).1, (canon all (Q l) l).2 + 1) else lkL all nw i Q l j m) = lkL all nw i Q (l + 1) j m := by
  unfold lkL
  by_cases c : m = l
  · subst c
    by_cases d : j = Q m
    · subst d; simp [hq, hh]
    · by_cases f : j < all.length
      · simp [d, f]
      · simp [d, f, hh]
  · have e1 : (m < l + 1) = (m < l) := by simp; omega
    simp only [c, and_false, if_false, e1]

/-- All levels done: the new list. -/
theorem skip_inserted {w : World} {all : List Nd} {nw : Nd} {i : Nat} {Q : Nat → Nat} (h : SkipAt w (all ++ [nw]) (lkL all nw i Q 9)) (hi : i < all.length) (h9 : ∀ n ∈ all, n.h ≤ 9) (hw : nw.h ≤ 9)
    (hQ : ∀ l, l < 9 → ∃ n, Stop all i l (Q l) n) : SkipAt w (all.take (i + 1) ++ nw :: all.drop (i + 1)) (canon (all.take (i + 1) ++ nw :: all.drop (i + 1))) := by
  have hlen : (all.take (i + 1)).length = i + 1 := by simp; omega
  have hperm : (blocks (all.take (i + 1) ++ nw :: all.drop (i + 1))).Nodup := by
    have e : (blocks (all.take (i + 1) ++ nw :: all.drop (i + 1))).Perm (blocks (all ++ [nw])) := by
      unfold blocks
      apply List.Perm.flatMap_right
      have : (all ++ [nw]) = all.take (i + 1) ++ (all.drop (i + 1) ++ [nw]) := by rw [← List.append_assoc, List.take_append_drop]
      rw [this]
      exact List.Perm.append_left _ (List.perm_append_comm (l₁ := [nw]) (l₂ := all.drop (i + 1)))
    exact e.nodup_iff.2 h.2
  refine ⟨fun j n hj => ?_, hperm⟩
  rcases Nat.lt_or_ge j (i + 1) with c | c
  · -- ahead of the new node
    rw [List.getElem?_append_left (by omega), List.getElem?_take_of_lt c] at hj
    have hjl : j < all.length := by omega
    obtain ⟨g1, g2⟩ := h.1 j n (by rw [List.getElem?_append_left hjl]; exact hj)
    refine ⟨g1, g2.trans ?_⟩
    simp only [linkB]
    congr 3
    refine lcells_congr _ _ _ fun m hm => ?_
    have hn9 := h9 n (List.mem_of_getElem? hj)
    obtain ⟨qn, s1, s2, s3, s4⟩ := hQ m (by omega)
    have er : all.drop (j + 1) = (all.take (i + 1)).drop (j + 1) ++ all.drop (i + 1) := by
      rw [← List.drop_append_of_le_length (by omega : j + 1 ≤ (all.take (i + 1)).length), List.take_append_drop]
    have er' : (all.take (i + 1) ++ nw :: all.drop (i + 1)).drop (j + 1) = (all.take (i + 1)).drop (j + 1) ++ nw :: all.drop (i + 1) := List.drop_append_of_le_length (by omega)
    have el : ((all.take (i + 1)).drop (j + 1)).length = i - j := by simp; omega
    unfold lkL
    rw [if_pos hjl]
    by_cases d : j = Q m
    · rw [if_pos ⟨by omega, d⟩]
      have hno : ∀ x ∈ (all.take (i + 1)).drop (j + 1), x.h ≤ m := by
        intro x hx
        obtain ⟨t, ht⟩ := List.getElem?_of_mem hx
        have htl : t < ((all.take (i + 1)).drop (j + 1)).length := (List.getElem?_eq_some_iff.1 ht).1
        rw [List.getElem?_drop, List.getElem?_take_of_lt (by omega)] at ht
        exact s4 (j + 1 + t) x (by omega) (by omega) ht
      obtain ⟨a1, a2⟩ := dist_none m _ (all.drop (i + 1)) hno
      obtain ⟨b1, b2⟩ := dist_none m _ (nw :: all.drop (i + 1)) hno
      simp only [canon]
      rw [er, er', a1, a2, b1, b2, el]
      simp only [dist, tgt]
      by_cases e : m < nw.h
      · rw [if_pos e, if_pos e, if_pos e, ← d]; congr 1 <;> omega
      · rw [if_neg e, if_neg e, if_neg e]; congr 1 <;> omega
    · rw [if_neg (fun e => d e.2)]
      have hso : ∃ x ∈ (all.take (i + 1)).drop (j + 1), m < x.h := by
        have hlt : j < Q m := by
          rcases Nat.lt_or_ge j (Q m) with f | f
          · exact f
          · have := s4 j n (by omega) (by omega) hj; omega
        refine ⟨qn, ?_, s3⟩
        refine List.mem_of_getElem? (i := Q m - (j + 1)) ?_
        rw [List.getElem?_drop, List.getElem?_take_of_lt (by omega), ← s1]; congr 1; omega
      obtain ⟨a1, a2⟩ := dist_some m _ (all.drop (i + 1)) (nw :: all.drop (i + 1)) hso
      simp only [canon]
      rw [er, er', a1, a2]
  · rcases Nat.eq_or_lt_of_le c with c | c
    · -- the new node itself
      subst c
      rw [List.getElem?_append_right (by omega), hlen] at hj
      simp at hj
      subst hj
      obtain ⟨g1, g2⟩ := h.1 all.length nw (by simp)
      refine ⟨g1, g2.trans ?_⟩
      simp only [linkB]
      congr 3
      refine lcells_congr _ _ _ fun m hm => ?_
      obtain ⟨qn, s1, s2, s3, s4⟩ := hQ m (by omega)
      unfold lkL
      rw [if_neg (by omega), if_pos ⟨by omega, hm⟩]
      have er : all.drop (Q m + 1) = (all.take (i + 1)).drop (Q m + 1) ++ all.drop (i + 1) := by
        rw [← List.drop_append_of_le_length (by omega : Q m + 1 ≤ (all.take (i + 1)).length), List.take_append_drop]
      have el : ((all.take (i + 1)).drop (Q m + 1)).length = i - Q m := by simp; omega
      have hno : ∀ x ∈ (all.take (i + 1)).drop (Q m + 1), x.h ≤ m := by
        intro x hx
        obtain ⟨t, ht⟩ := List.getElem?_of_mem hx
        have htl : t < ((all.take (i + 1)).drop (Q m + 1)).length := (List.getElem?_eq_some_iff.1 ht).1
        rw [List.getElem?_drop, List.getElem?_take_of_lt (by omega)] at ht
        exact s4 (Q m + 1 + t) x (by omega) (by omega) ht
      obtain ⟨a1, a2⟩ := dist_none m _ (all.drop (i + 1)) hno
      have et : (all.take (i + 1) ++ nw :: all.drop (i + 1)).drop (i + 1 + 1) = all.drop (i + 1) := by
        rw [List.drop_append, hlen, List.drop_eq_nil_of_le (by omega)]; simp
      simp only [canon]
      rw [er, a1, a2, et, el]
      congr 1; omega
    · -- behind it
      rw [List.getElem?_append_right (by omega), hlen, show j - (i + 1) = (j - (i + 1) - 1) + 1 by omega, List.getElem?_cons_succ, List.getElem?_drop] at hj
      have hj' : all[j - 1]? = some n := by rw [← hj]; congr 1; omega
      have hjl : j - 1 < all.length := (List.getElem?_eq_some_iff.1 hj').1
      obtain ⟨g1, g2⟩ := h.1 (j - 1) n (by rw [List.getElem?_append_left hjl]; exact hj')
      refine ⟨g1, g2.trans ?_⟩
      simp only [linkB]
      congr 3
      refine lcells_congr _ _ _ fun m hm => ?_
      have hn9 := h9 n (List.mem_of_getElem? hj')
      obtain ⟨qn, s1, s2, s3, s4⟩ := hQ m (by omega)
      unfold lkL
      rw [if_pos hjl, if_neg (by omega)]
      have et : (all.take (i + 1) ++ nw :: all.drop (i + 1)).drop (j + 1) = all.drop (j - 1 + 1) := by
        rw [List.drop_append, hlen, List.drop_eq_nil_of_le (by omega), show j + 1 - (i + 1) = (j - i - 1) + 1 by omega, List.drop_succ_cons, List.drop_drop]
        simp only [List.nil_append]; congr 1; omega
      simp only [canon]
      rw [et]

end Go.Proofs.YthbnbocpddddmaaGreat.SkI

namespace Go.Proofs.YthbnbocpddddmaaGreat
open Go.RowKit

theorem byte_small (s : ByteArray) (i : Nat) (h : i < s.size) (ha : s.data.toList.all (fun b => decide (b.toNat ≤ 8)) = true) : ((s[i]'h).toNat : Int) ≤ 8 := by
  have := List.all_eq_true.1 ha (s[i]'h) (by simp [ByteArray.getElem_eq_getElem_data])
  simp at this; omega

theorem fin_sum (c t : Int) (c0 : 0 ≤ c) (c1 : c ≤ 56) (t0 : 0 ≤ t) (t8 : t ≤ 8) : 0 ≤ wrap64 (c + wrap64 t) ∧ wrap64 (c + wrap64 t) ≤ 64 := by
  have e : wrap64 t = t := by unfold wrap64; omega
  rw [e]
  have e : wrap64 (c + t) = c + t := by unfold wrap64; omega
  rw [e]; omega
theorem fin_0 (t : Int) (t0 : 0 ≤ t) (t8 : t ≤ 8) : 0 ≤ wrap64 (wrap64 t) ∧ wrap64 (wrap64 t) ≤ 64 := by
  have e : wrap64 t = t := by unfold wrap64; omega
  rw [e, e]; omega

set_option maxRecDepth 100000 in
set_option maxHeartbeats 1000000 in
theorem len64_any (x : Int) (w : World) (x0 : 0 ≤ x) (x1 : x < 18446744073709551616) :
    Calls Tryz.prog 224 #[.int .u64 x] w fun e w' => (∃ n : Int, e = .returned (.int .i64 n) ∧ 0 ≤ n ∧ n ≤ 64) ∧ w' = w := by
  go_enter Tryz.func224, Tryz.ntmps224
  go_wp2_with fail
  all_goals go_ret
  all_goals refine ⟨⟨_, rfl, ?_⟩, rfl⟩
  all_goals first
    | (refine fin_sum _ _ ?_ ?_ ?_ (byte_small _ _ _ ?_))
    | (refine fin_0 _ ?_ (byte_small _ _ _ ?_))
  all_goals first
    | omega
    | decide +kernel

set_option maxRecDepth 100000 in
set_option maxHeartbeats 1000000 in
theorem lz_any (x : Int) (w : World) (x0 : 0 ≤ x) (x1 : x < 18446744073709551616) :
    Calls Tryz.prog 223 #[.int .u64 x] w fun e w' => (∃ n : Int, e = .returned (.int .i64 n) ∧ 0 ≤ n ∧ n ≤ 64) ∧ w' = w := by
  have hl := len64_any x w x0 x1
  clear x0 x1
  go_enter Tryz.func223, Tryz.ntmps223
  go_wp2_with fail
  refine hl.mono ?_
  rintro e w' ⟨⟨n, rfl, n0, n1⟩, rfl⟩
  go_wp2_with fail
  go_ret
  exact ⟨⟨_, rfl, by omega, by omega⟩, rfl⟩

theorem wrap_bd (y : Int) : 0 ≤ IntKind.u64.wrap y ∧ IntKind.u64.wrap y < 18446744073709551616 := by
  simp [IntKind.wrap, IntKind.bits, IntKind.signed]; omega

set_option maxRecDepth 100000 in
set_option maxHeartbeats 1000000 in
theorem height_any (x : Int) (w : World) :
    Calls Tryz.prog 221 #[.int .u64 x] w fun e w' => (∃ n : Nat, e = .returned (.int .i64 n) ∧ 1 ≤ n ∧ n ≤ 9) ∧ w' = w := by
  go_enter Tryz.func221, Tryz.ntmps221
  go_wp2_with fail
  have hb := wrap_bd (x * 11400714819323198485)
  generalize IntKind.u64.wrap (x * 11400714819323198485) = y at *
  refine (lz_any y w hb.1 hb.2).mono ?_
  rintro e w' ⟨⟨n, rfl, n0, n1⟩, rfl⟩
  clear hb
  go_wp2_with fail
  · go_ret
    exact ⟨⟨9, rfl, by omega, by omega⟩, rfl⟩
  · go_ret
    exact ⟨⟨(n + 1).toNat, by rw [Int.toNat_of_nonneg (by omega)]; rfl, by omega, by omega⟩, rfl⟩

end Go.Proofs.YthbnbocpddddmaaGreat
