/- trail. -/
import Derived.Test.YthbnbocpddddmaaGreatWTree
import Derived.Test.YthbnbocpddddmaaGreatKMemS
import Derived.Deep.LoopGhost
namespace Go.Proofs.YthbnbocpddddmaaGreat.SkS
open Go.RowKit

/-- The last node ahead of place i that reaches level l. -/
def Stop (all : List Nd) (i l p : Nat) (n : Nd) : Prop := all[p]? = some n ∧ p ≤ i ∧ l < n.h ∧ ∀ q m, p < q → q ≤ i → all[q]? = some m → m.h ≤ l

def stopB (st : Nat → Option Addr × Int) : Obj := .cells (lcells 9 st).toArray 356 (0, 0)

/-- A node's cells on a level. -/
theorem SkipAt.cells {w : World} {all : List Nd} {lk : Nat → Nat → Option Addr × Int} (h : SkipAt w all lk) {p : Nat} {n : Nd} (hp : all[p]? = some n) {l : Nat} (hl : l < n.h) :
    w.cell? ⟨n.nb, 2, none⟩ = some (.slice (some ⟨n.lb, 0, none⟩) n.h n.h) ∧ w.cell? ⟨n.lb, l * 2, none⟩ = some (.pointer (lk p l).1) ∧
      w.cell? ⟨n.lb, l * 2 + 1, none⟩ = some (.int .i64 (lk p l).2) := by
  obtain ⟨h1, h2⟩ := h.1 p n hp
  obtain ⟨g1, g2⟩ := lcells_at n.h (lk p) l hl
  rw [Nat.mul_comm] at g1 g2
  exact ⟨cell_of h1 2, by rw [cell_of h2]; simpa using g1, by rw [cell_of h2]; simpa using g2⟩

theorem stop_cells {w : World} {b : Nat} {st : Nat → Option Addr × Int} (h : w.heap[b]? = some (stopB st)) {l : Nat} (hl : l < 9) :
    w.cell? ⟨b, l * 2, none⟩ = some (.pointer (st l).1) ∧ w.cell? ⟨b, l * 2 + 1, none⟩ = some (.int .i64 (st l).2) ∧ w.frozen? ⟨b, l * 2, none⟩ = false ∧ w.frozen? ⟨b, l * 2 + 1, none⟩ = false := by
  obtain ⟨g1, g2⟩ := lcells_at 9 st l hl
  rw [Nat.mul_comm] at g1 g2
  exact ⟨by rw [cell_of h]; simpa using g1, by rw [cell_of h]; simpa using g2, frozen_of h _, frozen_of h _⟩

theorem stop_set {w : World} {b : Nat} {st : Nat → Option Addr × Int} (h : w.heap[b]? = some (stopB st)) {l : Nat} (hl : l < 9) (x : Option Addr) (y : Int) :
    ((w.setCell ⟨b, l * 2, none⟩ (.pointer x)).setCell ⟨b, l * 2 + 1, none⟩ (.int .i64 y)).heap[b]? = some (stopB fun m => if m = l then (x, y) else st m) := by
  rw [blk_set (blk_set h _ _) _ _]
  have := lcells_set 9 st l hl (x, y)
  simp only [stopB]
  rw [← this, Nat.mul_comm 2 l]
  simp

theorem fr_setCells {S : Nat → Prop} {w wr : World} (fr : Fr S w wr) (b o : Nat) (hb : w.heap.size ≤ b) (vs : List Value) : Fr S w (wr.setCells b o vs) := by
  induction vs generalizing wr o with
  | nil => exact fr
  | cons v r ih => exact ih (Fr.setCell fr (by exact fun h => absurd h (by simp; omega)) v) (o + 1)

theorem results_cell1 {fn : Func} {p : Tmp} {ty : TypeId} (h : fn.results = #[.cell p ty]) (tmps : Array Value) (P : Program) (w : World) :
    (results fn tmps).run P w = ((asAddr (tmps.getD p undef)).run P w).andThen fun a w₁ => (loadVar ty a).run P w₁ := by
  simp only [results, h]
  simp [Sem.run_bind, Result.andThen]

theorem stops_size : (Tryz.prog.info? 356).map (·.size) = some 18 := by kernel_rfl

/-- What holds of the outer loop's state. -/
def TrailAt (all : List Nd) (i : Nat) (w : World) (gk : Nat) (s6 s7 s8 : Value) (wr : World) : Prop := ∃ (q : Nat) (n : Nd) (st : Nat → Option Addr × Int), gk ≤ 9 ∧ s6 = .pointer (some ⟨n.nb, 0, none⟩) ∧ s7 = .int .i64 ((i : Int) - q) ∧ s8 = .int .i64 ((gk : Int) - 1) ∧
    all[q]? = some n ∧ q ≤ i ∧ gk ≤ n.h ∧ Fr (fun _ => False) w wr ∧ w.heap.size + 1 < wr.heap.size ∧ (∃ o, wr.heap[w.heap.size]? = some (stopB o)) ∧ wr.heap[w.heap.size + 1]? = some (stopB st) ∧
    ∀ l, gk ≤ l → l < 9 → ∃ q n, Stop all i l q n ∧ st l = (some ⟨n.nb, 0, none⟩, (i : Int) - q)

theorem trail_step {all : List Nd} {i l q : Nat} {n : Nd} {w wr : World} {st : Nat → Option Addr × Int} (y1 : all[q]? = some n) (hq : q ≤ i) (y2 : l < n.h) (hl : l + 1 ≤ 9)
    (hd : ∀ e m, e < i - q → (all.drop (q + 1))[e]? = some m → m.h ≤ l) (fr : Fr (fun _ => False) w wr) (z4 : w.heap.size + 1 < wr.heap.size) (z5 : ∃ o, wr.heap[w.heap.size]? = some (stopB o)) (z6 : wr.heap[w.heap.size + 1]? = some (stopB st))
    (z7 : ∀ m, l + 1 ≤ m → m < 9 → ∃ q n, Stop all i m q n ∧ st m = (some ⟨n.nb, 0, none⟩, (i : Int) - q)) :
    TrailAt all i w l (.pointer (some ⟨n.nb, 0, none⟩)) (.int .i64 ((i : Int) - q)) (.int .i64 ((l : Int) - 1))
      ((wr.setCell ⟨w.heap.size + 1, l * 2, none⟩ (.pointer (some ⟨n.nb, 0, none⟩))).setCell ⟨w.heap.size + 1, l * 2 + 1, none⟩ (.int .i64 ((i : Int) - q))) := by
  refine ⟨q, n, fun m => if m = l then (some ⟨n.nb, 0, none⟩, (i : Int) - q) else st m, by omega, rfl, rfl, rfl, y1, hq, by omega, ?_, by simpa using z4, ?_, stop_set z6 (by omega) _ _, ?_⟩
  · exact Fr.setCell (Fr.setCell fr (by exact fun h => absurd h (by simp)) _) (by exact fun h => absurd h (by simp)) _
  · obtain ⟨o, ho⟩ := z5
    exact ⟨o, by rw [blk_set_ne _ _ (by omega), blk_set_ne _ _ (by omega)]; exact ho⟩
  · intro m hm h9
    by_cases c : m = l
    · subst c
      refine ⟨q, n, ⟨y1, hq, y2, fun q' m' h1 h2 h3 => ?_⟩, by simp⟩
      refine hd (q' - q - 1) m' (by omega) ?_
      rw [List.getElem?_drop, ← h3]; congr 1; omega
    · obtain ⟨q', n', h1, h2⟩ := z7 m (by omega) h9
      exact ⟨q', n', h1, by simp [c, h2]⟩

set_option maxRecDepth 100000 in
set_option maxHeartbeats 1000000 in
theorem trail_any (p : Nat) (ns : List Nd) (hd : Nd) (len : Nat) (laid : Int) (i : Nat) (w : World) (hp : w.heap[p]? = some (listB hd.nb len laid)) (hs : SkipAt w (hd :: ns) (canon (hd :: ns)))
    (h9 : hd.h = 9) (hi : i ≤ ns.length) (hn : ns.length ≤ 5000) :
    Calls Tryz.prog 248 #[.pointer (some ⟨p, 0, none⟩), .int .i64 i] w fun e w' => ∃ st : Nat → Option Addr × Int, e = .returned (.agg (lcells 9 st).toArray) ∧ Fr (fun _ => False) w w' ∧
      ∀ l, l < 9 → ∃ q n, Stop (hd :: ns) i l q n ∧ st l = (some ⟨n.nb, 0, none⟩, (i : Int) - q) := by
  have c0 : w.cell? ⟨p, 0, none⟩ = some (.pointer (some ⟨hd.nb, 0, none⟩)) := cell_of hp 0
  have pl := lt_of_blk hp
  clear hp
  go_enter Tryz.func248, Tryz.ntmps248
  go_wp2_with fail
  go_loopg [6, 7, 8] 9 (fun gk s6 s7 s8 wr => TrailAt (hd :: ns) i w gk s6 s7 s8 wr)
  case atStart =>
    refine ⟨0, hd, fun _ => (none, 0), by omega, rfl, by simp, by simp, rfl, by omega, by omega, Fr.alloc (Fr.alloc (Fr.refl _ _) _) _, by simp, ⟨fun _ => (none, 0), ?_⟩, ?_, fun l h1 h2 => by omega⟩
    · rw [Below.heap_alloc _ _ _ (by simp)]; exact blk_new _ _
    · have := blk_new (w.alloc (stopB fun _ => (none, 0))) (stopB fun _ => (none, 0))
      rw [World.size_alloc] at this; exact this
  case round =>
    obtain ⟨q, n, st, z0, rfl, rfl, rfl, z1, z2, z3, fr, z4, z5, z6, z7⟩ := hrel
    by_cases hg : gk = 0
    · subst hg
      rw [show ((0 : Nat) : Int) - 1 = -1 by omega]
      obtain ⟨o, z5⟩ := z5
      have hr : wr.rangeAt (w.heap.size + 1) 0 (lcells 9 st) := fun j v hv => by rw [Nat.zero_add, cell_of z6]; simpa using hv
      have ht : wr.there w.heap.size 0 (lcells 9 st).toArray.size := fun j hj => by
        rw [Nat.zero_add, cell_of z5]
        refine ⟨?_, frozen_of z5 _⟩
        simp [lcells_len] at hj
        simp [lcells_len, hj]
      have hi2 : (Tryz.prog.info? 356).map (·.size) = some (lcells 9 st).length := by rw [lcells_len]; exact stops_size
      have hi3 : (Tryz.prog.info? 356).map (·.size) = some (lcells 9 st).toArray.size := by simpa using hi2
      have h1c : (lcells 9 st).toArray.all (·.oneCell') = true := by simp [lcells, List.range, List.range.loop, Value.oneCell']
      have hr2 : (wr.setCells w.heap.size 0 (lcells 9 st)).rangeAt w.heap.size 0 (lcells 9 st) := World.rangeAt_setCells_same _ _ _ _ (by simpa using ht)
      have hrun := run_loadVar_mid (P := Tryz.prog) _ w.heap.size 0 356 (lcells 9 st) _ hr2 Tryz.underlying356 rfl hi2
      have hfr2 : Fr (fun _ => False) w (wr.setCells w.heap.size 0 (lcells 9 st)) := fr_setCells fr _ _ (Nat.le_refl _) _
      generalize hcs : lcells 9 st = cs at *
      have HCS : Hid (lcells 9 st = cs) := hcs
      clear hcs
      go_wp2_with (first
        | (refine wpList_load_mid rfl 356 (.tmp 5) rfl (w.heap.size + 1) 0 rfl cs _ hr Tryz.underlying356 rfl hi2 ?_)
        | (refine wpList_store_mid rfl 356 (.tmp 4) (.tmp 62) rfl w.heap.size 0 cs.toArray rfl rfl ht hi3 h1c ?_))
      refine bodyPost_ret (v := .agg cs.toArray) (by rw [results_cell1 Tryz.results248]; exact hrun) rfl ⟨st, by rw [HCS.out], hfr2, fun l hl => z7 l (by omega) hl⟩
    · obtain ⟨l, rfl⟩ : ∃ l, gk = l + 1 := ⟨gk - 1, by omega⟩
      rw [show ((l + 1 : Nat) : Int) - 1 = (l : Int) by omega]
      have hll : (l : Int) ≤ 8 := by omega
      have hll2 : (l : Int) < 9 := by omega
      go_wp2_with fail
      go_loopg [6, 7] (i - q) (fun gk s6 s7 wx => ∃ (q : Nat) (n : Nd), gk + q = i ∧ s6 = .pointer (some ⟨n.nb, 0, none⟩) ∧ s7 = .int .i64 ((i : Int) - q) ∧ (hd :: ns)[q]? = some n ∧ l < n.h ∧ wx.heap = wr.heap ∧ Fr (fun _ => False) w wx)
      case atStart => exact ⟨q, n, by omega, rfl, rfl, z1, by omega, rfl, fr⟩
      case round =>
        obtain ⟨q, n, y0, rfl, rfl, y1, y2, fr2, y3⟩ := hrel
        rw [← fr2] at z4 z5 z6
        have hall : SkipAt wr (hd :: ns) (canon (hd :: ns)) := hs.congr fun x hx => y3.block x (hs.lt x hx) (fun e => e)
        obtain ⟨k1, k2, k3⟩ := hall.cells y1 y2
        obtain ⟨t1, t2, t3, t4⟩ := stop_cells z6 (l := l) (by omega)
        obtain ⟨d1, d2, d3, d4⟩ := dist_spec l ((hd :: ns).drop (q + 1))
        simp only [canon] at k2 k3
        generalize hD : dist l ((hd :: ns).drop (q + 1)) = D at *
        generalize hTg : tgt l ((hd :: ns).drop (q + 1)) = tg at *
        have y2' : (l : Int) < (n.h : Int) := by omega
        have y0' : (q : Int) ≤ (i : Int) := by omega
        have y0'' : (i : Int) ≤ 5000 := by omega
        have hsz : (w.heap.size : Nat) < wr.heap.size := by omega
        rcases d4 with ⟨m, x1, x2, x3, rfl⟩ | ⟨x1, rfl⟩
        · have xD : (D : Int) ≤ 5001 := by simp at x1; omega
          by_cases cD : (D : Int) ≤ (i : Int) - q
          · go_wp2_with fail
            go_quiet (fail)
            go_wp2_with fail
            go_roundg (i - (q + D))
            case measure => omega
            case rel =>
              refine ⟨q + D, m, by omega, rfl, by congr 1; omega, ?_, x3, fr2, Fr.drewN y3 _⟩
              rw [List.getElem?_drop] at x2
              rw [← x2]; congr 1; omega
          · go_wp2_with fail
            go_roundg l
            case measure => omega
            case rel => exact trail_step y1 (by omega) y2 (by omega) (fun e m he hm => d3 e m (by omega) hm) y3 z4 z5 z6 z7
        · go_wp2_with fail
          go_roundg l
          case measure => omega
          case rel => exact trail_step y1 (by omega) y2 (by omega) (fun e m he hm => d3 e m (by have := (List.getElem?_eq_some_iff.1 hm).1; omega) hm) y3 z4 z5 z6 z7

end Go.Proofs.YthbnbocpddddmaaGreat.SkS
