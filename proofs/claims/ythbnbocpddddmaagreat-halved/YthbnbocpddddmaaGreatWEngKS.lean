/- The skip list as an engine: place, At, Set, Len. -/
import Derived.Test.YthbnbocpddddmaaGreatWTrailS
namespace Go.Proofs.YthbnbocpddddmaaGreat.SkS
open Go.RowKit

abbrev RowS := List (ByteArray × Int)

/-- The list at block p holds the row xs; 'own': its blocks. -/
def Eng (w : World) (p : Nat) (own : Nat → Prop) (xs : RowS) : Prop :=
  ∃ (hd : Nd) (ns : List Nd) (laid : Int), w.heap[p]? = some (listB hd.nb ns.length laid) ∧ 0 ≤ laid ∧ laid < 18446744073709551616 ∧ SkipAt w (hd :: ns) (canon (hd :: ns)) ∧ hd.h = 9 ∧ (∀ n ∈ ns, 1 ≤ n.h ∧ n.h ≤ 9) ∧
    p ∉ blocks (hd :: ns) ∧ ns.map (fun n => (n.k, n.v)) = xs ∧ ∀ x, own x ↔ x = p ∨ x ∈ blocks (hd :: ns)

theorem Eng.lt {w : World} {p : Nat} {own : Nat → Prop} {xs : RowS} (h : Eng w p own xs) : ∀ x, own x → x < w.heap.size := by
  obtain ⟨hd, ns, laid, h1, _, _, h2, h3, h4, h5, h6, h7⟩ := h
  intro x hx
  rcases (h7 x).1 hx with rfl | e
  · exact lt_of_blk h1
  · exact h2.lt x e

theorem Eng.own {w : World} {p : Nat} {own : Nat → Prop} {xs : RowS} (h : Eng w p own xs) : own p := by
  obtain ⟨hd, ns, laid, h1, _, _, h2, h3, h4, h5, h6, h7⟩ := h
  exact (h7 p).2 (Or.inl rfl)

theorem Eng.congr {w w' : World} {p : Nat} {own : Nat → Prop} {xs : RowS} (h : Eng w p own xs) (hc : ∀ x, own x → w'.heap[x]? = w.heap[x]?) : Eng w' p own xs := by
  obtain ⟨hd, ns, laid, h1, l0, l1, h2, h3, h4, h5, h6, h7⟩ := h
  exact ⟨hd, ns, laid, (hc p ((h7 p).2 (Or.inl rfl))).trans h1, l0, l1, h2.congr fun x hx => hc x ((h7 x).2 (Or.inr hx)), h3, h4, h5, h6, h7⟩

theorem Eng.fr {S : Nat → Prop} {w w' : World} {p : Nat} {own : Nat → Prop} {xs : RowS} (h : Eng w p own xs) (f : Fr S w w') (hd : ∀ x, own x → ¬ S x) : Eng w' p own xs :=
  h.congr fun x hx => f.block x (h.lt x hx) (hd x hx)

theorem index_stop0 (st : Nat → Option Addr × Int) (w : World) : (Instr.index 356 (.agg (lcells 9 st).toArray) (.int .i64 0)).run Tryz.prog w = .ok (.agg #[.pointer (st 0).1, .int .i64 (st 0).2]) w := by kernel_rfl
theorem index_stop1 (st : Nat → Option Addr × Int) (w : World) : (Instr.index 356 (.agg (lcells 9 st).toArray) (.int .i64 1)).run Tryz.prog w = .ok (.agg #[.pointer (st 1).1, .int .i64 (st 1).2]) w := by kernel_rfl
theorem index_stop2 (st : Nat → Option Addr × Int) (w : World) : (Instr.index 356 (.agg (lcells 9 st).toArray) (.int .i64 2)).run Tryz.prog w = .ok (.agg #[.pointer (st 2).1, .int .i64 (st 2).2]) w := by kernel_rfl
theorem index_stop3 (st : Nat → Option Addr × Int) (w : World) : (Instr.index 356 (.agg (lcells 9 st).toArray) (.int .i64 3)).run Tryz.prog w = .ok (.agg #[.pointer (st 3).1, .int .i64 (st 3).2]) w := by kernel_rfl
theorem index_stop4 (st : Nat → Option Addr × Int) (w : World) : (Instr.index 356 (.agg (lcells 9 st).toArray) (.int .i64 4)).run Tryz.prog w = .ok (.agg #[.pointer (st 4).1, .int .i64 (st 4).2]) w := by kernel_rfl
theorem index_stop5 (st : Nat → Option Addr × Int) (w : World) : (Instr.index 356 (.agg (lcells 9 st).toArray) (.int .i64 5)).run Tryz.prog w = .ok (.agg #[.pointer (st 5).1, .int .i64 (st 5).2]) w := by kernel_rfl
theorem index_stop6 (st : Nat → Option Addr × Int) (w : World) : (Instr.index 356 (.agg (lcells 9 st).toArray) (.int .i64 6)).run Tryz.prog w = .ok (.agg #[.pointer (st 6).1, .int .i64 (st 6).2]) w := by kernel_rfl
theorem index_stop7 (st : Nat → Option Addr × Int) (w : World) : (Instr.index 356 (.agg (lcells 9 st).toArray) (.int .i64 7)).run Tryz.prog w = .ok (.agg #[.pointer (st 7).1, .int .i64 (st 7).2]) w := by kernel_rfl
theorem index_stop8 (st : Nat → Option Addr × Int) (w : World) : (Instr.index 356 (.agg (lcells 9 st).toArray) (.int .i64 8)).run Tryz.prog w = .ok (.agg #[.pointer (st 8).1, .int .i64 (st 8).2]) w := by kernel_rfl

theorem index_stop (st : Nat → Option Addr × Int) (l : Nat) (hl : l < 9) (w : World) : (Instr.index 356 (.agg (lcells 9 st).toArray) (.int .i64 l)).run Tryz.prog w = .ok (.agg #[.pointer (st l).1, .int .i64 (st l).2]) w := by
  obtain rfl | rfl | rfl | rfl | rfl | rfl | rfl | rfl | rfl : l = 0 ∨ l = 1 ∨ l = 2 ∨ l = 3 ∨ l = 4 ∨ l = 5 ∨ l = 6 ∨ l = 7 ∨ l = 8 := by omega
  · exact index_stop0 st w
  · exact index_stop1 st w
  · exact index_stop2 st w
  · exact index_stop3 st w
  · exact index_stop4 st w
  · exact index_stop5 st w
  · exact index_stop6 st w
  · exact index_stop7 st w
  · exact index_stop8 st w

theorem field_stop (a : Option Addr) (y : Int) (w : World) : (Instr.field 355 (.agg #[.pointer a, .int .i64 y]) 0).run Tryz.prog w = .ok (.pointer a) w := by kernel_rfl

set_option maxRecDepth 100000 in
set_option maxHeartbeats 400000 in
theorem place_any (p : Nat) (ns : List Nd) (hd : Nd) (laid : Int) (i : Nat) (m : Nd) (w : World) (hp : w.heap[p]? = some (listB hd.nb ns.length laid)) (hs : SkipAt w (hd :: ns) (canon (hd :: ns)))
    (h9 : hd.h = 9) (hh : ∀ n ∈ ns, 1 ≤ n.h ∧ n.h ≤ 9) (hi : ns[i]? = some m) (hn : ns.length ≤ 5000) :
    Calls Tryz.prog 247 #[.pointer (some ⟨p, 0, none⟩), .int .i64 i] w fun e w' => e = .returned (.pointer (some ⟨m.nb, 0, none⟩)) ∧ Fr (fun _ => False) w w' := by
  have hl : i < ns.length := (List.getElem?_eq_some_iff.1 hi).1
  have hfield := field_stop
  have htr := trail_any p ns hd ns.length laid (i + 1) w hp hs h9 (by omega) hn
  have hl' : (i : Int) ≤ 5000 := by omega
  rw [show ((i + 1 : Nat) : Int) = (i : Int) + 1 by omega] at htr
  go_enter Tryz.func247, Tryz.ntmps247
  go_wp2_with fail
  refine htr.mono ?_
  rintro e w2 ⟨st, rfl, fr, hst⟩
  have hx := index_stop0 st
  have e0 : (st 0).1 = some ⟨m.nb, 0, none⟩ := by
    obtain ⟨q, n, ⟨g1, g2, g3, g4⟩, g5⟩ := hst 0 (by omega)
    have hq : q = i + 1 := by
      rcases Nat.lt_or_ge q (i + 1) with c | c
      · have := g4 (i + 1) m c (Nat.le_refl _) (by simpa using hi)
        have := (hh m (List.mem_of_getElem? hi)).1
        omega
      · omega
    subst hq
    rw [List.getElem?_cons_succ, hi] at g1
    rw [g5]; simp at g1; simp [g1]
  rw [e0] at hx
  generalize hcs : (lcells 9 st).toArray = cs at *
  clear hcs hst
  go_wp2_with fail
  go_ret
  exact ⟨rfl, fr⟩

set_option maxHeartbeats 400000 in
theorem kLen_any (p : Nat) (own : Nat → Prop) (xs : RowS) (w : World) (h : Eng w p own xs) :
    Calls Tryz.prog 244 #[.pointer (some ⟨p, 0, none⟩)] w fun e w' => e = .returned (.int .i64 xs.length) ∧ w' = w := by
  obtain ⟨hd, ns, laid, h1, l0, l1, h2, h3, h4, h5, rfl, h7⟩ := h
  have t0 : w.cell? ⟨p, 1, none⟩ = some (.int .i64 ns.length) := cell_of h1 1
  rw [List.length_map]
  clear h1 h2 h3 h4 h5 h7 l0 l1
  go_enter Tryz.func244, Tryz.ntmps244
  go_wp2_with fail
  go_ret
  exact ⟨rfl, rfl⟩

set_option maxHeartbeats 400000 in
theorem kAt_any (p : Nat) (own : Nat → Prop) (xs : RowS) (i : Nat) (k : ByteArray) (v : Int) (w : World) (h : Eng w p own xs) (hi : xs[i]? = some (k, v)) (hs : xs.length ≤ 5000) :
    Calls Tryz.prog 241 #[.pointer (some ⟨p, 0, none⟩), .int .i64 i] w fun e w' => e = .returned (.tuple #[.string k, .int .i64 v]) ∧ Fr (fun _ => False) w w' := by
  obtain ⟨hd, ns, laid, h1, l0, l1, h2, h3, h4, h5, rfl, h7⟩ := h
  rw [List.getElem?_map] at hi
  rw [List.length_map] at hs
  cases hm : ns[i]? with
  | none => rw [hm] at hi; cases hi
  | some m =>
    rw [hm] at hi
    simp only [Option.map_some, Option.some.injEq, Prod.mk.injEq] at hi
    obtain ⟨rfl, rfl⟩ := hi
    have hp := place_any p ns hd laid i m w h1 h2 h3 h4 hm hs
    obtain ⟨b1, _⟩ := h2.1 (i + 1) m (by simpa using hm)
    have c0 : w.cell? ⟨m.nb, 0, none⟩ = some (.string m.k) := cell_of b1 0
    have c1 : w.cell? ⟨m.nb, 1, none⟩ = some (.int .i64 m.v) := cell_of b1 1
    have bl := lt_of_blk b1
    clear h1 h2 h3 h4 h5 h7 l0 l1 b1
    go_enter Tryz.func241, Tryz.ntmps241
    go_wp2_with fail
    refine hp.mono ?_
    rintro e w2 ⟨rfl, fr⟩
    have d0 : w2.cell? ⟨m.nb, 0, none⟩ = some (.string m.k) := (World.cell?_of_block (w := w) (fr.block m.nb bl (fun e => e))).trans c0
    have d1 : w2.cell? ⟨m.nb, 1, none⟩ = some (.int .i64 m.v) := (World.cell?_of_block (w := w) (fr.block m.nb bl (fun e => e))).trans c1
    go_wp2_with fail
    go_quiet (fail)
    go_wp2_with fail
    go_ret2
    exact ⟨rfl, Fr.drewN fr _⟩

/-- A node's value set. -/
theorem skip_set {w : World} {hd : Nd} {ns : List Nd} (h2 : SkipAt w (hd :: ns) (canon (hd :: ns))) {i : Nat} {m : Nd} (hm : ns[i]? = some m) (u : Int) :
    SkipAt (w.setCell ⟨m.nb, 1, none⟩ (.int .i64 u)) (hd :: ns.set i { m with v := u }) (canon (hd :: ns.set i { m with v := u })) ∧ blocks (hd :: ns.set i { m with v := u }) = blocks (hd :: ns) ∧
      (ns.set i { m with v := u }).map (fun n => (n.k, n.v)) = (ns.map fun n => (n.k, n.v)).set i (m.k, u) := by
  have hil : i < ns.length := (List.getElem?_eq_some_iff.1 hm).1
  have hb : ∀ (l : List Nd) (j : Nat) (a : Nd), l[j]? = some a → blocks (l.set j { a with v := u }) = blocks l := by
    intro l
    induction l with
    | nil => intro j a h; simp at h
    | cons b l ih =>
      intro j a h
      cases j with
      | zero => simp at h; subst h; simp [blocks]
      | succ j => simp only [List.set_cons_succ, blocks, List.flatMap_cons]; rw [← blocks, ← blocks, ih j a (by simpa using h)]
  have hdist : ∀ (l : Nat) (r : List Nd) (j : Nat) (a : Nd), r[j]? = some a → dist l (r.set j { a with v := u }) = dist l r ∧ tgt l (r.set j { a with v := u }) = tgt l r := by
    intro l r
    induction r with
    | nil => intro j a h; simp at h
    | cons b r ih =>
      intro j a h
      cases j with
      | zero => simp at h; subst h; exact ⟨rfl, rfl⟩
      | succ j => simp only [List.set_cons_succ, dist, tgt]; obtain ⟨e1, e2⟩ := ih j a (by simpa using h); rw [e1, e2]; exact ⟨rfl, rfl⟩
  have hcan : ∀ j, canon (hd :: ns.set i { m with v := u }) j = canon (hd :: ns) j := by
    intro j
    funext l
    simp only [canon]
    simp only [List.drop_succ_cons]
    rcases Nat.lt_or_ge i j with c | c
    · rw [List.drop_set_of_lt c]
    · have e : (ns.set i { m with v := u }).drop j = (ns.drop j).set (i - j) { m with v := u } := by rw [List.drop_set]; simp [Nat.not_lt.2 c]
      obtain ⟨e1, e2⟩ := hdist l (ns.drop j) (i - j) m (by rw [List.getElem?_drop, ← hm]; congr 1; omega)
      rw [e, e1, e2]
  have hblk := hb (hd :: ns) (i + 1) m (by simpa using hm)
  simp only [List.set_cons_succ] at hblk
  obtain ⟨b1, b2⟩ := h2.1 (i + 1) m (by simpa using hm)
  refine ⟨⟨fun j n hj => ?_, by rw [hblk]; exact h2.2⟩, hblk, by rw [List.map_set]⟩
  rw [hcan]
  by_cases c : j = i + 1
  · subst c
    rw [List.getElem?_cons_succ, List.getElem?_set_self hil] at hj
    simp only [Option.some.injEq] at hj
    subst hj
    refine ⟨by rw [blk_set b1 1]; rfl, ?_⟩
    rw [blk_set_ne _ _ (Ne.symm (nb_ne_lb h2.2 (List.mem_of_getElem? (by simpa using hm : (hd :: ns)[i + 1]? = some m)) (List.mem_of_getElem? (by simpa using hm : (hd :: ns)[i + 1]? = some m))))]
    exact b2
  · have hj' : (hd :: ns)[j]? = some n := by
      cases j with
      | zero => exact hj
      | succ j => rw [List.getElem?_cons_succ] at hj ⊢; rw [List.getElem?_set_ne (by omega)] at hj; exact hj
    obtain ⟨a1, a2⟩ := h2.1 j n hj'
    have mm : m ∈ hd :: ns := List.mem_of_getElem? (by simpa using hm : (hd :: ns)[i + 1]? = some m)
    refine ⟨?_, ?_⟩
    · rw [blk_set_ne _ _ (fun e => c (blocks_inj h2.2 hj' (by simpa using hm : (hd :: ns)[i + 1]? = some m) (Or.inl e)))]; exact a1
    · rw [blk_set_ne _ _ (Ne.symm (nb_ne_lb h2.2 mm (List.mem_of_getElem? hj')))]; exact a2

set_option maxHeartbeats 400000 in
theorem kSet_any (p : Nat) (own : Nat → Prop) (xs : RowS) (i : Nat) (k : ByteArray) (v u : Int) (w : World) (h : Eng w p own xs) (hi : xs[i]? = some (k, v)) (hs : xs.length ≤ 5000) :
    Calls Tryz.prog 246 #[.pointer (some ⟨p, 0, none⟩), .int .i64 i, .int .i64 u] w fun e w' => e = .returned (.tuple #[]) ∧ Eng w' p own (xs.set i (k, u)) ∧ Fr own w w' := by
  obtain ⟨hd, ns, laid, h1, l0, l1, h2, h3, h4, h5, rfl, h7⟩ := h
  rw [List.getElem?_map] at hi
  rw [List.length_map] at hs
  cases hm : ns[i]? with
  | none => rw [hm] at hi; cases hi
  | some m =>
    rw [hm] at hi
    simp only [Option.map_some, Option.some.injEq, Prod.mk.injEq] at hi
    obtain ⟨rfl, rfl⟩ := hi
    have hp := place_any p ns hd laid i m w h1 h2 h3 h4 hm hs
    have mm : m ∈ hd :: ns := List.mem_of_getElem? (by simpa using hm : (hd :: ns)[i + 1]? = some m)
    have hpm : p ≠ m.nb := fun e => h5 (mem_blocks.2 ⟨m, mm, Or.inl e⟩)
    have fin : ∀ w2, Fr (fun _ => False) w w2 → w2.cell? ⟨m.nb, 1, none⟩ = some (.int .i64 m.v) ∧ w2.frozen? ⟨m.nb, 1, none⟩ = false ∧ Eng (w2.setCell ⟨m.nb, 1, none⟩ (.int .i64 u)) p own ((ns.map fun n => (n.k, n.v)).set i (m.k, u)) ∧ Fr own w (w2.setCell ⟨m.nb, 1, none⟩ (.int .i64 u)) := by
      intro w2 fr
      have h2' := h2.congr fun x hx => fr.block x (h2.lt x hx) (fun e => e)
      obtain ⟨b1, _⟩ := h2'.1 (i + 1) m (by simpa using hm)
      obtain ⟨s1, s2, s3⟩ := skip_set h2' hm u
      refine ⟨cell_of b1 1, frozen_of b1 1, ⟨hd, ns.set i { m with v := u }, laid, ?_, l0, l1, s1, h3, ?_, by rw [s2]; exact h5, s3, by rw [s2]; exact h7⟩, Fr.setCell (fr.mono fun _ _ e => e.elim) (by exact fun _ => (h7 _).2 (Or.inr (mem_blocks.2 ⟨m, mm, Or.inl rfl⟩))) _⟩
      · rw [blk_set_ne _ _ hpm, List.length_set]; exact (fr.block p (lt_of_blk h1) (fun e => e)).trans h1
      · intro n hn
        rcases List.mem_or_eq_of_mem_set hn with e | e
        · exact h4 n e
        · rw [e]; exact h4 m (List.mem_of_getElem? hm)
    clear h1 h2 h3 h4 h5 h7 l0 l1 mm
    go_enter Tryz.func246, Tryz.ntmps246
    go_wp2_with fail
    refine hp.mono ?_
    rintro e w2 ⟨rfl, fr⟩
    obtain ⟨f1, f2, f3, f4⟩ := fin w2 fr
    clear fin
    go_wp2_with fail
    go_end0
    exact ⟨rfl, f3, f4⟩

end Go.Proofs.YthbnbocpddddmaaGreat.SkS
