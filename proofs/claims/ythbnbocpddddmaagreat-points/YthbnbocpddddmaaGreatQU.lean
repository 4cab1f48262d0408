import Derived.Test.YthbnbocpddddmaaGreatQJ
import Derived.Test.YthbnbocpddddmaaGreatQN
import Derived.Test.YthbnbocpddddmaaGreatQO
import Derived.Test.YthbnbocpddddmaaGreatQM
import Derived.Test.YthbnbocpddddmaaGreatQR
import Derived.Test.YthbnbocpddddmaaGreatQS
import Derived.Test.YthbnbocpddddmaaGreatQT
import Derived.ArgAppend
namespace Go.Proofs.YthbnbocpddddmaaGreat
open Go.RowKit

/-- The types of what the six rows hold. -/
def sty : Nat → TypeId
  | 0 => 50
  | 1 => 153
  | 2 => 260
  | 3 => 247
  | _ => 3

def shBlk (V : Nat → Value) : Obj := .cells #[V 0, V 1, V 2, V 3, V 4, V 5] 90 (0, 0)

/-- The shelf's head and rows; every block has a label, and blocks with different labels are different ones. -/
structure Sx (w : World) (B S : Nat) (lab : Nat → Nat) (V : Nat → Value) (L : Nat → List Value) : Prop where
  blk : w.heap[S]? = some (shBlk V)
  own : ∀ j, j < 6 → w.ownsRow B (sty j) 1 (V j) (L j).length (L j)
  lab0 : lab S = 0
  labs : ∀ j, j < 6 → ∀ x, (V j).ownBlock = some x → lab x = j + 1
  hB : B ≤ S

theorem own_keep {T : Nat → Prop} {w w' : World} {base : Nat} {e : TypeId} {sz : Nat} {v : Value} {n : Nat} {xs : List Value} (h : w.ownsRow base e sz v n xs) (f : Fr T w w') (hd : ∀ x, v.ownBlock = some x → ¬ T x) : w'.ownsRow base e sz v n xs := by
  obtain ⟨e1, e2⟩ := h
  refine ⟨e1, ?_⟩
  rcases e2 with e2 | ⟨g, cap, cur, rfl, q1, q2, q3⟩
  · exact Or.inl e2
  · exact Or.inr ⟨g, cap, cur, rfl, q1, (f.block g (lt_of_blk q2) (hd g rfl)).trans q2, q3⟩

/-- What a step of the memory is to the shelf: labels of old blocks stay. -/
theorem Sx.keep {T : Nat → Prop} {w w' : World} {B S : Nat} {lab lab' : Nat → Nat} {V : Nat → Value} {L : Nat → List Value} (h : Sx w B S lab V L) (f : Fr T w w') (hl : ∀ x, x < w.heap.size → lab' x = lab x) (hd : ∀ x, T x → x < w.heap.size → 7 ≤ lab x) : Sx w' B S lab' V L := by
  have hS := lt_of_blk h.blk
  refine ⟨(f.block S hS fun e => by have := hd S e hS; have := h.lab0; omega).trans h.blk, fun j hj => own_keep (h.own j hj) f fun x hx e => ?_, (hl S hS).trans h.lab0, fun j hj x hx => ?_, h.hB⟩
  · have h1 := ((h.own j hj).lt x hx).2
    have := hd x e h1
    have := h.labs j hj x hx
    omega
  · have h1 := ((h.own j hj).lt x hx).2
    rw [hl x h1]; exact h.labs j hj x hx

/-- Reading a row. -/
theorem Sx.read {w : World} {B S : Nat} {lab : Nat → Nat} {V : Nat → Value} {L : Nat → List Value} (h : Sx w B S lab V L) (j : Nat) (hj : j < 6) :
    ∃ a cap, V j = .slice a (L j).length cap ∧ (L j).length ≤ cap ∧ ∀ i u, (L j)[i]? = some u → ∃ g, a = some ⟨g, 0, none⟩ ∧ w.cell? ⟨g, i, none⟩ = some u ∧ w.frozen? ⟨g, i, none⟩ = false ∧ lab g = j + 1 ∧ B ≤ g := by
  have hlab := h.labs j hj
  obtain ⟨e1, e2⟩ := h.own j hj
  rcases e2 with ⟨e, e'⟩ | ⟨g, cap, cur, e, q1, q2, q3, q4, q5, q6⟩
  · refine ⟨none, 0, by rw [e, e'], by omega, fun i u hu => ?_⟩
    have := (List.getElem?_eq_some_iff.1 hu).1
    omega
  · refine ⟨some ⟨g, 0, none⟩, cap, e, q3, fun i u hu => ⟨g, rfl, ?_, frozen_of q2 i, hlab g (by rw [e]; rfl), q1⟩⟩
    rw [cell_of q2]
    have hi := (List.getElem?_eq_some_iff.1 hu).1
    rw [← q6, List.getElem?_take_of_lt (by omega)] at hu
    simpa using hu

/-- Setting what a row holds. -/
theorem Sx.set {w : World} {B S : Nat} {lab : Nat → Nat} {V : Nat → Value} {L : Nat → List Value} (h : Sx w B S lab V L) (j : Nat) (hj : j < 6) (i : Nat) (u v : Value) (hi : (L j)[i]? = some v) (g : Nat) (hg : (V j).ownBlock = some g) :
    Sx (w.setCell ⟨g, i, none⟩ u) B S lab V (fun k => if k = j then (L j).set i u else L k) := by
  have hlg := h.labs j hj g hg
  have hSg : S ≠ g := fun e => by have := h.lab0; rw [e] at this; omega
  refine ⟨by rw [blk_set_ne _ _ hSg]; exact h.blk, fun k hk => ?_, h.lab0, h.labs, h.hB⟩
  by_cases e : k = j
  · subst e
    simp only [if_pos]
    obtain ⟨e1, e2⟩ := h.own k hk
    refine ⟨by simp, ?_⟩
    rcases e2 with ⟨e, e'⟩ | ⟨g', cap, cur, e, q1, q2, q3, q4, q5, q6⟩
    · rw [e] at hg; cases hg
    · rw [e] at hg
      have : g' = g := by simpa [Value.ownBlock] using hg
      subst this
      have hl := (List.getElem?_eq_some_iff.1 hi).1
      refine Or.inr ⟨g', cap, cur.setIfInBounds i u, by rw [e]; simp, q1, blk_set q2 i u, by simpa using q3, q4, by simpa using q5, ?_⟩
      rw [Array.toList_setIfInBounds, List.take_set, show ((L k).set i u).length * 1 = (L k).length * 1 by simp, q6]
  · simp only [if_neg e]
    refine own_keep (T := fun x => x = g) (h.own k hk) (Fr.setCell (Fr.refl _ _) (by exact fun _ => rfl) _) fun x hx e' => e ?_
    have := h.labs k hk x hx
    rw [e'] at this
    omega

/-- A row that grows, and the head that takes it. -/
theorem Sx.grow {w w1 : World} {B S : Nat} {lab : Nat → Nat} {V : Nat → Value} {L : Nat → List Value} (h : Sx w B S lab V L) (j : Nat) (hj : j < 6) (v u : Value)
    (ho : w1.ownsRow B (sty j) 1 v ((L j).length + 1) (L j ++ [u])) (hgr : w.grownBy w1 (V j).ownBlock) (hv : ∀ x, v.ownBlock = some x → (V j).ownBlock = some x ∨ w.heap.size ≤ x) :
    Sx (w1.setCell ⟨S, j, none⟩ v) B S (fun x => if x < w.heap.size then lab x else j + 1) (fun k => if k = j then v else V k) (fun k => if k = j then L j ++ [u] else L k) ∧
      Fr (fun x => x = S ∨ (V j).ownBlock = some x) w (w1.setCell ⟨S, j, none⟩ v) := by
  have hS := lt_of_blk h.blk
  have f0 : Fr (fun x => (V j).ownBlock = some x) w w1 := ⟨hgr.os, hgr.tape, hgr.output, hgr.size, fun k hk hn => hgr.block k hk fun e => hn e.symm⟩
  have f1 : Fr (fun x => lab x = j + 1) w w1 := ⟨hgr.os, hgr.tape, hgr.output, hgr.size, fun k hk hn => hgr.block k hk fun e => hn (h.labs j hj k e.symm)⟩
  have hb1 : w1.heap[S]? = some (shBlk V) := (f1.block S hS fun e => by have := h.lab0; omega).trans h.blk
  have hvS : ∀ k, k < 6 → ∀ x, (V k).ownBlock = some x → x ≠ S := fun k hk x hx e => by have h1 := h.labs k hk x hx; rw [e, h.lab0] at h1; omega
  have fS : Fr (fun x => x = S) w1 (w1.setCell ⟨S, j, none⟩ v) := Fr.setCell (Fr.refl _ _) (by exact fun _ => rfl) _
  refine ⟨⟨?_, fun k hk => ?_, ?_, fun k hk x hx => ?_, h.hB⟩, (f0.mono fun x _ e => Or.inr e).trans fS fun x _ e => Or.inl e⟩
  · rw [blk_set hb1 j]
    unfold shBlk
    rcases (show j = 0 ∨ j = 1 ∨ j = 2 ∨ j = 3 ∨ j = 4 ∨ j = 5 by omega) with rfl | rfl | rfl | rfl | rfl | rfl <;> rfl
  · by_cases e : k = j
    · subst e
      simp only [if_pos]
      refine own_keep (T := fun x => x = S) (by simpa using ho) fS fun x hx e => ?_
      rcases hv x hx with q | q
      · exact hvS k hk x q e
      · omega
    · simp only [if_neg e]
      refine own_keep (own_keep (h.own k hk) f1 fun x hx e' => e ?_) fS fun x hx e' => hvS k hk x hx e'
      have := h.labs k hk x hx
      omega
  · simp only [if_pos hS]; exact h.lab0
  · by_cases e : k = j
    · subst e
      simp only [if_pos] at hx
      rcases hv x hx with q | q
      · have h1 := ((h.own k hk).lt x q).2
        simp only [if_pos h1]; exact h.labs k hk x q
      · simp only [if_neg (show ¬ x < w.heap.size by omega)]
    · simp only [if_neg e] at hx
      have h1 := ((h.own k hk).lt x hx).2
      simp only [if_pos h1]; exact h.labs k hk x hx

/-- A map of the program's, and the document's. -/
structure MR where
  pm : Nat
  rb : Nat
  g : Bool
  t : Bool
  c : Int
  oP : Nat → Prop
  oR : Nat → Prop
  xs : Row

def MOk (w : World) (B : Nat) (lab : Nat → Nat) (bd : Int) (i : Nat) (r : MR) : Prop :=
  MapG r.g w r.pm r.t r.c r.oP r.xs ∧ RefM w B r.rb r.t r.oR r.xs ∧ (∀ x, r.oP x → lab x = 10 + 2 * i ∧ B ≤ x) ∧ (∀ x, r.oR x → lab x = 11 + 2 * i ∧ B ≤ x) ∧ r.xs.length ≤ 400 ∧ 0 ≤ r.c ∧ r.c ≤ bd

/-- A cursor of the program's, and the document's; of the map that stands at o, or of one that is gone. -/
structure CR where
  cb : Nat
  db : Nat
  m : Nat
  s : Int
  k : Int
  o : Int

def COk (w : World) (B : Nat) (lab : Nat → Nat) (ms : List MR) (n : Nat) (q : CR) : Prop :=
  q.o = -1 ∨ ∃ i r, q.o = ((i : Nat) : Int) ∧ ms[i]? = some r ∧ q.m = r.pm ∧ w.heap[q.cb]? = some (curBlk q.m q.s q.k) ∧ w.heap[q.db]? = some (rcurBlk q.s q.k) ∧ (lab q.cb = 1000 + 2 * n ∧ B ≤ q.cb) ∧ (lab q.db = 1001 + 2 * n ∧ B ≤ q.db) ∧ (q.s = 0 ∨ q.s = 1 ∨ q.s = 2)

theorem MOk.keep {T : Nat → Prop} {w w' : World} {B : Nat} {lab lab' : Nat → Nat} {bd bd' : Int} {i : Nat} {r : MR} (h : MOk w B lab bd i r) (f : Fr T w w') (hl : ∀ x, x < w.heap.size → lab' x = lab x) (hd : ∀ x, T x → x < w.heap.size → lab x ≠ 10 + 2 * i ∧ lab x ≠ 11 + 2 * i) (hb : bd ≤ bd') : MOk w' B lab' bd' i r := by
  obtain ⟨h1, h2, h3, h4, h5, h6, h7⟩ := h
  refine ⟨h1.fr f fun x hx e => (hd x e (h1.lt x hx)).1 (h3 x hx).1, h2.fr f fun x hx e => (hd x e (h2.lt x hx)).2 (h4 x hx).1, fun x hx => ?_, fun x hx => ?_, h5, h6, by omega⟩
  · rw [hl x (h1.lt x hx)]; exact h3 x hx
  · rw [hl x (h2.lt x hx)]; exact h4 x hx

theorem COk.keep {T : Nat → Prop} {w w' : World} {B : Nat} {lab lab' : Nat → Nat} {ms ms' : List MR} {n : Nat} {q : CR} (h : COk w B lab ms n q) (f : Fr T w w') (hl : ∀ x, x < w.heap.size → lab' x = lab x) (hd : ∀ x, T x → x < w.heap.size → lab x ≠ 1000 + 2 * n ∧ lab x ≠ 1001 + 2 * n)
    (hm : ∀ i r, q.o = ((i : Nat) : Int) → ms[i]? = some r → ∃ r', ms'[i]? = some r' ∧ r'.pm = r.pm) : COk w' B lab' ms' n q := by
  rcases h with h | ⟨i, r, h1, h2, h3, h4, h5, h6, h7, h8⟩
  · exact Or.inl h
  · obtain ⟨r', e1, e2⟩ := hm i r h1 h2
    have c1 := lt_of_blk h4
    have c2 := lt_of_blk h5
    exact Or.inr ⟨i, r', h1, e1, by rw [e2]; exact h3, (f.block _ c1 fun e => (hd _ e c1).1 h6.1).trans h4, (f.block _ c2 fun e => (hd _ e c2).2 h7.1).trans h5, ⟨by rw [hl _ c1]; exact h6.1, h6.2⟩, ⟨by rw [hl _ c2]; exact h7.1, h7.2⟩, h8⟩

def ptr (b : Nat) : Value := .pointer (some ⟨b, 0, none⟩)

/-- What the six rows hold. -/
def rows (ms : List MR) (cs : List CR) : Nat → List Value
  | 0 => ms.map fun r => ptr r.pm
  | 1 => ms.map fun r => ptr r.rb
  | 2 => cs.map fun q => ptr q.cb
  | 3 => cs.map fun q => ptr q.db
  | 4 => cs.map fun q => .int .i64 q.o
  | _ => ms.map fun r => .int .i64 (engI r.g)

/-- The shelf, while its rows may be ahead of its maps and cursors. -/
structure Sg (w : World) (B S : Nat) (lab : Nat → Nat) (V : Nat → Value) (L : Nat → List Value) (ms : List MR) (cs : List CR) (bd : Int) : Prop where
  x : Sx w B S lab V L
  m : ∀ i r, ms[i]? = some r → MOk w B lab bd i r
  c : ∀ n q, cs[n]? = some q → COk w B lab ms n q
  hB : B ≤ w.heap.size
  n8 : ms.length ≤ 8

abbrev Sh (w : World) (B S : Nat) (lab : Nat → Nat) (V : Nat → Value) (ms : List MR) (cs : List CR) (bd : Int) : Prop := Sg w B S lab V (rows ms cs) ms cs bd

theorem Sx.congrL {w : World} {B S : Nat} {lab : Nat → Nat} {V : Nat → Value} {L L' : Nat → List Value} (h : Sx w B S lab V L) (e : ∀ j, j < 6 → L' j = L j) : Sx w B S lab V L' :=
  ⟨h.blk, fun j hj => by rw [e j hj]; exact h.own j hj, h.lab0, h.labs, h.hB⟩

theorem Sg.keep {T : Nat → Prop} {w w' : World} {B S : Nat} {lab lab' : Nat → Nat} {V : Nat → Value} {L : Nat → List Value} {ms : List MR} {cs : List CR} {bd bd' : Int} (h : Sg w B S lab V L ms cs bd) (f : Fr T w w') (hl : ∀ x, x < w.heap.size → lab' x = lab x)
    (hd : ∀ x, T x → x < w.heap.size → 7 ≤ lab x ∧ (∀ i, i < 8 → lab x ≠ 10 + 2 * i ∧ lab x ≠ 11 + 2 * i) ∧ lab x < 1000) (hb : bd ≤ bd') : Sg w' B S lab' V L ms cs bd' := by
  refine ⟨h.x.keep f hl fun x e hx => (hd x e hx).1, fun i r hr => (h.m i r hr).keep f hl (fun x e hx => (hd x e hx).2.1 i ?_) hb, fun n q hq => (h.c n q hq).keep f hl (fun x e hx => by have := (hd x e hx).2.2; omega) (fun i r _ hr => ⟨r, hr, rfl⟩), Nat.le_trans h.hB f.size, h.n8⟩
  have := (List.getElem?_eq_some_iff.1 hr).1
  have := h.n8
  omega

theorem Sg.old {w w' : World} {B S : Nat} {lab : Nat → Nat} {V : Nat → Value} {L : Nat → List Value} {ms : List MR} {cs : List CR} {bd : Int} (h : Sg w B S lab V L ms cs bd) (f : Fr (fun _ => False) w w') : Sg w' B S lab V L ms cs bd :=
  h.keep f (fun _ _ => rfl) (fun _ e => e.elim) (Int.le_refl _)

/-- New blocks get a label. -/
theorem Sg.label {w w' : World} {B S : Nat} {lab : Nat → Nat} {V : Nat → Value} {L : Nat → List Value} {ms : List MR} {cs : List CR} {bd : Int} (h : Sg w B S lab V L ms cs bd) (f : Fr (fun _ => False) w w') (lab' : Nat → Nat) (hl : ∀ x, x < w.heap.size → lab' x = lab x) : Sg w' B S lab' V L ms cs bd :=
  h.keep f hl (fun _ e => e.elim) (Int.le_refl _)

/-- A row grows. -/
theorem Sg.grow {w w1 : World} {B S : Nat} {lab : Nat → Nat} {V : Nat → Value} {L : Nat → List Value} {ms : List MR} {cs : List CR} {bd : Int} (h : Sg w B S lab V L ms cs bd) (j : Nat) (hj : j < 6) (v u : Value)
    (ho : w1.ownsRow B (sty j) 1 v ((L j).length + 1) (L j ++ [u])) (hgr : w.grownBy w1 (V j).ownBlock) (hv : ∀ x, v.ownBlock = some x → (V j).ownBlock = some x ∨ w.heap.size ≤ x) :
    Sg (w1.setCell ⟨S, j, none⟩ v) B S (fun x => if x < w.heap.size then lab x else j + 1) (fun k => if k = j then v else V k) (fun k => if k = j then L j ++ [u] else L k) ms cs bd ∧
      Fr (fun x => lab x = 0 ∨ lab x = j + 1) w (w1.setCell ⟨S, j, none⟩ v) ∧ Fr (fun x => B ≤ x) w (w1.setCell ⟨S, j, none⟩ v) := by
  obtain ⟨h1, fx⟩ := h.x.grow j hj v u ho hgr hv
  have f : Fr (fun x => lab x = 0 ∨ lab x = j + 1) w (w1.setCell ⟨S, j, none⟩ v) := fx.mono fun x _ e => by
    rcases e with e | e
    · exact Or.inl (by rw [e]; exact h.x.lab0)
    · exact Or.inr (h.x.labs j hj x e)
  have fB : Fr (fun x => B ≤ x) w (w1.setCell ⟨S, j, none⟩ v) := fx.mono fun x _ e => by
    rcases e with e | e
    · rw [e]; exact h.x.hB
    · exact ((h.x.own j hj).lt x e).1
  have hl : ∀ x, x < w.heap.size → (fun x => if x < w.heap.size then lab x else j + 1) x = lab x := fun x hx => by simp only [if_pos hx]
  refine ⟨⟨h1, fun i r hr => (h.m i r hr).keep f hl (fun x e _ => by omega) (Int.le_refl _), fun n q hq => (h.c n q hq).keep f hl (fun x e _ => by omega) (fun i r _ hr => ⟨r, hr, rfl⟩), Nat.le_trans h.hB f.size, h.n8⟩, f, fB⟩

theorem map_set_same {α β : Type} {ms : List α} {i : Nat} {r r' : α} (f : α → β) (hr : ms[i]? = some r) (e : f r' = f r) : (ms.set i r').map f = ms.map f := by
  apply List.ext_getElem?
  intro k
  rw [List.getElem?_map, List.getElem?_map, List.getElem?_set]
  by_cases c : i = k
  · subst c
    have hl := (List.getElem?_eq_some_iff.1 hr).1
    rw [if_pos rfl, if_pos hl, hr]
    simp [e]
  · rw [if_neg c]

theorem rows_setM {ms : List MR} {cs : List CR} {i : Nat} {r r' : MR} (hr : ms[i]? = some r) (h1 : r'.pm = r.pm) (h2 : r'.rb = r.rb) (h3 : r'.g = r.g) : ∀ j, rows (ms.set i r') cs j = rows ms cs j := by
  intro j
  match j with
  | 0 => exact map_set_same _ hr (by rw [h1])
  | 1 => exact map_set_same _ hr (by rw [h2])
  | 2 => rfl
  | 3 => rfl
  | 4 => rfl
  | _ + 5 => exact map_set_same _ hr (by rw [h3])

theorem rows_setC {ms : List MR} {cs : List CR} {n : Nat} {q q' : CR} (hq : cs[n]? = some q) (h1 : q'.cb = q.cb) (h2 : q'.db = q.db) (h3 : q'.o = q.o) : ∀ j, rows ms (cs.set n q') j = rows ms cs j := by
  intro j
  match j with
  | 0 => rfl
  | 1 => rfl
  | 2 => exact map_set_same _ hq (by rw [h1])
  | 3 => exact map_set_same _ hq (by rw [h2])
  | 4 => exact map_set_same _ hq (by rw [h3])
  | _ + 5 => rfl

/-- A call on a map, of the program's, then of the document's. -/
theorem Sh.op {w w1 w2 : World} {B S : Nat} {lab : Nat → Nat} {V : Nat → Value} {ms : List MR} {cs : List CR} {bd bd' : Int} (h : Sh w B S lab V ms cs bd) {i : Nat} {r : MR} (hr : ms[i]? = some r) {c' : Int} {oP' oR' : Nat → Prop} {xs' : Row}
    (f1 : Fr r.oP w w1) (f2 : Fr r.oR w1 w2) (s1 : ∀ x, oP' x → r.oP x ∨ w.heap.size ≤ x) (s2 : ∀ x, oR' x → r.oR x ∨ w1.heap.size ≤ x)
    (m1 : MapG r.g w1 r.pm r.t c' oP' xs') (m2 : RefM w2 B r.rb r.t oR' xs') (hl : xs'.length ≤ 400) (c0 : 0 ≤ c') (c1 : c' ≤ bd') (hb : bd ≤ bd') :
    ∃ lab', Sh w2 B S lab' V (ms.set i { r with c := c', oP := oP', oR := oR', xs := xs' }) cs bd' ∧ MapG r.g w2 r.pm r.t c' oP' xs' := by
  obtain ⟨g1, g2, g3, g4, g5, g6, g7⟩ := h.m i r hr
  have hi := (List.getElem?_eq_some_iff.1 hr).1
  have hn := h.n8
  have hB := h.hB
  have z1 := f1.size
  have f : Fr (fun x => lab x = 10 + 2 * i ∨ lab x = 11 + 2 * i) w w2 := (f1.mono fun x _ e => Or.inl (g3 x e).1).trans f2 fun x _ e => Or.inr (g4 x e).1
  have d : ∀ x, oP' x → ¬ r.oR x := fun x hx e => by
    rcases s1 x hx with q | q
    · have := (g3 x q).1; have := (g4 x e).1; omega
    · have := g2.lt x e; omega
  have m3 := m1.fr f2 d
  have hll : ∀ x, x < w.heap.size → (fun x => if x < w.heap.size then lab x else if x < w1.heap.size then 10 + 2 * i else 11 + 2 * i) x = lab x := fun x hx => by simp only [if_pos hx]
  refine ⟨fun x => if x < w.heap.size then lab x else if x < w1.heap.size then 10 + 2 * i else 11 + 2 * i, ⟨(h.x.keep f hll fun x e _ => by omega).congrL fun j _ => rows_setM (r' := { r with c := c', oP := oP', oR := oR', xs := xs' }) hr rfl rfl rfl j, fun k q hq => ?_, fun n q hq => (h.c n q hq).keep f hll (fun x e _ => by omega) fun k r0 _ hk => ?_, Nat.le_trans h.hB f.size, by simpa using h.n8⟩, m3⟩
  · rw [List.getElem?_set] at hq
    by_cases c : i = k
    · subst c
      rw [if_pos rfl, if_pos hi] at hq
      cases hq
      refine ⟨m3, m2, fun x hx => ?_, fun x hx => ?_, hl, c0, c1⟩
      · rcases s1 x hx with q | q
        · have := g1.lt x q
          simp only [if_pos this]; exact g3 x q
        · have := m1.lt x hx
          simp only [if_neg (show ¬ x < w.heap.size by omega), if_pos this]
          exact ⟨trivial, by omega⟩
      · rcases s2 x hx with q | q
        · have := g2.lt x q
          simp only [if_pos this]; exact g4 x q
        · simp only [if_neg (show ¬ x < w.heap.size by omega), if_neg (show ¬ x < w1.heap.size by omega)]
          exact ⟨trivial, by omega⟩
    · rw [if_neg c] at hq
      exact (h.m k q hq).keep f hll (fun x e _ => by omega) hb
  · rw [List.getElem?_set]
    by_cases c : i = k
    · subst c
      rw [if_pos rfl, if_pos hi]
      rw [hr] at hk
      cases hk
      exact ⟨_, rfl, rfl⟩
    · rw [if_neg c]
      exact ⟨r0, hk, rfl⟩

/-- A call on a cursor, of the program's, then of the document's. -/
theorem Sh.cur {w w1 w2 : World} {B S : Nat} {lab : Nat → Nat} {V : Nat → Value} {ms : List MR} {cs : List CR} {bd bd' : Int} (h : Sh w B S lab V ms cs bd) {i n : Nat} {r : MR} {q : CR} (hr : ms[i]? = some r) (hq : cs[n]? = some q) (ho : q.o = ((i : Nat) : Int)) {c' s' k' : Int}
    (f1 : Fr (fun x => x = r.pm ∨ x = q.cb) w w1) (f2 : Fr (fun x => x = q.db) w1 w2) (m1 : MapG r.g w1 r.pm r.t c' r.oP r.xs) (b1 : w1.heap[q.cb]? = some (curBlk q.m s' k')) (b2 : w2.heap[q.db]? = some (rcurBlk s' k')) (hs : s' = 0 ∨ s' = 1 ∨ s' = 2) (c0 : 0 ≤ c') (c1 : c' ≤ bd') (hb : bd ≤ bd') :
    Sh w2 B S lab V (ms.set i { r with c := c' }) (cs.set n { q with s := s', k := k' }) bd' ∧ MapG r.g w2 r.pm r.t c' r.oP r.xs := by
  obtain ⟨g1, g2, g3, g4, g5, g6, g7⟩ := h.m i r hr
  have hi := (List.getElem?_eq_some_iff.1 hr).1
  have hn := (List.getElem?_eq_some_iff.1 hq).1
  have h8 := h.n8
  obtain ⟨hm, l1, l2⟩ : q.m = r.pm ∧ (lab q.cb = 1000 + 2 * n ∧ B ≤ q.cb) ∧ (lab q.db = 1001 + 2 * n ∧ B ≤ q.db) := by
    rcases h.c n q hq with e | ⟨i', r', e1, e2, e3, _, _, e6, e7, _⟩
    · omega
    · have : i' = i := by omega
      subst this
      rw [hr] at e2
      cases e2
      exact ⟨e3, e6, e7⟩
  have hs0 := (g3 r.pm g1.self).1
  have f : Fr (fun x => lab x = 10 + 2 * i ∨ lab x = 1000 + 2 * n ∨ lab x = 1001 + 2 * n) w w2 := (f1.mono fun x _ e => by
    rcases e with e | e
    · exact Or.inl (by rw [e]; exact hs0)
    · exact Or.inr (Or.inl (by rw [e]; exact l1.1))).trans f2 fun x _ e => Or.inr (Or.inr (by rw [e]; exact l2.1))
  have d1 : ∀ x, r.oP x → ¬ x = q.db := fun x hx e => by have := (g3 x hx).1; rw [e] at this; omega
  have d2 : ∀ x, r.oR x → ¬ (x = r.pm ∨ x = q.cb) := fun x hx e => by
    have h1 := (g4 x hx).1
    rcases e with e | e
    · rw [e, hs0] at h1; omega
    · rw [e] at h1; omega
  have d3 : ∀ x, r.oR x → ¬ x = q.db := fun x hx e => by have := (g4 x hx).1; rw [e] at this; omega
  have m3 := m1.fr f2 d1
  refine ⟨⟨(h.x.keep f (fun _ _ => rfl) fun x e _ => by omega).congrL fun j _ => (rows_setC (q' := { q with s := s', k := k' }) hq rfl rfl rfl j).trans (rows_setM (r' := { r with c := c' }) hr rfl rfl rfl j), fun k r1 hk => ?_, fun n1 q1 hk => ?_, Nat.le_trans h.hB f.size, by simpa using h.n8⟩, m3⟩
  · rw [List.getElem?_set] at hk
    by_cases c : i = k
    · subst c
      rw [if_pos rfl, if_pos hi] at hk
      cases hk
      exact ⟨m3, (g2.fr f1 d2).fr f2 d3, g3, g4, g5, c0, c1⟩
    · rw [if_neg c] at hk
      have hk8 := (List.getElem?_eq_some_iff.1 hk).1
      exact (h.m k r1 hk).keep f (fun _ _ => rfl) (fun x e _ => by omega) hb
  · have hset : ∀ (i' : Nat) (r' : MR), ms[i']? = some r' → ∃ r'' : MR, (ms.set i { r with c := c' })[i']? = some r'' ∧ r''.pm = r'.pm := fun i' r' hk' => by
      rw [List.getElem?_set]
      by_cases c : i = i'
      · subst c
        rw [if_pos rfl, if_pos hi]
        rw [hr] at hk'
        cases hk'
        exact ⟨_, rfl, rfl⟩
      · rw [if_neg c]
        exact ⟨r', hk', rfl⟩
    rw [List.getElem?_set] at hk
    by_cases c : n = n1
    · subst c
      rw [if_pos rfl, if_pos hn] at hk
      cases hk
      obtain ⟨r'', e1, e2⟩ := hset i r hr
      refine Or.inr ⟨i, r'', ho, e1, by rw [e2]; exact hm, (f2.block _ (lt_of_blk b1) fun e => ?_).trans b1, b2, l1, l2, hs⟩
      have h1 := l1.1
      rw [e, l2.1] at h1
      omega
    · rw [if_neg c] at hk
      exact (h.c n1 q1 hk).keep f (fun _ _ => rfl) (fun x e _ => by omega) fun i' r' _ hk' => hset i' r' hk'

end Go.Proofs.YthbnbocpddddmaaGreat

namespace Go.Proofs.YthbnbocpddddmaaGreat
open Go.RowKit

theorem kv_cod {x y : Nat} (hx : x < 18446744073709551616) (hy : y < 18446744073709551616) : kv (cod x y) = .complex .f64 x y := by
  show Value.complex .f64 (reB (cod x y)) (imB (cod x y)) = _
  rw [reB_cod hx hy, imB_cod hy]
theorem rkey_cod {x y : Nat} (hx : x < 18446744073709551616) (hy : y < 18446744073709551616) : rkey (cod x y) = .agg #[.int .i64 0, s0, .float .f64 x, .float .f64 y] := by
  show Value.agg #[.int .i64 0, s0, .float .f64 (reB (cod x y)), .float .f64 (imB (cod x y))] = _
  rw [reB_cod hx hy, imB_cod hy]
theorem rcur_cod {x y : Nat} (s : Int) (hx : x < 18446744073709551616) (hy : y < 18446744073709551616) : rcurBlk s (cod x y) = .cells #[.int .i64 s, .int .i64 0, s0, .float .f64 x, .float .f64 y] 249 (0, 0) := by
  show Obj.cells #[.int .i64 s, .int .i64 0, s0, .float .f64 (reB (cod x y)), .float .f64 (imB (cod x y))] 249 (0, 0) = _
  rw [reB_cod hx hy, imB_cod hy]
theorem rval_cod {x y : Nat} (hx : x < 18446744073709551616) (hy : y < 18446744073709551616) : rval (cod x y) = .agg #[.int .i64 0, .float .f64 x, .float .f64 y] := by
  show Value.agg #[.int .i64 0, .float .f64 (reB (cod x y)), .float .f64 (imB (cod x y))] = _
  rw [reB_cod hx hy, imB_cod hy]

/-- A step of a script, as a value. -/
abbrev opV (k mp ot en n a b : Int) (s t : ByteArray) (x y z : Nat) : Value := .agg #[.int .i64 k, .int .i64 mp, .int .i64 ot, .int .i64 en, .int .i64 n, .int .i64 a, .int .i64 b, .string s, .string t, .float .f64 x, .float .f64 y, .float .f64 z]
abbrev opBlk (k mp ot en n a b : Int) (s t : ByteArray) (x y z : Nat) : Obj := .cells #[.int .i64 k, .int .i64 mp, .int .i64 ot, .int .i64 en, .int .i64 n, .int .i64 a, .int .i64 b, .string s, .string t, .float .f64 x, .float .f64 y, .float .f64 z] 83

/-- What a step leaves: the shelf; the map that it was asked of, and how often it has compared. -/
abbrev Res (w : World) (B S : Nat) (lab0 : Nat → Nat) (N : Nat) (r : MR) (bd : Int) (K : Nat → Prop) (e : Ending) (w' : World) : Prop :=
  e = .returned (.bool true) ∧ (∃ lab V ms cs, Sh w' B S lab V ms cs (bd + 5000000) ∧ cs.length ≤ N + 1) ∧ (∃ (n : Nat) (o : Nat → Prop) (ys : Row), MapG r.g w' r.pm r.t (r.c + n) o ys ∧ n ≤ 5000000 ∧ K n) ∧ Fr (fun x => B ≤ x ∧ lab0 x ≠ 7) w w'

theorem Fr.and {T U : Nat → Prop} {w w' : World} (f : Fr T w w') (g : Fr U w w') : Fr (fun x => T x ∧ U x) w w' :=
  ⟨f.os, f.tape, f.output, f.size, fun k hk hn => (Classical.em (T k)).elim (fun h => g.block k hk fun e => hn ⟨h, e⟩) fun h => f.block k hk h⟩

theorem Sx.here {w : World} {B S : Nat} {lab : Nat → Nat} {V : Nat → Value} {L : Nat → List Value} (h : Sx w B S lab V L) (j : Nat) (hj : j < 6) {i : Nat} {u : Value} (hu : (L j)[i]? = some u) :
    ∃ g cap, V j = .slice (some ⟨g, 0, none⟩) (L j).length cap ∧ w.cell? ⟨g, i, none⟩ = some u ∧ w.frozen? ⟨g, i, none⟩ = false ∧ lab g = j + 1 ∧ g < w.heap.size := by
  obtain ⟨a, cap, e1, _, e3⟩ := h.read j hj
  obtain ⟨g, rfl, q1, q2, q3, _⟩ := e3 i u hu
  refine ⟨g, cap, e1, q1, q2, q3, ?_⟩
  have := ((h.own j hj).lt g (by rw [e1]; rfl)).2
  exact this

theorem delete_anyN (g : Bool) (m : Nat) (t : Bool) (c : Int) (own : Nat → Prop) (xs : Row) (k : Int) (w : World) (h : MapG g w m t c own xs) (b0 : 0 ≤ c) (b1 : c ≤ 8000000000000000000) (hs : xs.length ≤ 400) :
    Calls Tryz.prog 136 #[.pointer (some ⟨m, 0, none⟩), kv k] w fun e w' => ∃ (n : Nat) (own' : Nat → Prop), e = .returned (.tuple #[kv (lget t k xs), .bool (lsame k xs)]) ∧
      MapG g w' m t (c + n) own' (ldel t k xs) ∧ n ≤ 10000 ∧ (g = false → n ≤ 3 * dg (xs.length + 1)) ∧ (0 < xs.length → 1 ≤ n) ∧ (∀ x, own' x → own x ∨ w.heap.size ≤ x) ∧ Fr own w w' := by
  cases g
  · exact (delete_moreT m t c own xs k w h b0 b1 hs).mono fun e w' ⟨n, o, q1, q2, q3, q4⟩ => ⟨n, o, q1, q2, Nat.le_trans q3 (few_le hs), fun _ => q3, q4⟩
  · exact (delete_moreK m t c own xs k w h b0 b1 hs).mono fun e w' ⟨n, o, q1, q2, q3, q4⟩ => ⟨n, o, q1, q2, q3, fun e => (by cases e), q4⟩

theorem lerr_cases (k : Int) (xs : Row) : lerr k xs = 0 ∨ lerr k xs = 3 := by
  unfold lerr
  split
  · exact Or.inl rfl
  · split
    · exact Or.inr rfl
    · exact Or.inl rfl

theorem len_putN {t : Bool} {k v : Int} {xs : Row} (h : xs.length ≤ 400) : (lputF t k v xs).length ≤ 400 := by
  unfold lputF
  split
  · rename_i e
    unfold lerr at e
    rw [len_put]
    split
    · exact h
    · rename_i hs
      rw [if_neg hs] at e
      by_cases c : 400 ≤ xs.length
      · rw [if_pos c] at e; omega
      · omega
  · exact h

theorem RefM.congr {w w' : World} {B b : Nat} {t : Bool} {own : Nat → Prop} {xs : Row} (h : RefM w B b t own xs) (hk : ∀ x, own x → w'.heap[x]? = w.heap[x]?) : RefM w' B b t own xs := by
  obtain ⟨v, h1, ⟨e1, e2⟩, h3, h4⟩ := h
  refine ⟨v, (hk b ((h4 b).2 (Or.inl rfl))).trans h1, ⟨e1, ?_⟩, h3, h4⟩
  rcases e2 with e2 | ⟨g, cap, cur, rfl, q1, q2, q3⟩
  · exact Or.inl e2
  · exact Or.inr ⟨g, cap, cur, rfl, q1, (hk g ((h4 g).2 (Or.inr rfl))).trans q2, q3⟩

theorem Fr.set3 {T : Nat → Prop} {a w : World} (f : Fr T a w) {b : Nat} (hp : b < a.heap.size → T b) (v0 v1 v2 : Value) : Fr T a (((w.setCell ⟨b, 0, none⟩ v0).setCell ⟨b, 1, none⟩ v1).setCell ⟨b, 2, none⟩ v2) :=
  Fr.setCell (Fr.setCell (Fr.setCell f hp _) hp _) hp _
theorem Fr.set7 {T : Nat → Prop} {a w : World} (f : Fr T a w) {b : Nat} (hp : b < a.heap.size → T b) (v0 v1 v2 v3 v4 v5 v6 : Value) : Fr T a (((((((w.setCell ⟨b, 0, none⟩ v0).setCell ⟨b, 1, none⟩ v1).setCell ⟨b, 2, none⟩ v2).setCell ⟨b, 3, none⟩ v3).setCell ⟨b, 4, none⟩ v4).setCell ⟨b, 5, none⟩ v5).setCell ⟨b, 6, none⟩ v6) :=
  Fr.setCell (Fr.setCell (Fr.setCell (Fr.setCell (Fr.set3 f hp v0 v1 v2) hp _) hp _) hp _) hp _

/-- What a step reads of the shelf: the maps at i. -/
structure Rd (w : World) (S : Nat) (N : Nat) (i : Nat) (r : MR) (q0 cap0 q1 cap1 : Nat) : Prop where
  s0 : w.cell? ⟨S, 0, none⟩ = some (.slice (some ⟨q0, 0, none⟩) N cap0)
  c0 : w.cell? ⟨q0, i, none⟩ = some (.pointer (some ⟨r.pm, 0, none⟩))
  s1 : w.cell? ⟨S, 1, none⟩ = some (.slice (some ⟨q1, 0, none⟩) N cap1)
  c1 : w.cell? ⟨q1, i, none⟩ = some (.pointer (some ⟨r.rb, 0, none⟩))
  zS : S < w.heap.size
  z0 : q0 < w.heap.size
  z1 : q1 < w.heap.size
  nS : ¬ (r.oP S ∨ r.oR S)
  n0 : ¬ (r.oP q0 ∨ r.oR q0)
  n1 : ¬ (r.oP q1 ∨ r.oR q1)

theorem Rd.fr {T : Nat → Prop} {w w' : World} {S N i : Nat} {r : MR} {q0 cap0 q1 cap1 : Nat} (h : Rd w S N i r q0 cap0 q1 cap1) (f : Fr T w w') (hT : ∀ x, T x → r.oP x ∨ r.oR x) : Rd w' S N i r q0 cap0 q1 cap1 :=
  ⟨(f.cell 0 h.zS fun e => h.nS (hT _ e)).trans h.s0, (f.cell i h.z0 fun e => h.n0 (hT _ e)).trans h.c0, (f.cell 1 h.zS fun e => h.nS (hT _ e)).trans h.s1, (f.cell i h.z1 fun e => h.n1 (hT _ e)).trans h.c1,
    Nat.lt_of_lt_of_le h.zS f.size, Nat.lt_of_lt_of_le h.z0 f.size, Nat.lt_of_lt_of_le h.z1 f.size, h.nS, h.n0, h.n1⟩

theorem Sg.rd {w : World} {B S : Nat} {lab : Nat → Nat} {V : Nat → Value} {ms : List MR} {cs : List CR} {bd : Int} (h : Sh w B S lab V ms cs bd) {i : Nat} {r : MR} (hr : ms[i]? = some r) : ∃ q0 cap0 q1 cap1, Rd w S ms.length i r q0 cap0 q1 cap1 := by
  obtain ⟨g1, g2, g3, g4, _⟩ := h.m i r hr
  have hr0 : (rows ms cs 0)[i]? = some (ptr r.pm) := by show (ms.map _)[i]? = _; rw [List.getElem?_map, hr]; rfl
  have hr1 : (rows ms cs 1)[i]? = some (ptr r.rb) := by show (ms.map _)[i]? = _; rw [List.getElem?_map, hr]; rfl
  obtain ⟨q0, cap0, v0, c0, _, l0, z0⟩ := h.x.here 0 (by omega) hr0
  obtain ⟨q1, cap1, v1, c1, _, l1, z1⟩ := h.x.here 1 (by omega) hr1
  have n0 : (rows ms cs 0).length = ms.length := List.length_map ..
  have n1 : (rows ms cs 1).length = ms.length := List.length_map ..
  rw [n0] at v0
  rw [n1] at v1
  have no : ∀ y, lab y ≤ 2 → ¬ (r.oP y ∨ r.oR y) := fun y hy e => by
    rcases e with e | e
    · have := (g3 y e).1; omega
    · have := (g4 y e).1; omega
  exact ⟨q0, cap0, q1, cap1, (cell_of h.x.blk 0).trans (by rw [← v0]; rfl), c0, (cell_of h.x.blk 1).trans (by rw [← v1]; rfl), c1, lt_of_blk h.x.blk, z0, z1, no S (by rw [h.x.lab0]; omega), no q0 (by omega), no q1 (by omega)⟩

theorem Fr.kept {T : Nat → Prop} {w w' : World} (f : Fr T w w') {b : Nat} {o : Obj} (h : w.heap[b]? = some o) (hn : ¬ T b) : w'.heap[b]? = some o := (f.block b (lt_of_blk h) hn).trans h

theorem floor_labv (t : Bool) (k : Int) (xs : Row) : (labv t k (!true) xs : Int) - 1 = lfloor t k xs := by
  unfold labv lfloor
  cases lsame k xs <;> simp
theorem ceil_labv (t : Bool) (k : Int) (xs : Row) : labv t k true xs = lrank t k xs := by unfold labv; simp

end Go.Proofs.YthbnbocpddddmaaGreat

namespace Go.Proofs.YthbnbocpddddmaaGreat
open Go.RowKit

theorem run_append_fresh {P : Program} (w : World) (base : Nat) (t ty e : TypeId) (i : TypeInfo) (z : Value) (size bytes : Nat) (ht : P.underlying t = some (.slice e)) (hi : P.info? e = some i) (hz : i.zero = some z)
    (hsize : i.size = size) (hby : i.bytes = bytes) (hzs : z.cells.size = size) (hsz : 0 < size)
    (v : Value) (n : Nat) (xs : List Value) (hown : w.ownsRow base e size v n xs)
    (a : Addr) (m c : Nat) (news : List Value) (hl : news.length = m * size) (hnews : ∀ j u, news[j]? = some u → w.cell? (a.add j) = some u) (h1 : ∀ u ∈ news, u.oneCell' = true)
    (h63 : n + m ≤ maxLen) (hbytes : (n + m) * bytes ≤ 140737488355328) (hbase : base ≤ w.heap.size) :
    ∃ v' w', (Builtin.append_ #[t, t] ty #[v, .slice (some a) m c]).run P w = .ok v' w' ∧ w'.ownsRow base e size v' (n + m) (xs ++ news) ∧ w.grownBy w' v.ownBlock ∧
      (∀ x, v'.ownBlock = some x → v.ownBlock = some x ∨ w.heap.size ≤ x) := by
  obtain ⟨v', w', hr, h2, h3, _⟩ := run_append_own (P := P) w base t ty e i z size bytes ht hi hz hsize hby hzs hsz v n xs hown a m c news hl hnews h1 h63 hbytes hbase
  refine ⟨v', w', hr, h2, h3, fun x hx => ?_⟩
  obtain ⟨e1, e2⟩ := hown
  rcases e2 with ⟨rfl, rfl⟩ | ⟨g, cap, cur, rfl, q1, q2, q3, q4, q5, q6⟩
  · obtain ⟨v2, w2, hr2, k2, _, _⟩ := run_append_own (P := P) w w.heap.size t ty e i z size bytes ht hi hz hsize hby hzs hsz (.slice none 0 0) 0 xs ⟨e1, Or.inl ⟨rfl, rfl⟩⟩ a m c news hl hnews h1 h63 hbytes (Nat.le_refl _)
    rw [hr] at hr2
    cases hr2
    exact Or.inr (k2.lt x hx).1
  · by_cases hroom : n + m ≤ cap
    · have hr2 := run_append_room (P := P) w t ty e i ht hi g n cap cur q2 a m c news (by rw [hsize]; exact hl) hnews h1 hroom (by
        rw [hsize, hl, q5, ← Nat.add_mul]
        exact Nat.mul_le_mul_right _ hroom)
      rw [hr] at hr2
      cases hr2
      exact Or.inl hx
    · have hc : ∀ j u, xs[j]? = some u → w.cell? ((⟨g, 0, none⟩ : Addr).add j) = some u := fun j u hu => by
        rw [add_at, Nat.zero_add, cell_of q2]
        rw [← q6, List.getElem?_take] at hu
        split at hu
        · simpa using hu
        · cases hu
      obtain ⟨v2, w2, hr2, k2, _⟩ := run_append_arg_grows (P := P) w t ty e i z size bytes ht hi hz hsize hby hzs hsz ⟨g, 0, none⟩ n cap xs e1 hc a m c news hl hnews (by omega) h63 hbytes
      rw [hr] at hr2
      cases hr2
      exact Or.inr (k2.lt x hx).1

theorem wpList_append_fresh {P : Program} {w : World} {ops : Array Oper} {rest : List Oper} {o : Oper} {a : Act} {Q : Exit → Act → World → Prop} (hgd : o.guard = none) (s x : Operand) (t : TypeId)
    (ho : o.op = .call { callee := .builtin .append, args := #[s, x], argTypes := #[t, t] })
    (base : Nat) (e : TypeId) (i : TypeInfo) (z : Value) (size bytes : Nat) (ht : P.underlying t = some (.slice e)) (hi : P.info? e = some i) (hz : i.zero = some z)
    (hsize : i.size = size) (hby : i.bytes = bytes) (hzs : z.cells.size = size) (hsz : 0 < size)
    (v : Value) (n : Nat) (xs : List Value) (hs : a.eval s = v) (hown : w.ownsRow base e size v n xs)
    (ad : Addr) (m c : Nat) (news : List Value) (hx : a.eval x = .slice (some ad) m c) (hl : news.length = m * size) (hnews : ∀ j u, news[j]? = some u → w.cell? (ad.add j) = some u) (h1 : ∀ u ∈ news, u.oneCell' = true)
    (h63 : n + m ≤ maxLen) (hbytes : (n + m) * bytes ≤ 140737488355328) (hbase : base ≤ w.heap.size)
    (h : ∀ a' c' w', w'.ownsRow base e size (.slice a' (n + m) c') (n + m) (xs ++ news) → w.grownBy w' v.ownBlock → (∀ x, (Value.slice a' (n + m) c').ownBlock = some x → v.ownBlock = some x ∨ w.heap.size ≤ x) → wpList P ops Q rest (a.put o.dst (.slice a' (n + m) c')) w') : wpList P ops Q (o :: rest) a w :=
  wpList_plain hgd fun _ hK => by
    obtain ⟨v', w', hr, h2, h3, h4⟩ := run_append_fresh (P := P) w base t o.type e i z size bytes ht hi hz hsize hby hzs hsz v n xs hown ad m c news hl hnews h1 h63 hbytes hbase
    obtain ⟨a', c', rfl⟩ := own_shape h2
    unfold Oper.wp execOp
    simp only [ho, resolve, invoke, builtin, Sem.run_bind, Sem.run_pure, Result.andThen_ok, List.map_toArray, List.map_cons, List.map_nil, hs, hx, hr]
    exact hK _ _ (h a' c' w' h2 h3 h4)

theorem step_append_fresh {P : Program} {ops : Array Oper} {o : Oper} {a : Act} {w : World} {K : Act → World → Prop} {Q : Exit → Act → World → Prop} {E : Prop}
    (hg : o.guard = none) (s x : Operand) (t : TypeId) (hop : o.op = Op.call { callee := Callee.builtin Builtin.append, args := #[s, x], argTypes := #[t, t] })
    (base : Nat) (e : TypeId) (i : TypeInfo) (z : Value) (size bytes : Nat) (ht : P.underlying t = some (.slice e)) (hi : P.info? e = some i) (hz : i.zero = some z)
    (hsize : i.size = size) (hby : i.bytes = bytes) (hzs : z.cells.size = size) (hsz : 0 < size)
    (v : Value) (n : Nat) (xs : List Value) (hs : a.eval s = v) (hown : w.ownsRow base e size v n xs)
    (ad : Addr) (m c : Nat) (news : List Value) (hx : a.eval x = .slice (some ad) m c) (hl : news.length = m * size) (hnews : ∀ j u, news[j]? = some u → w.cell? (ad.add j) = some u) (h1 : ∀ u ∈ news, u.oneCell' = true)
    (h63 : n + m ≤ maxLen) (hbytes : (n + m) * bytes ≤ 140737488355328) (hbase : base ≤ w.heap.size)
    (hK : ∀ a' c' w', w'.ownsRow base e size (.slice a' (n + m) c') (n + m) (xs ++ news) → w.grownBy w' v.ownBlock → (∀ x, (Value.slice a' (n + m) c').ownBlock = some x → v.ownBlock = some x ∨ w.heap.size ≤ x) → K (a.put o.dst (.slice a' (n + m) c')) w') :
    if Region.wanted o (yielded ops a.tmps) = true then Oper.wp P o a w K Q else E := by
  have hw : Region.wanted o (yielded ops a.tmps) = true := by simp [Region.wanted, hg]
  rw [if_pos hw]
  obtain ⟨v', w', hrun, h2, h3, h4⟩ := run_append_fresh (P := P) w base t o.type e i z size bytes ht hi hz hsize hby hzs hsz v n xs hown ad m c news hl hnews h1 h63 hbytes hbase
  obtain ⟨a', c', rfl⟩ := own_shape h2
  unfold Oper.wp
  simp [execOp, hop, resolve, invoke, builtin, hs, hx, hrun, Result.andThen]
  exact hK a' c' w' h2 h3 h4

end Go.Proofs.YthbnbocpddddmaaGreat

namespace Go.Proofs.YthbnbocpddddmaaGreat
open Go.RowKit

set_option maxRecDepth 100000 in
set_option maxHeartbeats 800000 in
theorem lorder_any (raw : Int) (w : World) (c0 : -9223372036854775808 ≤ raw) (c1 : raw < 9223372036854775808) :
    Calls Tryz.prog 14 #[.int .i64 raw] w fun e w' => e = .returned (.tuple #[.agg #[.iface 213 (.agg #[]), .bool (pkn raw 2 == 1)], .agg #[.int .i64 3, .bool (pkn raw 2 == 1)]]) ∧ Fr (fun _ => False) w w' := by
  have hp := fun w => lpick_any raw 2 w c0 c1 (by omega) (by omega)
  have FA : Fr (fun _ => False) w ((w.alloc (.cells #[.nilIface, .bool false] 47)).alloc (.cells #[.int .i64 0, .bool false] 28)) := Fr.alloc (Fr.alloc (Fr.refl _ _) _) _
  have g1 : ((w.alloc (.cells #[.nilIface, .bool false] 47)).alloc (.cells #[.int .i64 0, .bool false] 28)).heap[w.heap.size]? = some (.cells #[.nilIface, .bool false] 47 (0, 0)) := by
    rw [Below.heap_alloc _ _ _ (by simp)]; exact blk_new _ _
  have g2 : ((w.alloc (.cells #[.nilIface, .bool false] 47)).alloc (.cells #[.int .i64 0, .bool false] 28)).heap[w.heap.size + 1]? = some (.cells #[.int .i64 0, .bool false] 28 (0, 0)) := by
    have := blk_new (w.alloc (.cells #[.nilIface, .bool false] 47)) (.cells #[.int .i64 0, .bool false] 28)
    rw [World.size_alloc] at this; exact this
  by_cases h : pkn raw 2 = 1
  · rw [h] at hp
    rw [show (pkn raw 2 == 1) = true by rw [beq_iff_eq]; exact h]
    clear h
    go_enter Tryz.func14, Tryz.ntmps14
    go_wp2_with fail
    refine (hp _).mono ?_
    rintro e w2 ⟨rfl, rfl⟩
    go_wp2_with fail
    refine (ints_any _).mono ?_
    rintro e w3 ⟨rfl, f3⟩
    go_wp2_with fail
    refine (turned_any false _).mono ?_
    rintro e wz ⟨rfl, f4⟩
    simp only [Bool.not_false]
    have FZ := f3.trans f4 fun _ _ e => e
    clear f3 f4
    have FB := FA.trans FZ fun _ _ e => e
    have h1 := (FZ.block w.heap.size (lt_of_blk g1) (fun e => e)).trans g1
    have h2 := (FZ.block (w.heap.size + 1) (lt_of_blk g2) (fun e => e)).trans g2
    have n0 : wz.cell? ⟨w.heap.size, 0, none⟩ = some .nilIface := cell_of h1 0
    have n1 : wz.cell? ⟨w.heap.size, 1, none⟩ = some (.bool false) := cell_of h1 1
    have m0 : wz.cell? ⟨w.heap.size + 1, 0, none⟩ = some (.int .i64 0) := cell_of h2 0
    have m1 : wz.cell? ⟨w.heap.size + 1, 1, none⟩ = some (.bool false) := cell_of h2 1
    have z1 : ∀ o, wz.frozen? ⟨w.heap.size, o, none⟩ = false := fun o => frozen_of h1 o
    have z2 : ∀ o, wz.frozen? ⟨w.heap.size + 1, o, none⟩ = false := fun o => frozen_of h2 o
    have hne : w.heap.size ≠ w.heap.size + 1 := by omega
    have HB : Hid (Fr (fun _ => False) w wz) := FB
    clear h1 h2 FB FZ FA g1 g2 hp
    go_wp2_with fail
    refine bodyPost_ret (v := .tuple #[.agg #[.iface 213 (.agg #[]), .bool true], .agg #[.int .i64 3, .bool true]]) (by simp [results, Tryz.results14, go_sem, *]) rfl ⟨rfl, ?_⟩
    have nb : w.heap.size < w.heap.size → False := by omega
    have nc : w.heap.size + 1 < w.heap.size → False := by omega
    exact Fr.setCell (Fr.setCell (Fr.setCell (Fr.setCell HB.out (by exact nb) _) (by exact nb) _) (by exact nc) _) (by exact nc) _
  · have h2 : pkn raw 2 = 0 := by have := pkn_b raw 2 (by omega); omega
    rw [h2] at hp
    rw [show (pkn raw 2 == 1) = false by rw [beq_eq_false_iff_ne]; exact h]
    clear h h2
    go_enter Tryz.func14, Tryz.ntmps14
    go_wp2_with fail
    refine (hp _).mono ?_
    rintro e w2 ⟨rfl, rfl⟩
    go_wp2_with fail
    refine (ints_any _).mono ?_
    rintro e wz ⟨rfl, FZ⟩
    have FB := FA.trans FZ fun _ _ e => e
    have h1 := (FZ.block w.heap.size (lt_of_blk g1) (fun e => e)).trans g1
    have h2 := (FZ.block (w.heap.size + 1) (lt_of_blk g2) (fun e => e)).trans g2
    have n0 : wz.cell? ⟨w.heap.size, 0, none⟩ = some .nilIface := cell_of h1 0
    have n1 : wz.cell? ⟨w.heap.size, 1, none⟩ = some (.bool false) := cell_of h1 1
    have m0 : wz.cell? ⟨w.heap.size + 1, 0, none⟩ = some (.int .i64 0) := cell_of h2 0
    have m1 : wz.cell? ⟨w.heap.size + 1, 1, none⟩ = some (.bool false) := cell_of h2 1
    have z1 : ∀ o, wz.frozen? ⟨w.heap.size, o, none⟩ = false := fun o => frozen_of h1 o
    have z2 : ∀ o, wz.frozen? ⟨w.heap.size + 1, o, none⟩ = false := fun o => frozen_of h2 o
    have hne : w.heap.size ≠ w.heap.size + 1 := by omega
    have HB : Hid (Fr (fun _ => False) w wz) := FB
    clear h1 h2 FB FZ FA g1 g2 hp
    go_wp2_with fail
    refine bodyPost_ret (v := .tuple #[.agg #[.iface 213 (.agg #[]), .bool false], .agg #[.int .i64 3, .bool false]]) (by simp [results, Tryz.results14, go_sem, *]) rfl ⟨rfl, ?_⟩
    have nb : w.heap.size < w.heap.size → False := by omega
    have nc : w.heap.size + 1 < w.heap.size → False := by omega
    exact Fr.setCell (Fr.setCell (Fr.setCell (Fr.setCell HB.out (by exact nb) _) (by exact nb) _) (by exact nc) _) (by exact nc) _

end Go.Proofs.YthbnbocpddddmaaGreat
