import Derived.Test.YthbnbocpddddmaaGreatQX
import Derived.Test.YthbnbocpddddmaaGreatUD
import Derived.Test.YthbnbocpddddmaaGreatUE
namespace Go.Proofs.YthbnbocpddddmaaGreat
open Go.RowKit

/-- Six things by their numbers. -/
def six {α : Type} (a b c d e f : α) : Nat → α
  | 0 => a
  | 1 => b
  | 2 => c
  | 3 => d
  | 4 => e
  | _ => f

theorem six_all {α : Type} {F G : Nat → α} (h0 : F 0 = G 0) (h1 : F 1 = G 1) (h2 : F 2 = G 2) (h3 : F 3 = G 3) (h4 : F 4 = G 4) (h5 : F 5 = G 5) : ∀ j, j < 6 → F j = G j := fun j hj => by
  match j, hj with
  | 0, _ => exact h0
  | 1, _ => exact h1
  | 2, _ => exact h2
  | 3, _ => exact h3
  | 4, _ => exact h4
  | 5, _ => exact h5

theorem Sx.congrV {w : World} {B S : Nat} {lab : Nat → Nat} {V V' : Nat → Value} {L : Nat → List Value} (h : Sx w B S lab V L) (e : ∀ j, j < 6 → V' j = V j) : Sx w B S lab V' L := by
  refine ⟨?_, fun j hj => by rw [e j hj]; exact h.own j hj, h.lab0, fun j hj x hx => h.labs j hj x (by rw [← e j hj]; exact hx), h.hB⟩
  have := h.blk
  unfold shBlk at this ⊢
  rw [e 0 (by omega), e 1 (by omega), e 2 (by omega), e 3 (by omega), e 4 (by omega), e 5 (by omega)]
  exact this

/-- The counts of two maps rise (they may be one). -/
theorem Sg.tick2 {w w' : World} {B S : Nat} {lab lab' : Nat → Nat} {V : Nat → Value} {L : Nat → List Value} {ms : List MR} {cs : List CR} {bd bd' : Int} (h : Sg w B S lab V L ms cs bd) {i j : Nat} {r q : MR} (hr : ms[i]? = some r) (hq : ms[j]? = some q) {ci cj : Int}
    (f : Fr (fun x => x = r.pm ∨ x = q.pm) w w') (m1 : MapG r.g w' r.pm r.t ci r.oP r.xs) (m2 : MapG q.g w' q.pm q.t cj q.oP q.xs) (i0 : 0 ≤ ci) (i1 : ci ≤ bd') (j0 : 0 ≤ cj) (j1 : cj ≤ bd') (hb : bd ≤ bd') (hl : ∀ x, x < w.heap.size → lab' x = lab x) :
    Sg w' B S lab' V L ((ms.set i { r with c := ci }).set j { q with c := cj }) cs bd' := by
  obtain ⟨g1, g2, g3, g4, g5, g6, g7⟩ := h.m i r hr
  obtain ⟨k1, k2, k3, k4, k5, k6, k7⟩ := h.m j q hq
  have hi := (List.getElem?_eq_some_iff.1 hr).1
  have hj := (List.getElem?_eq_some_iff.1 hq).1
  have h8 := h.n8
  have l1 := (g3 r.pm g1.self).1
  have l2 := (k3 q.pm k1.self).1
  have F : Fr (fun x => lab x = 10 + 2 * i ∨ lab x = 10 + 2 * j) w w' := f.mono fun x _ e => by
    rcases e with e | e
    · exact Or.inl (by rw [e]; exact l1)
    · exact Or.inr (by rw [e]; exact l2)
  refine ⟨h.x.keep F hl fun x e _ => by omega, fun k p hp => ?_, fun n p hp => (h.c n p hp).keep F hl (fun x e _ => by omega) fun k r0 _ hk => ?_, Nat.le_trans h.hB f.size, by simpa using h8⟩
  · have keepR : ∀ {k : Nat} {p : MR}, ms[k]? = some p → RefM w' B p.rb p.t p.oR p.xs := fun {k p} hp => by
      obtain ⟨_, y2, _, y4, _⟩ := h.m k p hp
      exact y2.fr F fun x hx e => by have := (y4 x hx).1; omega
    have labP : ∀ {k : Nat} {p : MR}, ms[k]? = some p → ∀ x, p.oP x → lab' x = 10 + 2 * k ∧ B ≤ x := fun {k p} hp x hx => by
      obtain ⟨y1, _, y3, _⟩ := h.m k p hp
      rw [hl x (y1.lt x hx)]; exact y3 x hx
    have labR : ∀ {k : Nat} {p : MR}, ms[k]? = some p → ∀ x, p.oR x → lab' x = 11 + 2 * k ∧ B ≤ x := fun {k p} hp x hx => by
      obtain ⟨_, y2, _, y4, _⟩ := h.m k p hp
      rw [hl x (y2.lt x hx)]; exact y4 x hx
    rw [List.getElem?_set, List.getElem?_set] at hp
    by_cases c : j = k
    · subst c
      rw [if_pos rfl, if_pos (by simpa using hj)] at hp
      cases hp
      exact ⟨m2, keepR (p := q) hq, labP (p := q) hq, labR (p := q) hq, k5, j0, j1⟩
    · rw [if_neg c] at hp
      by_cases c' : i = k
      · subst c'
        rw [if_pos rfl, if_pos hi] at hp
        cases hp
        exact ⟨m1, keepR (p := r) hr, labP (p := r) hr, labR (p := r) hr, g5, i0, i1⟩
      · rw [if_neg c'] at hp
        exact (h.m k p hp).keep F hl (fun x e _ => by omega) hb
  · rw [List.getElem?_set, List.getElem?_set]
    by_cases c : j = k
    · subst c
      rw [if_pos rfl, if_pos (by simpa using hj)]
      rw [hq] at hk
      cases hk
      exact ⟨_, rfl, rfl⟩
    · rw [if_neg c]
      by_cases c' : i = k
      · subst c'
        rw [if_pos rfl, if_pos hi]
        rw [hr] at hk
        cases hk
        exact ⟨_, rfl, rfl⟩
      · rw [if_neg c']
        exact ⟨r0, hk, rfl⟩

/-- Labels of what two calls have made. -/
noncomputable def labN (z : Nat) (lab : Nat → Nat) (o1 o2 p1 p2 : Nat → Prop) (a b x : Nat) : Nat := by
  classical
  exact if x < z then lab x else if o1 x then a else if o2 x then b else if p1 x then a + 1 else if p2 x then b + 1 else 8
theorem labN_old {z : Nat} {lab : Nat → Nat} {o1 o2 p1 p2 : Nat → Prop} {a b x : Nat} (h : x < z) : labN z lab o1 o2 p1 p2 a b x = lab x := by
  unfold labN; rw [if_pos h]
theorem labN_1 {z : Nat} {lab : Nat → Nat} {o1 o2 p1 p2 : Nat → Prop} {a b x : Nat} (h : z ≤ x) (h1 : o1 x) : labN z lab o1 o2 p1 p2 a b x = a := by
  unfold labN; rw [if_neg (by omega), if_pos h1]
theorem labN_2 {z : Nat} {lab : Nat → Nat} {o1 o2 p1 p2 : Nat → Prop} {a b x : Nat} (h : z ≤ x) (h1 : ¬ o1 x) (h2 : o2 x) : labN z lab o1 o2 p1 p2 a b x = b := by
  unfold labN; rw [if_neg (by omega), if_neg h1, if_pos h2]
theorem labN_3 {z : Nat} {lab : Nat → Nat} {o1 o2 p1 p2 : Nat → Prop} {a b x : Nat} (h : z ≤ x) (h1 : ¬ o1 x) (h2 : ¬ o2 x) (h3 : p1 x) : labN z lab o1 o2 p1 p2 a b x = a + 1 := by
  unfold labN; rw [if_neg (by omega), if_neg h1, if_neg h2, if_pos h3]
theorem labN_4 {z : Nat} {lab : Nat → Nat} {o1 o2 p1 p2 : Nat → Prop} {a b x : Nat} (h : z ≤ x) (h1 : ¬ o1 x) (h2 : ¬ o2 x) (h3 : ¬ p1 x) (h4 : p2 x) : labN z lab o1 o2 p1 p2 a b x = b + 1 := by
  unfold labN; rw [if_neg (by omega), if_neg h1, if_neg h2, if_neg h3, if_pos h4]

/-- The shelf at u, since w3: nothing but its head and rows was touched. -/
structure Tl (w3 : World) (lab3 : Nat → Nat) (B S : Nat) (V : Nat → Value) (L : Nat → List Value) (ms : List MR) (cs : List CR) (bd : Int) (u : World) : Prop where
  ex : ∃ lab, Sg u B S lab V L ms cs bd ∧ ∀ x, x < w3.heap.size → lab x = lab3 x
  fr : Fr (fun x => B ≤ x ∧ lab3 x ≤ 6) w3 u

section
variable {w3 u u' w1 : World} {lab3 : Nat → Nat} {B S : Nat} {V V' : Nat → Value} {L L' : Nat → List Value} {ms : List MR} {cs : List CR} {bd : Int}

theorem Tl.start (h : Sg w3 B S lab3 V L ms cs bd) : Tl w3 lab3 B S V L ms cs bd w3 := ⟨⟨lab3, h, fun _ _ => rfl⟩, Fr.refl _ _⟩

theorem Tl.old (h : Tl w3 lab3 B S V L ms cs bd u) (f : Fr (fun _ => False) u u') : Tl w3 lab3 B S V L ms cs bd u' := by
  obtain ⟨⟨lab, g, hl⟩, fr⟩ := h
  exact ⟨⟨lab, g.old f, hl⟩, fr.trans f fun _ _ e => e.elim⟩

theorem Tl.congr (h : Tl w3 lab3 B S V L ms cs bd u) (e1 : ∀ j, j < 6 → V' j = V j) (e2 : ∀ j, j < 6 → L' j = L j) : Tl w3 lab3 B S V' L' ms cs bd u := by
  obtain ⟨⟨lab, g, hl⟩, fr⟩ := h
  exact ⟨⟨lab, ⟨(g.x.congrV e1).congrL e2, g.m, g.c, g.hB, g.n8⟩, hl⟩, fr⟩

theorem Tl.grow (h : Tl w3 lab3 B S V L ms cs bd u) (j : Nat) (hj : j < 6) (v x : Value)
    (ho : w1.ownsRow B (sty j) 1 v ((L j).length + 1) (L j ++ [x])) (hgr : u.grownBy w1 (V j).ownBlock) (hv : ∀ x, v.ownBlock = some x → (V j).ownBlock = some x ∨ u.heap.size ≤ x) :
    Tl w3 lab3 B S (fun k => if k = j then v else V k) (fun k => if k = j then L j ++ [x] else L k) ms cs bd (w1.setCell ⟨S, j, none⟩ v) ∧ w1.heap[S]? = some (shBlk V) := by
  obtain ⟨⟨lab, g, hl⟩, fr⟩ := h
  obtain ⟨g', f, fB⟩ := g.grow j hj v x ho hgr hv
  refine ⟨⟨⟨_, g', fun y hy => ?_⟩, fr.trans (fB.and f) fun y hy e => ⟨e.1, by have := hl y hy; omega⟩⟩, ?_⟩
  · have := fr.size
    simp only [if_pos (show y < u.heap.size by omega)]
    exact hl y hy
  · exact (hgr.block S (lt_of_blk g.x.blk) fun e => by have h1 := g.x.labs j hj S e.symm; rw [g.x.lab0] at h1; omega).trans g.x.blk

theorem Tl.set (h : Tl w3 lab3 B S V L ms cs bd u) (j : Nat) (hj : j < 6) (i : Nat) (x y : Value) (hi : (L j)[i]? = some y) (p : Nat) (hg : (V j).ownBlock = some p) :
    Tl w3 lab3 B S V (fun k => if k = j then (L j).set i x else L k) ms cs bd (u.setCell ⟨p, i, none⟩ x) := by
  obtain ⟨⟨lab, g, hl⟩, fr⟩ := h
  have lp := g.x.labs j hj p hg
  have f : Fr (fun z => z = p) u (u.setCell ⟨p, i, none⟩ x) := Fr.setCell (Fr.refl _ _) (by exact fun _ => rfl) _
  have fl : Fr (fun z => lab z = j + 1) u (u.setCell ⟨p, i, none⟩ x) := f.mono fun z _ e => by rw [e]; exact lp
  have h8 := g.n8
  refine ⟨⟨lab, ⟨g.x.set j hj i x y hi p hg, fun k r hr => (g.m k r hr).keep fl (fun _ _ => rfl) (fun z e _ => by omega) (Int.le_refl _), fun n q hq => (g.c n q hq).keep fl (fun _ _ => rfl) (fun z e _ => by omega) fun k r _ hr => ⟨r, hr, rfl⟩, Nat.le_trans g.hB f.size, h8⟩, hl⟩, fr.trans f fun z hz e => ?_⟩
  have h1 := ((g.x.own j hj).lt p hg).1
  have h2 := hl z hz
  rw [e] at h2 ⊢
  exact ⟨h1, by omega⟩

theorem Tl.hB (h : Tl w3 lab3 B S V L ms cs bd u) : B ≤ u.heap.size := by
  obtain ⟨⟨lab, g, hl⟩, fr⟩ := h
  exact g.hB

theorem Tl.blk (h : Tl w3 lab3 B S V L ms cs bd u) : u.heap[S]? = some (shBlk V) := by
  obtain ⟨⟨lab, g, hl⟩, fr⟩ := h
  exact g.x.blk

theorem Tl.own (h : Tl w3 lab3 B S V L ms cs bd u) (j : Nat) (hj : j < 6) : u.ownsRow B (sty j) 1 (V j) (L j).length (L j) := by
  obtain ⟨⟨lab, g, hl⟩, fr⟩ := h
  exact g.x.own j hj

theorem Tl.here (h : Tl w3 lab3 B S V L ms cs bd u) (j : Nat) (hj : j < 6) {i : Nat} {x : Value} (hx : (L j)[i]? = some x) :
    ∃ p cap, V j = .slice (some ⟨p, 0, none⟩) (L j).length cap ∧ u.cell? ⟨p, i, none⟩ = some x ∧ u.frozen? ⟨p, i, none⟩ = false := by
  obtain ⟨⟨lab, g, hl⟩, fr⟩ := h
  obtain ⟨p, cap, e1, e2, e3, _⟩ := g.x.here j hj hx
  exact ⟨p, cap, e1, e2, e3⟩

theorem Tl.push (h : Tl w3 lab3 B S V L ms cs bd u) (h8 : ms.length < 8) (r : MR) (hr : MOk w3 B lab3 bd ms.length r) (hL : ∀ j, j < 6 → rows (ms ++ [r]) cs j = L j) : Tl w3 lab3 B S V (rows (ms ++ [r]) cs) (ms ++ [r]) cs bd u := by
  obtain ⟨⟨lab, g, hl⟩, fr⟩ := h
  exact ⟨⟨lab, g.push h8 r (hr.keep fr hl (fun x e _ => by omega) (Int.le_refl _)) hL, hl⟩, fr⟩

/-- A cursor of the map at j is asked no more. -/
def goneC (j : Nat) (q : CR) : CR := if q.o = ((j : Nat) : Int) then { q with o := -1 } else q

theorem Tl.put (h : Tl w3 lab3 B S V L ms cs bd u) (j : Nat) (hj : j < ms.length) (r : MR) (hr : MOk w3 B lab3 bd j r) (hL : ∀ k, k < 6 → rows (ms.set j r) (cs.map (goneC j)) k = L k) : Tl w3 lab3 B S V (rows (ms.set j r) (cs.map (goneC j))) (ms.set j r) (cs.map (goneC j)) bd u := by
  obtain ⟨⟨lab, g, hl⟩, fr⟩ := h
  refine ⟨⟨lab, ⟨g.x.congrL hL, fun i q hq => ?_, fun n q hq => ?_, g.hB, by simpa using g.n8⟩, hl⟩, fr⟩
  · rw [List.getElem?_set] at hq
    by_cases c : j = i
    · subst c
      rw [if_pos rfl, if_pos hj] at hq
      cases hq
      exact hr.keep fr hl (fun x e _ => by omega) (Int.le_refl _)
    · rw [if_neg c] at hq
      exact g.m i q hq
  · rw [List.getElem?_map] at hq
    obtain ⟨q0, h0, rfl⟩ := Option.map_eq_some_iff.1 hq
    unfold goneC
    by_cases c : q0.o = ((j : Nat) : Int)
    · rw [if_pos c]
      exact Or.inl rfl
    · rw [if_neg c]
      refine (g.c n q0 h0).keep (T := fun _ => False) (Fr.refl _ _) (fun _ _ => rfl) (fun _ e => e.elim) fun i r' hi hr' => ⟨r', ?_, rfl⟩
      rw [List.getElem?_set, if_neg (by intro e; subst e; exact c hi)]
      exact hr'

theorem Tl.res {w : World} {lab : Nat → Nat} {N : Nat} {r : MR} {n : Nat} (h : Tl w3 lab3 B S V (rows ms cs) ms cs (bd + 5000000) u) (hN : cs.length ≤ N + 1) (hM : MapG r.g w3 r.pm r.t (r.c + n) r.oP r.xs) (hn : n ≤ 10000) (hP : ∀ x, r.oP x → 7 ≤ lab3 x) (hF : Fr (fun x => B ≤ x ∧ lab x ≠ 7) w w3) (hl : ∀ x, x < w.heap.size → lab3 x = lab x) :
    Res w B S lab N r bd (fun _ => True) (.returned (.bool true)) u := by
  obtain ⟨⟨lab', g, hl'⟩, fr⟩ := h
  exact ⟨rfl, ⟨lab', V, ms, cs, g, hN⟩, ⟨n, r.oP, r.xs, hM.fr fr fun x hx e => by have := hP x hx; omega, by omega, trivial⟩, hF.trans fr fun x hx e => ⟨e.1, by have := hl x hx; omega⟩⟩

end

theorem Tl.grow0 {w3 u w1 : World} {lab3 : Nat → Nat} {B S : Nat} {ms : List MR} {cs : List CR} {bd : Int} {v0 v1 v2 v3 v4 v5 : Value} {l0 l1 l2 l3 l4 l5 : List Value} (h : Tl w3 lab3 B S (six v0 v1 v2 v3 v4 v5) (six l0 l1 l2 l3 l4 l5) ms cs bd u) {N : Nat} (hn : l0.length = N) (v x : Value) (ho : w1.ownsRow B 50 1 v (N + 1) (l0 ++ [x])) (hgr : u.grownBy w1 v0.ownBlock) (hv : ∀ x, v.ownBlock = some x → v0.ownBlock = some x ∨ u.heap.size ≤ x) :
    Tl w3 lab3 B S (six v v1 v2 v3 v4 v5) (six (l0 ++ [x]) l1 l2 l3 l4 l5) ms cs bd (w1.setCell ⟨S, 0, none⟩ v) ∧ w1.cell? ⟨S, 0, none⟩ = some v0 ∧ w1.frozen? ⟨S, 0, none⟩ = false := by
  subst hn
  obtain ⟨h1, h2⟩ := h.grow 0 (by omega) v x ho hgr hv
  exact ⟨h1.congr (six_all rfl rfl rfl rfl rfl rfl) (six_all rfl rfl rfl rfl rfl rfl), cell_of h2 0, frozen_of h2 0⟩
theorem Tl.own0 {w3 u : World} {lab3 : Nat → Nat} {B S : Nat} {ms : List MR} {cs : List CR} {bd : Int} {v0 v1 v2 v3 v4 v5 : Value} {l0 l1 l2 l3 l4 l5 : List Value} (h : Tl w3 lab3 B S (six v0 v1 v2 v3 v4 v5) (six l0 l1 l2 l3 l4 l5) ms cs bd u) {N : Nat} (hn : l0.length = N) : u.ownsRow B 50 1 v0 N l0 := by
  subst hn
  exact h.own 0 (by omega)
theorem Tl.grow1 {w3 u w1 : World} {lab3 : Nat → Nat} {B S : Nat} {ms : List MR} {cs : List CR} {bd : Int} {v0 v1 v2 v3 v4 v5 : Value} {l0 l1 l2 l3 l4 l5 : List Value} (h : Tl w3 lab3 B S (six v0 v1 v2 v3 v4 v5) (six l0 l1 l2 l3 l4 l5) ms cs bd u) {N : Nat} (hn : l1.length = N) (v x : Value) (ho : w1.ownsRow B 153 1 v (N + 1) (l1 ++ [x])) (hgr : u.grownBy w1 v1.ownBlock) (hv : ∀ x, v.ownBlock = some x → v1.ownBlock = some x ∨ u.heap.size ≤ x) :
    Tl w3 lab3 B S (six v0 v v2 v3 v4 v5) (six l0 (l1 ++ [x]) l2 l3 l4 l5) ms cs bd (w1.setCell ⟨S, 1, none⟩ v) ∧ w1.cell? ⟨S, 1, none⟩ = some v1 ∧ w1.frozen? ⟨S, 1, none⟩ = false := by
  subst hn
  obtain ⟨h1, h2⟩ := h.grow 1 (by omega) v x ho hgr hv
  exact ⟨h1.congr (six_all rfl rfl rfl rfl rfl rfl) (six_all rfl rfl rfl rfl rfl rfl), cell_of h2 1, frozen_of h2 1⟩
theorem Tl.own1 {w3 u : World} {lab3 : Nat → Nat} {B S : Nat} {ms : List MR} {cs : List CR} {bd : Int} {v0 v1 v2 v3 v4 v5 : Value} {l0 l1 l2 l3 l4 l5 : List Value} (h : Tl w3 lab3 B S (six v0 v1 v2 v3 v4 v5) (six l0 l1 l2 l3 l4 l5) ms cs bd u) {N : Nat} (hn : l1.length = N) : u.ownsRow B 153 1 v1 N l1 := by
  subst hn
  exact h.own 1 (by omega)
theorem Tl.grow5 {w3 u w1 : World} {lab3 : Nat → Nat} {B S : Nat} {ms : List MR} {cs : List CR} {bd : Int} {v0 v1 v2 v3 v4 v5 : Value} {l0 l1 l2 l3 l4 l5 : List Value} (h : Tl w3 lab3 B S (six v0 v1 v2 v3 v4 v5) (six l0 l1 l2 l3 l4 l5) ms cs bd u) {N : Nat} (hn : l5.length = N) (v x : Value) (ho : w1.ownsRow B 3 1 v (N + 1) (l5 ++ [x])) (hgr : u.grownBy w1 v5.ownBlock) (hv : ∀ x, v.ownBlock = some x → v5.ownBlock = some x ∨ u.heap.size ≤ x) :
    Tl w3 lab3 B S (six v0 v1 v2 v3 v4 v) (six l0 l1 l2 l3 l4 (l5 ++ [x])) ms cs bd (w1.setCell ⟨S, 5, none⟩ v) ∧ w1.cell? ⟨S, 5, none⟩ = some v5 ∧ w1.frozen? ⟨S, 5, none⟩ = false := by
  subst hn
  obtain ⟨h1, h2⟩ := h.grow 5 (by omega) v x ho hgr hv
  exact ⟨h1.congr (six_all rfl rfl rfl rfl rfl rfl) (six_all rfl rfl rfl rfl rfl rfl), cell_of h2 5, frozen_of h2 5⟩
theorem Tl.own5 {w3 u : World} {lab3 : Nat → Nat} {B S : Nat} {ms : List MR} {cs : List CR} {bd : Int} {v0 v1 v2 v3 v4 v5 : Value} {l0 l1 l2 l3 l4 l5 : List Value} (h : Tl w3 lab3 B S (six v0 v1 v2 v3 v4 v5) (six l0 l1 l2 l3 l4 l5) ms cs bd u) {N : Nat} (hn : l5.length = N) : u.ownsRow B 3 1 v5 N l5 := by
  subst hn
  exact h.own 5 (by omega)
theorem Tl.set0 {w3 u : World} {lab3 : Nat → Nat} {B S : Nat} {ms : List MR} {cs : List CR} {bd : Int} {v1 v2 v3 v4 v5 : Value} {l0 l1 l2 l3 l4 l5 : List Value} {p N cap : Nat} (h : Tl w3 lab3 B S (six (.slice (some ⟨p, 0, none⟩) N cap) v1 v2 v3 v4 v5) (six l0 l1 l2 l3 l4 l5) ms cs bd u) (i : Nat) (x : Value) (hi : i < l0.length) :
    Tl w3 lab3 B S (six (.slice (some ⟨p, 0, none⟩) N cap) v1 v2 v3 v4 v5) (six (l0.set i x) l1 l2 l3 l4 l5) ms cs bd (u.setCell ⟨p, i, none⟩ x) :=
  (h.set 0 (by omega) i x l0[i] (List.getElem?_eq_getElem hi) p rfl).congr (six_all rfl rfl rfl rfl rfl rfl) (six_all rfl rfl rfl rfl rfl rfl)
theorem Tl.at0 {w3 u : World} {lab3 : Nat → Nat} {B S : Nat} {ms : List MR} {cs : List CR} {bd : Int} {v0 v1 v2 v3 v4 v5 : Value} {l0 l1 l2 l3 l4 l5 : List Value} (h : Tl w3 lab3 B S (six v0 v1 v2 v3 v4 v5) (six l0 l1 l2 l3 l4 l5) ms cs bd u) {i N : Nat} {x : Value} (hn : l0.length = N) (hx : l0[i]? = some x) : ∃ p cap, v0 = .slice (some ⟨p, 0, none⟩) N cap ∧ u.cell? ⟨p, i, none⟩ = some x ∧ u.frozen? ⟨p, i, none⟩ = false := by
  subst hn
  exact h.here 0 (by omega) hx
theorem Tl.set1 {w3 u : World} {lab3 : Nat → Nat} {B S : Nat} {ms : List MR} {cs : List CR} {bd : Int} {v0 v2 v3 v4 v5 : Value} {l0 l1 l2 l3 l4 l5 : List Value} {p N cap : Nat} (h : Tl w3 lab3 B S (six v0 (.slice (some ⟨p, 0, none⟩) N cap) v2 v3 v4 v5) (six l0 l1 l2 l3 l4 l5) ms cs bd u) (i : Nat) (x : Value) (hi : i < l1.length) :
    Tl w3 lab3 B S (six v0 (.slice (some ⟨p, 0, none⟩) N cap) v2 v3 v4 v5) (six l0 (l1.set i x) l2 l3 l4 l5) ms cs bd (u.setCell ⟨p, i, none⟩ x) :=
  (h.set 1 (by omega) i x l1[i] (List.getElem?_eq_getElem hi) p rfl).congr (six_all rfl rfl rfl rfl rfl rfl) (six_all rfl rfl rfl rfl rfl rfl)
theorem Tl.at1 {w3 u : World} {lab3 : Nat → Nat} {B S : Nat} {ms : List MR} {cs : List CR} {bd : Int} {v0 v1 v2 v3 v4 v5 : Value} {l0 l1 l2 l3 l4 l5 : List Value} (h : Tl w3 lab3 B S (six v0 v1 v2 v3 v4 v5) (six l0 l1 l2 l3 l4 l5) ms cs bd u) {i N : Nat} {x : Value} (hn : l1.length = N) (hx : l1[i]? = some x) : ∃ p cap, v1 = .slice (some ⟨p, 0, none⟩) N cap ∧ u.cell? ⟨p, i, none⟩ = some x ∧ u.frozen? ⟨p, i, none⟩ = false := by
  subst hn
  exact h.here 1 (by omega) hx
theorem Tl.set4 {w3 u : World} {lab3 : Nat → Nat} {B S : Nat} {ms : List MR} {cs : List CR} {bd : Int} {v0 v1 v2 v3 v5 : Value} {l0 l1 l2 l3 l4 l5 : List Value} {p N cap : Nat} (h : Tl w3 lab3 B S (six v0 v1 v2 v3 (.slice (some ⟨p, 0, none⟩) N cap) v5) (six l0 l1 l2 l3 l4 l5) ms cs bd u) (i : Nat) (x : Value) (hi : i < l4.length) :
    Tl w3 lab3 B S (six v0 v1 v2 v3 (.slice (some ⟨p, 0, none⟩) N cap) v5) (six l0 l1 l2 l3 (l4.set i x) l5) ms cs bd (u.setCell ⟨p, i, none⟩ x) :=
  (h.set 4 (by omega) i x l4[i] (List.getElem?_eq_getElem hi) p rfl).congr (six_all rfl rfl rfl rfl rfl rfl) (six_all rfl rfl rfl rfl rfl rfl)
theorem Tl.at4 {w3 u : World} {lab3 : Nat → Nat} {B S : Nat} {ms : List MR} {cs : List CR} {bd : Int} {v0 v1 v2 v3 v4 v5 : Value} {l0 l1 l2 l3 l4 l5 : List Value} (h : Tl w3 lab3 B S (six v0 v1 v2 v3 v4 v5) (six l0 l1 l2 l3 l4 l5) ms cs bd u) {i N : Nat} {x : Value} (hn : l4.length = N) (hx : l4[i]? = some x) : ∃ p cap, v4 = .slice (some ⟨p, 0, none⟩) N cap ∧ u.cell? ⟨p, i, none⟩ = some x ∧ u.frozen? ⟨p, i, none⟩ = false := by
  subst hn
  exact h.here 4 (by omega) hx
theorem Tl.set5 {w3 u : World} {lab3 : Nat → Nat} {B S : Nat} {ms : List MR} {cs : List CR} {bd : Int} {v0 v1 v2 v3 v4 : Value} {l0 l1 l2 l3 l4 l5 : List Value} {p N cap : Nat} (h : Tl w3 lab3 B S (six v0 v1 v2 v3 v4 (.slice (some ⟨p, 0, none⟩) N cap)) (six l0 l1 l2 l3 l4 l5) ms cs bd u) (i : Nat) (x : Value) (hi : i < l5.length) :
    Tl w3 lab3 B S (six v0 v1 v2 v3 v4 (.slice (some ⟨p, 0, none⟩) N cap)) (six l0 l1 l2 l3 l4 (l5.set i x)) ms cs bd (u.setCell ⟨p, i, none⟩ x) :=
  (h.set 5 (by omega) i x l5[i] (List.getElem?_eq_getElem hi) p rfl).congr (six_all rfl rfl rfl rfl rfl rfl) (six_all rfl rfl rfl rfl rfl rfl)
theorem Tl.at5 {w3 u : World} {lab3 : Nat → Nat} {B S : Nat} {ms : List MR} {cs : List CR} {bd : Int} {v0 v1 v2 v3 v4 v5 : Value} {l0 l1 l2 l3 l4 l5 : List Value} (h : Tl w3 lab3 B S (six v0 v1 v2 v3 v4 v5) (six l0 l1 l2 l3 l4 l5) ms cs bd u) {i N : Nat} {x : Value} (hn : l5.length = N) (hx : l5[i]? = some x) : ∃ p cap, v5 = .slice (some ⟨p, 0, none⟩) N cap ∧ u.cell? ⟨p, i, none⟩ = some x ∧ u.frozen? ⟨p, i, none⟩ = false := by
  subst hn
  exact h.here 5 (by omega) hx
theorem Tl.cell {w3 u : World} {lab3 : Nat → Nat} {B S : Nat} {ms : List MR} {cs : List CR} {bd : Int} {v0 v1 v2 v3 v4 v5 : Value} {l0 l1 l2 l3 l4 l5 : List Value} (h : Tl w3 lab3 B S (six v0 v1 v2 v3 v4 v5) (six l0 l1 l2 l3 l4 l5) ms cs bd u) (k : Nat) : u.cell? ⟨S, k, none⟩ = #[v0, v1, v2, v3, v4, v5][k]? := cell_of h.blk k

end Go.Proofs.YthbnbocpddddmaaGreat

namespace Go.Proofs.YthbnbocpddddmaaGreat
open Go.RowKit

theorem made_lab {wb w3 w4 : World} {B S : Nat} {lab : Nat → Nat} {V : Nat → Value} {ms : List MR} {cs : List CR} {bd : Int} (h : Sh wb B S lab V ms cs bd) {i j : Nat} {r q : MR} (hr : ms[i]? = some r) (hq : ms[j]? = some q) {n m : Nat}
    (F3 : Fr (fun x => x = r.pm ∨ x = q.pm) wb w3) (F4 : Fr (fun _ => False) w3 w4) (m1 : MapG r.g w3 r.pm r.t (r.c + n) r.oP r.xs) (m2 : MapG q.g w3 q.pm q.t (q.c + m) q.oP q.xs) (hn : n ≤ 10000) (hm : m ≤ 10000) (o1 o2 p1 p2 : Nat → Prop) (a b : Nat) :
    ∃ ms', ms'.length = ms.length ∧ (rows ms' cs 5)[i]? = some (.int .i64 (engI r.g)) ∧ Tl w4 (labN wb.heap.size lab o1 o2 p1 p2 a b) B S V (rows ms' cs) ms' cs (bd + 5000000) w4 ∧ MapG r.g w4 r.pm r.t (r.c + n) r.oP r.xs ∧
      (∀ x, r.oP x → 7 ≤ labN wb.heap.size lab o1 o2 p1 p2 a b x) ∧ Fr (fun x => B ≤ x ∧ lab x ≠ 7) wb w4 ∧ ∀ x, x < wb.heap.size → labN wb.heap.size lab o1 o2 p1 p2 a b x = lab x := by
  obtain ⟨g1, g2, g3, g4, g5, g6, g7⟩ := h.m i r hr
  obtain ⟨k1, k2, k3, k4, k5, k6, k7⟩ := h.m j q hq
  have hl : ∀ x, x < wb.heap.size → labN wb.heap.size lab o1 o2 p1 p2 a b x = lab x := fun x hx => labN_old hx
  have G3 := h.tick2 (lab' := labN wb.heap.size lab o1 o2 p1 p2 a b) (bd' := bd + 5000000) hr hq F3 m1 m2 (by omega) (by omega) (by omega) (by omega) (by omega) hl
  have G4 := G3.old F4
  have hi := (List.getElem?_eq_some_iff.1 hr).1
  have hj := (List.getElem?_eq_some_iff.1 hq).1
  have hq' : (ms.set i { r with c := r.c + n })[j]?.map MR.g = some q.g ∧ (ms.set i { r with c := r.c + n })[j]?.map MR.pm = some q.pm ∧ (ms.set i { r with c := r.c + n })[j]?.map MR.rb = some q.rb := by
    rw [List.getElem?_set]
    by_cases c : i = j
    · subst c
      rw [hr] at hq
      cases hq
      rw [if_pos rfl, if_pos hi]
      exact ⟨rfl, rfl, rfl⟩
    · rw [if_neg c, hq]
      exact ⟨rfl, rfl, rfl⟩
  have hrow : ∀ k, rows ((ms.set i { r with c := r.c + n }).set j { q with c := q.c + m }) cs k = rows ms cs k := fun k => by
    obtain ⟨e1, e2, e3⟩ := hq'
    cases hc : (ms.set i { r with c := r.c + n })[j]? with
    | none => rw [hc] at e1; cases e1
    | some q' =>
      rw [hc] at e1 e2 e3
      simp only [Option.map_some, Option.some.injEq] at e1 e2 e3
      exact (rows_setM (cs := cs) (r' := { q with c := q.c + m }) hc e2.symm e3.symm e1.symm k).trans (rows_setM (r' := { r with c := r.c + n }) hr rfl rfl rfl k)
  refine ⟨(ms.set i { r with c := r.c + n }).set j { q with c := q.c + m }, by simp, ?_, ?_, m1.fr F4 fun _ _ e => e, fun x hx => ?_, ?_, hl⟩
  · rw [hrow]
    show (ms.map _)[i]? = _
    rw [List.getElem?_map, hr]; rfl
  · exact Tl.start ⟨G4.x.congrL fun k _ => hrow k, G4.m, G4.c, G4.hB, G4.n8⟩
  · rw [hl x (g1.lt x hx)]
    have := (g3 x hx).1
    omega
  · refine Fr.trans (S' := fun _ => False) (F3.mono fun x _ e => ?_) F4 fun _ _ e => e.elim
    rcases e with e | e
    · rw [e]; have := g3 _ g1.self; exact ⟨this.2, by omega⟩
    · rw [e]; have := k3 _ k1.self; exact ⟨this.2, by omega⟩

theorem made_1 {wb w3 w4 : World} {B : Nat} {lab : Nat → Nat} {bd : Int} {g t : Bool} {n1 lb : Nat} {xs : Row} {o1 o2 p1 p2 : Nat → Prop} {i b : Nat} (L3 : MapG g w3 n1 t 0 o1 xs) (F4 : Fr (fun _ => False) w3 w4) (s1 : ∀ x, o1 x → wb.heap.size ≤ x) (hw : wb.heap.size ≤ w3.heap.size)
    (RL : RefM w4 B lb t p1 xs) (t1 : ∀ x, p1 x → w3.heap.size ≤ x) (hB : B ≤ wb.heap.size) (l2 : ∀ x, o2 x → x < w3.heap.size) (hl : xs.length ≤ 400) (hb : 0 ≤ bd) : MOk w4 B (labN wb.heap.size lab o1 o2 p1 p2 (10 + 2 * i) b) bd i ⟨n1, lb, g, t, 0, o1, p1, xs⟩ := by
  refine ⟨L3.fr F4 fun _ _ e => e, RL, fun x hx => ⟨labN_1 (s1 x hx) hx, Nat.le_trans hB (s1 x hx)⟩, fun x hx => ⟨?_, by have := t1 x hx; omega⟩, hl, Int.le_refl _, hb⟩
  have := t1 x hx
  rw [labN_3 (by omega) (fun e => by have := L3.lt x e; omega) (fun e => by have := l2 x e; omega) hx]
  omega

theorem made_2 {wb w3 w4 : World} {B : Nat} {lab : Nat → Nat} {bd : Int} {g t : Bool} {n2 hb : Nat} {xs : Row} {o1 o2 p1 p2 : Nat → Prop} {i a : Nat} (L3 : MapG g w3 n2 t 0 o2 xs) (F4 : Fr (fun _ => False) w3 w4) (s2 : ∀ x, o2 x → wb.heap.size ≤ x) (hw : wb.heap.size ≤ w3.heap.size)
    (RL : RefM w4 B hb t p2 xs) (t2 : ∀ x, p2 x → w3.heap.size ≤ x) (hB : B ≤ wb.heap.size) (l1 : ∀ x, o1 x → x < w3.heap.size) (d : ∀ x, o1 x → ¬ o2 x) (d' : ∀ x, p1 x → ¬ p2 x) (hl : xs.length ≤ 400) (hbd : 0 ≤ bd) : MOk w4 B (labN wb.heap.size lab o1 o2 p1 p2 a (10 + 2 * i)) bd i ⟨n2, hb, g, t, 0, o2, p2, xs⟩ := by
  refine ⟨L3.fr F4 fun _ _ e => e, RL, fun x hx => ⟨labN_2 (s2 x hx) (fun e => d x e hx) hx, Nat.le_trans hB (s2 x hx)⟩, fun x hx => ⟨?_, by have := t2 x hx; omega⟩, hl, Int.le_refl _, hbd⟩
  have := t2 x hx
  rw [labN_4 (by omega) (fun e => by have := l1 x e; omega) (fun e => by have := L3.lt x e; omega) (fun e => d' x e hx) hx]
  omega

/-- The six rows, by name. -/
abbrev rsix (ms : List MR) (cs : List CR) : Nat → List Value := six (rows ms cs 0) (rows ms cs 1) (rows ms cs 2) (rows ms cs 3) (rows ms cs 4) (rows ms cs 5)

theorem Tl.shape {w3 u : World} {lab3 : Nat → Nat} {B S : Nat} {V : Nat → Value} {ms : List MR} {cs : List CR} {bd : Int} (h : Tl w3 lab3 B S V (rows ms cs) ms cs bd u) {i : Nat} (hi : i < ms.length) :
    ∃ p0 c0 p1 c1 a2 c2 a3 c3 a4 c4 p5 c5, Tl w3 lab3 B S (six (.slice (some ⟨p0, 0, none⟩) ms.length c0) (.slice (some ⟨p1, 0, none⟩) ms.length c1) (.slice a2 cs.length c2) (.slice a3 cs.length c3) (.slice a4 cs.length c4) (.slice (some ⟨p5, 0, none⟩) ms.length c5)) (rsix ms cs) ms cs bd u := by
  have n0 : (rows ms cs 0).length = ms.length := List.length_map ..
  have n1 : (rows ms cs 1).length = ms.length := List.length_map ..
  have n2 : (rows ms cs 2).length = cs.length := List.length_map ..
  have n3 : (rows ms cs 3).length = cs.length := List.length_map ..
  have n4 : (rows ms cs 4).length = cs.length := List.length_map ..
  have n5 : (rows ms cs 5).length = ms.length := List.length_map ..
  obtain ⟨p0, c0, e0, _⟩ := h.here 0 (by omega) (List.getElem?_eq_getElem (by rw [n0]; exact hi))
  obtain ⟨p1, c1, e1, _⟩ := h.here 1 (by omega) (List.getElem?_eq_getElem (by rw [n1]; exact hi))
  obtain ⟨a2, c2, e2⟩ := own_shape (h.own 2 (by omega))
  obtain ⟨a3, c3, e3⟩ := own_shape (h.own 3 (by omega))
  obtain ⟨a4, c4, e4⟩ := own_shape (h.own 4 (by omega))
  obtain ⟨p5, c5, e5, _⟩ := h.here 5 (by omega) (List.getElem?_eq_getElem (by rw [n5]; exact hi))
  rw [n0] at e0
  rw [n1] at e1
  rw [n2] at e2
  rw [n3] at e3
  rw [n4] at e4
  rw [n5] at e5
  exact ⟨p0, c0, p1, c1, a2, c2, a3, c3, a4, c4, p5, c5, h.congr (six_all e0.symm e1.symm e2.symm e3.symm e4.symm e5.symm) (six_all rfl rfl rfl rfl rfl rfl)⟩

theorem rows_push (ms : List MR) (cs : List CR) (r : MR) : ∀ j, j < 6 → rows (ms ++ [r]) cs j = six (rows ms cs 0 ++ [ptr r.pm]) (rows ms cs 1 ++ [ptr r.rb]) (rows ms cs 2) (rows ms cs 3) (rows ms cs 4) (rows ms cs 5 ++ [.int .i64 (engI r.g)]) j := fun j hj => by
  match j, hj with
  | 0, _ => simp [rows, six]
  | 1, _ => simp [rows, six]
  | 2, _ => simp [rows, six]
  | 3, _ => simp [rows, six]
  | 4, _ => simp [rows, six]
  | 5, _ => simp [rows, six]

theorem Tl.pushed {w3 u : World} {lab3 : Nat → Nat} {B S : Nat} {V : Nat → Value} {ms : List MR} {cs : List CR} {bd : Int} {r : MR} (h : Tl w3 lab3 B S V (six (rows ms cs 0 ++ [ptr r.pm]) (rows ms cs 1 ++ [ptr r.rb]) (rows ms cs 2) (rows ms cs 3) (rows ms cs 4) (rows ms cs 5 ++ [.int .i64 (engI r.g)])) ms cs bd u) (h8 : ms.length < 8) (hr : MOk w3 B lab3 bd ms.length r) : Tl w3 lab3 B S V (rows (ms ++ [r]) cs) (ms ++ [r]) cs bd u :=
  h.push h8 r hr (rows_push ms cs r)

/-- The cursors' row, while the cursors of the map at j go. -/
def ro (j k : Nat) (cs : List CR) : List Value := ((cs.take k).map (goneC j) ++ cs.drop k).map fun q => .int .i64 q.o

theorem ro_len (j k : Nat) (cs : List CR) (h : k ≤ cs.length) : (ro j k cs).length = cs.length := by
  unfold ro
  simp
  omega
theorem ro_zero (j : Nat) (ms : List MR) (cs : List CR) : ro j 0 cs = rows ms cs 4 := by
  unfold ro rows
  simp
theorem ro_all (j : Nat) (ms : List MR) (cs : List CR) : ro j cs.length cs = rows ms (cs.map (goneC j)) 4 := by
  unfold ro rows
  simp
theorem ro_at (j k : Nat) (cs : List CR) (q : CR) (hq : cs[k]? = some q) : (ro j k cs)[k]? = some (.int .i64 q.o) := by
  have hk := (List.getElem?_eq_some_iff.1 hq).1
  unfold ro
  rw [List.getElem?_map, List.getElem?_append_right (by simp; omega)]
  simp only [List.length_map, List.length_take, Nat.min_eq_left (Nat.le_of_lt hk), Nat.sub_self, List.getElem?_drop, Nat.add_zero, hq, Option.map_some]
theorem ro_get (j k : Nat) (cs : List CR) (n : Nat) : (ro j k cs)[n]? = (cs[n]?).map fun q => .int .i64 (if n < k then goneC j q else q).o := by
  unfold ro
  rw [List.getElem?_map]
  by_cases h : n < k
  · by_cases h' : n < cs.length
    · rw [List.getElem?_append_left (by simp; omega), List.getElem?_map, List.getElem?_take_of_lt h]
      rw [List.getElem?_eq_getElem h']
      simp [h]
    · rw [List.getElem?_eq_none (by simp; omega), List.getElem?_eq_none (by omega)]
      rfl
  · by_cases h' : k ≤ cs.length
    · rw [List.getElem?_append_right (by simp; omega)]
      simp only [List.length_map, List.length_take, Nat.min_eq_left h', List.getElem?_drop, h, if_false]
      rw [show k + (n - k) = n by omega]
    · rw [List.getElem?_eq_none (by simp; omega), List.getElem?_eq_none (by omega)]
      rfl
theorem ro_hit (j k : Nat) (cs : List CR) (q : CR) (hq : cs[k]? = some q) (e : q.o = ((j : Nat) : Int)) : (ro j k cs).set k (.int .i64 (-1)) = ro j (k + 1) cs := by
  have hk := (List.getElem?_eq_some_iff.1 hq).1
  apply List.ext_getElem?
  intro n
  rw [List.getElem?_set, ro_len j k cs (by omega), ro_get, ro_get]
  by_cases c : k = n
  · subst c
    rw [if_pos rfl, if_pos hk, hq]
    simp [goneC, e]
  · rw [if_neg c]
    by_cases h : n < k
    · simp only [h, show n < k + 1 by omega]
    · simp only [h, show ¬ n < k + 1 by omega]
theorem ro_miss (j k : Nat) (cs : List CR) (q : CR) (hq : cs[k]? = some q) (e : ¬ q.o = ((j : Nat) : Int)) : ro j k cs = ro j (k + 1) cs := by
  apply List.ext_getElem?
  intro n
  rw [ro_get, ro_get]
  by_cases c : n = k
  · subst c
    rw [hq]
    simp [goneC, e]
  · by_cases h : n < k
    · simp only [h, show n < k + 1 by omega]
    · simp only [h, show ¬ n < k + 1 by omega]

theorem map_set {α β : Type} (f : α → β) (ms : List α) (j : Nat) (r : α) : (ms.set j r).map f = (ms.map f).set j (f r) := by
  simp

theorem rows_put (ms : List MR) (cs : List CR) (j : Nat) (r : MR) : ∀ k, k < 6 → rows (ms.set j r) (cs.map (goneC j)) k = six ((rows ms cs 0).set j (ptr r.pm)) ((rows ms cs 1).set j (ptr r.rb)) (rows ms cs 2) (rows ms cs 3) (ro j cs.length cs) ((rows ms cs 5).set j (.int .i64 (engI r.g))) k := fun k hk => by
  have hc : ∀ q, (goneC j q).cb = q.cb ∧ (goneC j q).db = q.db := fun q => by
    unfold goneC
    split
    · exact ⟨rfl, rfl⟩
    · exact ⟨rfl, rfl⟩
  match k, hk with
  | 0, _ => exact map_set _ ms j r
  | 1, _ => exact map_set _ ms j r
  | 2, _ => simp [rows, six, hc]
  | 3, _ => simp [rows, six, hc]
  | 4, _ => exact (ro_all j (ms.set j r) cs).symm
  | 5, _ => exact map_set _ ms j r

theorem Tl.putted {w3 u : World} {lab3 : Nat → Nat} {B S : Nat} {V : Nat → Value} {ms : List MR} {cs : List CR} {bd : Int} {r : MR} {j : Nat} (h : Tl w3 lab3 B S V (six ((rows ms cs 0).set j (ptr r.pm)) ((rows ms cs 1).set j (ptr r.rb)) (rows ms cs 2) (rows ms cs 3) (ro j cs.length cs) ((rows ms cs 5).set j (.int .i64 (engI r.g)))) ms cs bd u) (hj : j < ms.length) (hr : MOk w3 B lab3 bd j r) : Tl w3 lab3 B S V (rows (ms.set j r) (cs.map (goneC j))) (ms.set j r) (cs.map (goneC j)) bd u :=
  h.put j hj r hr (rows_put ms cs j r)

theorem Tl.get0 {w3 u : World} {lab3 : Nat → Nat} {B S : Nat} {ms : List MR} {cs : List CR} {bd : Int} {v1 v2 v3 v4 v5 : Value} {l0 l1 l2 l3 l4 l5 : List Value} {p N cap : Nat} (h : Tl w3 lab3 B S (six (.slice (some ⟨p, 0, none⟩) N cap) v1 v2 v3 v4 v5) (six l0 l1 l2 l3 l4 l5) ms cs bd u) {i : Nat} {x : Value} (hx : l0[i]? = some x) : u.cell? ⟨p, i, none⟩ = some x ∧ u.frozen? ⟨p, i, none⟩ = false := by
  obtain ⟨p', cap', e1, e2, e3⟩ := h.at0 rfl hx
  have e : p = p' := by simpa using (Value.slice.inj e1).1
  subst e
  exact ⟨e2, e3⟩
theorem Tl.get1 {w3 u : World} {lab3 : Nat → Nat} {B S : Nat} {ms : List MR} {cs : List CR} {bd : Int} {v0 v2 v3 v4 v5 : Value} {l0 l1 l2 l3 l4 l5 : List Value} {p N cap : Nat} (h : Tl w3 lab3 B S (six v0 (.slice (some ⟨p, 0, none⟩) N cap) v2 v3 v4 v5) (six l0 l1 l2 l3 l4 l5) ms cs bd u) {i : Nat} {x : Value} (hx : l1[i]? = some x) : u.cell? ⟨p, i, none⟩ = some x ∧ u.frozen? ⟨p, i, none⟩ = false := by
  obtain ⟨p', cap', e1, e2, e3⟩ := h.at1 rfl hx
  have e : p = p' := by simpa using (Value.slice.inj e1).1
  subst e
  exact ⟨e2, e3⟩
theorem Tl.get4 {w3 u : World} {lab3 : Nat → Nat} {B S : Nat} {ms : List MR} {cs : List CR} {bd : Int} {v0 v1 v2 v3 v5 : Value} {l0 l1 l2 l3 l4 l5 : List Value} {p N cap : Nat} (h : Tl w3 lab3 B S (six v0 v1 v2 v3 (.slice (some ⟨p, 0, none⟩) N cap) v5) (six l0 l1 l2 l3 l4 l5) ms cs bd u) {i : Nat} {x : Value} (hx : l4[i]? = some x) : u.cell? ⟨p, i, none⟩ = some x ∧ u.frozen? ⟨p, i, none⟩ = false := by
  obtain ⟨p', cap', e1, e2, e3⟩ := h.at4 rfl hx
  have e : p = p' := by simpa using (Value.slice.inj e1).1
  subst e
  exact ⟨e2, e3⟩
theorem Tl.get5 {w3 u : World} {lab3 : Nat → Nat} {B S : Nat} {ms : List MR} {cs : List CR} {bd : Int} {v0 v1 v2 v3 v4 : Value} {l0 l1 l2 l3 l4 l5 : List Value} {p N cap : Nat} (h : Tl w3 lab3 B S (six v0 v1 v2 v3 v4 (.slice (some ⟨p, 0, none⟩) N cap)) (six l0 l1 l2 l3 l4 l5) ms cs bd u) {i : Nat} {x : Value} (hx : l5[i]? = some x) : u.cell? ⟨p, i, none⟩ = some x ∧ u.frozen? ⟨p, i, none⟩ = false := by
  obtain ⟨p', cap', e1, e2, e3⟩ := h.at5 rfl hx
  have e : p = p' := by simpa using (Value.slice.inj e1).1
  subst e
  exact ⟨e2, e3⟩

end Go.Proofs.YthbnbocpddddmaaGreat
