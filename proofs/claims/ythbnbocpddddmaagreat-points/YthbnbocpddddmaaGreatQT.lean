import Derived.Test.YthbnbocpddddmaaGreatQG
import Derived.Test.YthbnbocpddddmaaGreatQH
import Derived.BigRegion
import Derived.Test.YthbnbocpddddmaaGreatQI
namespace Go.Proofs.YthbnbocpddddmaaGreat.SkI
open Go.RowKit

/-- The links when the levels below l have been done: the node at i + 1 is passed over. -/
def lkR (all : List Nd) (i : Nat) (Q : Nat → Nat) (l j m : Nat) : Option Addr × Int :=
  if m < l ∧ j = Q m then (tgt m (all.drop (i + 2)), (i : Int) - Q m + (dist m (all.drop (i + 2)) : Nat)) else canon all j m

theorem rem_split {all : List Nd} {i : Nat} {g : Nd} (hg : all[i + 1]? = some g) {q m : Nat} {n : Nd} (hs : Stop all i m q n) :
    dist m (all.drop (q + 1)) = (i - q) + dist m (g :: all.drop (i + 2)) ∧ tgt m (all.drop (q + 1)) = tgt m (g :: all.drop (i + 2)) := by
  obtain ⟨s1, s2, s3, s4⟩ := hs
  obtain ⟨hl, hge⟩ := List.getElem?_eq_some_iff.1 hg
  have er : all.drop (q + 1) = (all.take (i + 1)).drop (q + 1) ++ g :: all.drop (i + 2) := by
    have e1 : all.drop (i + 1) = g :: all.drop (i + 2) := by rw [List.drop_eq_getElem_cons hl, hge]
    rw [← e1, ← List.drop_append_of_le_length (by simp; omega : q + 1 ≤ (all.take (i + 1)).length), List.take_append_drop]
  have el : ((all.take (i + 1)).drop (q + 1)).length = i - q := by simp; omega
  have hno : ∀ x ∈ (all.take (i + 1)).drop (q + 1), x.h ≤ m := by
    intro x hx
    obtain ⟨t, ht⟩ := List.getElem?_of_mem hx
    have htl : t < ((all.take (i + 1)).drop (q + 1)).length := (List.getElem?_eq_some_iff.1 ht).1
    rw [List.getElem?_drop, List.getElem?_take_of_lt (by omega)] at ht
    exact s4 (q + 1 + t) x (by omega) (by omega) ht
  obtain ⟨a1, a2⟩ := dist_none m _ (g :: all.drop (i + 2)) hno
  rw [er, a1, a2, el]
  exact ⟨rfl, rfl⟩

theorem blocks_sub {a b : List Nd} (h : List.Sublist a b) : List.Sublist (blocks a) (blocks b) := by
  induction h with
  | slnil => exact List.Sublist.refl _
  | cons x _ ih => simp only [blocks, List.flatMap_cons] at ih ⊢; exact (ih.cons _).cons _
  | cons_cons x _ ih => simp only [blocks, List.flatMap_cons] at ih ⊢; exact (ih.cons_cons _).cons_cons _

/-- All levels done: the list without it. -/
theorem skip_removed {w : World} {all : List Nd} {g : Nd} {i : Nat} {Q : Nat → Nat} (h : SkipAt w all (lkR all i Q 9)) (hg : all[i + 1]? = some g) (h9 : ∀ n ∈ all, n.h ≤ 9)
    (hQ : ∀ l, l < 9 → ∃ n, Stop all i l (Q l) n) : SkipAt w (all.take (i + 1) ++ all.drop (i + 2)) (canon (all.take (i + 1) ++ all.drop (i + 2))) := by
  obtain ⟨hl, hge⟩ := List.getElem?_eq_some_iff.1 hg
  have hlen : (all.take (i + 1)).length = i + 1 := by simp; omega
  have e1 : all.drop (i + 1) = g :: all.drop (i + 2) := by rw [List.drop_eq_getElem_cons hl, hge]
  have hnd : (blocks (all.take (i + 1) ++ all.drop (i + 2))).Nodup := by
    have hsub : List.Sublist (all.take (i + 1) ++ all.drop (i + 2)) all := by
      have : List.Sublist (all.take (i + 1) ++ all.drop (i + 2)) (all.take (i + 1) ++ all.drop (i + 1)) := List.Sublist.append_left (by rw [e1]; exact List.sublist_cons_self _ _) _
      rwa [List.take_append_drop] at this
    exact List.Nodup.sublist (blocks_sub hsub) h.2
  refine ⟨fun j n hj => ?_, hnd⟩
  rcases Nat.lt_or_ge j (i + 1) with c | c
  · rw [List.getElem?_append_left (by omega), List.getElem?_take_of_lt c] at hj
    obtain ⟨g1, g2⟩ := h.1 j n hj
    refine ⟨g1, g2.trans ?_⟩
    simp only [linkB]
    congr 3
    refine lcells_congr _ _ _ fun m hm => ?_
    have hn9 := h9 n (List.mem_of_getElem? hj)
    obtain ⟨qn, hst⟩ := hQ m (by omega)
    have hst' := hst
    obtain ⟨s1, s2, s3, s4⟩ := hst
    have er' : (all.take (i + 1) ++ all.drop (i + 2)).drop (j + 1) = (all.take (i + 1)).drop (j + 1) ++ all.drop (i + 2) := List.drop_append_of_le_length (by omega)
    have el : ((all.take (i + 1)).drop (j + 1)).length = i - j := by simp; omega
    have er : all.drop (j + 1) = (all.take (i + 1)).drop (j + 1) ++ g :: all.drop (i + 2) := by
      rw [← e1, ← List.drop_append_of_le_length (by omega : j + 1 ≤ (all.take (i + 1)).length), List.take_append_drop]
    unfold lkR
    by_cases d : j = Q m
    · rw [if_pos ⟨by omega, d⟩]
      have hno : ∀ x ∈ (all.take (i + 1)).drop (j + 1), x.h ≤ m := by
        intro x hx
        obtain ⟨t, ht⟩ := List.getElem?_of_mem hx
        have htl : t < ((all.take (i + 1)).drop (j + 1)).length := (List.getElem?_eq_some_iff.1 ht).1
        rw [List.getElem?_drop, List.getElem?_take_of_lt (by omega)] at ht
        exact s4 (j + 1 + t) x (by omega) (by omega) ht
      obtain ⟨a1, a2⟩ := dist_none m _ (all.drop (i + 2)) hno
      simp only [canon]
      rw [er', a1, a2, el, ← d]
      congr 1; omega
    · rw [if_neg (fun e => d e.2)]
      have hso : ∃ x ∈ (all.take (i + 1)).drop (j + 1), m < x.h := by
        have hlt : j < Q m := by
          rcases Nat.lt_or_ge j (Q m) with f | f
          · exact f
          · have := s4 j n (by omega) (by omega) hj; omega
        refine ⟨qn, ?_, s3⟩
        refine List.mem_of_getElem? (i := Q m - (j + 1)) ?_
        rw [List.getElem?_drop, List.getElem?_take_of_lt (by omega), ← s1]; congr 1; omega
      obtain ⟨a1, a2⟩ := dist_some m _ (g :: all.drop (i + 2)) (all.drop (i + 2)) hso
      simp only [canon]
      rw [er, er', a1, a2]
  · rw [List.getElem?_append_right (by omega), hlen, List.getElem?_drop] at hj
    have hj' : all[j + 1]? = some n := by rw [← hj]; congr 1; omega
    obtain ⟨g1, g2⟩ := h.1 (j + 1) n hj'
    refine ⟨g1, g2.trans ?_⟩
    simp only [linkB]
    congr 3
    refine lcells_congr _ _ _ fun m hm => ?_
    have hn9 := h9 n (List.mem_of_getElem? hj')
    obtain ⟨qn, s1, s2, s3, s4⟩ := hQ m (by omega)
    unfold lkR
    rw [if_neg (by omega)]
    have et : (all.take (i + 1) ++ all.drop (i + 2)).drop (j + 1) = all.drop (j + 1 + 1) := by
      rw [List.drop_append, hlen, List.drop_eq_nil_of_le (by omega), List.drop_drop]
      simp only [List.nil_append]; congr 1; omega
    simp only [canon]
    rw [et]

section
variable {P : Program} (w : World)
theorem run_eql_nil_ptr {tp te : TypeId} (a : Addr) (hp : P.underlying tp = some (.pointer te)) : (binOp .eql tp (.pointer none) (.pointer (some a))).run P w = .ok (.bool false) w := by
  have h : ∀ d : Nat, (Op.equalIn (d + 1) tp (.pointer none) (.pointer (some a))).run P w = .ok false w := fun d => by
    simp [Op.equalIn, run_underlying hp]
  simp only [binOp]
  simp [Op.equal, Op.maxDepth, h 9999]
end

theorem eql_gone {w : World} {all : List Nd} {lk : Nat → Nat → Option Addr × Int} (h : SkipAt w all lk) {g : Nd} {i m : Nat} (hg : all[i + 1]? = some g) :
    (m < g.h → (binOp .eql 217 (.pointer (tgt m (g :: all.drop (i + 2)))) (.pointer (some ⟨g.nb, 0, none⟩))).run Tryz.prog w = .ok (.bool true) w) ∧
    (¬ m < g.h → (binOp .eql 217 (.pointer (tgt m (g :: all.drop (i + 2)))) (.pointer (some ⟨g.nb, 0, none⟩))).run Tryz.prog w = .ok (.bool false) w) := by
  obtain ⟨j, hj, hz⟩ := info_node
  refine ⟨fun c => ?_, fun c => ?_⟩
  · simp only [tgt]; rw [if_pos c]
    exact run_eql_ptr_same w _ Tryz.underlying217 hj
  · simp only [tgt]; rw [if_neg c]
    obtain ⟨_, _, _, d4⟩ := dist_spec m (all.drop (i + 2))
    rcases d4 with ⟨x, _, x2, _, x4⟩ | ⟨_, x4⟩
    · rw [x4]
      rw [List.getElem?_drop] at x2
      have hne : (⟨x.nb, 0, none⟩ : Addr) ≠ ⟨g.nb, 0, none⟩ := fun e => by
        have := blocks_inj h.2 x2 hg (Or.inl (by simpa using congrArg Addr.block e)); omega
      exact run_eql_ptr_other w Tryz.underlying217 hj hz hne (h.1 _ _ x2).1 (h.1 _ _ hg).1
    · rw [x4]; exact run_eql_nil_ptr w _ Tryz.underlying217

def RemAt (all : List Nd) (i : Nat) (Q : Nat → Nat) (p : Nat) (lb : Obj) (own : Nat → Prop) (w : World) (l : Nat) (wr : World) : Prop :=
  SkipAt wr all (lkR all i Q l) ∧ wr.heap[p]? = some lb ∧ Fr own w wr

theorem rem_step {all : List Nd} {n : Nd} {i p l : Nat} {Q : Nat → Nat} {lb : Obj} {own : Nat → Prop} {w wr : World} (h : RemAt all i Q p lb own w l wr) (gn : all[Q l]? = some n) (g3 : l < n.h)
    (hp : p ∉ blocks all) (ho : ∀ x ∈ blocks all, own x) (W : World) (x : Option Addr) (y : Int) (hx : x = tgt l (all.drop (i + 2))) (hy : y = (i : Int) - Q l + (dist l (all.drop (i + 2)) : Nat))
    (hW : ∀ b, b < wr.heap.size → W.heap[b]? = ((wr.setCell ⟨n.lb, l * 2, none⟩ (.pointer x)).setCell ⟨n.lb, l * 2 + 1, none⟩ (.int .i64 y)).heap[b]?) (f1 : W.os = wr.os) (f2 : W.tape = wr.tape) (f3 : W.output = wr.output) (f4 : wr.heap.size ≤ W.heap.size) :
    RemAt all i Q p lb own w (l + 1) W := by
  obtain ⟨s1, s2, s3⟩ := h
  have t1 := s1.set2 gn g3 x y
  have hm := List.mem_of_getElem? gn
  have np : p ≠ n.lb := fun e => hp (mem_blocks.2 ⟨n, hm, Or.inr e⟩)
  refine ⟨(t1.congr fun b hb => hW b (by have := t1.lt b hb; simpa using this)).lk fun j n' _ m _ => ?_, ?_, ?_⟩
  · unfold lkR
    by_cases c : j = Q l ∧ m = l
    · obtain ⟨rfl, rfl⟩ := c
      simp [hx, hy]
    · rw [if_neg c]
      by_cases d : m < l ∧ j = Q m
      · rw [if_pos d, if_pos ⟨by omega, d.2⟩]
      · rw [if_neg d, if_neg]
        rintro ⟨e1, e2⟩
        by_cases f : m = l
        · subst f; exact c ⟨e2, rfl⟩
        · exact d ⟨by omega, e2⟩
  · rw [hW p (lt_of_blk s2), blk_set_ne _ _ np, blk_set_ne _ _ np]; exact s2
  · refine ⟨f1.trans s3.os, f2.trans s3.tape, f3.trans s3.output, Nat.le_trans s3.size f4, fun b hb hn => ?_⟩
    have hbn : b ≠ n.lb := fun e => hn (e ▸ ho _ (mem_blocks.2 ⟨n, hm, Or.inr rfl⟩))
    rw [hW b (Nat.lt_of_lt_of_le hb s3.size), blk_set_ne _ _ hbn, blk_set_ne _ _ hbn]
    exact s3.block b hb hn

theorem set_twice (w : World) (a : Addr) (u v : Value) (b : Nat) : ((w.setCell a u).setCell a v).heap[b]? = (w.setCell a v).heap[b]? := by
  simp only [World.setCell, Array.getElem?_modify]
  by_cases c : a.block = b
  · simp only [c, if_true]
    cases w.heap[b]? with
    | none => rfl
    | some o => cases o <;> simp <;> split <;> simp
  · simp only [c, if_false]

/-- A store of what lies there turns nothing. -/
theorem set_same_ptr {w : World} {b o : Nat} {v : Value} {o2 : Nat} {u : Value} (h : w.cell? ⟨b, o, none⟩ = some v) (c : Nat) :
    ((w.setCell ⟨b, o, none⟩ v).setCell ⟨b, o2, none⟩ u).heap[c]? = (w.setCell ⟨b, o2, none⟩ u).heap[c]? := by
  have e : (w.setCell ⟨b, o, none⟩ v).heap[c]? = w.heap[c]? := by
    by_cases d : c = b
    · subst d
      cases hb : w.heap[c]? with
      | none => simp [World.cell?, hb] at h
      | some ob =>
        cases ob with
        | cells cs t m =>
          rw [blk_set hb]
          rw [cell_of hb] at h
          obtain ⟨hl, he⟩ := Array.getElem?_eq_some_iff.1 h
          congr 2
          rw [← he]
          simp [Array.setIfInBounds, hl]
        | _ => simp [World.cell?, hb] at h
    · exact blk_set_ne _ _ d
  simp only [World.setCell, Array.getElem?_modify] at e ⊢
  rw [e]

theorem cast1 (i q : Nat) (h : q ≤ i) : ((i - q + 1 : Nat) : Int) = (i : Int) - q + 1 := by omega
theorem cast2 (i q d : Nat) (h : q ≤ i) : ((i - q + (d + 1) : Nat) : Int) = (i : Int) - q + d + 1 := by omega

theorem rem_done {hd : Nd} {ns : List Nd} {g : Nd} {i p : Nat} {Q : Nat → Nat} {laid : Int} {own : Nat → Prop} {w wr : World} (h : RemAt (hd :: ns) i Q p (listB hd.nb ns.length laid) own w 9 wr) (hg : ns[i]? = some g)
    (h3 : hd.h = 9) (h4 : ∀ n ∈ ns, 1 ≤ n.h ∧ n.h ≤ 9) (hL : 0 ≤ laid ∧ laid < 18446744073709551616) (hp : p ∉ blocks (hd :: ns))
    (h7 : ∀ x, own x ↔ x = p ∨ x ∈ blocks (hd :: ns)) (hQ : ∀ l, l < 9 → ∃ n, Stop (hd :: ns) i l (Q l) n) :
    ∃ own', Eng (wr.setCell ⟨p, 1, none⟩ (.int .i64 ((ns.length : Int) - 1))) p own' ((ns.map fun n => (n.k, n.v)).eraseIdx i) ∧ (∀ x, own' x → own x ∨ w.heap.size ≤ x) ∧ Fr own w (wr.setCell ⟨p, 1, none⟩ (.int .i64 ((ns.length : Int) - 1))) := by
  obtain ⟨s1, s2, s3⟩ := h
  have hil := (List.getElem?_eq_some_iff.1 hg).1
  have t := skip_removed s1 (by simpa using hg) (fun n hn => by rcases List.mem_cons.1 hn with rfl | hn; omega; exact (h4 n hn).2) hQ
  simp only [List.take_succ_cons, List.drop_succ_cons, List.cons_append] at t
  have ee : ns.eraseIdx i = ns.take i ++ ns.drop (i + 1) := List.eraseIdx_eq_take_drop_succ _ _
  rw [← ee] at t
  have hsubm : ∀ n, n ∈ ns.eraseIdx i → n ∈ ns := fun n hn => List.mem_of_mem_eraseIdx hn
  have hb : ∀ x, x ∈ blocks (hd :: ns.eraseIdx i) → x ∈ blocks (hd :: ns) := by
    intro x hx
    obtain ⟨n, hn, e⟩ := mem_blocks.1 hx
    rcases List.mem_cons.1 hn with rfl | hn
    · exact mem_blocks.2 ⟨n, by simp, e⟩
    · exact mem_blocks.2 ⟨n, by simp [hsubm n hn], e⟩
  refine ⟨fun x => x = p ∨ x ∈ blocks (hd :: ns.eraseIdx i), ⟨hd, ns.eraseIdx i, laid, ?_, hL.1, hL.2, t.congr fun x hx => blk_set_ne _ _ fun e => hp (e ▸ hb x hx), h3, fun n hn => h4 n (hsubm n hn), fun e => hp (hb p e), ?_, fun x => Iff.rfl⟩, ?_, ?_⟩
  · rw [blk_set s2 1]
    have e : ((ns.eraseIdx i).length : Int) = (ns.length : Int) - 1 := by rw [List.length_eraseIdx_of_lt hil]; omega
    simp only [listB, e]
    rfl
  · rw [ee, List.eraseIdx_eq_take_drop_succ, List.map_append, List.map_take, List.map_drop]
  · rintro x (e | e)
    · exact Or.inl ((h7 x).2 (Or.inl e))
    · exact Or.inl ((h7 x).2 (Or.inr (hb x e)))
  · exact Fr.setCell s3 (by exact fun _ => (h7 p).2 (Or.inl rfl)) _

set_option maxRecDepth 100000 in
set_option maxHeartbeats 1000000 in
theorem kRemove_any (p : Nat) (own : Nat → Prop) (xs : RowI) (i : Nat) (w : World) (h : Eng w p own xs) (hi : i < xs.length) (hs : xs.length ≤ 4000) :
    Calls Tryz.prog 269 #[.pointer (some ⟨p, 0, none⟩), .int .i64 i] w fun e w' => e = .returned (.tuple #[]) ∧
      ∃ own', Eng w' p own' (xs.eraseIdx i) ∧ (∀ x, own' x → own x ∨ w.heap.size ≤ x) ∧ Fr own w w' := by
  obtain ⟨hd, ns, laid, h1, l0, l1, h2, h3, h4, h5, rfl, h7⟩ := h
  rw [List.length_map] at hi hs
  obtain ⟨g, hg⟩ : ∃ g, ns[i]? = some g := ⟨_, List.getElem?_eq_getElem hi⟩
  have hg' : (hd :: ns)[i + 1]? = some g := by simpa using hg
  have hpl := place_any p ns hd laid i g w h1 h2 h3 h4 hg (by omega)
  go_enter Tryz.func269, Tryz.ntmps269
  go_wp2_with fail
  refine hpl.mono ?_
  rintro e w2 ⟨rfl, fr2⟩
  have h1' := (fr2.block p (lt_of_blk h1) (fun e => e)).trans h1
  have h2' : SkipAt w2 (hd :: ns) (canon (hd :: ns)) := h2.congr fun x hx => fr2.block x (h2.lt x hx) (fun e => e)
  have htr := trail_any p ns hd ns.length laid i w2 h1' h2' h3 (by omega) (by omega)
  go_wp2_with fail
  refine htr.mono ?_
  rintro e w4 ⟨st, rfl, fr4, hst⟩
  obtain ⟨Q, hQ⟩ : ∃ Q : Nat → Nat, ∀ l, l < 9 → ∃ n, Stop (hd :: ns) i l (Q l) n ∧ st l = (some ⟨n.nb, 0, none⟩, (i : Int) - Q l) := by
    refine ⟨fun l => if hl : l < 9 then (hst l hl).choose else 0, fun l hl => ?_⟩
    simp only [dif_pos hl]
    exact (hst l hl).choose_spec
  have hI : RemAt (hd :: ns) i Q p (listB hd.nb ns.length laid) own w 0 w4 := by
    refine ⟨(h2'.congr fun x hx => fr4.block x (h2'.lt x hx) (fun e => e)).lk fun j n _ m _ => ?_, (fr4.block p (lt_of_blk h1') (fun e => e)).trans h1', (fr2.mono fun _ _ e => e.elim).trans fr4 fun _ _ e => e.elim⟩
    unfold lkR; rw [if_neg (by omega)]
  have ho : ∀ x ∈ blocks (hd :: ns), own x := fun x hx => (h7 x).2 (Or.inr hx)
  have HFIN : Hid (∀ wr, RemAt (hd :: ns) i Q p (listB hd.nb ns.length laid) own w 9 wr → ∃ own', Eng (wr.setCell ⟨p, 1, none⟩ (.int .i64 ((ns.length : Int) - 1))) p own' ((ns.map fun n => (n.k, n.v)).eraseIdx i) ∧ (∀ x, own' x → own x ∨ w.heap.size ≤ x) ∧ Fr own w (wr.setCell ⟨p, 1, none⟩ (.int .i64 ((ns.length : Int) - 1)))) := fun wr hw9 =>
    rem_done hw9 hg h3 h4 ⟨l0, l1⟩ h5 h7 (fun l hl => by obtain ⟨n, a, _⟩ := hQ l hl; exact ⟨n, a⟩)
  have hix := index_stop st
  clear hst htr hpl fr2 fr4 h1 h1' h2 h2' h7 l0 l1
  generalize hcs : (lcells 9 st).toArray = cs at *
  clear hcs
  go_wp2_with fail
  go_loopg [14] 9 (fun gk s14 wr => ∃ l : Nat, gk + l = 9 ∧ s14 = .int .i64 l ∧ RemAt (hd :: ns) i Q p (listB hd.nb ns.length laid) own w l wr)
  case atStart => exact ⟨0, rfl, rfl, hI⟩
  case round =>
    clear hI
    obtain ⟨l, y0, rfl, ⟨s1, s2, s3⟩⟩ := hrel
    by_cases hl : l < 9
    · have hl' : (l : Int) < 9 := by omega
      obtain ⟨n, hst, g5⟩ := hQ l hl
      have hst' := hst
      obtain ⟨g1, g2, g3, g4⟩ := hst
      have hixl := hix l hl
      rw [g5] at hixl
      obtain ⟨k1, k2, k3⟩ := s1.cells g1 g3
      have ek : lkR (hd :: ns) i Q l (Q l) l = canon (hd :: ns) (Q l) l := by unfold lkR; rw [if_neg (by omega)]
      rw [ek] at k2 k3
      simp only [canon] at k2 k3
      obtain ⟨sp1, sp2⟩ := rem_split hg' hst'
      rw [sp2] at k2
      rw [sp1] at k3
      obtain ⟨nb1, nb2⟩ := s1.1 _ n g1
      obtain ⟨wb1, wb2⟩ := s1.1 _ g hg'
      have k4 : wr.cell? ⟨g.nb, 2, none⟩ = some (.slice (some ⟨g.lb, 0, none⟩) g.h g.h) := cell_of wb1 2
      have b1 := lt_of_blk nb1
      have b2 := lt_of_blk nb2
      have b3 := lt_of_blk wb1
      have b4 := lt_of_blk wb2
      have f1 : wr.frozen? ⟨n.lb, l * 2, none⟩ = false := frozen_of nb2 _
      have f2 : wr.frozen? ⟨n.lb, l * 2 + 1, none⟩ = false := frozen_of nb2 _
      have ne1 : g.lb ≠ n.lb := fun e => by have := blocks_inj s1.2 hg' g1 (Or.inr e); omega
      have ne1' : n.lb ≠ g.lb := Ne.symm ne1
      have ne2 : g.nb ≠ n.lb := nb_ne_lb s1.2 (List.mem_of_getElem? hg') (List.mem_of_getElem? g1)
      have ne2' : n.lb ≠ g.nb := Ne.symm ne2
      have ne4 : wr.heap.size ≠ n.lb := by omega
      obtain ⟨d1, d2, _, _⟩ := dist_spec l ((hd :: ns).drop (i + 2))
      have hdl : ((hd :: ns).drop (i + 2)).length ≤ 4000 := by simp; omega
      have g3' : (l : Int) < (n.h : Int) := by omega
      have hQi : (Q l : Int) ≤ (i : Int) := by omega
      have hi4 : (i : Int) ≤ 4000 := by omega
      have hstep := fun W x y => rem_step ⟨s1, s2, s3⟩ g1 g3 h5 ho W x y
      by_cases ch : l < g.h
      · have ch' : (l : Int) < (g.h : Int) := by omega
        obtain ⟨_, k5, k6⟩ := s1.cells hg' ch
        have ek2 : lkR (hd :: ns) i Q l (i + 1) l = canon (hd :: ns) (i + 1) l := by unfold lkR; rw [if_neg (by omega)]
        rw [ek2] at k5 k6
        simp only [canon] at k5 k6
        have heq := fun w' (e : w'.heap = wr.heap) => (eql_gone (w := w') (s1.congr fun x _ => by rw [e]) (m := l) hg').1 ch
        simp only [tgt, dist] at k2 k3 heq
        rw [if_pos ch] at k2 k3
        simp only [if_pos ch] at heq
        have heq0 : ∀ w' : World, (binOp .eql 217 (.pointer (some ⟨g.nb, 0, none⟩)) (.pointer (some ⟨g.nb, 0, none⟩))).run Tryz.prog w' = .ok (.bool true) w' := fun w' => by
          obtain ⟨j, hj, _⟩ := info_node
          exact run_eql_ptr_same w' _ Tryz.underlying217 hj
        rw [cast1 i (Q l) g2] at k3
        generalize hDD : dist l ((hd :: ns).drop (i + 2)) = D at *
        generalize hTT : tgt l ((hd :: ns).drop (i + 2)) = tg at *
        clear heq sp1 sp2 hDD hTT
        have HD : Hid ((D : Int) ≤ 4001 ∧ gk + l = 9) := ⟨by omega, y0⟩
        have hD4 : (D : Int) ≤ 4001 := by omega
        have hD0 : (0 : Int) ≤ (D : Int) := by omega
        have e1 : IntKind.i64.wrap ((i : Int) - (Q l : Int) + 1 + (D : Int)) = (i : Int) - (Q l : Int) + 1 + (D : Int) := by rw [IntKind.wrap_i64]; omega
        go_wp2_with fail
        go_region
        go_wp2_with fail
        go_roundg (gk - 1)
        case measure => have := HD.out; omega
        case rel =>
          refine ⟨l + 1, by have := HD.out; omega, by go_num, hstep _ tg ((i : Int) - Q l + D) rfl rfl (fun b hb => ?_) rfl rfl rfl (by simp)⟩
          show ((World.setCell _ _ _).alloc _).heap[b]? = _
          rw [Below.heap_alloc _ _ _ (by simpa using hb), set_twice, show (i : Int) - Q l + 1 + D - 1 = (i : Int) - Q l + D by omega]
      · have ch' : ¬ (l : Int) < (g.h : Int) := by omega
        have heq0 := fun w' (e : ∀ x ∈ blocks (hd :: ns), w'.heap[x]? = wr.heap[x]?) => (eql_gone (w := w') (s1.congr e) (m := l) hg').2 ch
        have hba : ∀ o, ∀ x ∈ blocks (hd :: ns), (wr.alloc o).heap[x]? = wr.heap[x]? := fun o x hx => Below.heap_alloc _ _ _ (s1.lt x hx)
        have heq1 := fun o => heq0 (wr.alloc o) (hba o)
        simp only [tgt, dist] at k2 k3 heq1
        rw [if_neg ch] at k2 k3
        simp only [if_neg ch] at heq1
        rw [cast2 i (Q l) _ g2] at k3
        generalize hDD : dist l ((hd :: ns).drop (i + 2)) = D at *
        generalize hTT : tgt l ((hd :: ns).drop (i + 2)) = tg at *
        clear heq0 hba sp1 sp2 hDD hTT
        have HD : Hid ((D : Int) ≤ 4001 ∧ gk + l = 9) := ⟨by omega, y0⟩
        have hD4 : (D : Int) ≤ 4001 := by omega
        have hD0 : (0 : Int) ≤ (D : Int) := by omega
        go_wp2_with fail
        go_roundg (gk - 1)
        case measure => have := HD.out; omega
        case rel =>
          refine ⟨l + 1, by have := HD.out; omega, by go_num, hstep _ tg ((i : Int) - Q l + D) rfl rfl (fun b hb => ?_) rfl rfl rfl (by simp)⟩
          show ((World.setCell _ _ _).alloc _).heap[b]? = _
          rw [Below.heap_alloc _ _ _ (by simpa using hb)]
          exact (set_same_ptr k2 b).symm
    · have hl' : ¬ (l : Int) < 9 := by omega
      have c1 : wr.cell? ⟨p, 1, none⟩ = some (.int .i64 ns.length) := cell_of s2 1
      have f1 : wr.frozen? ⟨p, 1, none⟩ = false := frozen_of s2 1
      have hs' : (ns.length : Int) ≤ 4000 := by omega
      have el : l = 9 := by omega
      subst el
      go_wp2_with fail
      go_end0
      exact ⟨rfl, HFIN.out wr ⟨s1, s2, s3⟩⟩

end Go.Proofs.YthbnbocpddddmaaGreat.SkI

namespace Go.Proofs.YthbnbocpddddmaaGreat
open Go.RowKit

theorem kRemove_any (p : Nat) (own : Nat → Prop) (xs : Row) (i : Nat) (w : World) (h : EngK w p own xs) (hi : i < xs.length) (hs : xs.length ≤ 4000) :
    Calls Tryz.prog 269 #[.pointer (some ⟨p, 0, none⟩), .int .i64 i] w fun e w' => e = .returned (.tuple #[]) ∧
      ∃ own', EngK w' p own' (xs.eraseIdx i) ∧ (∀ x, own' x → own x ∨ w.heap.size ≤ x) ∧ Fr own w w' := SkI.kRemove_any p own xs i w h hi hs

theorem method_removeK (a : Addr) (w : World) : (method 489 136 (.pointer (some a)) "Remove").run Tryz.prog w = .ok (269, .pointer (some a)) w := by kernel_rfl

set_option maxRecDepth 100000 in
set_option maxHeartbeats 600000 in
theorem delete_moreK (m : Nat) (t : Bool) (c : Int) (own : Nat → Prop) (xs : Row) (k : Int) (w : World) (h : MapK w m t c own xs) (b0 : 0 ≤ c) (b1 : c ≤ 8000000000000000000) (hs : xs.length ≤ 400) :
    Calls Tryz.prog 136 #[.pointer (some ⟨m, 0, none⟩), kv k] w fun e w' => ∃ (n : Nat) (own' : Nat → Prop), e = .returned (.tuple #[kv (lget t k xs), .bool (lsame k xs)]) ∧
      MapK w' m t (c + n) own' (ldel t k xs) ∧ n ≤ 10000 ∧ (0 < xs.length → 1 ≤ n) ∧ (∀ x, own' x → own x ∨ w.heap.size ≤ x) ∧ Fr own w w' := by
  have hfind := find_anyK m t c own xs k w h b0 b1 (by omega)
  have hsr : Srt t xs := h.choose_spec.choose_spec.2.2.2.2
  have hom : own m := (h.choose_spec.choose_spec.2.2.2.1 m).2 (Or.inl rfl)
  have hmeth := method_atK
  have hmeth2 := method_removeK
  unfold ldel lget
  clear h
  cases hsm : lsame k xs with
  | true =>
    obtain ⟨⟨kq, u⟩, hu, _⟩ := at_rank hsr hsm
    rw [hsm] at hfind
    simp only [if_true]
    rw [hu]
    simp only [Option.getD_some]
    have hlt := (List.getElem?_eq_some_iff.1 hu).1
    have HU : Hid (xs[lrank t k xs]? = some (kq, u)) := hu
    have HP : Hid (Srt t (xs.eraseIdx (lrank t k xs))) := List.Pairwise.sublist (List.eraseIdx_sublist _ _) hsr
    clear hsm hu hsr
    go_enter Tryz.func136, Tryz.ntmps136
    go_wp2_with fail
    refine hfind.mono ?_
    rintro e w3 ⟨n, rfl, g1, g2, g3, g4⟩
    obtain ⟨p, oE, h1, h2, h3, h4, h5⟩ := g1
    have c2 : w3.cell? ⟨m, 3, none⟩ = some (.iface 136 (.pointer (some ⟨p, 0, none⟩))) := cell_of h1 3
    have hat := kAt_any p oE xs (lrank t k xs) kq u w3 h2 HU.out (by omega)
    go_wp2_with fail
    refine hat.mono ?_
    rintro e w4 ⟨rfl, fr⟩
    have h1' := (fr.block m (lt_of_blk h1) (fun e => e)).trans h1
    have c2' : w4.cell? ⟨m, 3, none⟩ = some (.iface 136 (.pointer (some ⟨p, 0, none⟩))) := cell_of h1' 3
    have hrem := kRemove_any p oE xs (lrank t k xs) w4 (h2.fr fr fun _ _ e => e) hlt (by omega)
    go_wp2_with fail
    refine hrem.mono ?_
    rintro e w5 ⟨rfl, oE', q1, q2, q3⟩
    go_wp2_with fail
    go_ret2
    have nm : ¬ oE' m := fun e => by
      rcases q2 m e with e | e
      · exact h3 e
      · have := lt_of_blk h1'; omega
    refine ⟨n, fun x => x = m ∨ oE' x, rfl, ⟨p, oE', (q3.block m (lt_of_blk h1') h3).trans h1', q1, nm, fun x => Iff.rfl, HP.out⟩, g2, g3, fun x hx => ?_, ?_⟩
    · rcases hx with e | e
      · rw [e]; exact Or.inl hom
      · rcases q2 x e with e | e
        · exact Or.inl ((h4 x).2 (Or.inr e))
        · exact Or.inr (Nat.le_trans (Nat.le_trans g4.size fr.size) e)
    · exact ((g4.mono fun x _ e => by rw [e]; exact hom).trans fr fun _ _ e => e.elim).trans q3 fun x _ e => (h4 x).2 (Or.inr e)
  | false =>
    rw [hsm] at hfind
    simp only [Bool.false_eq_true, if_false]
    clear hsm hsr
    go_enter Tryz.func136, Tryz.ntmps136
    go_wp2_with fail
    refine hfind.mono ?_
    rintro e w3 ⟨n, rfl, g1, g2, g3, g4⟩
    go_wp2_with fail
    go_ret2
    exact ⟨n, own, rfl, g1, g2, g3, fun x hx => Or.inl hx, g4.mono fun x _ e => by rw [e]; exact hom⟩

theorem delete_anyK (m : Nat) (t : Bool) (c : Int) (own : Nat → Prop) (xs : Row) (k : Int) (w : World) (h : MapK w m t c own xs) (b0 : 0 ≤ c) (b1 : c ≤ 8000000000000000000) (hs : xs.length ≤ 400) :
    Calls Tryz.prog 136 #[.pointer (some ⟨m, 0, none⟩), kv k] w fun e w' => ∃ (n : Nat) (own' : Nat → Prop), e = .returned (.tuple #[kv (lget t k xs), .bool (lsame k xs)]) ∧
      MapK w' m t (c + n) own' (ldel t k xs) ∧ n ≤ 10000 ∧ (∀ x, own' x → own x ∨ w.heap.size ≤ x) ∧ Fr own w w' :=
  (delete_moreK m t c own xs k w h b0 b1 hs).mono fun _ _ ⟨n, o, q1, q2, q3, _, q5⟩ => ⟨n, o, q1, q2, q3, q5⟩

end Go.Proofs.YthbnbocpddddmaaGreat
