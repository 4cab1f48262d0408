import Derived.Test.YthbnbocpddddmaaGreatQF
import Derived.BigRegion
namespace Go.Proofs.YthbnbocpddddmaaGreat.SkI
open Go.RowKit

theorem make_link1 (w : World) : (Instr.makeSlice 218 (.int .i64 1) (.int .i64 1)).run Tryz.prog w = .ok (.slice (some ⟨w.heap.size, 0, none⟩) 1 1) (w.alloc (linkB 1 fun _ => (none, 0))) := by kernel_rfl
theorem make_link2 (w : World) : (Instr.makeSlice 218 (.int .i64 2) (.int .i64 2)).run Tryz.prog w = .ok (.slice (some ⟨w.heap.size, 0, none⟩) 2 2) (w.alloc (linkB 2 fun _ => (none, 0))) := by kernel_rfl
theorem make_link3 (w : World) : (Instr.makeSlice 218 (.int .i64 3) (.int .i64 3)).run Tryz.prog w = .ok (.slice (some ⟨w.heap.size, 0, none⟩) 3 3) (w.alloc (linkB 3 fun _ => (none, 0))) := by kernel_rfl
theorem make_link4 (w : World) : (Instr.makeSlice 218 (.int .i64 4) (.int .i64 4)).run Tryz.prog w = .ok (.slice (some ⟨w.heap.size, 0, none⟩) 4 4) (w.alloc (linkB 4 fun _ => (none, 0))) := by kernel_rfl
theorem make_link5 (w : World) : (Instr.makeSlice 218 (.int .i64 5) (.int .i64 5)).run Tryz.prog w = .ok (.slice (some ⟨w.heap.size, 0, none⟩) 5 5) (w.alloc (linkB 5 fun _ => (none, 0))) := by kernel_rfl
theorem make_link6 (w : World) : (Instr.makeSlice 218 (.int .i64 6) (.int .i64 6)).run Tryz.prog w = .ok (.slice (some ⟨w.heap.size, 0, none⟩) 6 6) (w.alloc (linkB 6 fun _ => (none, 0))) := by kernel_rfl
theorem make_link7 (w : World) : (Instr.makeSlice 218 (.int .i64 7) (.int .i64 7)).run Tryz.prog w = .ok (.slice (some ⟨w.heap.size, 0, none⟩) 7 7) (w.alloc (linkB 7 fun _ => (none, 0))) := by kernel_rfl
theorem make_link8 (w : World) : (Instr.makeSlice 218 (.int .i64 8) (.int .i64 8)).run Tryz.prog w = .ok (.slice (some ⟨w.heap.size, 0, none⟩) 8 8) (w.alloc (linkB 8 fun _ => (none, 0))) := by kernel_rfl
theorem make_link9 (w : World) : (Instr.makeSlice 218 (.int .i64 9) (.int .i64 9)).run Tryz.prog w = .ok (.slice (some ⟨w.heap.size, 0, none⟩) 9 9) (w.alloc (linkB 9 fun _ => (none, 0))) := by kernel_rfl
theorem make_link (h : Nat) (h1 : 1 ≤ h) (h9 : h ≤ 9) (w : World) : (Instr.makeSlice 218 (.int .i64 h) (.int .i64 h)).run Tryz.prog w = .ok (.slice (some ⟨w.heap.size, 0, none⟩) h h) (w.alloc (linkB h fun _ => (none, 0))) := by
  obtain rfl | rfl | rfl | rfl | rfl | rfl | rfl | rfl | rfl : h = 1 ∨ h = 2 ∨ h = 3 ∨ h = 4 ∨ h = 5 ∨ h = 6 ∨ h = 7 ∨ h = 8 ∨ h = 9 := by omega
  · exact make_link1 w
  · exact make_link2 w
  · exact make_link3 w
  · exact make_link4 w
  · exact make_link5 w
  · exact make_link6 w
  · exact make_link7 w
  · exact make_link8 w
  · exact make_link9 w

/-- What holds when the levels below l are done. -/
def InsAt (all : List Nd) (nw : Nd) (i : Nat) (Q : Nat → Nat) (p : Nat) (lb : Obj) (own : Nat → Prop) (w : World) (l : Nat) (wr : World) : Prop :=
  SkipAt wr (all ++ [nw]) (lkL all nw i Q l) ∧ wr.heap[p]? = some lb ∧ Fr own w wr

theorem SkipAt.fr {S : Nat → Prop} {w w' : World} {L : List Nd} {lk : Nat → Nat → Option Addr × Int} (h : SkipAt w L lk) (f : Fr S w w') (hd : ∀ x ∈ blocks L, ¬ S x) : SkipAt w' L lk :=
  h.congr fun x hx => f.block x (h.lt x hx) (hd x hx)

theorem ins_hi {all : List Nd} {nw n : Nd} {i p l : Nat} {Q : Nat → Nat} {lb : Obj} {own : Nat → Prop} {w wr : World} (h : InsAt all nw i Q p lb own w l wr) (gn : all[Q l]? = some n) (g3 : l < n.h) (ch : ¬ l < nw.h)
    (hp : p ∉ blocks (all ++ [nw])) (ho : ∀ x ∈ blocks all, own x) (o : Obj) :
    InsAt all nw i Q p lb own w (l + 1) ((wr.setCell ⟨n.lb, l * 2 + 1, none⟩ (.int .i64 ((dist l (all.drop (Q l + 1)) : Nat) + 1))).alloc o) := by
  obtain ⟨s1, s2, s3⟩ := h
  have gq : Q l < all.length := (List.getElem?_eq_some_iff.1 gn).1
  have hm := List.mem_of_getElem? gn
  have hj : (all ++ [nw])[Q l]? = some n := by rw [List.getElem?_append_left gq]; exact gn
  have t1 := s1.set1 hj g3 ((dist l (all.drop (Q l + 1)) : Nat) + 1)
  have np : p ≠ n.lb := fun e => hp (mem_blocks.2 ⟨n, by simp [hm], Or.inr e⟩)
  have fr : Fr (fun _ => False) (wr.setCell ⟨n.lb, l * 2 + 1, none⟩ (.int .i64 ((dist l (all.drop (Q l + 1)) : Nat) + 1))) ((wr.setCell ⟨n.lb, l * 2 + 1, none⟩ (.int .i64 ((dist l (all.drop (Q l + 1)) : Nat) + 1))).alloc o) := Fr.alloc (Fr.refl _ _) _
  refine ⟨(t1.fr fr fun _ _ e => e).lk fun j n' _ m _ => ?_, ?_, ?_⟩
  · rw [lkL_stop gq]; exact lkL_succ_hi gq ch j m
  · rw [Below.heap_alloc _ _ _ (by simp; exact lt_of_blk s2), blk_set_ne _ _ np]; exact s2
  · exact Fr.alloc (Fr.setCell s3 (by exact fun _ => ho _ (mem_blocks.2 ⟨n, hm, Or.inr rfl⟩)) _) _

theorem ins_lo {all : List Nd} {nw n : Nd} {i p l : Nat} {Q : Nat → Nat} {lb : Obj} {own : Nat → Prop} {w wr : World} (h : InsAt all nw i Q p lb own w l wr) (gn : all[Q l]? = some n) (g3 : l < n.h) (ch : l < nw.h)
    (hp : p ∉ blocks (all ++ [nw])) (W : World)
    (hW : W.heap = ((((wr.setCell ⟨nw.lb, l * 2, none⟩ (.pointer (tgt l (all.drop (Q l + 1))))).setCell ⟨nw.lb, l * 2 + 1, none⟩ (.int .i64 ((dist l (all.drop (Q l + 1)) : Nat) - ((i : Int) - Q l)))).setCell ⟨n.lb, l * 2, none⟩ (.pointer (some ⟨nw.nb, 0, none⟩))).setCell ⟨n.lb, l * 2 + 1, none⟩ (.int .i64 ((i : Int) - Q l + 1))).heap)
    (W' : World) (fr' : Fr (fun _ => False) W W') (frW : Fr own w W') :
    InsAt all nw i Q p lb own w (l + 1) W' := by
  obtain ⟨s1, s2, s3⟩ := h
  have gq : Q l < all.length := (List.getElem?_eq_some_iff.1 gn).1
  have hm := List.mem_of_getElem? gn
  have hj : (all ++ [nw])[Q l]? = some n := by rw [List.getElem?_append_left gq]; exact gn
  have hk : (all ++ [nw])[all.length]? = some nw := by simp
  have t1 := s1.set2 hk ch (tgt l (all.drop (Q l + 1))) ((dist l (all.drop (Q l + 1)) : Nat) - ((i : Int) - Q l))
  have t2 := t1.set2 hj g3 (some ⟨nw.nb, 0, none⟩) ((i : Int) - Q l + 1)
  have np : p ≠ n.lb := fun e => hp (mem_blocks.2 ⟨n, by simp [hm], Or.inr e⟩)
  have np2 : p ≠ nw.lb := fun e => hp (mem_blocks.2 ⟨nw, by simp, Or.inr e⟩)
  have t3 : SkipAt W (all ++ [nw]) _ := t2.congr fun x _ => by rw [hW]
  refine ⟨(t3.fr fr' fun _ _ e => e).lk fun j n' hj' m _ => ?_, ?_, frW⟩
  · have := lkL_succ_lo (nw := nw) (i := i) (Q := Q) gq ch j m
    have hjl := (List.getElem?_eq_some_iff.1 hj').1
    simp only [List.length_append, List.length_cons, List.length_nil] at hjl
    rw [if_pos (by omega : j ≤ all.length)] at this
    rw [← this]
    rfl
  · have e : W.heap[p]? = some lb := by rw [hW, blk_set_ne _ _ np, blk_set_ne _ _ np, blk_set_ne _ _ np2, blk_set_ne _ _ np2]; exact s2
    exact (fr'.block p (lt_of_blk e) (fun e => e)).trans e

theorem ins_done {hd : Nd} {ns : List Nd} {nw : Nd} {i p : Nat} {Q : Nat → Nat} {L2 : Int} {own : Nat → Prop} {w wr : World} (h : InsAt (hd :: ns) nw i Q p (listB hd.nb ns.length L2) own w 9 wr) (hi : i ≤ ns.length)
    (h3 : hd.h = 9) (h4 : ∀ n ∈ ns, 1 ≤ n.h ∧ n.h ≤ 9) (hw : 1 ≤ nw.h ∧ nw.h ≤ 9) (hL : 0 ≤ L2 ∧ L2 < 18446744073709551616) (hp : p ∉ blocks ((hd :: ns) ++ [nw]))
    (h7 : ∀ x, own x ↔ x = p ∨ x ∈ blocks (hd :: ns)) (hnb : nw.nb = w.heap.size + 1) (hlb : nw.lb = w.heap.size) (hQ : ∀ l, l < 9 → ∃ n, Stop (hd :: ns) i l (Q l) n) :
    ∃ own', Eng (wr.setCell ⟨p, 1, none⟩ (.int .i64 ((ns.length : Int) + 1))) p own' ((ns.map fun n => (n.k, n.v)).take i ++ (nw.k, nw.v) :: (ns.map fun n => (n.k, n.v)).drop i) ∧ (∀ x, own' x → own x ∨ w.heap.size ≤ x) ∧ Fr own w (wr.setCell ⟨p, 1, none⟩ (.int .i64 ((ns.length : Int) + 1))) := by
  obtain ⟨s1, s2, s3⟩ := h
  have t := skip_inserted s1 (by simp; omega) (fun n hn => by rcases List.mem_cons.1 hn with rfl | hn; omega; exact (h4 n hn).2) hw.2 hQ
  simp only [List.take_succ_cons, List.drop_succ_cons, List.cons_append] at t
  have hb : ∀ x, x ∈ blocks (hd :: (ns.take i ++ nw :: ns.drop i)) ↔ x ∈ blocks ((hd :: ns) ++ [nw]) := by
    intro x
    rw [mem_blocks, mem_blocks]
    have : ∀ n, n ∈ hd :: (ns.take i ++ nw :: ns.drop i) ↔ n ∈ (hd :: ns) ++ [nw] := by
      intro n
      have e : n ∈ ns ↔ n ∈ ns.take i ∨ n ∈ ns.drop i := by rw [← List.mem_append, List.take_append_drop]
      simp only [List.mem_cons, List.mem_append, List.not_mem_nil, or_false, e]
      constructor
      · rintro (a | a | a | a) <;> simp [a]
      · rintro ((a | a | a) | a) <;> simp [a]
    constructor
    · rintro ⟨n, hn, e⟩; exact ⟨n, (this n).1 hn, e⟩
    · rintro ⟨n, hn, e⟩; exact ⟨n, (this n).2 hn, e⟩
  refine ⟨fun x => x = p ∨ x ∈ blocks (hd :: (ns.take i ++ nw :: ns.drop i)), ⟨hd, ns.take i ++ nw :: ns.drop i, L2, ?_, hL.1, hL.2, t.congr fun x hx => blk_set_ne _ _ fun e => hp ((hb x).1 hx |> fun q => e ▸ q), h3, ?_, fun e => hp ((hb p).1 e), ?_, fun x => Iff.rfl⟩, ?_, ?_⟩
  · rw [blk_set s2 1]
    have e : ((ns.take i ++ nw :: ns.drop i).length : Int) = (ns.length : Int) + 1 := by simp; omega
    simp only [listB, e]
    rfl
  · intro n hn
    rcases List.mem_append.1 hn with e | e
    · exact h4 n (List.mem_of_mem_take e)
    · rcases List.mem_cons.1 e with rfl | e
      · exact hw
      · exact h4 n (List.mem_of_mem_drop e)
  · simp [List.map_take, List.map_drop]
  · rintro x (e | e)
    · exact Or.inl ((h7 x).2 (Or.inl e))
    · have e' := (hb x).1 e
      obtain ⟨n, hn, e2⟩ := mem_blocks.1 e'
      rcases List.mem_append.1 hn with e3 | e3
      · exact Or.inl ((h7 x).2 (Or.inr (mem_blocks.2 ⟨n, e3, e2⟩)))
      · simp at e3; subst e3; right; omega
  · exact Fr.setCell s3 (by exact fun _ => (h7 p).2 (Or.inl rfl)) _

/-- The new node is made; it is linked to nothing yet. -/
theorem ins_pre {w : World} {p : Nat} {hd : Nd} {ns : List Nd} {laid : Int} (h1 : w.heap[p]? = some (listB hd.nb ns.length laid)) (h2 : SkipAt w (hd :: ns) (canon (hd :: ns))) (h5 : p ∉ blocks (hd :: ns)) (L2 : Int) (h : Nat) (k : Int) (v : Int) (i : Nat) (Q : Nat → Nat) :
    ∀ W, W = ((w.setCell ⟨p, 2, none⟩ (.int .u64 L2)).alloc (linkB h fun _ => (none, 0))).alloc (nodeB ⟨w.heap.size + 1, w.heap.size, h, k, v⟩) →
      SkipAt W ((hd :: ns) ++ [⟨w.heap.size + 1, w.heap.size, h, k, v⟩]) (lkL (hd :: ns) ⟨w.heap.size + 1, w.heap.size, h, k, v⟩ i Q 0) ∧ W.heap[p]? = some (listB hd.nb ns.length L2) ∧ Fr (fun x => x = p) w W ∧ W.heap.size = w.heap.size + 2 := by
  rintro W rfl
  have pl := lt_of_blk h1
  have fr : Fr (fun x => x = p) w (((w.setCell ⟨p, 2, none⟩ (.int .u64 L2)).alloc (linkB h fun _ => (none, 0))).alloc (nodeB ⟨w.heap.size + 1, w.heap.size, h, k, v⟩)) := Fr.alloc (Fr.alloc (Fr.setCell (Fr.refl _ _) (by exact fun _ => rfl) _) _) _
  refine ⟨⟨fun j n hj => ?_, ?_⟩, ?_, fr, by simp⟩
  · rcases Nat.lt_or_ge j (hd :: ns).length with c | c
    · rw [List.getElem?_append_left c] at hj
      obtain ⟨g1, g2⟩ := h2.1 j n hj
      have hm := List.mem_of_getElem? hj
      refine ⟨(fr.block _ (lt_of_blk g1) (fun e => h5 (mem_blocks.2 ⟨n, hm, Or.inl e.symm⟩))).trans g1, (fr.block _ (lt_of_blk g2) (fun e => h5 (mem_blocks.2 ⟨n, hm, Or.inr e.symm⟩))).trans (g2.trans ?_)⟩
      simp only [linkB]
      congr 3
      refine lcells_congr _ _ _ fun m _ => ?_
      unfold lkL; rw [if_pos c, if_neg (by omega)]
    · have ej : j = (hd :: ns).length := by
        have := (List.getElem?_eq_some_iff.1 hj).1
        simp only [List.length_append, List.length_cons, List.length_nil] at this c ⊢
        omega
      subst ej
      simp at hj
      subst hj
      have b1 := blk_new ((w.setCell ⟨p, 2, none⟩ (.int .u64 L2)).alloc (linkB h fun _ => (none, 0))) (nodeB ⟨w.heap.size + 1, w.heap.size, h, k, v⟩)
      have b2 := blk_new (w.setCell ⟨p, 2, none⟩ (.int .u64 L2)) (linkB h fun _ => (none, 0))
      rw [World.size_alloc, World.size_setCell] at b1
      rw [World.size_setCell] at b2
      refine ⟨b1, ?_⟩
      rw [Below.heap_alloc _ _ _ (by simp), b2]
      simp only [linkB]
      congr 3
      refine lcells_congr _ _ _ fun m _ => ?_
      unfold lkL; rw [if_neg (by omega), if_neg (by omega)]
  · have e : blocks ((hd :: ns) ++ [⟨w.heap.size + 1, w.heap.size, h, k, v⟩]) = blocks (hd :: ns) ++ [w.heap.size + 1, w.heap.size] := by simp [blocks]
    rw [e, List.nodup_append]
    refine ⟨h2.2, by simp, fun a ha b hb e => ?_⟩
    have := h2.lt a ha
    simp at hb
    omega
  · rw [Below.heap_alloc _ _ _ (by simp; omega), Below.heap_alloc _ _ _ (by simp; omega), blk_set h1 2]
    rfl

set_option maxRecDepth 100000 in
set_option maxHeartbeats 1000000 in
theorem kInsert_any (p : Nat) (own : Nat → Prop) (xs : RowI) (i : Nat) (k : Int) (v : Int) (w : World) (h : Eng w p own xs) (hi : i ≤ xs.length) (hs : xs.length ≤ 4000) :
    Calls Tryz.prog 267 #[.pointer (some ⟨p, 0, none⟩), .int .i64 i, kv k, kv v] w fun e w' => e = .returned (.tuple #[]) ∧
      ∃ own', Eng w' p own' (xs.take i ++ (k, v) :: xs.drop i) ∧ (∀ x, own' x → own x ∨ w.heap.size ≤ x) ∧ Fr own w w' := by
  obtain ⟨hd, ns, laid, h1, l0, l1, h2, h3, h4, h5, rfl, h7⟩ := h
  rw [List.length_map] at hi hs
  have pl := lt_of_blk h1
  have c2 : w.cell? ⟨p, 2, none⟩ = some (.int .u64 laid) := cell_of h1 2
  have f2 : w.frozen? ⟨p, 2, none⟩ = false := frozen_of h1 2
  have hbd := wrap_bd (laid + 1)
  go_enter Tryz.func267, Tryz.ntmps267
  go_wp2_with fail
  generalize IntKind.u64.wrap (laid + 1) = L2 at *
  refine (height_any L2 _).mono ?_
  rintro e w2 ⟨⟨hh, rfl, n1, n9⟩, rfl⟩
  have hmk := make_link hh n1 n9
  have hfr1 : ∀ x, x = p → own x := fun x e => (h7 x).2 (Or.inl e)
  obtain ⟨a1, a2, a3, a4⟩ := ins_pre h1 h2 h5 L2 hh k v i (fun _ => 0) _ rfl
  have h2' : SkipAt _ (hd :: ns) (canon (hd :: ns)) := h2.congr fun x hx => a3.block x (h2.lt x hx) (fun e => h5 (e ▸ hx))
  have htr := trail_any p ns hd ns.length L2 i _ a2 h2' h3 hi (by omega)
  clear c2 f2
  go_wp2_with fail
  refine htr.mono ?_
  rintro e w4 ⟨st, rfl, fr4, hst⟩
  obtain ⟨Q, hQ⟩ : ∃ Q : Nat → Nat, ∀ l, l < 9 → ∃ n, Stop (hd :: ns) i l (Q l) n ∧ st l = (some ⟨n.nb, 0, none⟩, (i : Int) - Q l) := by
    refine ⟨fun l => if hl : l < 9 then (hst l hl).choose else 0, fun l hl => ?_⟩
    simp only [dif_pos hl]
    exact (hst l hl).choose_spec
  clear hst htr hmk
  have hI : InsAt (hd :: ns) ⟨w.heap.size + 1, w.heap.size, hh, k, v⟩ i Q p (listB hd.nb ns.length L2) own w 0 w4 := by
    obtain ⟨b1, b2, b3, b4⟩ := ins_pre h1 h2 h5 L2 hh k v i Q _ rfl
    exact ⟨b1.congr fun x hx => fr4.block x (b1.lt x hx) (fun e => e), (fr4.block p (by rw [b4]; omega) (fun e => e)).trans b2, (b3.mono fun x _ e => hfr1 x e).trans fr4 fun _ _ e => e.elim⟩
  obtain ⟨nw, hnw⟩ : ∃ nw : Nd, nw = ⟨w.heap.size + 1, w.heap.size, hh, k, v⟩ := ⟨_, rfl⟩
  rw [← hnw] at hI
  have hnb : nw.nb = w.heap.size + 1 := by rw [hnw]
  have hlb : nw.lb = w.heap.size := by rw [hnw]
  have hnh : nw.h = hh := by rw [hnw]
  rw [show w.heap.size + 1 = nw.nb from hnb.symm]
  have HN : Hid (nw = ⟨w.heap.size + 1, w.heap.size, hh, k, v⟩) := hnw
  have HQ := hQ
  have hp' : p ∉ blocks ((hd :: ns) ++ [nw]) := fun e => by
    obtain ⟨m, hm, e2⟩ := mem_blocks.1 e
    rcases List.mem_append.1 hm with e3 | e3
    · exact h5 (mem_blocks.2 ⟨m, e3, e2⟩)
    · simp at e3; subst e3; omega
  have ho : ∀ x ∈ blocks (hd :: ns), own x := fun x hx => (h7 x).2 (Or.inr hx)
  have hwl : w.heap.size ≤ nw.lb := by omega
  have HFIN : Hid ((∀ wr, InsAt (hd :: ns) nw i Q p (listB hd.nb ns.length L2) own w 9 wr → ∃ own', Eng (wr.setCell ⟨p, 1, none⟩ (.int .i64 ((ns.length : Int) + 1))) p own' ((ns.map fun n => (n.k, n.v)).take i ++ (k, v) :: (ns.map fun n => (n.k, n.v)).drop i) ∧ (∀ x, own' x → own x ∨ w.heap.size ≤ x) ∧ Fr own w (wr.setCell ⟨p, 1, none⟩ (.int .i64 ((ns.length : Int) + 1))))) := fun wr hw9 => by
    have := ins_done hw9 hi h3 h4 ⟨by omega, by omega⟩ hbd hp' h7 hnb hlb (fun l hl => by obtain ⟨n, a, _⟩ := hQ l hl; exact ⟨n, a⟩)
    rw [hnw] at this; exact this
  have hix := index_stop st
  clear a1 a2 a3 a4 h2' fr4 hnb hnw hQ hlb h7 hfr1 h1 h2 h5 hbd l0 l1
  generalize hcs : (lcells 9 st).toArray = cs at *
  clear hcs
  go_wp2_with fail
  go_loopg [32] 9 (fun gk s32 wr => ∃ l : Nat, gk + l = 9 ∧ s32 = .int .i64 l ∧ InsAt (hd :: ns) nw i Q p (listB hd.nb ns.length L2) own w l wr)
  case atStart => exact ⟨0, rfl, rfl, hI⟩
  case round =>
    obtain ⟨l, y0, rfl, ⟨s1, s2, s3⟩⟩ := hrel
    by_cases hl : l < 9
    · have hl' : (l : Int) < 9 := by omega
      obtain ⟨n, ⟨g1, g2, g3, g4⟩, g5⟩ := HQ l hl
      have hixl := hix l hl
      rw [g5] at hixl
      have gq : Q l < (hd :: ns).length := (List.getElem?_eq_some_iff.1 g1).1
      have gn : ((hd :: ns) ++ [nw])[Q l]? = some n := by rw [List.getElem?_append_left gq]; exact g1
      have gw : ((hd :: ns) ++ [nw])[(hd :: ns).length]? = some nw := by simp
      obtain ⟨k1, k2, k3⟩ := s1.cells gn g3
      rw [lkL_stop gq] at k2 k3
      simp only [canon] at k2 k3
      obtain ⟨nb1, nb2⟩ := s1.1 _ n gn
      obtain ⟨wb1, wb2⟩ := s1.1 _ nw gw
      have k4 : wr.cell? ⟨nw.nb, 2, none⟩ = some (.slice (some ⟨nw.lb, 0, none⟩) nw.h nw.h) := cell_of wb1 2
      have b1 := lt_of_blk nb1
      have b2 := lt_of_blk nb2
      have b3 := lt_of_blk wb1
      have b4 := lt_of_blk wb2
      obtain ⟨d1, d2, d3, d4⟩ := dist_spec l ((hd :: ns).drop (Q l + 1))
      have f1 : wr.frozen? ⟨n.lb, l * 2, none⟩ = false := frozen_of nb2 _
      have f2 : wr.frozen? ⟨n.lb, l * 2 + 1, none⟩ = false := frozen_of nb2 _
      have f3 : wr.frozen? ⟨nw.lb, l * 2, none⟩ = false := frozen_of wb2 _
      have f4 : wr.frozen? ⟨nw.lb, l * 2 + 1, none⟩ = false := frozen_of wb2 _
      have hhi := fun ch o => ins_hi ⟨s1, s2, s3⟩ g1 g3 ch hp' ho o
      have hlo := fun ch => ins_lo ⟨s1, s2, s3⟩ g1 g3 ch hp'
      have g2' : (Q l : Int) ≤ (i : Int) := by omega
      have hi' : (i : Int) ≤ 4000 := by omega
      generalize dist l ((hd :: ns).drop (Q l + 1)) = D at *
      generalize tgt l ((hd :: ns).drop (Q l + 1)) = tg at *
      clear d3 d4
      have hD : (D : Int) ≤ 6000 := by simp at d2; omega
      have g3' : (l : Int) < (n.h : Int) := by omega
      by_cases ch : l < nw.h
      · have ch' : (l : Int) < (nw.h : Int) := by omega
        have ch'' : ¬ (nw.h : Int) ≤ (l : Int) := by omega
        have ne1 : nw.lb ≠ n.lb := fun e => by
          have := blocks_inj s1.2 gw gn (Or.inr e); omega
        have ne1' : n.lb ≠ nw.lb := Ne.symm ne1
        have ne2 : nw.nb ≠ nw.lb := nb_ne_lb s1.2 (List.mem_of_getElem? gw) (List.mem_of_getElem? gw)
        have hl0 : (0 : Int) ≤ (l : Int) := by omega
        obtain ⟨_, k5, k6⟩ := s1.cells gw ch
        generalize (lkL (hd :: ns) nw i Q l (hd :: ns).length l).1 = z1 at k5
        generalize (lkL (hd :: ns) nw i Q l (hd :: ns).length l).2 = z2 at k6
        have e1 : IntKind.i64.wrap ((D : Int) - ((i : Int) - (Q l : Int))) = (D : Int) - ((i : Int) - (Q l : Int)) := by rw [IntKind.wrap_i64]; omega
        have ne3 : wr.heap.size ≠ nw.lb := by omega
        have ne4 : wr.heap.size ≠ n.lb := by omega
        have ne5 : wr.heap.size ≠ nw.nb := by omega
        go_wp2_with fail
        go_region
        go_wp2_with fail
        go_roundg (gk - 1)
        case measure => omega
        case rel =>
          refine ⟨l + 1, by omega, by go_num, hlo ch _ rfl _ (Fr.drew (Fr.alloc (Fr.refl _ _) _)) ?_⟩
          have on : own n.lb := ho _ (mem_blocks.2 ⟨n, List.mem_of_getElem? g1, Or.inr rfl⟩)
          refine Fr.drew (Fr.alloc (Fr.setCell (Fr.setCell (Fr.setCell (Fr.setCell s3 ?_ _) ?_ _) ?_ _) ?_ _) _)
          · intro e; exact absurd e (by show ¬ nw.lb < w.heap.size; omega)
          · intro e; exact absurd e (by show ¬ nw.lb < w.heap.size; omega)
          · exact fun _ => on
          · exact fun _ => on
      · have ch' : ¬ (l : Int) < (nw.h : Int) := by omega
        have ch'' : (nw.h : Int) ≤ (l : Int) := by omega
        go_wp2_with fail
        go_roundg (gk - 1)
        case measure => omega
        case rel =>
          exact ⟨l + 1, by omega, by go_num, hhi ch _⟩
    · have hl' : ¬ (l : Int) < 9 := by omega
      have c1 : wr.cell? ⟨p, 1, none⟩ = some (.int .i64 ns.length) := cell_of s2 1
      have f1 : wr.frozen? ⟨p, 1, none⟩ = false := frozen_of s2 1
      have hs' : (ns.length : Int) ≤ 4000 := by omega
      go_wp2_with fail
      go_end0
      have el : l = 9 := by omega
      subst el
      exact ⟨rfl, HFIN.out wr ⟨s1, s2, s3⟩⟩

end Go.Proofs.YthbnbocpddddmaaGreat.SkI

namespace Go.Proofs.YthbnbocpddddmaaGreat.SkI
open Go.RowKit

set_option maxRecDepth 100000 in
set_option maxHeartbeats 1000000 in
theorem kNew_any (w : World) :
    Calls Tryz.prog 61 #[] w fun e w' => ∃ (p : Nat), e = .returned (.pointer (some ⟨p, 0, none⟩)) ∧ ∃ own : Nat → Prop, Eng w' p own [] ∧ (∀ x, own x → w.heap.size ≤ x) ∧ Fr (fun _ => False) w w' := by
  have hmk := make_link9
  go_enter Tryz.func61, Tryz.ntmps61
  go_wp2_with fail
  go_loopg [11] 9 (fun gk s11 wr => ∃ l : Nat, gk + l = 9 ∧ s11 = .int .i64 l ∧ wr.heap[w.heap.size]? = some (linkB 9 fun m => if m < l then (none, 1) else (none, 0)) ∧
    (∃ k, wr.heap[w.heap.size + 1]? = some (nodeB ⟨w.heap.size + 1, w.heap.size, 9, k, 0⟩)) ∧ wr.heap.size = w.heap.size + 2 ∧ Fr (fun _ => False) w wr)
  case atStart =>
    refine ⟨0, rfl, rfl, ?_, ⟨0, ?_⟩, by simp, Fr.alloc (Fr.alloc (Fr.refl _ _) _) _⟩
    · rw [Below.heap_alloc _ _ _ (by simp)]; exact blk_new _ _
    · have := blk_new (w.alloc (linkB 9 fun _ => (none, 0))) (Obj.cells #[.complex .f64 0 0, .complex .f64 0 0, .slice (some ⟨w.heap.size, 0, none⟩) 9 9] 220)
      rw [World.size_alloc] at this; unfold nodeB; rw [kv_zero]; exact this
  case round =>
    obtain ⟨l, y0, rfl, y1, ⟨k, y2⟩, y3, fr⟩ := hrel
    have k1 : wr.cell? ⟨w.heap.size + 1, 2, none⟩ = some (.slice (some ⟨w.heap.size, 0, none⟩) 9 9) := cell_of y2 2
    by_cases hl : l < 9
    · have hl' : (l : Int) < 9 := by omega
      obtain ⟨g1, g2⟩ := lcells_at 9 (fun m => if m < l then ((none : Option Addr), (1 : Int)) else (none, 0)) l hl
      rw [Nat.mul_comm] at g2
      have k2 : wr.cell? ⟨w.heap.size, l * 2 + 1, none⟩ = some (.int .i64 0) := by rw [cell_of y1]; simpa using g2
      have f2 : wr.frozen? ⟨w.heap.size, l * 2 + 1, none⟩ = false := frozen_of y1 _
      clear g1 g2
      go_wp2_with fail
      go_roundg (gk - 1)
      case measure => omega
      case rel =>
        refine ⟨l + 1, by omega, by go_num, ?_, ⟨k, ?_⟩, by simpa using y3, Fr.setCell fr (by exact fun e => absurd e (by simp)) _⟩
        · rw [blk_set y1]
          simp only [linkB]
          have := lcells_set1 9 (fun m => if m < l then ((none : Option Addr), (1 : Int)) else (none, 0)) l hl 1
          rw [Nat.mul_comm 2 l] at this
          have e : (fun m => if m < l + 1 then ((none : Option Addr), (1 : Int)) else (none, 0)) = (fun m => if m = l then (((if l < l then ((none : Option Addr), (1 : Int)) else (none, 0))).1, (1 : Int)) else if m < l then (none, 1) else (none, 0)) := by
            funext m
            by_cases c : m = l
            · subst c; simp
            · by_cases d : m < l
              · simp [c, d, Nat.lt_succ_of_lt d]
              · simp [c, d, show ¬ m < l + 1 by omega]
          rw [e, ← this]
          simp
        · rw [blk_set_ne _ _ (by omega)]; exact y2
    · have hl' : ¬ (l : Int) < 9 := by omega
      have el : l = 9 := by omega
      subst el
      go_wp2_with fail
      go_ret
      refine ⟨w.heap.size + 2, rfl, fun x => x = w.heap.size + 2 ∨ x ∈ blocks [⟨w.heap.size + 1, w.heap.size, 9, k, 0⟩], ⟨⟨w.heap.size + 1, w.heap.size, 9, k, 0⟩, [], 0, (by rw [← y3]; exact blk_new _ _), by omega, by omega, ⟨fun j n hj => ?_, by simp [blocks]⟩, rfl, by simp, by simp [blocks], rfl, fun x => Iff.rfl⟩, ?_, Fr.alloc fr _⟩
      · cases j with
        | zero =>
          simp at hj; subst hj
          refine ⟨by rw [Below.heap_alloc _ _ _ (by simp; omega)]; exact y2, ?_⟩
          rw [Below.heap_alloc _ _ _ (by simp; omega), y1]
          simp only [linkB]
          congr 3
        | succ j => simp at hj
      · rintro x (e | e)
        · omega
        · simp [blocks] at e; omega

end Go.Proofs.YthbnbocpddddmaaGreat.SkI
