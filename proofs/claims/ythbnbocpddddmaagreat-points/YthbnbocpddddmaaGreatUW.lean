import Derived.Test.YthbnbocpddddmaaGreatUV
import Derived.Test.YthbnbocpddddmaaGreatQR
import Derived.Laws.ComplexArith
namespace Go.Proofs.YthbnbocpddddmaaGreat
open Go.RowKit Go.Shelf

attribute [local go_sem] Oper.semAt_some

theorem Fr.put (W : World) (l : Nat) (o : Obj) : Fr (fun x => x = l) W (W.putObj l o) := ⟨rfl, rfl, rfl, by simp, fun _ _ hn => World.putObj_heap_other hn⟩

theorem mcompareG (g : Bool) (m : Nat) (t : Bool) (c : Int) (own : Nat → Prop) (xs : Row) (a b : Int) (w : World) (h : MapG g w m t c own xs) (b0 : 0 ≤ c) (b1 : c ≤ 9000000000000000000) :
    Calls Tryz.prog 97 #[.pointer (some ⟨m, 0, none⟩), kv a, kv b] w fun e w' => e = .returned (.int .i64 (side t a b)) ∧ MapG g w' m t (c + 1) own xs ∧ Fr (fun x => x = m) w w' := by
  cases g
  · obtain ⟨p, oE, h1, h2, h3, h4, h5⟩ := h
    exact (mcompare_any m t _ c a b w h1 b0 b1).mono fun e w' ⟨q1, q2, q3⟩ => ⟨q1, ⟨p, oE, q2, h2.fr q3 fun x hx e => h3 (e ▸ hx), h3, h4, h5⟩, q3⟩
  · obtain ⟨p, oE, h1, h2, h3, h4, h5⟩ := h
    exact (mcompare_any m t _ c a b w h1 b0 b1).mono fun e w' ⟨q1, q2, q3⟩ => ⟨q1, ⟨p, oE, q2, h2.fr q3 fun x hx e => h3 (e ▸ hx), h3, h4, h5⟩, q3⟩

theorem below_iff {t : Bool} {xs : Row} (h : Srt t xs) {j : Nat} {p : Int × Int} (hj : xs[j]? = some p) (k : Int) : (side t p.1 k < 0 ↔ j < lrank t k xs) := by
  obtain ⟨h1, h2⟩ := take_below (k := k) h
  constructor
  · intro e
    rcases Nat.lt_or_ge j (lrank t k xs) with q | q
    · exact q
    · have hm : p ∈ xs.drop (lrank t k xs) := List.mem_of_getElem? (i := j - lrank t k xs) (by rw [List.getElem?_drop, show lrank t k xs + (j - lrank t k xs) = j by omega]; exact hj)
      have := h2 p hm
      rw [side_neg.1 e] at this
      cases this
  · intro e
    exact side_neg.2 (h1 p (List.mem_of_getElem? (i := j) (by rw [List.getElem?_take_of_lt e]; exact hj)))

set_option maxHeartbeats 400000 in
theorem rising_any (m : Nat) (k : Int) (w : World) : Calls Tryz.prog 169 #[.pointer (some ⟨m, 0, none⟩), .agg #[.int .i64 1, kv k]] w fun e w' =>
    e = .returned (.func (.func 172) #[] #[.pointer (some ⟨w.heap.size, 0, none⟩), .pointer (some ⟨w.heap.size + 1, 0, none⟩)]) ∧ w' = (w.alloc (.cells #[.pointer (some ⟨m, 0, none⟩)] 50)).alloc (.cells #[.int .i64 1, kv k] 280) := by
  go_enter Tryz.func169, Tryz.ntmps169
  go_wp2_with fail
  go_ret
  exact ⟨rfl, rfl⟩

set_option maxRecDepth 100000 in
set_option maxHeartbeats 4000000 in
theorem range1_in (l1 m Bm Bf Bt Bs : Nat) (g t : Bool) (own : Nat → Prop) (xs : Row) (f tk c0 : Int) (R1 : Nat → World → Prop) (W : World) (hl : xs.length ≤ 400) (b0 : 0 ≤ c0) (b1 : c0 ≤ 7500000000000000000)
    (hR : ∀ j V V', R1 j V → Fr (fun x => x = m) V V' → (∃ items c, V.heap[m]? = some (mapBlk t items c)) → R1 j V')
    (hRp : ∀ j V V' , R1 j V → Fr (fun x => W.heap.size ≤ x) V V' → R1 j V')
    (hY : ∀ (j : Nat) (p : Int × Int) (V : World), xs[j]? = some p → lrank t f xs ≤ j → j < lrank t tk xs → R1 j V → YieldAt Fence.wide 0 Tryz.prog l1 #[kv p.1, kv p.2] V fun e V' => e = .returned (.bool true) ∧ R1 (j + 1) V' ∧ Fr (fun x => x = Bs ∨ x = l1) V V')
    (hM : MapG g W m t c0 own xs) (hBm : W.cell? ⟨Bm, 0, none⟩ = some (.pointer (some ⟨m, 0, none⟩))) (hBf : W.cell? ⟨Bf, 0, none⟩ = some (kv f)) (hBt : W.cell? ⟨Bt, 0, none⟩ = some (kv tk))
    (n1 : ¬ (Bm = m ∨ Bm = Bs ∨ Bm = l1)) (n2 : ¬ (Bt = m ∨ Bt = Bs ∨ Bt = l1)) (n3 : ∀ x, own x → ¬ (x = Bs ∨ x = l1)) (zs : Bs < W.heap.size) (zl : l1 < W.heap.size) (h0 : R1 (lrank t f xs) W) :
    CallsIn Fence.wide 0 Tryz.prog 168 #[.func (.yield l1) #[] #[], .pointer (some ⟨Bm, 0, none⟩), .pointer (some ⟨Bf, 0, none⟩), .pointer (some ⟨Bt, 0, none⟩)] W fun e W' => (∃ v, e = .returned v) ∧
      (∃ c', MapG g W' m t c' own xs ∧ c0 ≤ c' ∧ c' ≤ c0 + 4100000) ∧ R1 (max (lrank t f xs) (lrank t tk xs)) W' ∧ Fr (fun x => x = m ∨ x = Bs ∨ x = l1) W W' := by
  have hsr := hM.srt
  have hlf := lrank_le t f xs
  have hlt := lrank_le t tk xs
  have hri := rising_any m f (W.alloc (.cells #[.func (.yield l1) #[] #[]] 305))
  have A0 : Fr (fun _ => False) W (W.alloc (.cells #[.func (.yield l1) #[] #[]] 305)) := Fr.alloc (Fr.refl _ _) _
  have d1 := (A0.cell (b := Bm) 0 (lt_cell hBm) fun e => e).trans hBm
  have d2 := (A0.cell (b := Bf) 0 (lt_cell hBf) fun e => e).trans hBf
  refine callsIn_of_wp_marks Tryz.func168 rfl trivial ?_ rfl
  simp only [Tryz.ntmps168, List.size_toArray, List.length_cons, List.length_nil, Nat.reduceAdd, Nat.reduceSub, Array.replicate_succ, Array.replicate_zero, List.push_toArray, List.append_toArray, List.nil_append, List.cons_append]
  gi_wp2_with fail
  refine ⟨trivial, rfl, (callsIn_wide.2 hri).mono ?_⟩
  rintro e W2 ⟨rfl, rfl⟩
  gi_wp2_with fail
  obtain ⟨W2, hW2⟩ : ∃ W2, ((W.alloc (.cells #[.func (.yield l1) #[] #[]] 305)).alloc (.cells #[.pointer (some ⟨m, 0, none⟩)] 50)).alloc (.cells #[.int .i64 1, kv f] 280) = W2 := ⟨_, rfl⟩
  have hz : W2.heap.size = W.heap.size + 3 := by rw [← hW2]; simp
  have F2 : Fr (fun _ => False) W W2 := by rw [← hW2]; exact Fr.alloc (Fr.alloc A0 _) _
  have B0 : W2.heap[W.heap.size]? = some (.cells #[.func (.yield l1) #[] #[]] 305 (0, 0)) := by
    rw [← hW2, Below.heap_alloc _ _ _ (by simp; omega), Below.heap_alloc _ _ _ (by simp)]; exact blk_new _ _
  have B1 : W2.heap[W.heap.size + 1]? = some (.cells #[.pointer (some ⟨m, 0, none⟩)] 50 (0, 0)) := by
    rw [← hW2, Below.heap_alloc _ _ _ (by simp)]
    have := blk_new (W.alloc (.cells #[.func (.yield l1) #[] #[]] 305)) (.cells #[.pointer (some ⟨m, 0, none⟩)] 50)
    rwa [World.size_alloc] at this
  have B2 : W2.heap[W.heap.size + 1 + 1]? = some (.cells #[.int .i64 1, kv f] 280 (0, 0)) := by
    rw [← hW2]
    have := blk_new ((W.alloc (.cells #[.func (.yield l1) #[] #[]] 305)).alloc (.cells #[.pointer (some ⟨m, 0, none⟩)] 50)) (.cells #[.int .i64 1, kv f] 280)
    rwa [World.size_alloc, World.size_alloc] at this
  rw [hW2]
  have hown : ∀ x, own x → x < W.heap.size := hM.lt
  have hmo := hM.self
  have hmz := hown m hmo
  have M2 := hM.fr F2 fun _ _ e => e
  have nmy : ∀ x, W.heap.size ≤ x → ¬ (x = m ∨ x = Bs ∨ x = l1) := fun x hx e => by omega
  have mput : ∀ (V : World) (l : Nat) (o : Obj) (c : Int), W2.heap.size ≤ l → MapG g V m t c own xs → MapG g (V.putObj l o) m t c own xs := fun V l o c hl' h => h.fr (Fr.put V l o) fun x hx e => by have := hown x hx; omega
  have mput' : ∀ (V : World) (l : Nat) (o : Obj) (c : Int), W2.heap.size ≤ l → MapG g (V.putObj l o) m t c own xs → MapG g V m t c own xs := fun V l o c hl' h => h.fr (S := fun x => x = l) ⟨rfl, rfl, rfl, by simp, fun k _ hn => (World.putObj_heap_other hn).symm⟩ fun x hx e => by have := hown x hx; omega
  refine range_law (gf := 172) (lb := #[.pointer (some ⟨W.heap.size + 1, 0, none⟩), .pointer (some ⟨W.heap.size + 1 + 1, 0, none⟩)]) rfl (enters_of Tryz.func172 (by kernel_rfl) rfl) rfl
    (fun j V => (R1 j V ∧ Fr (fun x => x = m ∨ x = Bs ∨ x = l1) W V ∧ V.heap[W.heap.size]? = some (.cells #[.func (.yield l1) #[] #[]] 305 (0, 0))) ∧ lrank t f xs ≤ j ∧ j ≤ max (lrank t f xs) (lrank t tk xs))
    (fun V => R1 (max (lrank t f xs) (lrank t tk xs)) V ∧ Fr (fun x => x = m ∨ x = Bs ∨ x = l1) W V)
    (fun j V => ∃ c, MapG g V m t c own xs ∧ c0 ≤ c ∧ c ≤ c0 + 10001 * ((j : Int) + 1))
    (fun V V' => (∀ c, MapG g V m t c own xs → 0 ≤ c → c ≤ 8000000000000000000 → ∃ c', MapG g V' m t c' own xs ∧ c ≤ c' ∧ c' ≤ c + 1) ∧ V'.cell? ⟨W.heap.size + 1, 0, none⟩ = V.cell? ⟨W.heap.size + 1, 0, none⟩)
    (fun V => ∃ c', MapG g V m t c' own xs ∧ c0 ≤ c' ∧ c' ≤ c0 + 4100000)
    (fun V V' => Fr (fun x => x = m) V V' ∧ ∃ items c, V.heap[m]? = some (mapBlk t items c))
    (fun j => xs[j]?) (lrank t f xs) xs.length
    (fun x => { tmps := #[.func (.yield l1) #[] #[], .pointer (some ⟨Bm, 0, none⟩), .pointer (some ⟨Bf, 0, none⟩), .pointer (some ⟨Bt, 0, none⟩), .pointer (some ⟨W.heap.size, 0, none⟩), kv x.1, kv x.2, .pointer (some ⟨m, 0, none⟩), kv f, .agg #[.int .i64 1, kv f],
      .func (.func 172) #[] #[.pointer (some ⟨W.heap.size + 1, 0, none⟩), .pointer (some ⟨W.heap.size + 1 + 1, 0, none⟩)], kv x.1, kv x.2, undef, undef, undef, undef, undef, undef, undef, undef, undef, undef, undef, undef], defers := [] })
    ?hI ?hIx ?hE ?hZ ?hG1 ?hG2 ?hSt ?h0 ?hassign ?hbody ?hseq ?hdone ?hstop
  case hI =>
    rintro j V l o ⟨⟨q1, q2, q3⟩, q4⟩ hl'
    have fp := Fr.put V l o
    exact ⟨⟨hRp j V _ q1 (fp.mono fun x _ e => by rw [e]; omega), q2.trans fp fun x hx e => by omega, (World.putObj_heap_other (by omega)).trans q3⟩, q4⟩
  case hIx =>
    rintro V l o ⟨q1, q2⟩ hl'
    have fp := Fr.put V l o
    exact ⟨hRp _ V _ q1 (fp.mono fun x _ e => by rw [e]; omega), q2.trans fp fun x hx e => by omega⟩
  case hE =>
    rintro j V l o ⟨c, q1, q2, q3⟩ hl'
    exact ⟨c, mput V l o c (by omega) q1, q2, q3⟩
  case hZ =>
    rintro V l o ⟨c, q1, q2, q3⟩ hl'
    exact ⟨c, mput V l o c (by omega) q1, q2, q3⟩
  case hG1 =>
    rintro V l o V' hl' ⟨q1, q2⟩
    refine ⟨fun c hc h0' h1' => q1 c (mput V l o c (by omega) hc) h0' h1', q2.trans (World.cell?_of_block (World.putObj_heap_other (by simp; omega)))⟩
  case hG2 =>
    rintro V V' l o hl' ⟨q1, q2⟩
    refine ⟨fun c hc h0' h1' => ?_, (World.cell?_of_block (World.putObj_heap_other (by simp; omega))).trans q2⟩
    obtain ⟨c', d1, d2, d3⟩ := q1 c hc h0' h1'
    exact ⟨c', mput V' l o c' (by omega) d1, d2, d3⟩
  case hSt =>
    rintro j V V' o o' ⟨⟨q1, q2, q3⟩, q4⟩ ⟨s1, s2⟩ k1 k2
    obtain ⟨items, c, hm⟩ := s2
    have e1 := s1.block W2.heap.size (lt_of_blk k1) (by omega)
    have e2 := s1.block (W2.heap.size + 1) (lt_of_blk k2) (by omega)
    exact ⟨⟨⟨hR j V V' q1 s1 ⟨items, c, hm⟩, q2.trans s1 fun x _ e => Or.inl e, (s1.block W.heap.size (lt_of_blk q3) (by omega)).trans q3⟩, q4⟩, e1, e2⟩
  case h0 =>
    intro o o'
    have fa : Fr (fun _ => False) W2 ((W2.alloc o).alloc o') := Fr.alloc (Fr.alloc (Fr.refl _ _) _) _
    have fb := F2.trans fa fun _ _ e => e
    exact ⟨⟨hRp _ W _ h0 (fb.mono fun _ _ e => e.elim), fb.mono fun _ _ e => e.elim, (fa.block _ (lt_of_blk B0) fun e => e).trans B0⟩, Nat.le_refl _, Nat.le_max_left _ _⟩
  case hassign =>
    intro l x V K hK
    gi_wp2
    exact hK
  case hbody =>
    rintro j x V hx ⟨⟨q1, q2, q3⟩, q4, q5⟩ ⟨c, e1, e2, e3⟩ hsz
    have hjl := (List.getElem?_eq_some_iff.1 hx).1
    have u1 := (q2.cell (b := Bm) 0 (lt_cell hBm) n1).trans hBm
    have u2 := (q2.cell (b := Bt) 0 (lt_cell hBt) n2).trans hBt
    have hcmp := mcompareG g m t c own xs x.1 tk V e1 (by omega) (by omega)
    have hbi := below_iff hsr hx tk
    have hz2 : W.heap.size < V.heap.size := by omega
    have HK : Hid (∀ V', Fr (fun x => x = m) V V' → MapG g V' m t (c + 1) own xs → (V'.heap[W2.heap.size]? = V.heap[W2.heap.size]? ∧ V'.heap[W2.heap.size + 1]? = V.heap[W2.heap.size + 1]?) ∧ (∀ c, MapG g V m t c own xs → 0 ≤ c → c ≤ 8000000000000000000 → ∃ c', MapG g V' m t c' own xs ∧ c ≤ c' ∧ c' ≤ c + 1) ∧ V'.cell? ⟨W.heap.size + 1, 0, none⟩ = V.cell? ⟨W.heap.size + 1, 0, none⟩) := fun V' fv hv =>
      ⟨⟨fv.block _ (by omega) (by omega), fv.block _ (by omega) (by omega)⟩, fun d hd h1 h2 => (by
        obtain ⟨i1, y1⟩ := map_cells e1
        obtain ⟨i2, y2⟩ := map_cells hd
        rw [y1] at y2
        have : c = d := by simpa [mapBlk] using (by simpa [mapBlk] using y2 : _ ∧ _ ∧ c = d).2.2
        exact ⟨c + 1, hv, by omega, by omega⟩), fv.cell (b := W.heap.size + 1) 0 (by omega) (by omega)⟩
    gi_wp2_with fail
    refine ⟨trivial, rfl, (CallsIn.inRound _ (callsIn_wide.2 hcmp)).mono ?_⟩
    rintro e V1 ⟨rfl, M1, F1⟩
    obtain ⟨⟨k1, k2⟩, k3, k4⟩ := HK.out V1 F1 M1
    have R2 := hR j V V1 q1 F1 (let ⟨items, e⟩ := map_cells e1; ⟨items, _, e⟩)
    have q2' := q2.trans F1 fun x _ e => Or.inl e
    have q3' := (F1.block W.heap.size hz2 (by omega)).trans q3
    have u3 : V1.cell? ⟨W.heap.size, 0, none⟩ = some (.func (.yield l1) #[] #[]) := cell_of q3' 0
    have zV := F1.size
    clear hcmp HK
    by_cases hs : side t x.1 tk < 0
    · have hs0 : ¬ 0 ≤ side t x.1 tk := by omega
      have hjt := hbi.1 hs
      obtain ⟨fn, tmps, asg, bdy, hy, hRd⟩ := hY j x V1 hx q4 hjt R2
      generalize side t x.1 tk = sd at *
      gi_wp2_with fail
      refine ⟨rfl, RoundIn.mono hRd ?_⟩
      rintro e V2 ⟨rfl, R3, F3⟩
      have w1 := F3.block W2.heap.size (by omega) (by omega)
      have w2 := F3.block (W2.heap.size + 1) (by omega) (by omega)
      have w3 := F3.cell (b := W.heap.size + 1) 0 (by omega) (by omega)
      have w4 := (F3.block W.heap.size (by omega) (by omega)).trans q3'
      gi_wp2_with fail
      refine ⟨⟨w1.trans k1, w2.trans k2⟩, ⟨fun d hd h1 h2 => ?_, w3.trans k4⟩, ⟨R3, q2'.trans F3 fun x _ e => Or.inr e, w4⟩, by omega, by omega⟩
      obtain ⟨d', y1, y2, y3⟩ := k3 d hd h1 h2
      exact ⟨d', y1.fr F3 n3, y2, y3⟩
    · have hs0 : 0 ≤ side t x.1 tk := by omega
      have hjt : ¬ j < lrank t tk xs := fun e => hs (hbi.2 e)
      have hmx : max (lrank t f xs) (lrank t tk xs) = j := by omega
      generalize side t x.1 tk = sd at *
      gi_wp2_with fail
      refine ⟨fun _ h => (by cases h), ?_⟩
      gi_wp2_with fail
      refine ⟨⟨k1, k2⟩, ⟨k3, k4⟩, ?_, q2'⟩
      rw [hmx]
      exact R2
  case hseq =>
    rintro R Rx W1 fw _ _ hcl hyd hr0
    have z1 := fw.size
    refine (rising1_in (W2.heap.size + 1) m (W.heap.size + 1) (W.heap.size + 1 + 1) g t own xs f c0 R Rx hl b0 b1 (by omega) (fun j V V' a b c => hcl j V V' a ⟨b, c⟩) ?_ W1 (M2.fr fw fun _ _ e => e)
      ((fw.cell (b := W.heap.size + 1) 0 (by omega) fun e => e).trans (cell_of B1 0)) ((fw.cell (b := W.heap.size + 1 + 1) 0 (by omega) fun e => e).trans (cell_of B2 0)) ((fw.cell (b := W.heap.size + 1 + 1) 1 (by omega) fun e => e).trans (cell_of B2 1)) (by omega) hr0).mono ?_
    · intro j p V c hp hRj hMj c0' c1'
      have hjl := (List.getElem?_eq_some_iff.1 hp).1
      obtain ⟨fn, tmps, asg, bdy, hy, hRd⟩ := hyd j p V hp hRj ⟨c, hMj, c0', c1'⟩
      refine ⟨fn, tmps, asg, bdy, hy, hRd.mono ?_⟩
      rintro e V' (⟨y1, y2, y3, y4⟩ | ⟨y1, y2, y3, y4⟩)
      · exact Or.inl ⟨y1, y2, y3 c hMj (by omega) (by omega), y4⟩
      · exact Or.inr ⟨y1, y2, y3 c hMj (by omega) (by omega)⟩
    · rintro e V' ⟨y1, y2, y3⟩
      exact ⟨y1, y2, y3⟩
  case hdone =>
    rintro V ⟨⟨q1, q2, q3⟩, q4, q5⟩ ⟨c, z1, z2, z3⟩ hK
    gi_wp2
    have hmx : max (lrank t f xs) (lrank t tk xs) = xs.length := by omega
    have fp := Fr.put V W2.heap.size (.deferred none)
    refine ⟨by simp, .inl ⟨_, _, rfl, run_takeDeferred hK, ?_⟩⟩
    refine ⟨_, results_none rfl _ _ _, ⟨_, rfl⟩, ⟨c, mput V _ _ c (Nat.le_refl _) z1, z2, z3⟩, ?_, q2.trans fp fun x hx e => by omega⟩
    rw [hmx]
    exact hRp _ V _ q1 (fp.mono fun x _ e => by rw [e]; omega)
  case hstop =>
    rintro V ⟨q1, q2⟩ ⟨c, z1, z2, z3⟩ hK
    gi_wp2
    have fp := Fr.put V W2.heap.size (.deferred none)
    refine ⟨by simp, .inl ⟨_, _, rfl, run_takeDeferred hK, ?_⟩⟩
    exact ⟨_, results_none rfl _ _ _, ⟨_, rfl⟩, ⟨c, mput V _ _ c (Nat.le_refl _) z1, z2, z3⟩, hRp _ V _ q1 (fp.mono fun x _ e => by rw [e]; omega), q2.trans fp fun x hx e => by omega⟩

end Go.Proofs.YthbnbocpddddmaaGreat

namespace Go.Proofs.YthbnbocpddddmaaGreat
open Go.RowKit

/-- A sum of two parts: a number, or none. -/
def AddOk (x v r : Nat) : Prop := Ieee.double.add x v = some r ∨ (Ieee.double.add x v = none ∧ nanB r = true)

/-- What a chain of additions from 0 may give. -/
inductive Chain : List Nat → Nat → Prop
  | nil : Chain [] 0
  | snoc {vs : List Nat} {x v r : Nat} (h : Chain vs x) (a : AddOk x v r) : Chain (vs ++ [v]) r

theorem add_nan {x v : Nat} (h : nanB x = true) : Ieee.double.add x v = none := by
  unfold Ieee.Format.add
  unfold nanB at h
  cases hr : Ieee.double.read x with
  | nan s f => rfl
  | infinity s => rw [hr] at h; simp [Ieee.Datum.isNaN] at h
  | number s m i => rw [hr] at h; simp [Ieee.Datum.isNaN] at h

theorem chain_same {vs ws : List Nat} {x y : Nat} (h : Chain vs x) (k : Chain ws y) (e : vs = ws) : sameF x y := by
  induction h generalizing ws y with
  | nil =>
    cases k with
    | nil => exact Or.inl rfl
    | snoc k a => simp at e
  | snoc h a ih =>
    cases k with
    | nil => simp at e
    | snoc k b =>
      obtain ⟨e1, e2⟩ := List.append_inj' e rfl
      simp only [List.cons.injEq, and_true] at e2
      subst e2
      rcases ih k e1 with rfl | ⟨n1, n2⟩
      · rcases a with a | ⟨a1, a2⟩
        · rcases b with b | ⟨b1, _⟩
          · rw [a] at b; cases b; exact Or.inl rfl
          · rw [a] at b1; cases b1
        · rcases b with b | ⟨_, b2⟩
          · rw [a1] at b; cases b
          · exact Or.inr ⟨a2, b2⟩
      · rcases a with a | ⟨_, a2⟩
        · rw [add_nan n1] at a; cases a
        · rcases b with b | ⟨_, b2⟩
          · rw [add_nan n2] at b; cases b
          · exact Or.inr ⟨a2, b2⟩

theorem cut_nan (x y t : Nat) : nanB (Question.cut (.nanBits .f64 x y) t) = true := by
  have e1 : Ieee.double.signWeight = 9223372036854775808 := by decide
  have e2 : Ieee.double.binade = 4503599627370496 := by decide
  have e3 : Ieee.double.infRung = 9218868437227405312 := by decide
  have h1 : (t / 2) % (2 ^ 52 - 1) < 4503599627370495 := Nat.mod_lt _ (by decide)
  have h2 : t % 2 < 2 := Nat.mod_lt _ (by decide)
  have hc : (Question.nanBits FloatKind.f64 x y).cut t = (t % 2) * 2 ^ 63 + 0x7ff0000000000000 + 1 + (t / 2) % (2 ^ 52 - 1) := rfl
  rw [hc]
  generalize (t / 2) % (2 ^ 52 - 1) = u at *
  generalize t % 2 = v at *
  unfold nanB Ieee.Format.read
  simp only [e1, e2, e3]
  have h3 : (v * 2 ^ 63 + 0x7ff0000000000000 + 1 + u) % 9223372036854775808 = 9218868437227405313 + u := by omega
  rw [h3, if_neg (by omega), if_neg (by omega), if_neg (by omega)]
  rfl

theorem run_fadd (P : Program) (t : TypeId) (x v : Nat) (w : World) : ∃ r n, AddOk x v r ∧ (binOp .add t (.float .f64 x) (.float .f64 v)).run P w = .ok (.float .f64 r) (w.drewN n) := by
  cases h : Ieee.double.add x v with
  | some r => exact ⟨r, 0, Or.inl h, run_float_arith w .add t .f64 x v r h⟩
  | none =>
    refine ⟨Question.cut (.nanBits .f64 x v) (w.tape w.drawn (.nanBits .f64 x v)), 1, Or.inr ⟨h, cut_nan _ _ _⟩, ?_⟩
    have h' : FloatKind.f64.format.add x v = none := h
    simp [binOp, Op.floatArith, h', Question.forced]
    rfl

theorem run_part (P : Program) (x v : Nat) (w : World) : ∃ r n, AddOk x v r ∧ (Op.Complex.arith .add .f64 x v).run P w = .ok r (w.drewN n) := by
  cases h : Ieee.double.add x v with
  | some r => exact ⟨r, 0, Or.inl h, run_carith w (op := .add) h⟩
  | none =>
    refine ⟨Question.cut (.nanBits .f64 x v) (w.tape w.drawn (.nanBits .f64 x v)), 1, Or.inr ⟨h, cut_nan _ _ _⟩, ?_⟩
    have h' : FloatKind.f64.format.add x v = none := h
    simp [Op.Complex.arith, Op.floatArith, h', Question.forced]
    rfl

theorem run_cadd (P : Program) (t : TypeId) (a b c d : Nat) (w : World) : ∃ re im n, AddOk a c re ∧ AddOk b d im ∧ (binOp .add t (.complex .f64 a b) (.complex .f64 c d)).run P w = .ok (.complex .f64 re im) (w.drewN n) := by
  obtain ⟨re, n1, h1, r1⟩ := run_part P a c w
  obtain ⟨im, n2, h2, r2⟩ := run_part P b d (w.drewN n1)
  refine ⟨re, im, n1 + n2, h1, h2, ?_⟩
  have e : (w.drewN n1).drewN n2 = w.drewN (n1 + n2) := by simp [World.drewN, Nat.add_assoc]
  rw [← e]
  simp [binOp, Op.complexOp, r1, r2]

end Go.Proofs.YthbnbocpddddmaaGreat

namespace Go.Proofs.YthbnbocpddddmaaGreat
open Go.RowKit Go.Shelf

attribute [local go_sem] Oper.semAt_some

/-- The values from one place on, below another one. -/
def seg (xs : Row) (i j : Nat) : List Int := ((xs.take j).drop i).map fun p => p.2

theorem seg_self (xs : Row) (i : Nat) : seg xs i i = [] := by
  unfold seg
  rw [List.drop_eq_nil_of_le (by simp <;> omega)]
  rfl
theorem seg_snoc {xs : Row} {i j : Nat} {p : Int × Int} (hj : xs[j]? = some p) (h : i ≤ j) : seg xs i (j + 1) = seg xs i j ++ [p.2] := by
  unfold seg
  have hl := (List.getElem?_eq_some_iff.1 hj).1
  rw [List.take_add_one, hj, List.drop_append_of_le_length (by simp <;> omega)]
  simp

set_option maxHeartbeats 400000 in
theorem range_any (m : Nat) (f tk : Int) (w : World) : Calls Tryz.prog 157 #[.pointer (some ⟨m, 0, none⟩), kv f, kv tk] w fun e w' =>
    e = .returned (.func (.func 168) #[] #[.pointer (some ⟨w.heap.size, 0, none⟩), .pointer (some ⟨w.heap.size + 1, 0, none⟩), .pointer (some ⟨w.heap.size + 2, 0, none⟩)]) ∧ w' = ((w.alloc (.cells #[.pointer (some ⟨m, 0, none⟩)] 50)).alloc (.cells #[kv f] 53)).alloc (.cells #[kv tk] 53) := by
  go_enter Tryz.func157, Tryz.ntmps157
  go_wp2_with fail
  go_ret
  exact ⟨rfl, rfl⟩

set_option maxRecDepth 100000 in
set_option maxHeartbeats 4000000 in
theorem sum_in (m : Nat) (g t : Bool) (own : Nat → Prop) (xs : Row) (f tk c0 : Int) (W : World) (hl : xs.length ≤ 400) (b0 : 0 ≤ c0) (b1 : c0 ≤ 7500000000000000000) (hM : MapG g W m t c0 own xs) :
    CallsIn Fence.wide 0 Tryz.prog 144 #[.pointer (some ⟨m, 0, none⟩), kv f, kv tk] W fun e W' => ∃ a b, e = .returned (.complex .f64 a b) ∧ Chain ((seg xs (lrank t f xs) (max (lrank t f xs) (lrank t tk xs))).map reB) a ∧ Chain ((seg xs (lrank t f xs) (max (lrank t f xs) (lrank t tk xs))).map imB) b ∧
      (∃ c', MapG g W' m t c' own xs ∧ c0 ≤ c' ∧ c' ≤ c0 + 4100000) ∧ Fr (fun x => x = m) W W' := by
  have hra := range_any m f tk (W.alloc (.cells #[.complex .f64 0 0] 53))
  have A0 : Fr (fun _ => False) W (W.alloc (.cells #[.complex .f64 0 0] 53)) := Fr.alloc (Fr.refl _ _) _
  refine callsIn_of_wp_marks Tryz.func144 rfl trivial ?_ rfl
  simp only [Tryz.ntmps144, List.size_toArray, List.length_cons, List.length_nil, Nat.reduceAdd, Nat.reduceSub, Array.replicate_succ, Array.replicate_zero, List.push_toArray, List.append_toArray, List.nil_append, List.cons_append]
  gi_wp2_with fail
  refine ⟨trivial, rfl, (callsIn_wide.2 hra).mono ?_⟩
  rintro e W2 ⟨rfl, rfl⟩
  gi_wp2_with fail
  obtain ⟨W2, hW2⟩ : ∃ W2, (((W.alloc (.cells #[.complex .f64 0 0] 53)).alloc (.cells #[.pointer (some ⟨m, 0, none⟩)] 50)).alloc (.cells #[kv f] 53)).alloc (.cells #[kv tk] 53) = W2 := ⟨_, rfl⟩
  have hz : W2.heap.size = W.heap.size + 4 := by rw [← hW2]; simp
  have F2 : Fr (fun _ => False) W W2 := by rw [← hW2]; exact Fr.alloc (Fr.alloc (Fr.alloc A0 _) _) _
  have B0 : W2.heap[W.heap.size]? = some (.cells #[.complex .f64 0 0] 53 (0, 0)) := by
    rw [← hW2, Below.heap_alloc _ _ _ (by simp <;> omega), Below.heap_alloc _ _ _ (by simp <;> omega), Below.heap_alloc _ _ _ (by simp)]; exact blk_new _ _
  have B1 : W2.heap[W.heap.size + 1]? = some (.cells #[.pointer (some ⟨m, 0, none⟩)] 50 (0, 0)) := by
    rw [← hW2, Below.heap_alloc _ _ _ (by simp <;> omega), Below.heap_alloc _ _ _ (by simp)]
    have := blk_new (W.alloc (.cells #[.complex .f64 0 0] 53)) (.cells #[.pointer (some ⟨m, 0, none⟩)] 50)
    rwa [World.size_alloc] at this
  have B2 : W2.heap[W.heap.size + 1 + 1]? = some (.cells #[kv f] 53 (0, 0)) := by
    rw [← hW2, Below.heap_alloc _ _ _ (by simp)]
    have := blk_new ((W.alloc (.cells #[.complex .f64 0 0] 53)).alloc (.cells #[.pointer (some ⟨m, 0, none⟩)] 50)) (.cells #[kv f] 53)
    rwa [World.size_alloc, World.size_alloc] at this
  have B3 : W2.heap[W.heap.size + 1 + 2]? = some (.cells #[kv tk] 53 (0, 0)) := by
    rw [← hW2]
    have := blk_new (((W.alloc (.cells #[.complex .f64 0 0] 53)).alloc (.cells #[.pointer (some ⟨m, 0, none⟩)] 50)).alloc (.cells #[kv f] 53)) (.cells #[kv tk] 53)
    rwa [World.size_alloc, World.size_alloc, World.size_alloc] at this
  rw [hW2]
  have hown : ∀ x, own x → x < W.heap.size := hM.lt
  have hmz := hown m hM.self
  have M2 := hM.fr F2 fun _ _ e => e
  have hsr := hM.srt
  refine range_law (gf := 168) (lb := #[.pointer (some ⟨W.heap.size + 1, 0, none⟩), .pointer (some ⟨W.heap.size + 1 + 1, 0, none⟩), .pointer (some ⟨W.heap.size + 1 + 2, 0, none⟩)]) rfl (enters_of Tryz.func168 (by kernel_rfl) rfl) rfl
    (fun j V => ∃ a b, V.heap[W.heap.size]? = some (.cells #[.complex .f64 a b] 53 (0, 0)) ∧ Chain ((seg xs (lrank t f xs) j).map reB) a ∧ Chain ((seg xs (lrank t f xs) j).map imB) b)
    (fun _ => False)
    (fun j _ => lrank t f xs ≤ j)
    (fun V V' => Fr (fun x => x = W.heap.size ∨ x = W2.heap.size + 1) V V')
    (fun V => (∃ c', MapG g V m t c' own xs ∧ c0 ≤ c' ∧ c' ≤ c0 + 4100000) ∧ Fr (fun x => x = m ∨ W.heap.size ≤ x) W V)
    (fun V V' => (Fr (fun x => x = m) V V' ∧ ∃ items c, V.heap[m]? = some (mapBlk t items c)) ∨ Fr (fun x => W2.heap.size + 2 ≤ x) V V')
    (fun j => xs[j]?) (lrank t f xs) (max (lrank t f xs) (lrank t tk xs))
    (fun x => { tmps := #[.pointer (some ⟨m, 0, none⟩), kv f, kv tk, undef, undef, undef, .complex .f64 0 0, .pointer (some ⟨W.heap.size, 0, none⟩), undef, kv x.2, .pointer (some ⟨m, 0, none⟩), kv f, kv tk,
      .func (.func 168) #[] #[.pointer (some ⟨W.heap.size + 1, 0, none⟩), .pointer (some ⟨W.heap.size + 1 + 1, 0, none⟩), .pointer (some ⟨W.heap.size + 1 + 2, 0, none⟩)], kv x.1, kv x.2, undef, undef, undef, undef], defers := [] })
    ?hI ?hIx ?hE ?hZ ?hG1 ?hG2 ?hSt ?h0 ?hassign ?hbody ?hseq ?hdone ?hstop
  case hI =>
    rintro j V l o ⟨a, b, q1, q2⟩ hl'
    exact ⟨a, b, (World.putObj_heap_other (by omega)).trans q1, q2⟩
  case hIx => exact fun _ _ _ h _ => h
  case hE => exact fun _ _ _ _ h _ => h
  case hZ =>
    rintro V l o ⟨⟨c, q1, q2⟩, q3⟩ hl'
    exact ⟨⟨c, q1.fr (Fr.put V l o) fun x hx e => (by have := hown x hx; omega), q2⟩, q3.trans (Fr.put V l o) fun x _ e => Or.inr (by omega)⟩
  case hG1 =>
    rintro V l o V' hl' q
    exact Fr.trans (S := fun x => x = W.heap.size ∨ x = W2.heap.size + 1) ((Fr.put V l o).mono fun x _ e => Or.inr (by omega)) q fun _ _ e => e
  case hG2 =>
    rintro V V' l o hl' q
    exact q.trans (Fr.put V' l o) fun x _ e => Or.inr (by omega)
  case hSt =>
    rintro j V V' o o' ⟨a, b, q1, q2⟩ s k1 k2
    rcases s with ⟨s, _⟩ | s
    · exact ⟨⟨a, b, (s.block _ (lt_of_blk q1) (by omega)).trans q1, q2⟩, s.block _ (lt_of_blk k1) (by omega), s.block _ (lt_of_blk k2) (by omega)⟩
    · exact ⟨⟨a, b, (s.block _ (lt_of_blk q1) (by omega)).trans q1, q2⟩, s.block _ (lt_of_blk k1) (by omega), s.block _ (lt_of_blk k2) (by omega)⟩
  case h0 =>
    intro o o'
    have fa : Fr (fun _ => False) W2 ((W2.alloc o).alloc o') := Fr.alloc (Fr.alloc (Fr.refl _ _) _) _
    refine ⟨0, 0, (fa.block _ (lt_of_blk B0) fun e => e).trans B0, ?_, ?_⟩
    · rw [seg_self]; exact Chain.nil
    · rw [seg_self]; exact Chain.nil
  case hassign =>
    intro l x V K hK
    gi_wp2
    exact hK
  case hbody =>
    rintro j x V hx ⟨a, b, q1, q2, q3⟩ hij hsz
    obtain ⟨re, im, n, k1, k2, hr⟩ := run_cadd Tryz.prog 53 a b (reB x.2) (imB x.2) V
    have c1 : V.cell? ⟨W.heap.size, 0, none⟩ = some (.complex .f64 a b) := cell_of q1 0
    have c2 : (V.drewN n).cell? ⟨W.heap.size, 0, none⟩ = some (.complex .f64 a b) := c1
    have c3 : (V.drewN n).frozen? ⟨W.heap.size, 0, none⟩ = false := frozen_of (w := V) q1 0
    have hsc := store_c
    have fd : Fr (fun x => x = W.heap.size) V ((V.drewN n).setCell ⟨W.heap.size, 0, none⟩ (.complex .f64 re im)) := Fr.setCell (Fr.drewN (Fr.refl _ _) n) (by exact fun _ => rfl) _
    have hb2 : ((V.drewN n).setCell ⟨W.heap.size, 0, none⟩ (.complex .f64 re im)).heap[W.heap.size]? = some (.cells #[.complex .f64 re im] 53 (0, 0)) := (blk_set (w := V.drewN n) q1 0 _).trans rfl
    have HI : Hid ((((V.drewN n).setCell ⟨W.heap.size, 0, none⟩ (.complex .f64 re im)).heap[W2.heap.size]? = V.heap[W2.heap.size]? ∧ ((V.drewN n).setCell ⟨W.heap.size, 0, none⟩ (.complex .f64 re im)).heap[W2.heap.size + 1]? = V.heap[W2.heap.size + 1]?) ∧ Fr (fun x => x = W.heap.size ∨ x = W2.heap.size + 1) V ((V.drewN n).setCell ⟨W.heap.size, 0, none⟩ (.complex .f64 re im)) ∧
        ∃ a b, ((V.drewN n).setCell ⟨W.heap.size, 0, none⟩ (.complex .f64 re im)).heap[W.heap.size]? = some (.cells #[.complex .f64 a b] 53 (0, 0)) ∧ Chain ((seg xs (lrank t f xs) (j + 1)).map reB) a ∧ Chain ((seg xs (lrank t f xs) (j + 1)).map imB) b) := by
      refine ⟨⟨fd.block _ (by omega) (by omega), fd.block _ (by omega) (by omega)⟩, fd.mono fun _ _ e => Or.inl e, re, im, hb2, ?_, ?_⟩
      · rw [seg_snoc hx hij, List.map_append]; exact Chain.snoc q2 k1
      · rw [seg_snoc hx hij, List.map_append]; exact Chain.snoc q3 k2
    clear fd hb2 q1 q2 q3
    gi_wp2_with fail
    exact HI.out
  case hseq =>
    rintro R Rx W1 fw hs1 hrx hcl hyd hr0
    refine (range1_in (W2.heap.size + 1) m (W.heap.size + 1) (W.heap.size + 1 + 1) (W.heap.size + 1 + 2) W.heap.size g t own xs f tk c0 R W1 hl b0 b1 (fun j V V' a b c => hcl j V V' a (Or.inl ⟨b, c⟩)) (fun j V V' a b => hcl j V V' a (Or.inr (b.mono fun x _ e => by omega))) ?_ (M2.fr fw fun _ _ e => e)
      ((fw.cell (b := W.heap.size + 1) 0 (by omega) fun e => e).trans (cell_of B1 0)) ((fw.cell (b := W.heap.size + 1 + 1) 0 (by omega) fun e => e).trans (cell_of B2 0)) ((fw.cell (b := W.heap.size + 1 + 2) 0 (by omega) fun e => e).trans (cell_of B3 0)) (by omega) (by omega) (fun x hx e => by have := hown x hx; omega) (by omega) (by omega) hr0).mono ?_
    · intro j p V hp hij hjt hRj
      obtain ⟨fn, tmps, asg, bdy, hy, hRd⟩ := hyd j p V hp hRj hij
      refine ⟨fn, tmps, asg, bdy, hy, hRd.mono ?_⟩
      rintro e V' (⟨y1, y2, y3⟩ | ⟨_, y2, _⟩)
      · exact ⟨y1, y2, y3⟩
      · exact (hrx V' y2).elim
    · rintro e V' ⟨y1, y2, y3, y4⟩
      exact ⟨y1, ⟨y2, ((F2.trans fw fun _ _ e => e).mono fun _ _ e => e.elim).trans y4 fun x hx e => by omega⟩, Or.inl y3⟩
  case hdone =>
    rintro V ⟨a, b, q1, q2, q3⟩ ⟨z1, z2⟩ hK
    have c1 : V.cell? ⟨W.heap.size, 0, none⟩ = some (.complex .f64 a b) := cell_of q1 0
    gi_wp2
    have fp := Fr.put V W2.heap.size (.deferred none)
    obtain ⟨c, m1, m2⟩ := z1
    refine ⟨by simp, .inl ⟨_, _, rfl, run_takeDeferred hK, ?_⟩⟩
    exact ⟨_, results_tmp rfl _ _ _, a, b, rfl, q2, q3, ⟨c, m1.fr fp fun x hx e => (by have := hown x hx; omega), m2⟩, (z2.trans fp fun x hx e => by omega).mono fun x hx e => by omega⟩
  case hstop => exact fun _ h => h.elim

end Go.Proofs.YthbnbocpddddmaaGreat
