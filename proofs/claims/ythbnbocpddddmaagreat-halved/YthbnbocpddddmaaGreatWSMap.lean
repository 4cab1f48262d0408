/- The first example: a map of Folded by the skip list: Put Ann, Put ANN, At 0. -/
import Derived.Test.YthbnbocpddddmaaGreatWSame
import Derived.Test.YthbnbocpddddmaaGreatWNewKS
import Derived.Test.YthbnbocpddddmaaGreatWFindKS
namespace Go.Proofs.YthbnbocpddddmaaGreat
open Go.RowKit

def ann : ByteArray := ⟨#[65, 110, 110]⟩
def big : ByteArray := ⟨#[65, 78, 78]⟩

theorem same_ann (w : World) : Calls Tryz.prog 277 #[.agg #[.bool true], .string big, .string ann] w fun e w' => e = .returned (.int .i64 0) ∧ Fr (fun _ => False) w w' := by
  refine texts_same true big ann w rfl ?_ ?_ ?_
  · intro i h
    have : i < 3 := h
    obtain rfl | rfl | rfl : i = 0 ∨ i = 1 ∨ i = 2 := by omega
    all_goals decide +revert
  · intro i h
    have : i < 3 := h
    obtain rfl | rfl | rfl : i = 0 ∨ i = 1 ∨ i = 2 := by omega
    all_goals decide +revert
  · intro i h h'
    have : i < 3 := h
    obtain rfl | rfl | rfl : i = 0 ∨ i = 1 ∨ i = 2 := by omega
    all_goals decide +revert

theorem method_compareS (w : World) : (method 489 201 (.agg #[.bool true]) "Compare").run Tryz.prog w = .ok (277, .agg #[.bool true]) w := by kernel_rfl

set_option maxRecDepth 100000 in
set_option maxHeartbeats 400000 in
theorem compareS_any (w : World) : Calls Tryz.prog 119 #[.agg #[.iface 201 (.agg #[.bool true]), .bool false], .string big, .string ann] w fun e w' => e = .returned (.int .i64 0) ∧ Fr (fun _ => False) w w' := by
  have hm := method_compareS
  generalize hB : big = B
  generalize hA : ann = A
  have hs := fun w => same_ann w
  rw [hB, hA] at hs
  clear hB hA
  go_enter Tryz.func119, Tryz.ntmps119
  go_wp2_with fail
  refine (hs _).mono ?_
  rintro e w' ⟨rfl, fr⟩
  go_wp2_with fail
  go_ret
  exact ⟨rfl, (Fr.alloc (Fr.refl _ _) _).trans fr fun _ _ e => e⟩

def smapBlk (items : Value) (c : Int) : Obj := .cells #[.iface 201 (.agg #[.bool true]), .bool false, .int .i64 1, items, .int .i64 c] 125 (0, 0)

set_option maxHeartbeats 1000000 in
theorem mcompareS_any (m : Nat) (items : Value) (c : Int) (w : World) (hm : w.heap[m]? = some (smapBlk items c)) (b0 : 0 ≤ c) (b1 : c ≤ 9000000000000000000) :
    Calls Tryz.prog 95 #[.pointer (some ⟨m, 0, none⟩), .string big, .string ann] w fun e w' => e = .returned (.int .i64 0) ∧
      w'.heap[m]? = some (smapBlk items (c + 1)) ∧ Fr (fun x => x = m) w w' := by
  have hcmp := fun w => compareS_any w
  have x1 := lt_of_blk hm
  have c0 : w.cell? ⟨m, 0, none⟩ = some (.iface 201 (.agg #[.bool true])) := cell_of hm 0
  have c1 : w.cell? ⟨m, 1, none⟩ = some (.bool false) := cell_of hm 1
  have c3 : w.cell? ⟨m, 4, none⟩ = some (.int .i64 c) := cell_of hm 4
  have f3 : w.frozen? ⟨m, 4, none⟩ = false := frozen_of hm 4
  generalize big = B at *
  generalize ann = A at *
  go_enter Tryz.func95, Tryz.ntmps95
  go_wp2_with fail
  refine (hcmp _).mono ?_
  rintro e w1 ⟨rfl, fr⟩
  go_wp2_with fail
  go_ret
  refine ⟨rfl, (fr.block m (by simpa using x1) (fun e => e)).trans ((blk_set hm 4 _).trans rfl), ?_⟩
  exact Fr.trans (Fr.setCell (Fr.refl _ _) (by exact fun _ => rfl) _) fr (fun _ _ e => e.elim)

set_option maxHeartbeats 1000000 in
theorem sideS_any (m mb kb : Nat) (items : Value) (c : Int) (w : World) (hm : w.heap[m]? = some (smapBlk items c))
    (hmb : w.heap[mb]? = some (.cells #[.pointer (some ⟨m, 0, none⟩)] 41 (0, 0))) (hkb : w.heap[kb]? = some (.cells #[.string big] 9 (0, 0)))
    (_n1 : mb ≠ m) (_n2 : kb ≠ m) (b0 : 0 ≤ c) (b1 : c ≤ 9000000000000000000) :
    Calls Tryz.prog 94 #[.string ann, .pointer (some ⟨mb, 0, none⟩), .pointer (some ⟨kb, 0, none⟩)] w fun e w' => e = .returned (.int .i64 0) ∧
      w'.heap[m]? = some (smapBlk items (c + 1)) ∧ Fr (fun x => x = m) w w' := by
  have d0 : w.cell? ⟨mb, 0, none⟩ = some (.pointer (some ⟨m, 0, none⟩)) := cell_of hmb 0
  have e0 : w.cell? ⟨kb, 0, none⟩ = some (.string big) := cell_of hkb 0
  have hc := mcompareS_any m items c w hm b0 b1
  clear hm hmb hkb
  generalize big = B at *
  generalize ann = A at *
  go_enter Tryz.func94, Tryz.ntmps94
  go_wp2_with fail
  refine hc.mono ?_
  rintro e w1 ⟨rfl, g1, g2⟩
  go_wp2_with fail
  go_ret
  exact ⟨rfl, g1, g2⟩

/-- The map of texts at block m. -/
def MapS (w : World) (m : Nat) (c : Int) (own : Nat → Prop) (xs : List (ByteArray × Int)) : Prop :=
  ∃ p ownE, w.heap[m]? = some (smapBlk (.iface 126 (.pointer (some ⟨p, 0, none⟩))) c) ∧ SkS.Eng w p ownE xs ∧ ¬ ownE m ∧ (∀ x, own x ↔ x = m ∨ ownE x)

theorem MapS.fr {S : Nat → Prop} {w w' : World} {m : Nat} {c : Int} {own : Nat → Prop} {xs : List (ByteArray × Int)} (h : MapS w m c own xs) (f : Fr S w w') (hd : ∀ x, own x → ¬ S x) : MapS w' m c own xs := by
  obtain ⟨p, oE, h1, h2, h3, h4⟩ := h
  exact ⟨p, oE, (f.block m (lt_of_blk h1) (hd m ((h4 m).2 (Or.inl rfl)))).trans h1, h2.fr f fun x hx => hd x ((h4 x).2 (Or.inr hx)), h3, h4⟩

theorem method_findS (a : Addr) (w : World) : (method 489 126 (.pointer (some a)) "Find").run Tryz.prog w = .ok (242, .pointer (some a)) w := by kernel_rfl
theorem method_atS (a : Addr) (w : World) : (method 489 126 (.pointer (some a)) "At").run Tryz.prog w = .ok (241, .pointer (some a)) w := by kernel_rfl
theorem method_setS (a : Addr) (w : World) : (method 489 126 (.pointer (some a)) "Set").run Tryz.prog w = .ok (246, .pointer (some a)) w := by kernel_rfl
theorem method_insertS (a : Addr) (w : World) : (method 489 126 (.pointer (some a)) "Insert").run Tryz.prog w = .ok (243, .pointer (some a)) w := by kernel_rfl
theorem method_lenS (a : Addr) (w : World) : (method 489 126 (.pointer (some a)) "Len").run Tryz.prog w = .ok (244, .pointer (some a)) w := by kernel_rfl

set_option maxRecDepth 100000 in
set_option maxHeartbeats 400000 in
theorem bareS_any (m : Nat) (c : Int) (own : Nat → Prop) (xs : List (ByteArray × Int)) (w : World) (h : MapS w m c own xs) :
    Calls Tryz.prog 64 #[.pointer (some ⟨m, 0, none⟩)] w fun e w' => e = .returned (.bool false) ∧ w' = w := by
  obtain ⟨p, oE, h1, h2, h3, h4⟩ := h
  have c2 : w.cell? ⟨m, 3, none⟩ = some (.iface 126 (.pointer (some ⟨p, 0, none⟩))) := cell_of h1 3
  clear h1 h2 h3 h4
  go_enter Tryz.func64, Tryz.ntmps64
  go_wp2_with fail
  go_ret
  exact ⟨rfl, rfl⟩

set_option maxRecDepth 100000 in
set_option maxHeartbeats 400000 in
theorem lenS_any (m : Nat) (c : Int) (own : Nat → Prop) (xs : List (ByteArray × Int)) (w : World) (h : MapS w m c own xs) :
    Calls Tryz.prog 66 #[.pointer (some ⟨m, 0, none⟩)] w fun e w' => e = .returned (.int .i64 xs.length) ∧ w' = w := by
  have hbare := bareS_any m c own xs w h
  obtain ⟨p, oE, h1, h2, h3, h4⟩ := h
  have c2 : w.cell? ⟨m, 3, none⟩ = some (.iface 126 (.pointer (some ⟨p, 0, none⟩))) := cell_of h1 3
  have hlen := SkS.kLen_any p oE xs w h2
  have hm := method_lenS
  clear h1 h2 h3 h4
  go_enter Tryz.func66, Tryz.ntmps66
  go_wp2_with fail
  refine hbare.mono ?_
  rintro e w2 ⟨rfl, rfl⟩
  go_wp2_with fail
  refine hlen.mono ?_
  rintro e w2 ⟨rfl, rfl⟩
  go_wp2_with fail
  go_ret
  exact ⟨rfl, rfl⟩

/-- Where the search asks of no key, or of the same one alone. -/
def Asks (k : ByteArray) (xs : List (ByteArray × Int)) : Prop := xs = [] ∨ (k = big ∧ ∃ v, xs = [(ann, v)])

set_option maxRecDepth 100000 in
set_option maxHeartbeats 400000 in
theorem findS_any (m : Nat) (c : Int) (own : Nat → Prop) (xs : List (ByteArray × Int)) (k : ByteArray) (w : World) (h : MapS w m c own xs) (hk : Asks k xs) (b0 : 0 ≤ c) (b1 : c ≤ 100000000) :
    Calls Tryz.prog 65 #[.pointer (some ⟨m, 0, none⟩), .string k] w fun e w' => ∃ n : Nat, e = .returned (.tuple #[.int .i64 0, .bool (!xs.isEmpty)]) ∧
      MapS w' m (c + n) own xs ∧ n ≤ 10000 ∧ Fr (fun x => x = m) w w' := by
  have hfr : Fr (fun _ => False) w ((w.alloc (.cells #[.pointer (some ⟨m, 0, none⟩)] 41)).alloc (.cells #[.string k] 9)) := Fr.alloc (Fr.alloc (Fr.refl _ _) _) _
  have h' := h.fr hfr fun _ _ e => e
  have hbare := bareS_any m c own xs _ h'
  obtain ⟨p, oE, h1, h2, h3, h4⟩ := h
  have hml := lt_of_blk h1
  obtain ⟨h1', h2'⟩ : ((w.alloc (.cells #[.pointer (some ⟨m, 0, none⟩)] 41)).alloc (.cells #[.string k] 9)).heap[m]? = some (smapBlk (.iface 126 (.pointer (some ⟨p, 0, none⟩))) c) ∧ SkS.Eng ((w.alloc (.cells #[.pointer (some ⟨m, 0, none⟩)] 41)).alloc (.cells #[.string k] 9)) p oE xs :=
    ⟨(hfr.block m hml (fun e => e)).trans h1, h2.fr hfr fun _ _ e => e⟩
  have c2 : w.cell? ⟨m, 3, none⟩ = some (.iface 126 (.pointer (some ⟨p, 0, none⟩))) := cell_of h1 3
  have hmb : ((w.alloc (.cells #[.pointer (some ⟨m, 0, none⟩)] 41)).alloc (.cells #[.string k] 9)).heap[w.heap.size]? = some (.cells #[.pointer (some ⟨m, 0, none⟩)] 41 (0, 0)) := by
    rw [Below.heap_alloc _ _ _ (by simp)]; exact blk_new _ _
  have hkb : ((w.alloc (.cells #[.pointer (some ⟨m, 0, none⟩)] 41)).alloc (.cells #[.string k] 9)).heap[w.heap.size + 1]? = some (.cells #[.string k] 9 (0, 0)) := by
    have := blk_new (w.alloc (.cells #[.pointer (some ⟨m, 0, none⟩)] 41)) (.cells #[.string k] 9)
    rw [World.size_alloc] at this; exact this
  have hlen : xs.length ≤ 4000 := by rcases hk with rfl | ⟨_, v, rfl⟩ <;> simp
  have hmono : xs.Pairwise fun a b => 0 ≤ (fun _ : ByteArray => (0 : Int)) b.1 → 0 < (fun _ : ByteArray => (0 : Int)) a.1 := by rcases hk with rfl | ⟨_, v, rfl⟩ <;> simp
  have hfind := SkS.kFind_any p m w.heap.size (w.heap.size + 1) oE xs (fun _ => 0) (smapBlk (.iface 126 (.pointer (some ⟨p, 0, none⟩)))) _ _ c _ h2' h1' hmb hkb h3 (by omega) (by omega) b0 (by omega) hlen hmono
    (fun c key wr hx g1 g2 g3 g4 g5 => by
      rcases hk with rfl | ⟨rfl, v, rfl⟩
      · obtain ⟨v, hv⟩ := hx; cases hv
      · obtain ⟨u, hu⟩ := hx
        simp at hu
        rw [hu.1]
        exact sideS_any m _ _ _ c wr g1 g2 g3 (by omega) (by omega) g4 g5)
  have e1 : (xs.countP fun a => decide (0 < (fun _ : ByteArray => (0 : Int)) a.1)) = 0 := by simp
  have e2 : (xs.any fun a => (fun _ : ByteArray => (0 : Int)) a.1 == 0) = !xs.isEmpty := by rcases hk with rfl | ⟨_, v, rfl⟩ <;> rfl
  rw [e1, e2] at hfind
  have hmeth := method_findS
  have HQ : Hid ((∀ x, own x ↔ x = m ∨ oE x) ∧ ¬ oE m) := ⟨h4, h3⟩
  clear h1 h1' hmb hkb h3 h4 hk e1 e2 hmono
  generalize (!xs.isEmpty) = bb at *
  go_enter Tryz.func65, Tryz.ntmps65
  go_wp2_with fail
  refine hbare.mono ?_
  rintro e w2 ⟨rfl, rfl⟩
  go_wp2_with fail
  refine hfind.mono ?_
  rintro e w3 ⟨n, rfl, g1, g2, g3, g4⟩
  go_wp2_with fail
  go_ret2
  obtain ⟨h4, h3⟩ := HQ.out
  refine ⟨n, rfl, ⟨p, oE, g1, h2'.fr g4 fun x hx e => h3 (e ▸ hx), h3, h4⟩, g2, ?_⟩
  exact Fr.trans (hfr.mono fun _ _ e => e.elim) g4 fun _ _ e => e

set_option maxRecDepth 100000 in
set_option maxHeartbeats 600000 in
theorem putS_first (m : Nat) (own : Nat → Prop) (w : World) (h : MapS w m 0 own []) :
    Calls Tryz.prog 17 #[.pointer (some ⟨m, 0, none⟩), .string ann, .int .i64 1] w fun e w' => ∃ (n : Nat) (own' : Nat → Prop), e = .returned (.tuple #[.int .i64 0, .bool false, .int .i64 0]) ∧
      MapS w' m n own' [(ann, 1)] ∧ n ≤ 10000 ∧ (∀ x, own' x → own x ∨ w.heap.size ≤ x) ∧ Fr own w w' := by
  have hbare := bareS_any m 0 own [] w h
  have hfind := findS_any m 0 own [] ann w h (Or.inl rfl) (by omega) (by omega)
  have hom : own m := (h.choose_spec.choose_spec.2.2.2 m).2 (Or.inl rfl)
  have hmeth3 := method_insertS
  simp only [List.isEmpty_nil, Bool.not_true] at hfind
  clear h
  have hann : ann = ann := rfl
  generalize ann = A at *
  clear hann
  go_enter Tryz.func17, Tryz.ntmps17
  go_wp2_with fail
  refine hbare.mono ?_
  rintro e w2 ⟨rfl, rfl⟩
  go_wp2_with fail
  refine hfind.mono ?_
  rintro e w3 ⟨n, rfl, g1, g2, g4⟩
  have hlen := lenS_any m _ own [] _ g1
  simp only [List.length_nil] at hlen
  obtain ⟨p, oE, h1, h2, h3, h4⟩ := g1
  have c2 : w3.cell? ⟨m, 3, none⟩ = some (.iface 126 (.pointer (some ⟨p, 0, none⟩))) := cell_of h1 3
  have hins := SkS.kInsert_any p oE [] 0 A 1 w3 h2 (Nat.zero_le _) (Nat.zero_le _)
  simp only [List.take_nil, List.drop_nil, List.nil_append] at hins
  go_wp2_with fail
  refine hlen.mono ?_
  rintro e w4 ⟨rfl, rfl⟩
  go_wp2_with fail
  refine hins.mono ?_
  rintro e w5 ⟨rfl, oE', q1, q2, q3⟩
  go_wp2_with fail
  go_ret3
  have nm : ¬ oE' m := fun e => by
    rcases q2 m e with e | e
    · exact h3 e
    · have := lt_of_blk h1; omega
  refine ⟨n, fun x => x = m ∨ oE' x, rfl, ⟨p, oE', by rw [q3.block m (lt_of_blk h1) h3, h1]; simp, q1, nm, fun x => Iff.rfl⟩, g2, fun x hx => ?_, ?_⟩
  · rcases hx with e | e
    · rw [e]; exact Or.inl hom
    · rcases q2 x e with e | e
      · exact Or.inl ((h4 x).2 (Or.inr e))
      · exact Or.inr (Nat.le_trans g4.size e)
  · exact (g4.mono fun x _ e => by rw [e]; exact hom).trans q3 fun x _ e => (h4 x).2 (Or.inr e)

set_option maxRecDepth 100000 in
set_option maxHeartbeats 600000 in
theorem putS_second (m : Nat) (c : Int) (own : Nat → Prop) (w : World) (h : MapS w m c own [(ann, 1)]) (b0 : 0 ≤ c) (b1 : c ≤ 100000000) :
    Calls Tryz.prog 17 #[.pointer (some ⟨m, 0, none⟩), .string big, .int .i64 2] w fun e w' => ∃ (n : Nat), e = .returned (.tuple #[.int .i64 1, .bool true, .int .i64 0]) ∧
      MapS w' m (c + n) own [(ann, 2)] ∧ n ≤ 10000 ∧ Fr own w w' := by
  have hbare := bareS_any m c own _ w h
  have hfind := findS_any m c own _ big w h (Or.inr ⟨rfl, 1, rfl⟩) b0 b1
  have hom : own m := (h.choose_spec.choose_spec.2.2.2 m).2 (Or.inl rfl)
  have hmeth := method_atS
  have hmeth2 := method_setS
  simp only [List.isEmpty_cons, Bool.not_false] at hfind
  clear h
  generalize ann = A at *
  generalize big = B at *
  go_enter Tryz.func17, Tryz.ntmps17
  go_wp2_with fail
  refine hbare.mono ?_
  rintro e w2 ⟨rfl, rfl⟩
  go_wp2_with fail
  refine hfind.mono ?_
  rintro e w3 ⟨n, rfl, g1, g2, g4⟩
  obtain ⟨p, oE, h1, h2, h3, h4⟩ := g1
  have c2 : w3.cell? ⟨m, 3, none⟩ = some (.iface 126 (.pointer (some ⟨p, 0, none⟩))) := cell_of h1 3
  have hat := SkS.kAt_any p oE _ 0 A 1 w3 h2 rfl (by simp)
  simp only [Int.natCast_zero] at hat
  go_wp2_with fail
  refine hat.mono ?_
  rintro e w4 ⟨rfl, fr⟩
  have h1' := (fr.block m (lt_of_blk h1) (fun e => e)).trans h1
  have c2' : w4.cell? ⟨m, 3, none⟩ = some (.iface 126 (.pointer (some ⟨p, 0, none⟩))) := cell_of h1' 3
  have hset := SkS.kSet_any p oE _ 0 A 1 2 w4 (h2.fr fr fun _ _ e => e) rfl (by simp)
  simp only [Int.natCast_zero, List.set_cons_zero] at hset
  go_wp2_with fail
  refine hset.mono ?_
  rintro e w5 ⟨rfl, q1, q2⟩
  go_wp2_with fail
  go_ret3
  refine ⟨n, rfl, ⟨p, oE, (q2.block m (lt_of_blk h1') h3).trans h1', q1, h3, h4⟩, g2, ?_⟩
  exact ((g4.mono fun x _ e => by rw [e]; exact hom).trans fr fun _ _ e => e.elim).trans q2 fun x _ e => (h4 x).2 (Or.inr e)

set_option maxRecDepth 100000 in
set_option maxHeartbeats 400000 in
theorem atS_any (m : Nat) (c : Int) (own : Nat → Prop) (w : World) (h : MapS w m c own [(ann, 2)]) :
    Calls Tryz.prog 75 #[.pointer (some ⟨m, 0, none⟩), .int .i64 0] w fun e w' => e = .returned (.tuple #[.string ann, .int .i64 2, .bool true]) ∧ Fr (fun _ => False) w w' := by
  have hlen := lenS_any m c own _ w h
  simp only [List.length_cons, List.length_nil] at hlen
  obtain ⟨p, oE, h1, h2, h3, h4⟩ := h
  have c2 : w.cell? ⟨m, 3, none⟩ = some (.iface 126 (.pointer (some ⟨p, 0, none⟩))) := cell_of h1 3
  have hmeth := method_atS
  have hat := SkS.kAt_any p oE _ 0 ann 2 w h2 rfl (by simp)
  simp only [Int.natCast_zero] at hat
  clear h1 h2 h3 h4
  generalize ann = A at *
  go_enter Tryz.func75, Tryz.ntmps75
  go_wp2_with fail
  refine hlen.mono ?_
  rintro e w2 ⟨rfl, rfl⟩
  go_wp2_with fail
  refine hat.mono ?_
  rintro e w2 ⟨rfl, fr⟩
  go_wp2_with fail
  go_ret3
  exact ⟨rfl, fr⟩

set_option maxRecDepth 100000 in
set_option maxHeartbeats 400000 in
theorem folded_any (w : World) : Calls Tryz.prog 54 #[] w fun e w' => e = .returned (.agg #[.iface 201 (.agg #[.bool true]), .bool false]) ∧ Fr (fun _ => False) w w' := by
  go_enter Tryz.func54, Tryz.ntmps54
  go_wp2_with fail
  exact bodyPost_ret (v := .agg #[.iface 201 (.agg #[.bool true]), .bool false]) (by simp [results, Tryz.results54, go_sem]) rfl ⟨rfl, Fr.alloc (Fr.refl _ _) _⟩

theorem cell_alloc_old' {w : World} {b off : Nat} (o : Obj) (h : b < w.heap.size) : (w.alloc o).cell? ⟨b, off, none⟩ = w.cell? ⟨b, off, none⟩ := World.cell?_of_block (w := w) (Below.heap_alloc _ _ _ h)

set_option maxRecDepth 100000 in
set_option maxHeartbeats 1000000 in
theorem newS_any (w : World) : Calls Tryz.prog 13 #[.agg #[.iface 201 (.agg #[.bool true]), .bool false], .int .i64 1] w fun e w' => ∃ m : Nat, e = .returned (.tuple #[.pointer (some ⟨m, 0, none⟩), .int .i64 0]) ∧ ∃ own : Nat → Prop, MapS w' m 0 own [] ∧ (∀ x, own x → w.heap.size ≤ x) ∧ Fr (fun _ => False) w w' := by
  go_enter Tryz.func13, Tryz.ntmps13
  go_wp2_with fail
  go_region_held3 (fun w' => w'.cell? ⟨w.heap.size, 0, none⟩ = some (.iface 201 (.agg #[.bool true])) ∧ w'.cell? ⟨w.heap.size, 1, none⟩ = some (.bool false))
    (refine ⟨?_, ?_⟩ <;> simp [*, cell_alloc_old'])
    ((go_at_call 57; refine (SkS.kNew_any _).mono ?_; rintro e w1 ⟨p, rfl, own, q1, q2, q3⟩; have k2 : w.heap.size < w1.heap.size := (by have := q3.size; simp at this; omega); have k0 := (q3.cell (b := w.heap.size) 0 (by simp) (fun e => e)); have k1 := (q3.cell (b := w.heap.size) 1 (by simp) (fun e => e))))
  go_wp2_with fail
  go_ret2
  have k3 : ¬ own w1.heap.size := fun e => by have := q1.lt _ e; omega
  refine ⟨w1.heap.size, rfl, fun x => x = w1.heap.size ∨ own x, ⟨p, own, blk_new _ _, q1.fr (Fr.alloc (Fr.refl _ _) _) (fun _ _ e => e), k3, fun x => Iff.rfl⟩, fun x e => ?_, ?_⟩
  · rcases e with e | e
    · omega
    · have := q2 x e; simp at this; omega
  · exact Fr.alloc (Fr.trans (S' := fun _ => False) (Fr.drew (Fr.alloc (Fr.refl _ _) _)) q3 fun _ _ e => e) _

end Go.Proofs.YthbnbocpddddmaaGreat
