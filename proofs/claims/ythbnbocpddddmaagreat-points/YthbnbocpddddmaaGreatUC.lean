import Derived.Test.YthbnbocpddddmaaGreatQJ
import Derived.Test.YthbnbocpddddmaaGreatQA
import Derived.LaidEqlPtr
import Derived.OwnWalk
import Derived.Deep.QuietTactic
import Derived.BigQuiet
namespace Go.Proofs.YthbnbocpddddmaaGreat
open Go.RowKit

/-- Two maps, apart in memory, or one. -/
def Pr (w : World) (ga gb : Bool) (a b : Nat) (t : Bool) (ca cb : Int) (oa ob : Nat → Prop) (xs ys : Row) : Prop :=
  MapG ga w a t ca oa xs ∧ MapG gb w b t cb ob ys ∧ ((∀ x, oa x → ¬ ob x) ∨ (a = b ∧ ga = gb ∧ ca = cb ∧ oa = ob ∧ xs = ys))

theorem Pr.fr {w w' : World} {ga gb : Bool} {a b : Nat} {t : Bool} {ca cb : Int} {oa ob : Nat → Prop} {xs ys : Row} {S : Nat → Prop} (h : Pr w ga gb a b t ca cb oa ob xs ys) (f : Fr S w w') (h1 : ∀ x, oa x → ¬ S x) (h2 : ∀ x, ob x → ¬ S x) : Pr w' ga gb a b t ca cb oa ob xs ys :=
  ⟨h.1.fr f h1, h.2.1.fr f h2, h.2.2⟩

theorem Pr.old {w w' : World} {ga gb : Bool} {a b : Nat} {t : Bool} {ca cb : Int} {oa ob : Nat → Prop} {xs ys : Row} (h : Pr w ga gb a b t ca cb oa ob xs ys) (f : Fr (fun _ => False) w w') : Pr w' ga gb a b t ca cb oa ob xs ys :=
  h.fr f (fun _ _ e => e) (fun _ _ e => e)

/-- A way along two maps: its block. -/
def metBlk (a b : Nat) (i j : Int) : Obj := .cells #[.pointer (some ⟨a, 0, none⟩), .pointer (some ⟨b, 0, none⟩), .int .i64 i, .int .i64 j] 311 (0, 0)

/-- What stands next in a row. -/
theorem ahead (xs : Row) (i : Nat) : (xs.drop i = [] ∧ xs.length ≤ i ∧ latB xs i = false) ∨ ∃ x, xs.drop i = x :: xs.drop (i + 1) ∧ i < xs.length ∧ latK xs i = x.1 ∧ latV xs i = x.2 ∧ latB xs i = true := by
  rcases Nat.lt_or_ge i xs.length with h | h
  · obtain ⟨e1, e2, e3⟩ := lat_in (List.getElem?_eq_getElem h)
    exact Or.inr ⟨xs[i], List.drop_eq_getElem_cons h, h, e1, e2, e3⟩
  · exact Or.inl ⟨List.drop_eq_nil_of_le h, h, latB_ge (Or.inr (by omega))⟩

/-- Both counts rise by one, as 'side' does it. -/
theorem Pr.one {w w2 : World} {ga gb : Bool} {a b : Nat} {t : Bool} {ca cb : Int} {oa ob : Nat → Prop} {xs ys : Row} (h : Pr w ga gb a b t ca cb oa ob xs ys) (hab : a = b)
    (H : ∀ items, w.heap[a]? = some (mapBlk t items ca) → w2.heap[a]? = some (mapBlk t items (ca + 1)) ∧ Fr (fun x => x = a) w w2) : Pr w2 ga gb a b t (ca + 1) (cb + 1) oa ob xs ys ∧ Fr (fun x => x = a ∨ x = b) w w2 := by
  obtain ⟨h1, h2, h3⟩ := h
  have hs : ga = gb ∧ ca = cb ∧ oa = ob ∧ xs = ys := by
    rcases h3 with e | ⟨_, e⟩
    · exact absurd (hab ▸ h2.self) (e a h1.self)
    · exact e
  obtain ⟨rfl, rfl, rfl, rfl⟩ := hs
  subst hab
  obtain ⟨items, q1, _, q3⟩ := h1.blk
  obtain ⟨r1, r2⟩ := H items q1
  exact ⟨⟨q3 _ _ r1 r2, q3 _ _ r1 r2, Or.inr ⟨rfl, rfl, rfl, rfl, rfl⟩⟩, r2.mono fun _ _ e => Or.inl e⟩

theorem Pr.two {w w1 w2 : World} {ga gb : Bool} {a b : Nat} {t : Bool} {ca cb : Int} {oa ob : Nat → Prop} {xs ys : Row} (h : Pr w ga gb a b t ca cb oa ob xs ys) (hab : a ≠ b)
    (H1 : ∀ items, w.heap[b]? = some (mapBlk t items cb) → w1.heap[b]? = some (mapBlk t items (cb + 1)) ∧ Fr (fun x => x = b) w w1)
    (H2 : ∀ items, w1.heap[a]? = some (mapBlk t items ca) → w2.heap[a]? = some (mapBlk t items (ca + 1)) ∧ Fr (fun x => x = a) w1 w2) : Pr w2 ga gb a b t (ca + 1) (cb + 1) oa ob xs ys ∧ Fr (fun x => x = a ∨ x = b) w w2 := by
  obtain ⟨h1, h2, h3⟩ := h
  have hd : ∀ x, oa x → ¬ ob x := by
    rcases h3 with e | ⟨e, _⟩
    · exact e
    · exact absurd e hab
  obtain ⟨ib, q1, _, q3⟩ := h2.blk
  obtain ⟨r1, r2⟩ := H1 ib q1
  have m1 := q3 _ _ r1 r2
  have n1 : MapG ga w1 a t ca oa xs := h1.fr r2 fun x hx e => hd x hx (e ▸ h2.self)
  obtain ⟨ia, p1, _, p3⟩ := n1.blk
  obtain ⟨s1, s2⟩ := H2 ia p1
  exact ⟨⟨p3 _ _ s1 s2, m1.fr s2 fun x hx e => hd x (e ▸ h1.self) hx, Or.inl hd⟩, (r2.mono fun _ _ e => Or.inr e).trans s2 fun _ _ e => Or.inl e⟩

theorem info_map : (Tryz.prog.info? 135).map (fun i => i.size) = some 5 := by kernel_rfl

theorem neq_same (a : Addr) (w : World) : (binOp .neq 50 (.pointer (some a)) (.pointer (some a))).run Tryz.prog w = .ok (.bool false) w := by
  obtain ⟨j, hj, _⟩ := Option.map_eq_some_iff.1 info_map
  have h : ∀ d : Nat, (Op.equalIn (d + 1) 50 (.pointer (some a)) (.pointer (some a))).run Tryz.prog w = .ok true w := fun d => by
    simp [Op.equalIn, run_underlying Tryz.underlying50, sizeOf, typeInfo, hj, run_sameAddr_same]
  simp only [binOp]
  simp [Op.equal, Op.maxDepth, h 9999]

theorem neq_other {a b : Nat} {ca cb : Array Value} {ta tb : TypeId} (w : World) (hne : a ≠ b) (ha : w.heap[a]? = some (.cells ca ta (0, 0))) (hb : w.heap[b]? = some (.cells cb tb (0, 0))) :
    (binOp .neq 50 (.pointer (some ⟨a, 0, none⟩)) (.pointer (some ⟨b, 0, none⟩))).run Tryz.prog w = .ok (.bool true) w := by
  obtain ⟨j, hj, hs⟩ := Option.map_eq_some_iff.1 info_map
  have hne' : (⟨a, 0, none⟩ : Addr) ≠ ⟨b, 0, none⟩ := fun e => hne (by cases e; rfl)
  have h : ∀ d : Nat, (Op.equalIn (d + 1) 50 (.pointer (some ⟨a, 0, none⟩)) (.pointer (some ⟨b, 0, none⟩))).run Tryz.prog w = .ok false w := fun d => by
    simp [Op.equalIn, run_underlying Tryz.underlying50, sizeOf, typeInfo, hj, hs, run_sameAddr_other w hne' ha hb]
  simp only [binOp]
  simp [Op.equal, Op.maxDepth, h 9999]

set_option maxRecDepth 100000 in
set_option maxHeartbeats 1000000 in
theorem wside_any (mb : Nat) (ga gb : Bool) (a b : Nat) (t : Bool) (ca cb : Int) (oa ob : Nat → Prop) (xs ys : Row) (i j : Nat) (w : World) (h : Pr w ga gb a b t ca cb oa ob xs ys) (hw : w.heap[mb]? = some (metBlk a b i j))
    (na : ¬ oa mb) (nb : ¬ ob mb) (lx : xs.length ≤ 400) (ly : ys.length ≤ 400) (a0 : 0 ≤ ca) (a1 : ca ≤ 9000000000000000000) (b0 : 0 ≤ cb) (b1 : cb ≤ 9000000000000000000) :
    Calls Tryz.prog 174 #[.pointer (some ⟨mb, 0, none⟩)] w fun e w' => ∃ d : Nat, e = .returned (.int .i64 (msid t (xs.drop i) (ys.drop j))) ∧ d ≤ 1 ∧ Pr w' ga gb a b t (ca + d) (cb + d) oa ob xs ys ∧ Fr (fun x => x = a ∨ x = b) w w' := by
  have D0 : Fr (fun _ => False) w w.drew := Fr.drew (Fr.refl _ _)
  have hA := at_anyG ga a t ca oa xs i w.drew (h.1.fr D0 fun _ _ e => e) lx
  have hB := fun w' h' => at_anyG gb b t cb ob ys j w' h' ly
  have g0 : w.cell? ⟨mb, 0, none⟩ = some (.pointer (some ⟨a, 0, none⟩)) := cell_of hw 0
  have g2 : w.cell? ⟨mb, 2, none⟩ = some (.int .i64 i) := cell_of hw 2
  have hma : mb ≠ a := fun e => na (e ▸ h.1.self)
  have hmb : mb ≠ b := fun e => nb (e ▸ h.2.1.self)
  have hml : mb < w.drew.heap.size := lt_of_blk hw
  have HP : Hid (Pr w ga gb a b t ca cb oa ob xs ys) := h
  rcases ahead xs i with ⟨e1, e2, e3⟩ | ⟨x, e1, e2, e3, e4, e5⟩
  · rw [e1]
    rw [e3] at hA
    generalize latK xs i = K at *
    generalize latV xs i = V at *
    clear h hB e1 e2 e3
    go_enter Tryz.func174, Tryz.ntmps174
    go_wp2_with fail
    go_region_held3 (fun w' => w'.cell? ⟨mb, 0, none⟩ = some (.pointer (some ⟨a, 0, none⟩)) ∧ w'.cell? ⟨mb, 2, none⟩ = some (.int .i64 i))
      (first | exact ⟨g0, g2⟩ | exact ⟨k0, k2⟩)
      ((go_at_call 80; refine hA.mono ?_; rintro e w1 ⟨rfl, f1⟩; have k0 := (f1.cell (b := mb) 0 hml (fun e => e)).trans g0; have k2 := (f1.cell (b := mb) 2 hml (fun e => e)).trans g2))
    have F1 := D0.trans f1 fun _ _ e => e
    go_wp2_with fail
    go_ret
    exact ⟨0, rfl, Nat.zero_le _, by simpa using HP.out.old F1, F1.mono fun _ _ e => e.elim⟩
  · rw [e1]
    rw [e3, e4, e5] at hA
    rcases ahead ys j with ⟨d1, d2, d3⟩ | ⟨y, d1, d2, d3, d4, d5⟩
    · rw [d1]
      rw [d3] at hB
      generalize latK ys j = K at *
      generalize latV ys j = V at *
      clear h e1 e2 e3 e4 e5 d1 d2 d3
      go_enter Tryz.func174, Tryz.ntmps174
      go_wp2_with fail
      go_region_held3 (fun w' => w'.cell? ⟨mb, 0, none⟩ = some (.pointer (some ⟨a, 0, none⟩)) ∧ w'.cell? ⟨mb, 2, none⟩ = some (.int .i64 i))
        (first | exact ⟨g0, g2⟩ | exact ⟨k0, k2⟩)
        ((go_at_call 80; refine hA.mono ?_; rintro e w1 ⟨rfl, f1⟩; have k0 := (f1.cell (b := mb) 0 hml (fun e => e)).trans g0; have k2 := (f1.cell (b := mb) 2 hml (fun e => e)).trans g2))
      have F1 := D0.trans f1 fun _ _ e => e
      have hw1 := (F1.block mb (lt_of_blk hw) (fun e => e)).trans hw
      have g1 : w1.cell? ⟨mb, 1, none⟩ = some (.pointer (some ⟨b, 0, none⟩)) := cell_of hw1 1
      have g3 : w1.cell? ⟨mb, 3, none⟩ = some (.int .i64 j) := cell_of hw1 3
      have D1 : Fr (fun _ => False) w1 w1.drew := Fr.drew (Fr.refl _ _)
      have hB1 := hB _ ((HP.out.old F1).old D1).2.1
      have hml1 : mb < w1.drew.heap.size := lt_of_blk hw1
      clear hB
      go_wp2_with fail
      go_region_held3 (fun w' => w'.cell? ⟨mb, 1, none⟩ = some (.pointer (some ⟨b, 0, none⟩)) ∧ w'.cell? ⟨mb, 3, none⟩ = some (.int .i64 j))
        (first | exact ⟨g1, g3⟩ | exact ⟨k1, k3⟩)
        ((go_at_call 80; refine hB1.mono ?_; rintro e w2 ⟨rfl, f2⟩; have k1 := (f2.cell (b := mb) 1 hml1 (fun e => e)).trans g1; have k3 := (f2.cell (b := mb) 3 hml1 (fun e => e)).trans g3))
      have F2 := F1.trans (D1.trans f2 fun _ _ e => e) fun _ _ e => e
      go_wp2_with fail
      go_ret
      exact ⟨0, rfl, Nat.zero_le _, by simpa using HP.out.old F2, F2.mono fun _ _ e => e.elim⟩
    · rw [d1]
      rw [d3, d4, d5] at hB
      have em : msid t (x :: xs.drop (i + 1)) (y :: ys.drop (j + 1)) = side t x.1 y.1 := rfl
      rw [em]
      clear h e1 e2 e3 e4 e5 d1 d2 d3 d4 d5 em
      go_enter Tryz.func174, Tryz.ntmps174
      go_wp2_with fail
      go_region_held3 (fun w' => w'.cell? ⟨mb, 0, none⟩ = some (.pointer (some ⟨a, 0, none⟩)) ∧ w'.cell? ⟨mb, 2, none⟩ = some (.int .i64 i))
        (first | exact ⟨g0, g2⟩ | exact ⟨k0, k2⟩)
        ((go_at_call 80; refine hA.mono ?_; rintro e w1 ⟨rfl, f1⟩; have k0 := (f1.cell (b := mb) 0 hml (fun e => e)).trans g0; have k2 := (f1.cell (b := mb) 2 hml (fun e => e)).trans g2))
      have F1 := D0.trans f1 fun _ _ e => e
      have hw1 := (F1.block mb (lt_of_blk hw) (fun e => e)).trans hw
      have g1 : w1.cell? ⟨mb, 1, none⟩ = some (.pointer (some ⟨b, 0, none⟩)) := cell_of hw1 1
      have g3 : w1.cell? ⟨mb, 3, none⟩ = some (.int .i64 j) := cell_of hw1 3
      have D1 : Fr (fun _ => False) w1 w1.drew := Fr.drew (Fr.refl _ _)
      have hB1 := hB _ ((HP.out.old F1).old D1).2.1
      have hml1 : mb < w1.drew.heap.size := lt_of_blk hw1
      clear hB
      go_wp2_with fail
      go_region_held3 (fun w' => w'.cell? ⟨mb, 1, none⟩ = some (.pointer (some ⟨b, 0, none⟩)) ∧ w'.cell? ⟨mb, 3, none⟩ = some (.int .i64 j))
        (first | exact ⟨g1, g3⟩ | exact ⟨k1, k3⟩)
        ((go_at_call 80; refine hB1.mono ?_; rintro e w2 ⟨rfl, f2⟩; have k1 := (f2.cell (b := mb) 1 hml1 (fun e => e)).trans g1; have k3 := (f2.cell (b := mb) 3 hml1 (fun e => e)).trans g3))
      have F2 := F1.trans (D1.trans f2 fun _ _ e => e) fun _ _ e => e
      have hw2 := (F2.block mb (lt_of_blk hw) (fun e => e)).trans hw
      have u0 : w2.cell? ⟨mb, 0, none⟩ = some (.pointer (some ⟨a, 0, none⟩)) := cell_of hw2 0
      have u1 : w2.cell? ⟨mb, 1, none⟩ = some (.pointer (some ⟨b, 0, none⟩)) := cell_of hw2 1
      have HP3 := HP.out.old F2
      have HF : Hid (Fr (fun _ => False) w w2) := F2
      clear k0 k1 k2 k3 hB1 hA f1 f2 D0 D1 F1 F2 g0 g1 g2 g3 hw1 HP hml hml1
      by_cases hab : a = b
      · subst hab
        obtain ⟨items, q1, _, _⟩ := HP3.1.blk
        have hc := fun n => mcompare_any a t items ca x.1 y.1 (w2.drewN n) q1 a0 a1
        have HP4 : Hid (Pr w2 ga gb a a t ca cb oa ob xs ys ∧ w2.heap[a]? = some (mapBlk t items ca)) := ⟨HP3, q1⟩
        have hnq := neq_same ⟨a, 0, none⟩ w2.drew
        clear HP3 q1 hw2
        go_wp2_with fail
        go_region
        go_wp2_with fail
        refine (hc 1).mono ?_
        rintro e w3 ⟨rfl, r1, r2⟩
        go_wp2_with fail
        go_ret
        obtain ⟨p1, p2⟩ := HP4.out.1.one rfl (w2 := w3) fun it hi => by
          have := HP4.out.2.symm.trans hi
          have e : items = it := (by simpa [mapBlk] using this : engOf items = engOf it ∧ items = it).2
          subst e
          exact ⟨r1, Fr.trans (S' := fun x => x = a) (Fr.drew (Fr.refl _ _)) r2 fun _ _ e => e⟩
        exact ⟨1, rfl, Nat.le_refl _, p1, (HF.out.mono fun _ _ e => e.elim).trans p2 fun _ _ e => e⟩
      · have hab' : ¬ b = a := fun e => hab e.symm
        obtain ⟨ib, q1, _, _⟩ := HP3.2.1.blk
        obtain ⟨ia, p1, _, _⟩ := HP3.1.blk
        have u4 : w2.cell? ⟨b, 4, none⟩ = some (.int .i64 cb) := cell_of q1 4
        have z4 : w2.frozen? ⟨b, 4, none⟩ = false := frozen_of q1 4
        have hw3 : (w2.drew.setCell ⟨b, 4, none⟩ (.int .i64 (cb + 1))).heap[mb]? = some (metBlk a b i j) := by rw [blk_set_ne _ _ hmb]; exact hw2
        have v0 : (w2.drew.setCell ⟨b, 4, none⟩ (.int .i64 (cb + 1))).cell? ⟨mb, 0, none⟩ = some (.pointer (some ⟨a, 0, none⟩)) := cell_of hw3 0
        have p2 : (w2.drew.setCell ⟨b, 4, none⟩ (.int .i64 (cb + 1))).heap[a]? = some (mapBlk t ia ca) := by rw [blk_set_ne _ _ hab]; exact p1
        have q2 : (w2.drew.setCell ⟨b, 4, none⟩ (.int .i64 (cb + 1))).heap[b]? = some (mapBlk t ib (cb + 1)) := (blk_set (w := w2.drew) (show w2.drew.heap[b]? = _ from q1) 4 _).trans rfl
        have fb : Fr (fun x => x = b) w2 (w2.drew.setCell ⟨b, 4, none⟩ (.int .i64 (cb + 1))) := Fr.setCell (Fr.drew (Fr.refl _ _)) (by exact fun _ => rfl) _
        have hc := mcompare_any a t ia ca x.1 y.1 _ p2 a0 a1
        have HP4 : Hid (Pr w2 ga gb a b t ca cb oa ob xs ys ∧ w2.heap[b]? = some (mapBlk t ib cb) ∧ (w2.drew.setCell ⟨b, 4, none⟩ (.int .i64 (cb + 1))).heap[a]? = some (mapBlk t ia ca) ∧ (w2.drew.setCell ⟨b, 4, none⟩ (.int .i64 (cb + 1))).heap[b]? = some (mapBlk t ib (cb + 1)) ∧ Fr (fun x => x = b) w2 (w2.drew.setCell ⟨b, 4, none⟩ (.int .i64 (cb + 1)))) := ⟨HP3, q1, p2, q2, fb⟩
        have hnq := neq_other (a := b) (b := a) w2.drew hab' q1 p1
        clear HP3 q1 p1 p2 q2 fb hw2 hw3
        go_wp2_with fail
        go_region
        go_wp2_with fail
        refine hc.mono ?_
        rintro e w3 ⟨rfl, r1, r2⟩
        go_wp2_with fail
        go_ret
        obtain ⟨k1, k2, k3, k4, k5⟩ := HP4.out
        obtain ⟨p1, p2⟩ := k1.two hab (w1 := w2.drew.setCell ⟨b, 4, none⟩ (.int .i64 (cb + 1))) (w2 := w3)
          (fun it hi => by
            have := k2.symm.trans hi
            have e : ib = it := (by simpa [mapBlk] using this : engOf ib = engOf it ∧ ib = it).2
            subst e
            exact ⟨k4, k5⟩)
          (fun it hi => by
            have := k3.symm.trans hi
            have e : ia = it := (by simpa [mapBlk] using this : engOf ia = engOf it ∧ ia = it).2
            subst e
            exact ⟨r1, r2⟩)
        exact ⟨1, rfl, Nat.le_refl _, p1, (HF.out.mono fun _ _ e => e.elim).trans p2 fun _ _ e => e⟩


/-- A key that is held, as a value; its cells. -/
def hval (h : Hd) : Value := .agg #[kv h.k, kv h.v, kv h.u, .bool h.a, .bool h.b]

theorem sgn_cases (t : Bool) (a b : Int) : side t a b = -1 ∨ side t a b = 0 ∨ side t a b = 1 := by unfold side sgn; (repeat' split) <;> omega

theorem msid_cases (t : Bool) (xs ys : Row) : msid t xs ys = -1 ∨ msid t xs ys = 0 ∨ msid t xs ys = 1 := by
  cases xs with
  | nil => exact Or.inr (Or.inr rfl)
  | cons x xs => cases ys with
    | nil => exact Or.inl rfl
    | cons y ys => exact sgn_cases t x.1 y.1

/-- What stands next, by what At answers. -/
theorem mhd_eq {t : Bool} {xs ys : Row} {i j : Nat} (h : 0 < (xs.drop i).length + (ys.drop j).length) :
    (msid t (xs.drop i) (ys.drop j) = -1 → mhd t (xs.drop i) (ys.drop j) = ⟨latK xs i, latV xs i, 0, latB xs i, false⟩) ∧
    (msid t (xs.drop i) (ys.drop j) = 0 → mhd t (xs.drop i) (ys.drop j) = ⟨latK xs i, latV xs i, latV ys j, latB xs i, latB ys j⟩) ∧
    (msid t (xs.drop i) (ys.drop j) = 1 → mhd t (xs.drop i) (ys.drop j) = ⟨latK ys j, 0, latV ys j, false, latB ys j⟩) := by
  rcases ahead xs i with ⟨e1, e2, e3⟩ | ⟨x, e1, e2, e3, e4, e5⟩
  · rcases ahead ys j with ⟨d1, d2, d3⟩ | ⟨y, d1, d2, d3, d4, d5⟩
    · rw [e1, d1] at h; simp at h
    · rw [e1, d1]
      refine ⟨(fun e => by cases e), (fun e => by cases e), fun _ => ?_⟩
      rw [d3, d4, d5]; rfl
  · rcases ahead ys j with ⟨d1, d2, d3⟩ | ⟨y, d1, d2, d3, d4, d5⟩
    · rw [e1, d1]
      refine ⟨fun _ => ?_, (fun e => by cases e), (fun e => by cases e)⟩
      rw [e3, e4, e5]; rfl
    · rw [e1, d1, e3, e4, e5, d3, d4, d5]
      have em : msid t (x :: xs.drop (i + 1)) (y :: ys.drop (j + 1)) = side t x.1 y.1 := rfl
      rw [em]
      simp only [mhd]
      refine ⟨fun e => ?_, fun e => ?_, fun e => ?_⟩
      · have f : lessB t x.1 y.1 = true := side_neg.1 (by omega)
        rw [if_neg (less_ne f), if_pos f]; rfl
      · rw [if_pos (side_zero.1 e)]; rfl
      · have f1 : ¬ lessB t x.1 y.1 = true := fun f => by have := (side_neg (t := t)).2 f; omega
        have f2 : ¬ rk x.1 = rk y.1 := fun f => by have := (side_zero (t := t)).2 f; omega
        rw [if_neg f2, if_neg f1]; rfl

set_option maxRecDepth 100000 in
set_option maxHeartbeats 2000000 in
theorem wnext_any (mb : Nat) (ga gb : Bool) (a b : Nat) (t : Bool) (ca cb : Int) (oa ob : Nat → Prop) (xs ys : Row) (i j : Nat) (w : World) (h : Pr w ga gb a b t ca cb oa ob xs ys) (hw : w.heap[mb]? = some (metBlk a b i j))
    (na : ¬ oa mb) (nb : ¬ ob mb) (lx : xs.length ≤ 400) (ly : ys.length ≤ 400) (li : i ≤ 400) (lj : j ≤ 400) (hne : 0 < (xs.drop i).length + (ys.drop j).length) (a0 : 0 ≤ ca) (a1 : ca ≤ 9000000000000000000) (b0 : 0 ≤ cb) (b1 : cb ≤ 9000000000000000000) :
    Calls Tryz.prog 171 #[.pointer (some ⟨mb, 0, none⟩)] w fun e w' => ∃ d : Nat, e = .returned (hval (mhd t (xs.drop i) (ys.drop j))) ∧ d ≤ 1 ∧ Pr w' ga gb a b t (ca + d) (cb + d) oa ob xs ys ∧
      w'.heap[mb]? = some (metBlk a b ((i + (if msid t (xs.drop i) (ys.drop j) ≤ 0 then 1 else 0) : Nat) : Int) ((j + (if 0 ≤ msid t (xs.drop i) (ys.drop j) then 1 else 0) : Nat) : Int)) ∧ Fr (fun x => x = a ∨ x = b ∨ x = mb) w w' := by
  have F0 : Fr (fun _ => False) w ((w.alloc (.cells #[.complex .f64 0 0, .complex .f64 0 0, .complex .f64 0 0, .bool false, .bool false] 304)).alloc (.cells #[.complex .f64 0 0, .complex .f64 0 0, .complex .f64 0 0, .bool false, .bool false] 304)) := Fr.alloc (Fr.alloc (Fr.refl _ _) _) _
  have hw0 := (F0.block mb (lt_of_blk hw) (fun e => e)).trans hw
  have hside := wside_any mb ga gb a b t ca cb oa ob xs ys i j _ (h.old F0) hw0 na nb lx ly a0 a1 b0 b1
  have hma : mb ≠ a := fun e => na (e ▸ h.1.self)
  have hmb : mb ≠ b := fun e => nb (e ▸ h.2.1.self)
  have hA := fun d w' h' => at_anyG ga a t d oa xs i w' h' lx
  have hB := fun d w' h' => at_anyG gb b t d ob ys j w' h' ly
  obtain ⟨q1, q2, q3⟩ := mhd_eq (t := t) hne
  have hml := lt_of_blk hw
  have R0 : ((w.alloc (.cells #[.complex .f64 0 0, .complex .f64 0 0, .complex .f64 0 0, .bool false, .bool false] 304)).alloc (.cells #[.complex .f64 0 0, .complex .f64 0 0, .complex .f64 0 0, .bool false, .bool false] 304)).heap[w.heap.size]? = some (.cells #[.complex .f64 0 0, .complex .f64 0 0, .complex .f64 0 0, .bool false, .bool false] 304 (0, 0)) := by
    rw [Below.heap_alloc _ _ _ (by simp)]; exact blk_new _ _
  have H0 : ((w.alloc (.cells #[.complex .f64 0 0, .complex .f64 0 0, .complex .f64 0 0, .bool false, .bool false] 304)).alloc (.cells #[.complex .f64 0 0, .complex .f64 0 0, .complex .f64 0 0, .bool false, .bool false] 304)).heap[w.heap.size + 1]? = some (.cells #[.complex .f64 0 0, .complex .f64 0 0, .complex .f64 0 0, .bool false, .bool false] 304 (0, 0)) := by
    have := blk_new (w.alloc (.cells #[.complex .f64 0 0, .complex .f64 0 0, .complex .f64 0 0, .bool false, .bool false] 304)) (.cells #[.complex .f64 0 0, .complex .f64 0 0, .complex .f64 0 0, .bool false, .bool false] 304)
    rw [World.size_alloc] at this; exact this
  have hltA := h.1.lt
  have hltB := h.2.1.lt
  have hal := h.1.lt a h.1.self
  have hbl := h.2.1.lt b h.2.1.self
  rcases msid_cases t (xs.drop i) (ys.drop j) with hm | hm | hm
  · rw [q1 hm]
    rw [hm] at hside ⊢
    generalize latK xs i = K at *
    generalize latV xs i = V at *
    generalize latB xs i = X at *
    generalize latK ys j = K' at *
    generalize latV ys j = V' at *
    generalize latB ys j = X' at *
    clear q1 q2 q3 hm h
    have hsc := store_c
    go_enter Tryz.func171, Tryz.ntmps171
    go_wp2_with fail
    refine hside.mono ?_
    rintro e w1 ⟨d, rfl, hd, P1, F1⟩
    have M1 := (F1.block mb (lt_of_blk hw0) (fun e => by rcases e with e | e; exact hma e; exact hmb e)).trans hw0
    have R1 := (F1.block w.heap.size (lt_of_blk R0) (fun e => by omega)).trans R0
    have H1 := (F1.block (w.heap.size + 1) (lt_of_blk H0) (fun e => by omega)).trans H0
    have F1 : Fr (fun x => x = a ∨ x = b ∨ x = mb) w w1 := ((F0.mono fun _ _ e => e.elim).trans F1 fun _ _ e => e).mono fun x _ e => by rcases e with e | e; exact Or.inl e; exact Or.inr (Or.inl e)
    clear R0 H0 F0 hw0 hside
    have g0 : w1.cell? ⟨mb, 0, none⟩ = some (.pointer (some ⟨a, 0, none⟩)) := cell_of M1 0
    have g2 : w1.cell? ⟨mb, 2, none⟩ = some (.int .i64 i) := cell_of M1 2
    have D1 : Fr (fun _ => False) w1 w1.drew := Fr.drew (Fr.refl _ _)
    have hX1 := hA _ _ (P1.old D1).1
    go_wp2_with fail
    go_region_with ((go_at_call 80; refine hX1.mono ?_; rintro e w2 ⟨rfl, f2⟩; have H2 := (f2.block _ (lt_of_blk H1) (fun e => e)).trans H1; have x0 := cell_of H2 0; have z0 := frozen_of H2 0; have x1 := cell_of H2 1; have z1 := frozen_of H2 1; have x3 := cell_of H2 3; have z3 := frozen_of H2 3))
    all_goals
      have H3 : (((w2.setCell ⟨w.heap.size + 1, 0, none⟩ (kv K)).setCell ⟨w.heap.size + 1, 1, none⟩ (kv V)).setCell ⟨w.heap.size + 1, 3, none⟩ (.bool X)).heap[w.heap.size + 1]? = some (.cells #[kv K, kv V, .complex .f64 0 0, .bool X, .bool false] 304 (0, 0)) := (blk_set (blk_set (blk_set H2 0 _) 1 _) 3 _).trans rfl
      have G3 : Fr (fun x => x = w.heap.size + 1) w2 (((w2.setCell ⟨w.heap.size + 1, 0, none⟩ (kv K)).setCell ⟨w.heap.size + 1, 1, none⟩ (kv V)).setCell ⟨w.heap.size + 1, 3, none⟩ (.bool X)) := Fr.setCell (Fr.setCell (Fr.setCell (Fr.refl _ _) (by exact fun _ => rfl) _) (by exact fun _ => rfl) _) (by exact fun _ => rfl) _
      generalize (((w2.setCell ⟨w.heap.size + 1, 0, none⟩ (kv K)).setCell ⟨w.heap.size + 1, 1, none⟩ (kv V)).setCell ⟨w.heap.size + 1, 3, none⟩ (.bool X)) = w3 at *
      have f3 : Fr (fun x => x = w.heap.size + 1) w1 w3 := ((D1.trans f2 fun _ _ e => e).mono fun _ _ e => e.elim).trans G3 fun _ _ e => e
      have M3 := (f3.block mb (lt_of_blk M1) (by omega)).trans M1
      have R3 := (f3.block w.heap.size (lt_of_blk R1) (by omega)).trans R1
      have P3 := P1.fr f3 (fun x hx e => by have := hltA x hx; omega) (fun x hx e => by have := hltB x hx; omega)
      have F3 : Fr (fun x => x = a ∨ x = b ∨ x = mb) w w3 := F1.trans f3 fun x hx e => by omega
      clear f2 H2 x0 z0 x1 z1 x3 z3 G3 f3 M1 R1 H1 F1 P1 D1 hX1 g0 g2
      have y2 : w3.cell? ⟨mb, 2, none⟩ = some (.int .i64 i) := cell_of M3 2
      have q2 : w3.frozen? ⟨mb, 2, none⟩ = false := frozen_of M3 2
      have M4 : (w3.setCell ⟨mb, 2, none⟩ (.int .i64 (i + 1))).heap[mb]? = some (metBlk a b (i + 1) (j)) := (blk_set M3 2 _).trans rfl
      have R4 : (w3.setCell ⟨mb, 2, none⟩ (.int .i64 (i + 1))).heap[w.heap.size]? = _ := (blk_set_ne _ _ (by omega)).trans R3
      have H4 : (w3.setCell ⟨mb, 2, none⟩ (.int .i64 (i + 1))).heap[w.heap.size + 1]? = _ := (blk_set_ne _ _ (by omega)).trans H3
      have P4 := P3.fr (w' := (w3.setCell ⟨mb, 2, none⟩ (.int .i64 (i + 1)))) (S := fun x => x = mb) (Fr.setCell (Fr.refl _ _) (by exact fun _ => rfl) _) (fun x hx e => na (e ▸ hx)) (fun x hx e => nb (e ▸ hx))
      have F4 : Fr (fun x => x = a ∨ x = b ∨ x = mb) w (w3.setCell ⟨mb, 2, none⟩ (.int .i64 (i + 1))) := Fr.setCell F3 (by exact fun _ => Or.inr (Or.inr rfl)) _
      have x0 := cell_of H4 0
      have r0 := cell_of R4 0
      have z0 := frozen_of R4 0
      have x1 := cell_of H4 1
      have r1 := cell_of R4 1
      have z1 := frozen_of R4 1
      have x2 := cell_of H4 2
      have r2 := cell_of R4 2
      have z2 := frozen_of R4 2
      have x3 := cell_of H4 3
      have r3 := cell_of R4 3
      have z3 := frozen_of R4 3
      have x4 := cell_of H4 4
      have r4 := cell_of R4 4
      have z4 := frozen_of R4 4
      go_wp2_with fail
      have G : Fr (fun x => x = w.heap.size) (w3.setCell ⟨mb, 2, none⟩ (.int .i64 (i + 1))) ((((((w3.setCell ⟨mb, 2, none⟩ (.int .i64 (i + 1))).setCell ⟨w.heap.size, 0, none⟩ (kv K)).setCell ⟨w.heap.size, 1, none⟩ (kv V)).setCell ⟨w.heap.size, 2, none⟩ (.complex .f64 0 0)).setCell ⟨w.heap.size, 3, none⟩ (.bool X)).setCell ⟨w.heap.size, 4, none⟩ (.bool false)) := Fr.setCell (Fr.setCell (Fr.setCell (Fr.setCell (Fr.setCell (Fr.refl _ _) (by exact fun _ => rfl) _) (by exact fun _ => rfl) _) (by exact fun _ => rfl) _) (by exact fun _ => rfl) _) (by exact fun _ => rfl) _
      refine bodyPost_ret (v := .agg #[kv K, kv V, .complex .f64 0 0, .bool X, .bool false]) (by simp [results, Tryz.results171, go_sem, *]) rfl ⟨by simp only [hval]; rfl, d, hd, P4.fr G (fun x hx e => by have := hltA x hx; omega) (fun x hx e => by have := hltB x hx; omega), ?_, F4.trans G fun x hx e => by omega⟩
      exact (G.block mb (lt_of_blk M4) (by omega)).trans (M4.trans rfl)
  · rw [q2 hm]
    rw [hm] at hside ⊢
    generalize latK xs i = K at *
    generalize latV xs i = V at *
    generalize latB xs i = X at *
    generalize latK ys j = K' at *
    generalize latV ys j = V' at *
    generalize latB ys j = X' at *
    clear q1 q2 q3 hm h
    have hsc := store_c
    go_enter Tryz.func171, Tryz.ntmps171
    go_wp2_with fail
    refine hside.mono ?_
    rintro e w1 ⟨d, rfl, hd, P1, F1⟩
    have M1 := (F1.block mb (lt_of_blk hw0) (fun e => by rcases e with e | e; exact hma e; exact hmb e)).trans hw0
    have R1 := (F1.block w.heap.size (lt_of_blk R0) (fun e => by omega)).trans R0
    have H1 := (F1.block (w.heap.size + 1) (lt_of_blk H0) (fun e => by omega)).trans H0
    have F1 : Fr (fun x => x = a ∨ x = b ∨ x = mb) w w1 := ((F0.mono fun _ _ e => e.elim).trans F1 fun _ _ e => e).mono fun x _ e => by rcases e with e | e; exact Or.inl e; exact Or.inr (Or.inl e)
    clear R0 H0 F0 hw0 hside
    have g0 : w1.cell? ⟨mb, 1, none⟩ = some (.pointer (some ⟨b, 0, none⟩)) := cell_of M1 1
    have g2 : w1.cell? ⟨mb, 3, none⟩ = some (.int .i64 j) := cell_of M1 3
    have D1 : Fr (fun _ => False) w1 w1.drew := Fr.drew (Fr.refl _ _)
    have hX1 := hB _ _ (P1.old D1).2.1
    go_wp2_with fail
    go_region_with ((go_at_call 80; refine hX1.mono ?_; rintro e w2 ⟨rfl, f2⟩; have H2 := (f2.block _ (lt_of_blk H1) (fun e => e)).trans H1; have x0 := cell_of H2 0; have z0 := frozen_of H2 0; have x2 := cell_of H2 2; have z2 := frozen_of H2 2; have x4 := cell_of H2 4; have z4 := frozen_of H2 4))
    all_goals
      have H3 : (((w2.setCell ⟨w.heap.size + 1, 0, none⟩ (kv K')).setCell ⟨w.heap.size + 1, 2, none⟩ (kv V')).setCell ⟨w.heap.size + 1, 4, none⟩ (.bool X')).heap[w.heap.size + 1]? = some (.cells #[kv K', .complex .f64 0 0, kv V', .bool false, .bool X'] 304 (0, 0)) := (blk_set (blk_set (blk_set H2 0 _) 2 _) 4 _).trans rfl
      have G3 : Fr (fun x => x = w.heap.size + 1) w2 (((w2.setCell ⟨w.heap.size + 1, 0, none⟩ (kv K')).setCell ⟨w.heap.size + 1, 2, none⟩ (kv V')).setCell ⟨w.heap.size + 1, 4, none⟩ (.bool X')) := Fr.setCell (Fr.setCell (Fr.setCell (Fr.refl _ _) (by exact fun _ => rfl) _) (by exact fun _ => rfl) _) (by exact fun _ => rfl) _
      generalize (((w2.setCell ⟨w.heap.size + 1, 0, none⟩ (kv K')).setCell ⟨w.heap.size + 1, 2, none⟩ (kv V')).setCell ⟨w.heap.size + 1, 4, none⟩ (.bool X')) = w3 at *
      have f3 : Fr (fun x => x = w.heap.size + 1) w1 w3 := ((D1.trans f2 fun _ _ e => e).mono fun _ _ e => e.elim).trans G3 fun _ _ e => e
      have M3 := (f3.block mb (lt_of_blk M1) (by omega)).trans M1
      have R3 := (f3.block w.heap.size (lt_of_blk R1) (by omega)).trans R1
      have P3 := P1.fr f3 (fun x hx e => by have := hltA x hx; omega) (fun x hx e => by have := hltB x hx; omega)
      have F3 : Fr (fun x => x = a ∨ x = b ∨ x = mb) w w3 := F1.trans f3 fun x hx e => by omega
      clear f2 H2 x0 z0 x2 z2 x4 z4 G3 f3 M1 R1 H1 F1 P1 D1 hX1 g0 g2
      have y2 : w3.cell? ⟨mb, 3, none⟩ = some (.int .i64 j) := cell_of M3 3
      have q2 : w3.frozen? ⟨mb, 3, none⟩ = false := frozen_of M3 3
      have M4 : (w3.setCell ⟨mb, 3, none⟩ (.int .i64 (j + 1))).heap[mb]? = some (metBlk a b (i) (j + 1)) := (blk_set M3 3 _).trans rfl
      have R4 : (w3.setCell ⟨mb, 3, none⟩ (.int .i64 (j + 1))).heap[w.heap.size]? = _ := (blk_set_ne _ _ (by omega)).trans R3
      have H4 : (w3.setCell ⟨mb, 3, none⟩ (.int .i64 (j + 1))).heap[w.heap.size + 1]? = _ := (blk_set_ne _ _ (by omega)).trans H3
      have P4 := P3.fr (w' := (w3.setCell ⟨mb, 3, none⟩ (.int .i64 (j + 1)))) (S := fun x => x = mb) (Fr.setCell (Fr.refl _ _) (by exact fun _ => rfl) _) (fun x hx e => na (e ▸ hx)) (fun x hx e => nb (e ▸ hx))
      have F4 : Fr (fun x => x = a ∨ x = b ∨ x = mb) w (w3.setCell ⟨mb, 3, none⟩ (.int .i64 (j + 1))) := Fr.setCell F3 (by exact fun _ => Or.inr (Or.inr rfl)) _
      go_wp2_with fail
      generalize (w3.setCell ⟨mb, 3, none⟩ (.int .i64 (j + 1))) = w4 at *
      clear y2 q2 M3 R3 H3 P3 F3
      have g0 : w4.cell? ⟨mb, 0, none⟩ = some (.pointer (some ⟨a, 0, none⟩)) := cell_of M4 0
      have g2 : w4.cell? ⟨mb, 2, none⟩ = some (.int .i64 i) := cell_of M4 2
      have D4 : Fr (fun _ => False) w4 w4.drew := Fr.drew (Fr.refl _ _)
      have hX4 := hA _ _ (P4.old D4).1
      go_region_with ((go_at_call 80; refine hX4.mono ?_; rintro e w5 ⟨rfl, f2⟩; have H2 := (f2.block _ (lt_of_blk H4) (fun e => e)).trans H4; have x0 := cell_of H2 0; have z0 := frozen_of H2 0; have x1 := cell_of H2 1; have z1 := frozen_of H2 1; have x3 := cell_of H2 3; have z3 := frozen_of H2 3))
      all_goals
        have H6 : (((w5.setCell ⟨w.heap.size + 1, 0, none⟩ (kv K)).setCell ⟨w.heap.size + 1, 1, none⟩ (kv V)).setCell ⟨w.heap.size + 1, 3, none⟩ (.bool X)).heap[w.heap.size + 1]? = some (.cells #[kv K, kv V, kv V', .bool X, .bool X'] 304 (0, 0)) := (blk_set (blk_set (blk_set H2 0 _) 1 _) 3 _).trans rfl
        have G3 : Fr (fun x => x = w.heap.size + 1) w5 (((w5.setCell ⟨w.heap.size + 1, 0, none⟩ (kv K)).setCell ⟨w.heap.size + 1, 1, none⟩ (kv V)).setCell ⟨w.heap.size + 1, 3, none⟩ (.bool X)) := Fr.setCell (Fr.setCell (Fr.setCell (Fr.refl _ _) (by exact fun _ => rfl) _) (by exact fun _ => rfl) _) (by exact fun _ => rfl) _
        generalize (((w5.setCell ⟨w.heap.size + 1, 0, none⟩ (kv K)).setCell ⟨w.heap.size + 1, 1, none⟩ (kv V)).setCell ⟨w.heap.size + 1, 3, none⟩ (.bool X)) = w6 at *
        have f3 : Fr (fun x => x = w.heap.size + 1) w4 w6 := ((D4.trans f2 fun _ _ e => e).mono fun _ _ e => e.elim).trans G3 fun _ _ e => e
        have M6 := (f3.block mb (lt_of_blk M4) (by omega)).trans M4
        have R6 := (f3.block w.heap.size (lt_of_blk R4) (by omega)).trans R4
        have P6 := P4.fr f3 (fun x hx e => by have := hltA x hx; omega) (fun x hx e => by have := hltB x hx; omega)
        have F6 : Fr (fun x => x = a ∨ x = b ∨ x = mb) w w6 := F4.trans f3 fun x hx e => by omega
        clear f2 H2 x0 z0 x1 z1 x3 z3 G3 f3 M4 R4 H4 F4 P4 D4 hX4 g0 g2
        have y2 : w6.cell? ⟨mb, 2, none⟩ = some (.int .i64 i) := cell_of M6 2
        have q2 : w6.frozen? ⟨mb, 2, none⟩ = false := frozen_of M6 2
        have M7 : (w6.setCell ⟨mb, 2, none⟩ (.int .i64 (i + 1))).heap[mb]? = some (metBlk a b (i + 1) (j + 1)) := (blk_set M6 2 _).trans rfl
        have R7 : (w6.setCell ⟨mb, 2, none⟩ (.int .i64 (i + 1))).heap[w.heap.size]? = _ := (blk_set_ne _ _ (by omega)).trans R6
        have H7 : (w6.setCell ⟨mb, 2, none⟩ (.int .i64 (i + 1))).heap[w.heap.size + 1]? = _ := (blk_set_ne _ _ (by omega)).trans H6
        have P7 := P6.fr (w' := (w6.setCell ⟨mb, 2, none⟩ (.int .i64 (i + 1)))) (S := fun x => x = mb) (Fr.setCell (Fr.refl _ _) (by exact fun _ => rfl) _) (fun x hx e => na (e ▸ hx)) (fun x hx e => nb (e ▸ hx))
        have F7 : Fr (fun x => x = a ∨ x = b ∨ x = mb) w (w6.setCell ⟨mb, 2, none⟩ (.int .i64 (i + 1))) := Fr.setCell F6 (by exact fun _ => Or.inr (Or.inr rfl)) _
        have x0 := cell_of H7 0
        have r0 := cell_of R7 0
        have z0 := frozen_of R7 0
        have x1 := cell_of H7 1
        have r1 := cell_of R7 1
        have z1 := frozen_of R7 1
        have x2 := cell_of H7 2
        have r2 := cell_of R7 2
        have z2 := frozen_of R7 2
        have x3 := cell_of H7 3
        have r3 := cell_of R7 3
        have z3 := frozen_of R7 3
        have x4 := cell_of H7 4
        have r4 := cell_of R7 4
        have z4 := frozen_of R7 4
        go_wp2_with fail
        have G : Fr (fun x => x = w.heap.size) (w6.setCell ⟨mb, 2, none⟩ (.int .i64 (i + 1))) ((((((w6.setCell ⟨mb, 2, none⟩ (.int .i64 (i + 1))).setCell ⟨w.heap.size, 0, none⟩ (kv K)).setCell ⟨w.heap.size, 1, none⟩ (kv V)).setCell ⟨w.heap.size, 2, none⟩ (kv V')).setCell ⟨w.heap.size, 3, none⟩ (.bool X)).setCell ⟨w.heap.size, 4, none⟩ (.bool X')) := Fr.setCell (Fr.setCell (Fr.setCell (Fr.setCell (Fr.setCell (Fr.refl _ _) (by exact fun _ => rfl) _) (by exact fun _ => rfl) _) (by exact fun _ => rfl) _) (by exact fun _ => rfl) _) (by exact fun _ => rfl) _
        refine bodyPost_ret (v := .agg #[kv K, kv V, kv V', .bool X, .bool X']) (by simp [results, Tryz.results171, go_sem, *]) rfl ⟨rfl, d, hd, P7.fr G (fun x hx e => by have := hltA x hx; omega) (fun x hx e => by have := hltB x hx; omega), ?_, F7.trans G fun x hx e => by omega⟩
        exact (G.block mb (lt_of_blk M7) (by omega)).trans (M7.trans rfl)
  · rw [q3 hm]
    rw [hm] at hside ⊢
    generalize latK xs i = K at *
    generalize latV xs i = V at *
    generalize latB xs i = X at *
    generalize latK ys j = K' at *
    generalize latV ys j = V' at *
    generalize latB ys j = X' at *
    clear q1 q2 q3 hm h
    have hsc := store_c
    go_enter Tryz.func171, Tryz.ntmps171
    go_wp2_with fail
    refine hside.mono ?_
    rintro e w1 ⟨d, rfl, hd, P1, F1⟩
    have M1 := (F1.block mb (lt_of_blk hw0) (fun e => by rcases e with e | e; exact hma e; exact hmb e)).trans hw0
    have R1 := (F1.block w.heap.size (lt_of_blk R0) (fun e => by omega)).trans R0
    have H1 := (F1.block (w.heap.size + 1) (lt_of_blk H0) (fun e => by omega)).trans H0
    have F1 : Fr (fun x => x = a ∨ x = b ∨ x = mb) w w1 := ((F0.mono fun _ _ e => e.elim).trans F1 fun _ _ e => e).mono fun x _ e => by rcases e with e | e; exact Or.inl e; exact Or.inr (Or.inl e)
    clear R0 H0 F0 hw0 hside
    have g0 : w1.cell? ⟨mb, 1, none⟩ = some (.pointer (some ⟨b, 0, none⟩)) := cell_of M1 1
    have g2 : w1.cell? ⟨mb, 3, none⟩ = some (.int .i64 j) := cell_of M1 3
    have D1 : Fr (fun _ => False) w1 w1.drew := Fr.drew (Fr.refl _ _)
    have hX1 := hB _ _ (P1.old D1).2.1
    go_wp2_with fail
    go_region_with ((go_at_call 80; refine hX1.mono ?_; rintro e w2 ⟨rfl, f2⟩; have H2 := (f2.block _ (lt_of_blk H1) (fun e => e)).trans H1; have x0 := cell_of H2 0; have z0 := frozen_of H2 0; have x2 := cell_of H2 2; have z2 := frozen_of H2 2; have x4 := cell_of H2 4; have z4 := frozen_of H2 4))
    all_goals
      have H3 : (((w2.setCell ⟨w.heap.size + 1, 0, none⟩ (kv K')).setCell ⟨w.heap.size + 1, 2, none⟩ (kv V')).setCell ⟨w.heap.size + 1, 4, none⟩ (.bool X')).heap[w.heap.size + 1]? = some (.cells #[kv K', .complex .f64 0 0, kv V', .bool false, .bool X'] 304 (0, 0)) := (blk_set (blk_set (blk_set H2 0 _) 2 _) 4 _).trans rfl
      have G3 : Fr (fun x => x = w.heap.size + 1) w2 (((w2.setCell ⟨w.heap.size + 1, 0, none⟩ (kv K')).setCell ⟨w.heap.size + 1, 2, none⟩ (kv V')).setCell ⟨w.heap.size + 1, 4, none⟩ (.bool X')) := Fr.setCell (Fr.setCell (Fr.setCell (Fr.refl _ _) (by exact fun _ => rfl) _) (by exact fun _ => rfl) _) (by exact fun _ => rfl) _
      generalize (((w2.setCell ⟨w.heap.size + 1, 0, none⟩ (kv K')).setCell ⟨w.heap.size + 1, 2, none⟩ (kv V')).setCell ⟨w.heap.size + 1, 4, none⟩ (.bool X')) = w3 at *
      have f3 : Fr (fun x => x = w.heap.size + 1) w1 w3 := ((D1.trans f2 fun _ _ e => e).mono fun _ _ e => e.elim).trans G3 fun _ _ e => e
      have M3 := (f3.block mb (lt_of_blk M1) (by omega)).trans M1
      have R3 := (f3.block w.heap.size (lt_of_blk R1) (by omega)).trans R1
      have P3 := P1.fr f3 (fun x hx e => by have := hltA x hx; omega) (fun x hx e => by have := hltB x hx; omega)
      have F3 : Fr (fun x => x = a ∨ x = b ∨ x = mb) w w3 := F1.trans f3 fun x hx e => by omega
      clear f2 H2 x0 z0 x2 z2 x4 z4 G3 f3 M1 R1 H1 F1 P1 D1 hX1 g0 g2
      have y2 : w3.cell? ⟨mb, 3, none⟩ = some (.int .i64 j) := cell_of M3 3
      have q2 : w3.frozen? ⟨mb, 3, none⟩ = false := frozen_of M3 3
      have M4 : (w3.setCell ⟨mb, 3, none⟩ (.int .i64 (j + 1))).heap[mb]? = some (metBlk a b (i) (j + 1)) := (blk_set M3 3 _).trans rfl
      have R4 : (w3.setCell ⟨mb, 3, none⟩ (.int .i64 (j + 1))).heap[w.heap.size]? = _ := (blk_set_ne _ _ (by omega)).trans R3
      have H4 : (w3.setCell ⟨mb, 3, none⟩ (.int .i64 (j + 1))).heap[w.heap.size + 1]? = _ := (blk_set_ne _ _ (by omega)).trans H3
      have P4 := P3.fr (w' := (w3.setCell ⟨mb, 3, none⟩ (.int .i64 (j + 1)))) (S := fun x => x = mb) (Fr.setCell (Fr.refl _ _) (by exact fun _ => rfl) _) (fun x hx e => na (e ▸ hx)) (fun x hx e => nb (e ▸ hx))
      have F4 : Fr (fun x => x = a ∨ x = b ∨ x = mb) w (w3.setCell ⟨mb, 3, none⟩ (.int .i64 (j + 1))) := Fr.setCell F3 (by exact fun _ => Or.inr (Or.inr rfl)) _
      have x0 := cell_of H4 0
      have r0 := cell_of R4 0
      have z0 := frozen_of R4 0
      have x1 := cell_of H4 1
      have r1 := cell_of R4 1
      have z1 := frozen_of R4 1
      have x2 := cell_of H4 2
      have r2 := cell_of R4 2
      have z2 := frozen_of R4 2
      have x3 := cell_of H4 3
      have r3 := cell_of R4 3
      have z3 := frozen_of R4 3
      have x4 := cell_of H4 4
      have r4 := cell_of R4 4
      have z4 := frozen_of R4 4
      go_wp2_with fail
      have G : Fr (fun x => x = w.heap.size) (w3.setCell ⟨mb, 3, none⟩ (.int .i64 (j + 1))) ((((((w3.setCell ⟨mb, 3, none⟩ (.int .i64 (j + 1))).setCell ⟨w.heap.size, 0, none⟩ (kv K')).setCell ⟨w.heap.size, 1, none⟩ (.complex .f64 0 0)).setCell ⟨w.heap.size, 2, none⟩ (kv V')).setCell ⟨w.heap.size, 3, none⟩ (.bool false)).setCell ⟨w.heap.size, 4, none⟩ (.bool X')) := Fr.setCell (Fr.setCell (Fr.setCell (Fr.setCell (Fr.setCell (Fr.refl _ _) (by exact fun _ => rfl) _) (by exact fun _ => rfl) _) (by exact fun _ => rfl) _) (by exact fun _ => rfl) _) (by exact fun _ => rfl) _
      refine bodyPost_ret (v := .agg #[kv K', .complex .f64 0 0, kv V', .bool false, .bool X']) (by simp [results, Tryz.results171, go_sem, *]) rfl ⟨by simp only [hval]; rfl, d, hd, P4.fr G (fun x hx e => by have := hltA x hx; omega) (fun x hx e => by have := hltB x hx; omega), ?_, F4.trans G fun x hx e => by omega⟩
      exact (G.block mb (lt_of_blk M4) (by omega)).trans (M4.trans rfl)


def hcell (h : Hd) : List Value := [kv h.k, kv h.v, kv h.u, .bool h.a, .bool h.b]
def hcells (L : List Hd) : List Value := L.flatMap hcell

theorem hcells_len (L : List Hd) : (hcells L).length = L.length * 5 := by
  induction L with
  | nil => rfl
  | cons p L ih =>
    have : hcells (p :: L) = hcell p ++ hcells L := rfl
    rw [this, List.length_append, ih]; simp [hcell]; omega
theorem hcells_append (L M : List Hd) : hcells (L ++ M) = hcells L ++ hcells M := by unfold hcells; rw [List.flatMap_append]
theorem hcells_one (h : Hd) : hcells [h] = hcell h := by simp [hcells]
theorem hcells_get {L : List Hd} {i : Nat} {p : Hd} (h : L[i]? = some p) (o : Nat) (u : Value) (hu : (hcell p)[o]? = some u) : (hcells L)[i * 5 + o]? = some u := by
  obtain ⟨hl, rfl⟩ := List.getElem?_eq_some_iff.1 h
  have ho : o < 5 := by have := (List.getElem?_eq_some_iff.1 hu).1; simpa [hcell] using this
  have e : hcells L = hcells (L.take i) ++ hcells (L.drop i) := by rw [← hcells_append, List.take_append_drop]
  rw [e, List.getElem?_append_right (by rw [hcells_len, List.length_take]; omega), hcells_len, List.length_take, show i * 5 + o - min i L.length * 5 = o by rw [Nat.min_eq_left (by omega)]; omega,
    List.drop_eq_getElem_cons hl]
  have : hcells (L[i] :: L.drop (i + 1)) = hcell L[i] ++ hcells (L.drop (i + 1)) := rfl
  rw [this, List.getElem?_append_left (by simpa [hcell] using ho)]
  exact hu
theorem hcell_one_cell (h : Hd) : ∀ u ∈ hcell h, u.oneCell' = true := by
  intro u hu
  simp only [hcell, List.mem_cons, List.not_mem_nil, or_false] at hu
  rcases hu with rfl | rfl | rfl | rfl | rfl <;> rfl

theorem info_held : (Tryz.prog.info? 304).map (fun i => (i.zero, i.size, i.bytes)) = some (some (.agg #[.complex .f64 0 0, .complex .f64 0 0, .complex .f64 0 0, .bool false, .bool false]), 5, 56) := by kernel_rfl

theorem grown_two {w wr w' : World} {T : Nat → Prop} {row : Option Nat} (F : Fr T w wr) (g : wr.grownBy w' row) (hr : ∀ k, row = some k → w.heap.size ≤ k) : Fr T w w' :=
  ⟨g.os.trans F.os, g.tape.trans F.tape, g.output.trans F.output, Nat.le_trans F.size g.size, fun k hk hn => (g.block k (Nat.lt_of_lt_of_le hk F.size) (fun e => by have := hr k e.symm; omega)).trans (F.block k hk hn)⟩

theorem new_held (w : World) (h : Hd) (j : Nat) (u : Value) (hu : (hcell h)[j]? = some u) : (w.alloc (.cells #[kv h.k, kv h.v, kv h.u, .bool h.a, .bool h.b] 304)).cell? ((⟨w.heap.size, 0, none⟩ : Addr).add j) = some u := by
  have : ((⟨w.heap.size, 0, none⟩ : Addr).add j) = ⟨w.heap.size, j, none⟩ := by simp [Addr.add]; exact fun e => e.symm
  rw [this, cell_of (blk_new _ _)]
  simpa [hcell] using hu

theorem lmet_nil (t : Bool) (n : Nat) : lmet t n [] [] = [] := by cases n <;> rfl

/-- One round more. -/
theorem met_next {t : Bool} {xs ys : Row} {i j f : Nat} (hne : 0 < (xs.drop i).length + (ys.drop j).length) (hf : (xs.length - i) + (ys.length - j) ≤ f) :
    ∃ f', i + (if msid t (xs.drop i) (ys.drop j) ≤ 0 then 1 else 0) ≤ max i xs.length ∧ j + (if 0 ≤ msid t (xs.drop i) (ys.drop j) then 1 else 0) ≤ max j ys.length ∧
      (xs.length - (i + (if msid t (xs.drop i) (ys.drop j) ≤ 0 then 1 else 0))) + (ys.length - (j + (if 0 ≤ msid t (xs.drop i) (ys.drop j) then 1 else 0))) < (xs.length - i) + (ys.length - j) ∧
      (xs.length - (i + (if msid t (xs.drop i) (ys.drop j) ≤ 0 then 1 else 0))) + (ys.length - (j + (if 0 ≤ msid t (xs.drop i) (ys.drop j) then 1 else 0))) ≤ f' ∧
      lmet t f (xs.drop i) (ys.drop j) = mhd t (xs.drop i) (ys.drop j) :: lmet t f' (xs.drop (i + (if msid t (xs.drop i) (ys.drop j) ≤ 0 then 1 else 0))) (ys.drop (j + (if 0 ≤ msid t (xs.drop i) (ys.drop j) then 1 else 0))) := by
  have hl : (xs.drop i).length + (ys.drop j).length = (xs.length - i) + (ys.length - j) := by rw [List.length_drop, List.length_drop]
  obtain ⟨f', rfl⟩ : ∃ f', f = f' + 1 := ⟨f - 1, by omega⟩
  have hx : msid t (xs.drop i) (ys.drop j) ≤ 0 → i < xs.length := fun e => by
    rcases ahead xs i with ⟨e1, _, _⟩ | ⟨_, _, e2, _⟩
    · rw [e1] at e; exact absurd e (by simp [msid])
    · exact e2
  have hy : 0 ≤ msid t (xs.drop i) (ys.drop j) → j < ys.length := fun e => by
    rcases ahead ys j with ⟨e1, e2, _⟩ | ⟨_, _, e2, _⟩
    · rcases ahead xs i with ⟨d1, _, _⟩ | ⟨x, d1, _, _⟩
      · rw [d1, e1] at hne; simp at hne
      · rw [d1, e1] at e; exact absurd e (by simp [msid])
    · exact e2
  refine ⟨f', ?_, ?_, ?_, ?_, ?_⟩
  · by_cases c : msid t (xs.drop i) (ys.drop j) ≤ 0
    · rw [if_pos c]; have := hx c; omega
    · rw [if_neg c]; omega
  · by_cases c : 0 ≤ msid t (xs.drop i) (ys.drop j)
    · rw [if_pos c]; have := hy c; omega
    · rw [if_neg c]; omega
  · rcases Int.le_total (msid t (xs.drop i) (ys.drop j)) 0 with c | c
    · rw [if_pos c]; have := hx c; split <;> omega
    · rw [if_pos c]; have := hy c; split <;> omega
  · rcases Int.le_total (msid t (xs.drop i) (ys.drop j)) 0 with c | c
    · rw [if_pos c]; have := hx c; split <;> omega
    · rw [if_pos c]; have := hy c; split <;> omega
  · rw [lmet_step t f' _ _ hne]
    congr 2
    · split
      · rw [List.drop_drop]
      · rfl
    · split
      · rw [List.drop_drop]
      · rfl

theorem own_sl {w : World} {B : Nat} {e : TypeId} {s : Nat} {v : Value} {n : Nat} {xs : List Value} (h : w.ownsRow B e s v n xs) : ∃ a c, v = .slice a n c := by
  rcases h.2 with ⟨rfl, rfl⟩ | ⟨g, cap, cur, rfl, _⟩
  · exact ⟨none, 0, rfl⟩
  · exact ⟨_, cap, rfl⟩

theorem own_kept {T : Nat → Prop} {w w' : World} {base : Nat} {e : TypeId} {sz : Nat} {v : Value} {n : Nat} {xs : List Value} (h : w.ownsRow base e sz v n xs) (f : Fr T w w') (hd : ∀ x, v.ownBlock = some x → ¬ T x) : w'.ownsRow base e sz v n xs := by
  obtain ⟨e1, e2⟩ := h
  refine ⟨e1, ?_⟩
  rcases e2 with e2 | ⟨g, cap, cur, rfl, q1, q2, q3⟩
  · exact Or.inl e2
  · exact Or.inr ⟨g, cap, cur, rfl, q1, (f.block g (lt_of_blk q2) (hd g rfl)).trans q2, q3⟩

set_option maxRecDepth 100000 in
set_option maxHeartbeats 4000000 in
theorem met_any (ga gb : Bool) (a b : Nat) (t : Bool) (ca cb : Int) (oa ob : Nat → Prop) (xs ys : Row) (w : World) (h : Pr w ga gb a b t ca cb oa ob xs ys)
    (lx : xs.length ≤ 400) (ly : ys.length ≤ 400) (a0 : 0 ≤ ca) (a1 : ca ≤ 8000000000000000000) (b0 : 0 ≤ cb) (b1 : cb ≤ 8000000000000000000) :
    Calls Tryz.prog 167 #[.pointer (some ⟨a, 0, none⟩), .pointer (some ⟨b, 0, none⟩)] w fun e w' => ∃ (v : Value) (d : Nat), e = .returned v ∧ w'.ownsRow w.heap.size 304 5 v (lmet t 800 xs ys).length (hcells (lmet t 800 xs ys)) ∧ d ≤ 800 ∧ Pr w' ga gb a b t (ca + d) (cb + d) oa ob xs ys ∧ Fr (fun x => x = a ∨ x = b) w w' := by
  obtain ⟨i0, hi0, hz0, hz1, hz2⟩ := info_parts info_held
  have hltA := h.1.lt
  have hltB := h.2.1.lt
  have F0 : Fr (fun x => x = a ∨ x = b) w (w.alloc (metBlk a b 0 0)) := Fr.alloc (Fr.refl _ _) _
  have P0 := h.old (w' := w.alloc (metBlk a b 0 0)) (Fr.alloc (Fr.refl _ _) _)
  have M0 : (w.alloc (metBlk a b 0 0)).heap[w.heap.size]? = some (metBlk a b 0 0) := blk_new _ _
  have hlm := lmet_len t 800 xs ys
  clear h
  unfold metBlk at F0 P0 M0
  go_enter Tryz.func167, Tryz.ntmps167
  go_wp2_with fail
  go_loopg [5, 6] (xs.length + ys.length) (fun gk s5 s6 wr => ∃ (i j mb f d : Nat) (L : List Hd), gk = (xs.length - i) + (ys.length - j) ∧ i ≤ xs.length ∧ j ≤ ys.length ∧ gk ≤ f ∧ lmet t 800 xs ys = L ++ lmet t f (xs.drop i) (ys.drop j) ∧ s6 = .pointer (some ⟨mb, 0, none⟩) ∧ wr.heap[mb]? = some (metBlk a b i j) ∧ w.heap.size ≤ mb ∧
    wr.ownsRow w.heap.size 304 5 s5 L.length (hcells L) ∧ s5.ownBlock ≠ some mb ∧ d + gk ≤ xs.length + ys.length ∧ Pr wr ga gb a b t (ca + d) (cb + d) oa ob xs ys ∧ Fr (fun x => x = a ∨ x = b) w wr)
  case atStart => exact ⟨0, 0, w.heap.size, 800, 0, [], by omega, by omega, by omega, by omega, by simp, rfl, M0, Nat.le_refl _, World.ownsRow_nil _ _ _ _, by simp [Value.ownBlock], by omega, by simpa using P0, F0⟩
  case round =>
    clear M0 P0 F0
    obtain ⟨i, j, mb, f, d, L, y0, yi, yj, yf, yl, rfl, hmb, hmw, hown, hnb, yd, P, F⟩ := hrel
    obtain ⟨a5, c5, rfl⟩ := own_sl hown
    have g2 : wr.cell? ⟨mb, 2, none⟩ = some (.int .i64 i) := cell_of hmb 2
    have g3 : wr.cell? ⟨mb, 3, none⟩ = some (.int .i64 j) := cell_of hmb 3
    have hlenA := fun n => len_anyG ga a t (ca + d) oa xs (wr.drewN n) (P.1.fr (Fr.drewN (Fr.refl (fun _ => False) _) n) fun _ _ e => e)
    have hlenB := fun n => len_anyG gb b t (cb + d) ob ys (wr.drewN n) (P.2.1.fr (Fr.drewN (Fr.refl (fun _ => False) _) n) fun _ _ e => e)
    have na : ¬ oa mb := fun e => by have := hltA mb e; omega
    have nb : ¬ ob mb := fun e => by have := hltB mb e; omega
    by_cases hne : 0 < (xs.drop i).length + (ys.drop j).length
    · have hmn := met_next (t := t) (f := f) hne (by omega)
      have HK : Hid (gk = (xs.length - i) + (ys.length - j) ∧ i ≤ xs.length ∧ j ≤ ys.length ∧ gk ≤ f ∧ lmet t 800 xs ys = L ++ lmet t f (xs.drop i) (ys.drop j) ∧ d + gk ≤ xs.length + ys.length) := ⟨y0, yi, yj, yf, yl, yd⟩
      have hnext := fun n => wnext_any mb ga gb a b t (ca + d) (cb + d) oa ob xs ys i j (wr.drewN n) (P.old (Fr.drewN (Fr.refl _ _) n)) hmb na nb lx ly (by omega) (by omega) hne (by omega) (by omega) (by omega) (by omega)
      by_cases hx : i < xs.length
      · have hx1 : (i : Int) < (xs.length : Int) := by omega
        clear y0 yi yj yf yl yd
        go_wp2_with fail
        go_quiet (first | (go_at_call 69; exact Calls.quiet_of_same (hlenA _)))
        go_wp2_with fail
        refine (hnext nq).mono ?_
        rintro e w3 ⟨d3, rfl, hd3, P3, M3, F3⟩
        have F3' : Fr (fun x => x = a ∨ x = b ∨ x = mb) wr w3 := Fr.trans (S' := fun x => x = a ∨ x = b ∨ x = mb) (Fr.drewN (Fr.refl _ _) nq) F3 fun _ _ e => e
        have hown3 := own_kept hown F3' fun x hx e => by
          have h1 := (hown.lt x hx).1
          have h2 := hltA a P.1.self
          have h3 := hltB b P.2.1.self
          rcases e with e | e | e
          · omega
          · omega
          · exact hnb (by rw [← e]; exact hx)
        obtain ⟨f', m1, m2, m3, m4, m5⟩ := hmn
        generalize hI : i + (if msid t (xs.drop i) (ys.drop j) ≤ 0 then 1 else 0) = I at *
        generalize hJ : j + (if 0 ≤ msid t (xs.drop i) (ys.drop j) then 1 else 0) = J at *
        have HM : Hid (I ≤ max i xs.length ∧ J ≤ max j ys.length ∧ (xs.length - I) + (ys.length - J) < (xs.length - i) + (ys.length - j) ∧ (xs.length - I) + (ys.length - J) ≤ f' ∧ lmet t f (xs.drop i) (ys.drop j) = mhd t (xs.drop i) (ys.drop j) :: lmet t f' (xs.drop I) (ys.drop J)) := ⟨m1, m2, m3, m4, m5⟩
        generalize hH : mhd t (xs.drop i) (ys.drop j) = hh at *
        have F4 : Fr (fun x => x = a ∨ x = b) w w3 := F.trans F3' fun x hx e => by
          rcases e with e | e | e
          · exact Or.inl e
          · exact Or.inr e
          · omega
        have HLL : Hid (L.length ≤ 800) := by
          have h1 := HK.out.2.2.2.2.1
          have h2 := congrArg List.length h1
          rw [List.length_append] at h2
          show L.length ≤ 800
          omega
        have hLL := HLL.out
        have hw3 := F4.size
        unfold hval
        clear hI hJ hH m1 m2 m3 m4 m5 hnext hlenA hlenB hne hown F3 F3' F P g2 g3 na nb hmb
        go_wp2_with
          (at_builtin; refine wpList_append_own _ rfl _ _ 301 rfl w.heap.size 304 i0 (.agg #[.complex .f64 0 0, .complex .f64 0 0, .complex .f64 0 0, .bool false, .bool false]) 5 56 Tryz.underlying301 hi0 hz0 hz1 hz2 rfl (by decide) _ _ _ rfl (hown3.alloc _) ⟨w3.heap.size, 0, none⟩ 1 1 (hcell hh) rfl rfl ?c1 ?c2 ?c3 ?c4 ?c5 ?_)
        case c1 => exact fun j u hu => new_held w3 hh j u hu
        case c2 => exact hcell_one_cell hh
        case c3 => unfold maxLen; omega
        case c4 => omega
        case c5 => simp; omega
        intro v' w5 own5 grow5 _
        have hlt3 := hown3.lt
        have A4 : Fr (fun _ => False) w3 (w3.alloc (.cells #[kv hh.k, kv hh.v, kv hh.u, .bool hh.a, .bool hh.b] 304)) := Fr.alloc (Fr.refl _ _) _
        have M4 := (A4.block mb (lt_of_blk M3) (fun e => e)).trans M3
        have M5 := (grow5.block mb (lt_of_blk M4) (fun e => hnb e.symm)).trans M4
        have F5 : Fr (fun x => x = a ∨ x = b) w w5 := grown_two (Fr.alloc F4 _) grow5 fun k e => (hlt3 k e).1
        have hn5 : v'.ownBlock ≠ some mb := fun e => by
          rcases own5.2 with ⟨q, _⟩ | ⟨g, cap, cur, q, _, q2, _⟩
          · rw [q] at e; cases e
          · rw [q] at e
            have : g = mb := by simpa [Value.ownBlock] using e
            rw [this, M5] at q2
            simp [metBlk] at q2
        have hs5 : v'.ownBlock ≠ some w5.heap.size := fun e => by have := (own5.lt _ e).2; omega
        have P5 := P3.fr (w' := w5) (S := fun x => w.heap.size ≤ x) (Fr.mono (S := fun x => w.heap.size ≤ x) ⟨grow5.os, grow5.tape, grow5.output, Nat.le_trans A4.size grow5.size, fun k hk hn => (grow5.block k (Nat.lt_of_lt_of_le hk A4.size) (fun e => hn (hlt3 k e.symm).1)).trans (A4.block k hk fun e => e)⟩ fun _ _ e => e) (fun x hx e => by have := hltA x hx; omega) (fun x hx e => by have := hltB x hx; omega)
        have u0 : w5.cell? ⟨mb, 0, none⟩ = some (.pointer (some ⟨a, 0, none⟩)) := cell_of M5 0
        have u1 : w5.cell? ⟨mb, 1, none⟩ = some (.pointer (some ⟨b, 0, none⟩)) := cell_of M5 1
        have u2 : w5.cell? ⟨mb, 2, none⟩ = some (.int .i64 I) := cell_of M5 2
        have u3 : w5.cell? ⟨mb, 3, none⟩ = some (.int .i64 J) := cell_of M5 3
        have HW : Hid (w5.ownsRow w.heap.size 304 5 v' (L.length + 1) (hcells (L ++ [hh])) ∧ Pr w5 ga gb a b t (ca + d + d3) (cb + d + d3) oa ob xs ys ∧ Fr (fun x => x = a ∨ x = b) w w5) := ⟨by rw [hcells_append, hcells_one]; exact own5, P5, F5⟩
        clear own5 grow5 P5 F5 M5 M4 M3 A4 hlt3 P3 F4 hown3 hn5
        go_wp2_with fail
        go_roundg ((xs.length - I) + (ys.length - J))
        case measure => have := HM.out; have := HK.out; omega
        case rel =>
          obtain ⟨m1, m2, m3, m4, m5⟩ := HM.out
          obtain ⟨y0, yi, yj, yf, yl, yd⟩ := HK.out
          obtain ⟨k1, k2, k3⟩ := HW.out
          refine ⟨I, J, w5.heap.size, f', d + d3, L ++ [hh], rfl, by omega, by omega, m4, ?_, rfl, blk_new _ _, k3.size, ?_, hs5, by omega, ?_, Fr.alloc k3 _⟩
          · rw [yl, m5, List.append_assoc]; rfl
          · rw [List.length_append]; exact k1.alloc _
          · have := k2.old (w' := w5.alloc (metBlk a b I J)) (Fr.alloc (Fr.refl _ _) _)
            rw [show ca + ((d + d3 : Nat) : Int) = ca + d + d3 by omega, show cb + ((d + d3 : Nat) : Int) = cb + d + d3 by omega]
            exact this
      · have hx1 : ¬ (i : Int) < (xs.length : Int) := by omega
        have hy1 : (j : Int) < (ys.length : Int) := by rw [List.length_drop, List.length_drop] at hne; omega
        clear y0 yi yj yf yl yd
        go_wp2_with fail
        go_quiet (first | (go_at_call_of 69 (Value.pointer (some ⟨a, 0, none⟩)); exact Calls.quiet_of_same (hlenA _)) | (go_at_call 69; exact Calls.quiet_of_same (hlenB _)))
        go_wp2_with fail
        refine (hnext nq).mono ?_
        rintro e w3 ⟨d3, rfl, hd3, P3, M3, F3⟩
        have F3' : Fr (fun x => x = a ∨ x = b ∨ x = mb) wr w3 := Fr.trans (S' := fun x => x = a ∨ x = b ∨ x = mb) (Fr.drewN (Fr.refl _ _) nq) F3 fun _ _ e => e
        have hown3 := own_kept hown F3' fun x hx e => by
          have h1 := (hown.lt x hx).1
          have h2 := hltA a P.1.self
          have h3 := hltB b P.2.1.self
          rcases e with e | e | e
          · omega
          · omega
          · exact hnb (by rw [← e]; exact hx)
        obtain ⟨f', m1, m2, m3, m4, m5⟩ := hmn
        generalize hI : i + (if msid t (xs.drop i) (ys.drop j) ≤ 0 then 1 else 0) = I at *
        generalize hJ : j + (if 0 ≤ msid t (xs.drop i) (ys.drop j) then 1 else 0) = J at *
        have HM : Hid (I ≤ max i xs.length ∧ J ≤ max j ys.length ∧ (xs.length - I) + (ys.length - J) < (xs.length - i) + (ys.length - j) ∧ (xs.length - I) + (ys.length - J) ≤ f' ∧ lmet t f (xs.drop i) (ys.drop j) = mhd t (xs.drop i) (ys.drop j) :: lmet t f' (xs.drop I) (ys.drop J)) := ⟨m1, m2, m3, m4, m5⟩
        generalize hH : mhd t (xs.drop i) (ys.drop j) = hh at *
        have F4 : Fr (fun x => x = a ∨ x = b) w w3 := F.trans F3' fun x hx e => by
          rcases e with e | e | e
          · exact Or.inl e
          · exact Or.inr e
          · omega
        have HLL : Hid (L.length ≤ 800) := by
          have h1 := HK.out.2.2.2.2.1
          have h2 := congrArg List.length h1
          rw [List.length_append] at h2
          show L.length ≤ 800
          omega
        have hLL := HLL.out
        have hw3 := F4.size
        unfold hval
        clear hI hJ hH m1 m2 m3 m4 m5 hnext hlenA hlenB hne hown F3 F3' F P g2 g3 na nb hmb
        go_wp2_with
          (at_builtin; refine wpList_append_own _ rfl _ _ 301 rfl w.heap.size 304 i0 (.agg #[.complex .f64 0 0, .complex .f64 0 0, .complex .f64 0 0, .bool false, .bool false]) 5 56 Tryz.underlying301 hi0 hz0 hz1 hz2 rfl (by decide) _ _ _ rfl (hown3.alloc _) ⟨w3.heap.size, 0, none⟩ 1 1 (hcell hh) rfl rfl ?c1 ?c2 ?c3 ?c4 ?c5 ?_)
        case c1 => exact fun j u hu => new_held w3 hh j u hu
        case c2 => exact hcell_one_cell hh
        case c3 => unfold maxLen; omega
        case c4 => omega
        case c5 => simp; omega
        intro v' w5 own5 grow5 _
        have hlt3 := hown3.lt
        have A4 : Fr (fun _ => False) w3 (w3.alloc (.cells #[kv hh.k, kv hh.v, kv hh.u, .bool hh.a, .bool hh.b] 304)) := Fr.alloc (Fr.refl _ _) _
        have M4 := (A4.block mb (lt_of_blk M3) (fun e => e)).trans M3
        have M5 := (grow5.block mb (lt_of_blk M4) (fun e => hnb e.symm)).trans M4
        have F5 : Fr (fun x => x = a ∨ x = b) w w5 := grown_two (Fr.alloc F4 _) grow5 fun k e => (hlt3 k e).1
        have hn5 : v'.ownBlock ≠ some mb := fun e => by
          rcases own5.2 with ⟨q, _⟩ | ⟨g, cap, cur, q, _, q2, _⟩
          · rw [q] at e; cases e
          · rw [q] at e
            have : g = mb := by simpa [Value.ownBlock] using e
            rw [this, M5] at q2
            simp [metBlk] at q2
        have hs5 : v'.ownBlock ≠ some w5.heap.size := fun e => by have := (own5.lt _ e).2; omega
        have P5 := P3.fr (w' := w5) (S := fun x => w.heap.size ≤ x) (Fr.mono (S := fun x => w.heap.size ≤ x) ⟨grow5.os, grow5.tape, grow5.output, Nat.le_trans A4.size grow5.size, fun k hk hn => (grow5.block k (Nat.lt_of_lt_of_le hk A4.size) (fun e => hn (hlt3 k e.symm).1)).trans (A4.block k hk fun e => e)⟩ fun _ _ e => e) (fun x hx e => by have := hltA x hx; omega) (fun x hx e => by have := hltB x hx; omega)
        have u0 : w5.cell? ⟨mb, 0, none⟩ = some (.pointer (some ⟨a, 0, none⟩)) := cell_of M5 0
        have u1 : w5.cell? ⟨mb, 1, none⟩ = some (.pointer (some ⟨b, 0, none⟩)) := cell_of M5 1
        have u2 : w5.cell? ⟨mb, 2, none⟩ = some (.int .i64 I) := cell_of M5 2
        have u3 : w5.cell? ⟨mb, 3, none⟩ = some (.int .i64 J) := cell_of M5 3
        have HW : Hid (w5.ownsRow w.heap.size 304 5 v' (L.length + 1) (hcells (L ++ [hh])) ∧ Pr w5 ga gb a b t (ca + d + d3) (cb + d + d3) oa ob xs ys ∧ Fr (fun x => x = a ∨ x = b) w w5) := ⟨by rw [hcells_append, hcells_one]; exact own5, P5, F5⟩
        clear own5 grow5 P5 F5 M5 M4 M3 A4 hlt3 P3 F4 hown3 hn5
        go_wp2_with fail
        go_roundg ((xs.length - I) + (ys.length - J))
        case measure => have := HM.out; have := HK.out; omega
        case rel =>
          obtain ⟨m1, m2, m3, m4, m5⟩ := HM.out
          obtain ⟨y0, yi, yj, yf, yl, yd⟩ := HK.out
          obtain ⟨k1, k2, k3⟩ := HW.out
          refine ⟨I, J, w5.heap.size, f', d + d3, L ++ [hh], rfl, by omega, by omega, m4, ?_, rfl, blk_new _ _, k3.size, ?_, hs5, by omega, ?_, Fr.alloc k3 _⟩
          · rw [yl, m5, List.append_assoc]; rfl
          · rw [List.length_append]; exact k1.alloc _
          · have := k2.old (w' := w5.alloc (metBlk a b I J)) (Fr.alloc (Fr.refl _ _) _)
            rw [show ca + ((d + d3 : Nat) : Int) = ca + d + d3 by omega, show cb + ((d + d3 : Nat) : Int) = cb + d + d3 by omega]
            exact this
    · have hx1 : ¬ (i : Int) < (xs.length : Int) := by rw [List.length_drop, List.length_drop] at hne; omega
      have hy1 : ¬ (j : Int) < (ys.length : Int) := by rw [List.length_drop, List.length_drop] at hne; omega
      have hx2 : ¬ i < xs.length := by omega
      have hy2 : ¬ j < ys.length := by omega
      have e1 : xs.drop i = [] := List.drop_eq_nil_of_le (by omega)
      have e2 : ys.drop j = [] := List.drop_eq_nil_of_le (by omega)
      rw [e1, e2, lmet_nil, List.append_nil] at yl
      have HW : Hid (wr.ownsRow w.heap.size 304 5 (.slice a5 L.length c5) (lmet t 800 xs ys).length (hcells (lmet t 800 xs ys)) ∧ d ≤ 800 ∧ Pr wr ga gb a b t (ca + d) (cb + d) oa ob xs ys ∧ Fr (fun x => x = a ∨ x = b) w wr) := ⟨by rw [yl]; exact hown, by omega, P, F⟩
      clear y0 yi yj yf yl yd hne hown P F hmb e1 e2
      go_wp2_with fail
      go_quiet (first | (go_at_call_of 69 (Value.pointer (some ⟨a, 0, none⟩)); exact Calls.quiet_of_same (hlenA _)) | (go_at_call 69; exact Calls.quiet_of_same (hlenB _)))
      go_wp2_with fail
      go_ret
      obtain ⟨k1, k2, k3, k4⟩ := HW.out
      exact ⟨_, d, rfl, k1, k2, k3.old (Fr.drewN (Fr.refl _ _) _), Fr.drewN k4 _⟩

end Go.Proofs.YthbnbocpddddmaaGreat
