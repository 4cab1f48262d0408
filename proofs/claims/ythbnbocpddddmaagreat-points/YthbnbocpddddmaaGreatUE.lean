import Derived.Test.YthbnbocpddddmaaGreatQN
import Derived.Test.YthbnbocpddddmaaGreatQA
namespace Go.Proofs.YthbnbocpddddmaaGreat
open Go.RowKit

theorem lboth_succ {ys xs : Row} {has : Bool} {j : Nat} {p : Int × Int} (h : xs[j]? = some p) : lboth ys has (xs.take (j + 1)) = lboth ys has (xs.take j) ++ (if (lsame p.1 ys == has) = true then [p] else []) := by
  unfold lboth
  rw [List.take_add_one, h, List.filter_append]
  simp only [Option.toList_some, List.filter_cons, List.filter_nil]

theorem lboth_len (ys : Row) (has : Bool) (xs : Row) (j : Nat) : (lboth ys has (xs.take j)).length ≤ xs.length := by
  unfold lboth
  exact Nat.le_trans (List.length_filter_le ..) (List.length_take_le' ..)

set_option maxRecDepth 100000 in
set_option maxHeartbeats 1600000 in
theorem rboth_other (B a b : Nat) (t u : Bool) (oa ob : Nat → Prop) (xs ys : Row) (has : Bool) (w : World) (ha : RefM w B a t oa xs) (hb : RefM w B b u ob ys) (hne : t ≠ u) :
    Calls Tryz.prog 134 #[.pointer (some ⟨a, 0, none⟩), .pointer (some ⟨b, 0, none⟩), .bool has] w fun e w' => e = .returned (.tuple #[.pointer none, .bool false]) ∧ Fr (fun _ => False) w w' := by
  obtain ⟨aa, ca, ha1, _, _⟩ := ha.reads
  obtain ⟨ab, cb, hb1, _, _⟩ := hb.reads
  have c0 : w.cell? ⟨a, 0, none⟩ = some (.int .i64 3) := cell_of ha1 0
  have c1 : w.cell? ⟨a, 1, none⟩ = some (.bool t) := cell_of ha1 1
  have d0 : w.cell? ⟨b, 0, none⟩ = some (.int .i64 3) := cell_of hb1 0
  have d1 : w.cell? ⟨b, 1, none⟩ = some (.bool u) := cell_of hb1 1
  clear ha hb ha1 hb1
  cases t <;> cases u
  · exact absurd rfl hne
  · clear hne
    go_enter Tryz.func134, Tryz.ntmps134
    go_wp2_with fail
    go_region
    go_wp2_with fail
    go_ret2
    exact ⟨rfl, Fr.drew (Fr.refl _ _)⟩
  · clear hne
    go_enter Tryz.func134, Tryz.ntmps134
    go_wp2_with fail
    go_region
    go_wp2_with fail
    go_ret2
    exact ⟨rfl, Fr.drew (Fr.refl _ _)⟩
  · exact absurd rfl hne

set_option maxRecDepth 100000 in
set_option maxHeartbeats 6400000 in
theorem rboth_one (B a b : Nat) (t : Bool) (oa ob : Nat → Prop) (xs ys : Row) (has : Bool) (w : World) (ha : RefM w B a t oa xs) (hb : RefM w B b t ob ys) (hsy : Srt t ys) (hl : xs.length ≤ 400) (hly : ys.length ≤ 400) (hB : B ≤ w.heap.size) :
    Calls Tryz.prog 134 #[.pointer (some ⟨a, 0, none⟩), .pointer (some ⟨b, 0, none⟩), .bool has] w fun e w' => ∃ mb : Nat, e = .returned (.tuple #[.pointer (some ⟨mb, 0, none⟩), .bool true]) ∧ ∃ om : Nat → Prop, RefM w' B mb t om (lboth ys has xs) ∧ (∀ x, om x → w.heap.size ≤ x) ∧ Fr (fun _ => False) w w' := by
  obtain ⟨aa, ca, ha1, hra, _⟩ := ha.reads
  obtain ⟨ab, cb, hb1, hrb, _⟩ := hb.reads
  have c0 : w.cell? ⟨a, 0, none⟩ = some (.int .i64 3) := cell_of ha1 0
  have c1 : w.cell? ⟨a, 1, none⟩ = some (.bool t) := cell_of ha1 1
  have d0 : w.cell? ⟨b, 0, none⟩ = some (.int .i64 3) := cell_of hb1 0
  have d1 : w.cell? ⟨b, 1, none⟩ = some (.bool t) := cell_of hb1 1
  obtain ⟨i0, hi, hz0, hz1, hz2⟩ := info_parts info_item
  have hal := lt_of_blk ha1
  clear ha hb
  go_enter Tryz.func134, Tryz.ntmps134
  go_wp2_with fail
  go_region
  have e0 : w.drew.cell? ⟨a, 0, none⟩ = some (.int .i64 3) := c0
  have e1 : w.drew.cell? ⟨a, 1, none⟩ = some (.bool t) := c1
  go_wp2_with fail
  have F1 : Fr (fun _ => False) w (w.drew.alloc (.cells #[.int .i64 3, .bool t, .slice none 0 0] 156)) := Fr.alloc (Fr.drew (Fr.refl _ _)) _
  have hmb : (w.drew.alloc (.cells #[.int .i64 3, .bool t, .slice none 0 0] 156)).heap[w.heap.size]? = some (.cells #[.int .i64 3, .bool t, .slice none 0 0] 156 (0, 0)) := blk_new w.drew (.cells #[.int .i64 3, .bool t, .slice none 0 0] 156)
  clear c0 c1 d0 d1 e0 e1
  go_loopg [9] xs.length (fun gk s9 wr => ∃ (j : Nat) (sl : Option Addr) (cc : Nat), gk + j = xs.length ∧ s9 = .int .i64 j ∧ wr.heap[w.heap.size]? = some (.cells #[.int .i64 3, .bool t, .slice sl (lboth ys has (xs.take j)).length cc] 156 (0, 0)) ∧
    wr.ownsRow (w.heap.size + 1) 163 7 (.slice sl (lboth ys has (xs.take j)).length cc) (lboth ys has (xs.take j)).length (rcells (lboth ys has (xs.take j))) ∧ Fr (fun _ => False) w wr)
  case atStart => exact ⟨0, none, 0, by omega, rfl, hmb, World.ownsRow_nil _ _ _ _, F1⟩
  case round =>
    clear hmb F1
    obtain ⟨j, sl, cc, y0, rfl, hmb, hown, F⟩ := hrel
    have ha2 := (F.block a hal (fun e => e)).trans ha1
    have c2 : wr.cell? ⟨a, 2, none⟩ = some (.slice aa xs.length ca) := cell_of ha2 2
    have hra2 := hra.fr F fun _ _ _ e => e
    by_cases hj : j < xs.length
    · obtain ⟨p, hp⟩ : ∃ p, xs[j]? = some p := ⟨_, List.getElem?_eq_getElem hj⟩
      have hj1 : (j : Int) < (xs.length : Int) := by omega
      have hhas := rhas_any b t ab cb ys p.1 wr ((F.block b (lt_of_blk hb1) (fun e => e)).trans hb1) (hrb.fr F fun _ _ _ e => e) hsy (by omega)
      have HTT : Hid (lboth ys has (xs.take (j + 1)) = lboth ys has (xs.take j) ++ (if (lsame p.1 ys == has) = true then [p] else [])) := lboth_succ hp
      have HZL : Hid ((lboth ys has (xs.take j)).length ≤ 400) := Nat.le_trans (lboth_len ys has xs j) hl
      obtain ⟨zs, hzs⟩ : ∃ zs, lboth ys has (xs.take j) = zs := ⟨_, rfl⟩
      rw [hzs] at hmb hown HZL
      have HZS : Hid (lboth ys has (xs.take j) = zs) := hzs
      have HY : Hid (gk + j = xs.length ∧ j < xs.length) := ⟨y0, hj⟩
      clear hzs
      rcases hra2 with rfl | ⟨g, off, rfl, hg, hc⟩
      · simp at hj
      have k0 : wr.cell? ⟨g, off + j * 7, none⟩ = some (.int .i64 0) := hc j p hp 0 _ rfl
      have k1 : wr.cell? ⟨g, off + j * 7 + 1, none⟩ = some s0 := hc j p hp 1 _ rfl
      have k2 : wr.cell? ⟨g, off + j * 7 + 2, none⟩ = some (fx p.1) := hc j p hp 2 _ rfl
      have k3 : wr.cell? ⟨g, off + j * 7 + 3, none⟩ = some (fy p.1) := hc j p hp 3 _ rfl
      have k4 : wr.cell? ⟨g, off + j * 7 + 4, none⟩ = some (.int .i64 0) := hc j p hp 4 _ rfl
      have k5 : wr.cell? ⟨g, off + j * 7 + 5, none⟩ = some (fx p.2) := hc j p hp 5 _ rfl
      have k6 : wr.cell? ⟨g, off + j * 7 + 6, none⟩ = some (fy p.2) := hc j p hp 6 _ rfl
      unfold lhas at hhas
      clear hc hg hp hj y0
      go_wp2_with fail
      refine hhas.mono ?_
      rintro e w3 ⟨rfl, G⟩
      have F3 := F.trans G fun _ _ e => e
      have hm3 := (G.block _ (lt_of_blk hmb) (fun e => e)).trans hmb
      have own3 := own_fr hown G
      have c2 : w3.cell? ⟨a, 2, none⟩ = some (.slice (some ⟨g, off, none⟩) xs.length ca) := G.get c2
      have k0 : w3.cell? ⟨g, off + j * 7, none⟩ = some (.int .i64 0) := G.get k0
      have k1 : w3.cell? ⟨g, off + j * 7 + 1, none⟩ = some s0 := G.get k1
      have k2 : w3.cell? ⟨g, off + j * 7 + 2, none⟩ = some (fx p.1) := G.get k2
      have k3 : w3.cell? ⟨g, off + j * 7 + 3, none⟩ = some (fy p.1) := G.get k3
      have k4 : w3.cell? ⟨g, off + j * 7 + 4, none⟩ = some (.int .i64 0) := G.get k4
      have k5 : w3.cell? ⟨g, off + j * 7 + 5, none⟩ = some (fx p.2) := G.get k5
      have k6 : w3.cell? ⟨g, off + j * 7 + 6, none⟩ = some (fy p.2) := G.get k6
      clear hhas G F hmb hown ha2
      cases hsm : lsame p.1 ys
      · simp only [Bool.false_eq_true, if_false]
        cases has
        · have HT : lboth ys false (xs.take (j + 1)) = zs ++ [p] := by rw [← HZS.out]; have := HTT.out; rw [hsm] at this; simpa using this
          have hm4 := (Fr.block (S := fun _ => False) (Fr.alloc (Fr.drew (Fr.refl (fun _ => False) w3)) (.cells #[.int .i64 0, s0, fx p.1, fy p.1, .int .i64 0, fx p.2, fy p.2] 163)) w.heap.size (lt_of_blk hm3) (fun e => e)).trans hm3
          have l2 : w3.cell? ⟨w.heap.size, 2, none⟩ = some (.slice sl zs.length cc) := cell_of hm3 2
          have l2a : (w3.alloc (.cells #[.int .i64 0, s0, fx p.1, fy p.1, .int .i64 0, fx p.2, fy p.2] 163)).cell? ⟨w.heap.size, 2, none⟩ = some (.slice sl zs.length cc) := Fr.get (Fr.alloc (Fr.refl _ _) _) l2
          have O4 : Hid ((w3.drew.alloc (.cells #[.int .i64 0, s0, fx p.1, fy p.1, .int .i64 0, fx p.2, fy p.2] 163)).ownsRow (w.heap.size + 1) 163 7 (.slice sl zs.length cc) zs.length (rcells zs)) := own_fr own3 (Fr.alloc (Fr.drew (Fr.refl _ _)) _)
          have O5 : Hid (∀ i u, (ritem p)[i]? = some u → (w3.drew.alloc (.cells #[.int .i64 0, s0, fx p.1, fy p.1, .int .i64 0, fx p.2, fy p.2] 163)).cell? ((⟨w3.heap.size, 0, none⟩ : Addr).add i) = some u) := fun i u hu => new_item w3.drew p i u hu
          have O6 : Hid (∀ u ∈ ritem p, u.oneCell' = true) := fun u hu => rcells_one_cell [p] u (by rw [rcells_one]; exact hu)
          have hzl : zs.length ≤ 400 := by have := HZL.out; omega
          go_wp2_with fail
          go_region_law (refine step_append_own rfl (.tmp 53) (.tmp 61) 154 rfl (w.heap.size + 1) 163 i0 (.agg #[.int .i64 0, s0, f0, f0, .int .i64 0, f0, f0]) 7 64 Tryz.underlying154 hi hz0 hz1 hz2 rfl (by decide) (.slice sl zs.length cc) zs.length (rcells zs) (by simp [Act.eval]) O4.out ⟨w3.heap.size, 0, none⟩ 1 1 (ritem p) (by simp [Act.eval]) rfl O5.out O6.out (by unfold maxLen; omega) (by omega) (by have := lt_of_blk hm3; simp; omega) ?_; intro a9 c9 w9 own9 grow9; have hm9 := (grow9.block w.heap.size (by have := lt_of_blk hm3; simp; omega) (fun e => by have := (own3.lt w.heap.size e.symm).1; omega)).trans hm4; have z2 := frozen_of hm9 2; have y2 := cell_of hm9 2)
          all_goals
            have e1 : (zs ++ [p]).length = zs.length + 1 := by simp
            have hm10 : (w9.setCell ⟨w.heap.size, 2, none⟩ (.slice a9 (zs.length + 1) c9)).heap[w.heap.size]? = some (.cells #[.int .i64 3, .bool t, .slice a9 (zs.length + 1) c9] 156 (0, 0)) := (blk_set hm9 2 _).trans rfl
            have own10 : (w9.setCell ⟨w.heap.size, 2, none⟩ (.slice a9 (zs.length + 1) c9)).ownsRow (w.heap.size + 1) 163 7 (.slice a9 (zs.length + 1) c9) (zs.length + 1) (rcells (zs ++ [p])) := by rw [rcells_append, rcells_one]; exact own_set own9 _ (by omega)
            have F10 : Fr (fun _ => False) w (w9.setCell ⟨w.heap.size, 2, none⟩ (.slice a9 (zs.length + 1) c9)) := Fr.setCell (grown_fr (Fr.alloc (Fr.drew F3) _) grow9 (fun k e => by have := (own3.lt k e).1; omega)) (by exact fun e => absurd e (by show ¬ w.heap.size < w.heap.size; omega)) _
            generalize w9.setCell ⟨w.heap.size, 2, none⟩ (.slice a9 (zs.length + 1) c9) = w10 at *
            have HW : Hid (w10.heap[w.heap.size]? = some (.cells #[.int .i64 3, .bool t, .slice a9 (zs.length + 1) c9] 156 (0, 0)) ∧ w10.ownsRow (w.heap.size + 1) 163 7 (.slice a9 (zs.length + 1) c9) (zs.length + 1) (rcells (zs ++ [p])) ∧ Fr (fun _ => False) w w10) := ⟨hm10, own10, F10⟩
            clear hm10 own10 F10 own9 grow9 hm9 y2 z2 hm4 hm3 own3 F3 O4 O5 O6 l2 l2a c2 k0 k1 k2 k3 k4 k5 k6
            go_wp2_with fail
            go_roundg (gk - 1)
            case measure => have := HY.out; omega
            case rel => exact ⟨j + 1, a9, c9, by have := HY.out; omega, by go_num, by rw [HT, e1]; exact HW.out.1, by rw [HT, e1]; exact HW.out.2.1, HW.out.2.2⟩
        · have HT : lboth ys true (xs.take (j + 1)) = zs := by rw [← HZS.out]; have := HTT.out; rw [hsm] at this; simpa using this
          clear k0 k1 k2 k3 k4 k5 k6
          go_wp2_with fail
          go_roundg (gk - 1)
          case measure => have := HY.out; omega
          case rel => exact ⟨j + 1, sl, cc, by have := HY.out; omega, by go_num, by rw [HT]; exact hm3, by rw [HT]; exact own3, F3⟩
      · simp only [if_true]
        cases has
        · have HT : lboth ys false (xs.take (j + 1)) = zs := by rw [← HZS.out]; have := HTT.out; rw [hsm] at this; simpa using this
          clear k0 k1 k2 k3 k4 k5 k6
          go_wp2_with fail
          go_roundg (gk - 1)
          case measure => have := HY.out; omega
          case rel => exact ⟨j + 1, sl, cc, by have := HY.out; omega, by go_num, by rw [HT]; exact hm3, by rw [HT]; exact own3, F3⟩
        · have HT : lboth ys true (xs.take (j + 1)) = zs ++ [p] := by rw [← HZS.out]; have := HTT.out; rw [hsm] at this; simpa using this
          have hm4 := (Fr.block (S := fun _ => False) (Fr.alloc (Fr.drew (Fr.refl (fun _ => False) w3)) (.cells #[.int .i64 0, s0, fx p.1, fy p.1, .int .i64 0, fx p.2, fy p.2] 163)) w.heap.size (lt_of_blk hm3) (fun e => e)).trans hm3
          have l2 : w3.cell? ⟨w.heap.size, 2, none⟩ = some (.slice sl zs.length cc) := cell_of hm3 2
          have l2a : (w3.alloc (.cells #[.int .i64 0, s0, fx p.1, fy p.1, .int .i64 0, fx p.2, fy p.2] 163)).cell? ⟨w.heap.size, 2, none⟩ = some (.slice sl zs.length cc) := Fr.get (Fr.alloc (Fr.refl _ _) _) l2
          have O4 : Hid ((w3.drew.alloc (.cells #[.int .i64 0, s0, fx p.1, fy p.1, .int .i64 0, fx p.2, fy p.2] 163)).ownsRow (w.heap.size + 1) 163 7 (.slice sl zs.length cc) zs.length (rcells zs)) := own_fr own3 (Fr.alloc (Fr.drew (Fr.refl _ _)) _)
          have O5 : Hid (∀ i u, (ritem p)[i]? = some u → (w3.drew.alloc (.cells #[.int .i64 0, s0, fx p.1, fy p.1, .int .i64 0, fx p.2, fy p.2] 163)).cell? ((⟨w3.heap.size, 0, none⟩ : Addr).add i) = some u) := fun i u hu => new_item w3.drew p i u hu
          have O6 : Hid (∀ u ∈ ritem p, u.oneCell' = true) := fun u hu => rcells_one_cell [p] u (by rw [rcells_one]; exact hu)
          have hzl : zs.length ≤ 400 := by have := HZL.out; omega
          go_wp2_with fail
          go_region_law (refine step_append_own rfl (.tmp 53) (.tmp 61) 154 rfl (w.heap.size + 1) 163 i0 (.agg #[.int .i64 0, s0, f0, f0, .int .i64 0, f0, f0]) 7 64 Tryz.underlying154 hi hz0 hz1 hz2 rfl (by decide) (.slice sl zs.length cc) zs.length (rcells zs) (by simp [Act.eval]) O4.out ⟨w3.heap.size, 0, none⟩ 1 1 (ritem p) (by simp [Act.eval]) rfl O5.out O6.out (by unfold maxLen; omega) (by omega) (by have := lt_of_blk hm3; simp; omega) ?_; intro a9 c9 w9 own9 grow9; have hm9 := (grow9.block w.heap.size (by have := lt_of_blk hm3; simp; omega) (fun e => by have := (own3.lt w.heap.size e.symm).1; omega)).trans hm4; have z2 := frozen_of hm9 2; have y2 := cell_of hm9 2)
          all_goals
            have e1 : (zs ++ [p]).length = zs.length + 1 := by simp
            have hm10 : (w9.setCell ⟨w.heap.size, 2, none⟩ (.slice a9 (zs.length + 1) c9)).heap[w.heap.size]? = some (.cells #[.int .i64 3, .bool t, .slice a9 (zs.length + 1) c9] 156 (0, 0)) := (blk_set hm9 2 _).trans rfl
            have own10 : (w9.setCell ⟨w.heap.size, 2, none⟩ (.slice a9 (zs.length + 1) c9)).ownsRow (w.heap.size + 1) 163 7 (.slice a9 (zs.length + 1) c9) (zs.length + 1) (rcells (zs ++ [p])) := by rw [rcells_append, rcells_one]; exact own_set own9 _ (by omega)
            have F10 : Fr (fun _ => False) w (w9.setCell ⟨w.heap.size, 2, none⟩ (.slice a9 (zs.length + 1) c9)) := Fr.setCell (grown_fr (Fr.alloc (Fr.drew F3) _) grow9 (fun k e => by have := (own3.lt k e).1; omega)) (by exact fun e => absurd e (by show ¬ w.heap.size < w.heap.size; omega)) _
            generalize w9.setCell ⟨w.heap.size, 2, none⟩ (.slice a9 (zs.length + 1) c9) = w10 at *
            have HW : Hid (w10.heap[w.heap.size]? = some (.cells #[.int .i64 3, .bool t, .slice a9 (zs.length + 1) c9] 156 (0, 0)) ∧ w10.ownsRow (w.heap.size + 1) 163 7 (.slice a9 (zs.length + 1) c9) (zs.length + 1) (rcells (zs ++ [p])) ∧ Fr (fun _ => False) w w10) := ⟨hm10, own10, F10⟩
            clear hm10 own10 F10 own9 grow9 hm9 y2 z2 hm4 hm3 own3 F3 O4 O5 O6 l2 l2a c2 k0 k1 k2 k3 k4 k5 k6
            go_wp2_with fail
            go_roundg (gk - 1)
            case measure => have := HY.out; omega
            case rel => exact ⟨j + 1, a9, c9, by have := HY.out; omega, by go_num, by rw [HT, e1]; exact HW.out.1, by rw [HT, e1]; exact HW.out.2.1, HW.out.2.2⟩
    · have hj1 : ¬ (j : Int) < (xs.length : Int) := by omega
      have ej : j = xs.length := by omega
      subst ej
      have HM : Hid (∃ om : Nat → Prop, RefM wr B w.heap.size t om (lboth ys has xs) ∧ (∀ x, om x → w.heap.size ≤ x) ∧ Fr (fun _ => False) w wr) := by
        rw [List.take_length] at hmb hown
        have hlt := hown.lt
        exact ⟨_, ⟨_, hmb, own_base hown (by omega), fun e => by have := (hlt _ e).1; omega, fun x => Iff.rfl⟩, fun x hx => by rcases hx with rfl | e; omega; have := (hlt x e).1; omega, F⟩
      clear hmb hown hra2 F ha2
      go_wp2_with fail
      go_ret2
      exact ⟨_, rfl, HM.out⟩

theorem rboth_any (B a b : Nat) (t u : Bool) (oa ob : Nat → Prop) (xs ys : Row) (has : Bool) (w : World) (ha : RefM w B a t oa xs) (hb : RefM w B b u ob ys) (hsy : Srt u ys) (hl : xs.length ≤ 400) (hly : ys.length ≤ 400) (hB : B ≤ w.heap.size) :
    Calls Tryz.prog 134 #[.pointer (some ⟨a, 0, none⟩), .pointer (some ⟨b, 0, none⟩), .bool has] w fun e w' => (t ≠ u ∧ e = .returned (.tuple #[.pointer none, .bool false]) ∧ Fr (fun _ => False) w w') ∨
      (t = u ∧ ∃ mb : Nat, e = .returned (.tuple #[.pointer (some ⟨mb, 0, none⟩), .bool true]) ∧ ∃ om : Nat → Prop, RefM w' B mb t om (lboth ys has xs) ∧ (∀ x, om x → w.heap.size ≤ x) ∧ Fr (fun _ => False) w w') := by
  by_cases h : t = u
  · subst h
    exact (rboth_one B a b t oa ob xs ys has w ha hb hsy hl hly hB).mono fun e w' hh => Or.inr ⟨rfl, hh⟩
  · exact (rboth_other B a b t u oa ob xs ys has w ha hb h).mono fun e w' hh => Or.inl ⟨h, hh⟩

end Go.Proofs.YthbnbocpddddmaaGreat
