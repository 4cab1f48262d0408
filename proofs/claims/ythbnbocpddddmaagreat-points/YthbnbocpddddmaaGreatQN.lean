import Derived.Test.YthbnbocpddddmaaGreatQM
import Derived.Deep.RegionLaw
namespace Go.Proofs.YthbnbocpddddmaaGreat
open Go.RowKit

theorem step_append_own {P : Program} {ops : Array Oper} {o : Oper} {a : Act} {w : World} {K : Act → World → Prop} {Q : Exit → Act → World → Prop} {E : Prop}
    (hg : o.guard = none) (s x : Operand) (t : TypeId) (hop : o.op = Op.call { callee := Callee.builtin Builtin.append, args := #[s, x], argTypes := #[t, t] })
    (base : Nat) (e : TypeId) (i : TypeInfo) (z : Value) (size bytes : Nat) (ht : P.underlying t = some (.slice e)) (hi : P.info? e = some i) (hz : i.zero = some z)
    (hsize : i.size = size) (hby : i.bytes = bytes) (hzs : z.cells.size = size) (hsz : 0 < size)
    (v : Value) (n : Nat) (xs : List Value) (hs : a.eval s = v) (hown : w.ownsRow base e size v n xs)
    (ad : Addr) (m c : Nat) (news : List Value) (hx : a.eval x = .slice (some ad) m c) (hl : news.length = m * size) (hnews : ∀ j u, news[j]? = some u → w.cell? (ad.add j) = some u) (h1 : ∀ u ∈ news, u.oneCell' = true)
    (h63 : n + m ≤ maxLen) (hbytes : (n + m) * bytes ≤ 140737488355328) (hbase : base ≤ w.heap.size)
    (hK : ∀ a' c' w', w'.ownsRow base e size (.slice a' (n + m) c') (n + m) (xs ++ news) → w.grownBy w' v.ownBlock → K (a.put o.dst (.slice a' (n + m) c')) w') :
    if Region.wanted o (yielded ops a.tmps) = true then Oper.wp P o a w K Q else E := by
  have hw : Region.wanted o (yielded ops a.tmps) = true := by simp [Region.wanted, hg]
  rw [if_pos hw]
  obtain ⟨v', w', hrun, h2, h3, h4⟩ := run_append_own (P := P) (w := w) base t o.type e i z size bytes ht hi hz hsize hby hzs hsz v n xs hown ad m c news hl hnews h1 h63 hbytes hbase
  obtain ⟨a', c', rfl⟩ := own_shape h2
  unfold Oper.wp
  simp [execOp, hop, resolve, invoke, builtin, hs, hx, hrun, Result.andThen]
  exact hK a' c' w' h2 h3

theorem step_append_none {P : Program} {ops : Array Oper} {o : Oper} {a : Act} {w : World} {K : Act → World → Prop} {Q : Exit → Act → World → Prop} {E : Prop}
    (hg : o.guard = none) (s x : Operand) (t : TypeId) (hop : o.op = Op.call { callee := Callee.builtin Builtin.append, args := #[s, x], argTypes := #[t, t] })
    (base : Nat) (e : TypeId) (i : TypeInfo) (size : Nat) (ht : P.underlying t = some (.slice e)) (hi : P.info? e = some i)
    (v : Value) (n : Nat) (xs : List Value) (hs : a.eval s = v) (hown : w.ownsRow base e size v n xs) (hx : a.eval x = .slice none 0 0)
    (hK : K (a.put o.dst v) w) :
    if Region.wanted o (yielded ops a.tmps) = true then Oper.wp P o a w K Q else E := by
  have hw : Region.wanted o (yielded ops a.tmps) = true := by simp [Region.wanted, hg]
  rw [if_pos hw]
  have hrun := run_append_owned_none (P := P) (w := w) base t o.type e i size ht hi v n xs hown
  unfold Oper.wp
  simp [execOp, hop, resolve, invoke, builtin, hs, hx, hrun, Result.andThen]
  exact hK

theorem own_set {w : World} {base : Nat} {e : TypeId} {sz : Nat} {v : Value} {n : Nat} {xs : List Value} (h : w.ownsRow base e sz v n xs) {b o : Nat} (u : Value) (hb : b < base) : (w.setCell ⟨b, o, none⟩ u).ownsRow base e sz v n xs := by
  obtain ⟨e1, e2⟩ := h
  refine ⟨e1, ?_⟩
  rcases e2 with e2 | ⟨g, cap, cur, rfl, q1, q2, q3⟩
  · exact Or.inl e2
  · exact Or.inr ⟨g, cap, cur, rfl, q1, by rw [blk_set_ne _ _ (by omega)]; exact q2, q3⟩

theorem own_fr {w w' : World} {base : Nat} {e : TypeId} {sz : Nat} {v : Value} {n : Nat} {xs : List Value} (h : w.ownsRow base e sz v n xs) (f : Fr (fun _ => False) w w') : w'.ownsRow base e sz v n xs := by
  obtain ⟨e1, e2⟩ := h
  refine ⟨e1, ?_⟩
  rcases e2 with e2 | ⟨g, cap, cur, rfl, q1, q2, q3⟩
  · exact Or.inl e2
  · exact Or.inr ⟨g, cap, cur, rfl, q1, (f.block g (lt_of_blk q2) (fun e => e)).trans q2, q3⟩

theorem own_base {w : World} {base base' : Nat} {e : TypeId} {sz : Nat} {v : Value} {n : Nat} {xs : List Value} (h : w.ownsRow base e sz v n xs) (hb : base' ≤ base) : w.ownsRow base' e sz v n xs := by
  obtain ⟨e1, e2⟩ := h
  refine ⟨e1, ?_⟩
  rcases e2 with e2 | ⟨g, cap, cur, rfl, q1, q3⟩
  · exact Or.inl e2
  · exact Or.inr ⟨g, cap, cur, rfl, Nat.le_trans hb q1, q3⟩

/-- A list that was laid anew: its head at block lb, its array behind. -/
theorem ref_new {w w5 : World} {B base lb : Nat} {t : Bool} {a : Option Addr} {c : Nat} {ys : Row} (F : Fr (fun _ => False) w w5) (hlb : w5.heap[lb]? = some (.cells #[.int .i64 3, .bool t, .slice none 0 0] 156 (0, 0))) (hw : w.heap.size ≤ lb) (hbase : lb < base) (hB : B ≤ base)
    (hown : w5.ownsRow base 163 7 (.slice a ys.length c) ys.length (rcells ys)) :
    RefM (w5.setCell ⟨lb, 2, none⟩ (.slice a ys.length c)) B lb t (fun x => x = lb ∨ (Value.slice a ys.length c).ownBlock = some x) ys ∧ (∀ x, (x = lb ∨ (Value.slice a ys.length c).ownBlock = some x) → lb ≤ x) ∧ Fr (fun _ => False) w (w5.setCell ⟨lb, 2, none⟩ (.slice a ys.length c)) := by
  have hlt := hown.lt
  refine ⟨⟨_, (blk_set hlb 2 _).trans rfl, own_base (own_set hown _ hbase) hB, fun e => by have := hlt lb e; omega, fun x => Iff.rfl⟩, fun x hx => ?_, Fr.setCell F (by exact fun e => absurd e (by show ¬ lb < w.heap.size; omega)) _⟩
  rcases hx with rfl | e
  · exact Nat.le_refl _
  · have := (hlt x e).1; omega

set_option maxRecDepth 100000 in
set_option maxHeartbeats 6400000 in
theorem rsplit_some (B b : Nat) (t : Bool) (xs : Row) (k : Int) (w : World) (hl : xs.length ≤ 400) (hB : B ≤ w.heap.size) (g cap : Nat) (hb : w.heap[b]? = some (refBlk t (some ⟨g, 0, none⟩) xs.length cap)) (hr : RowAt w (some ⟨g, 0, none⟩) xs) (hcap : xs.length ≤ cap) (hcells : ∀ j u, (rcells xs)[j]? = some u → w.cell? ⟨g, j, none⟩ = some u) :
    Calls Tryz.prog 132 #[.pointer (some ⟨b, 0, none⟩), rkey k] w fun e w' => ∃ lb hb : Nat, e = .returned (.tuple #[.pointer (some ⟨lb, 0, none⟩), .pointer (some ⟨hb, 0, none⟩)]) ∧ ∃ ol oh : Nat → Prop, RefM w' B lb t ol (xs.take (lrank t k xs)) ∧ RefM w' B hb t oh (xs.drop (lrank t k xs)) ∧
      (∀ x, ol x → w.heap.size ≤ x) ∧ (∀ x, oh x → w.heap.size ≤ x) ∧ (∀ x, ol x → ¬ oh x) ∧ Fr (fun _ => False) w w' := by
  have hF : Fr (fun _ => False) w (w.alloc (.cells #[.int .i64 0, s0, fx k, fy k] 66)) := Fr.alloc (Fr.refl _ _) _
  have hb1 := (hF.block b (lt_of_blk hb) (fun e => e)).trans hb
  have hrk := rrank_any b t _ cap xs k _ hb1 (hr.fr hF fun _ _ _ e => e) (by omega)
  have hrl := lrank_le t k xs
  obtain ⟨i0, hi, hz0, hz1, hz2⟩ := info_parts info_item
  generalize lrank t k xs = r at *
  have hrn : (r : Int) ≤ (xs.length : Int) := by omega
  have hrc : (r : Int) ≤ (cap : Int) := by omega
  have hnc : (xs.length : Int) ≤ (cap : Int) := by omega
  have T1 : (rcells (xs.take r)).length = r * 7 := by rw [rcells_len, List.length_take, Nat.min_eq_left (by omega)]
  have T3 : (rcells (xs.drop r)).length = (xs.length - r) * 7 := by rw [rcells_len, List.length_drop]
  go_enter Tryz.func132, Tryz.ntmps132
  go_wp2_with fail
  refine hrk.mono ?_
  rintro e ws ⟨rfl, F⟩
  have F' := hF.trans F fun _ _ e => e
  have hb2 := (F'.block b (lt_of_blk hb) (fun e => e)).trans hb
  have c0 : ws.cell? ⟨b, 0, none⟩ = some (.int .i64 3) := cell_of hb2 0
  have c1 : ws.cell? ⟨b, 1, none⟩ = some (.bool t) := cell_of hb2 1
  have FL : Fr (fun _ => False) ws (ws.alloc (.cells #[.int .i64 3, .bool t, .slice none 0 0] 156)) := Fr.alloc (Fr.refl _ _) _
  have hb3 := (FL.block b (lt_of_blk hb2) (fun e => e)).trans hb2
  have c2 : (ws.alloc (.cells #[.int .i64 3, .bool t, .slice none 0 0] 156)).cell? ⟨b, 2, none⟩ = some (.slice (some ⟨g, 0, none⟩) xs.length cap) := cell_of hb3 2
  have hlb := blk_new ws (.cells #[.int .i64 3, .bool t, .slice none 0 0] 156)
  have l2 : (ws.alloc (.cells #[.int .i64 3, .bool t, .slice none 0 0] 156)).cell? ⟨ws.heap.size, 2, none⟩ = some (.slice none 0 0) := cell_of hlb 2
  have HC : Hid (∀ j u, (rcells xs)[j]? = some u → (ws.alloc (.cells #[.int .i64 3, .bool t, .slice none 0 0] 156)).cell? ⟨g, j, none⟩ = some u) := fun j u hu => FL.get (F'.get (hcells j u hu))
  have s1 := @rcells_one_cell (xs.take r)
  have S1 : Hid (∀ u ∈ rcells (xs.take r), u.oneCell' = true) := s1
  have S0 : Hid (∀ j u, (rcells (xs.take r))[j]? = some u → (ws.alloc (.cells #[.int .i64 3, .bool t, .slice none 0 0] 156)).drew.cell? ((⟨g, 0, none⟩ : Addr).add j) = some u) := src_take HC.out
  have HCW : Hid (∀ j u, (rcells xs)[j]? = some u → w.cell? ⟨g, j, none⟩ = some u) := hcells
  have F'' := F'.trans FL fun _ _ e => e
  have hbl := lt_of_blk hb
  have hsw := F'.size
  clear hrk F hcells hr s1
  go_wp2_with fail
  go_region_law (refine step_append_own rfl (.tmp 22) (.tmp 28) 154 rfl (ws.heap.size + 1) 163 i0 (.agg #[.int .i64 0, s0, f0, f0, .int .i64 0, f0, f0]) 7 64 Tryz.underlying154 hi hz0 hz1 hz2 rfl (by decide) (.slice none 0 0) 0 [] (by simp [Act.eval, Act.put]) (World.ownsRow_nil _ _ _ _) ⟨g, 0, none⟩ r cap (rcells (xs.take r)) (by simp [Act.eval, Act.put]) T1 S0.out S1.out (by unfold maxLen; omega) (by omega) (by simp) ?_; intro a5 c5 w5 own5 grow5; have z2 := frozen_of ((grow5.block ws.heap.size (by simp) (by simp [Value.ownBlock])).trans hlb) 2; have y2 := cell_of ((grow5.block ws.heap.size (by simp) (by simp [Value.ownBlock])).trans hlb) 2)
  all_goals
    have G5 : Fr (fun _ => False) (ws.alloc (.cells #[.int .i64 3, .bool t, .slice none 0 0] 156)) w5 := grown_fr (Fr.drew (Fr.refl _ _)) grow5 (fun k e => by cases e)
    have hlt5 : (xs.take r).length = r := by rw [List.length_take, Nat.min_eq_left hrl]
    have own5' : w5.ownsRow (ws.heap.size + 1) 163 7 (.slice a5 (xs.take r).length c5) (xs.take r).length (rcells (xs.take r)) := by rw [hlt5]; simpa using own5
    have N1 := ref_new (B := B) (F''.trans G5 fun _ _ e => e) ((grow5.block ws.heap.size (by simp) (by simp [Value.ownBlock])).trans hlb) hsw (by omega) (by omega) own5'
    rw [hlt5] at N1
    have hb6 : (w5.setCell ⟨ws.heap.size, 2, none⟩ (.slice a5 r c5)).heap[b]? = some (refBlk t (some ⟨g, 0, none⟩) xs.length cap) := by rw [blk_set_ne _ _ (by omega)]; exact (G5.block b (lt_of_blk hb3) (fun e => e)).trans hb3
    have ml : ∀ x, (x = ws.heap.size ∨ (Value.slice a5 r c5).ownBlock = some x) → x < (w5.setCell ⟨ws.heap.size, 2, none⟩ (.slice a5 r c5)).heap.size := N1.1.lt
    generalize w5.setCell ⟨ws.heap.size, 2, none⟩ (.slice a5 r c5) = w6 at *
    obtain ⟨M1, O1, F6⟩ := N1
    clear own5 own5' grow5 G5 y2 z2 hb3 c2 l2 hlb FL c0 c1 S0 S1 HC hb2 T1 hb1 hF
    by_cases hrcap : r = cap
    · have hrcap' : cap = r := hrcap.symm
      have hdr : xs.drop r = [] := List.drop_eq_nil_of_le (by omega)
      have FH : Fr (fun _ => False) w6 (w6.alloc (.cells #[.int .i64 3, .bool t, .slice none 0 0] 156)) := Fr.alloc (Fr.refl _ _) _
      have hb7 := (FH.block b (lt_of_blk hb6) (fun e => e)).trans hb6
      have c0 : w6.cell? ⟨b, 0, none⟩ = some (.int .i64 3) := cell_of hb6 0
      have c1 : w6.cell? ⟨b, 1, none⟩ = some (.bool t) := cell_of hb6 1
      have c2 : (w6.alloc (.cells #[.int .i64 3, .bool t, .slice none 0 0] 156)).cell? ⟨b, 2, none⟩ = some (.slice (some ⟨g, 0, none⟩) xs.length cap) := cell_of hb7 2
      have hhb := blk_new w6 (.cells #[.int .i64 3, .bool t, .slice none 0 0] 156)
      have l2 : (w6.alloc (.cells #[.int .i64 3, .bool t, .slice none 0 0] 156)).cell? ⟨w6.heap.size, 2, none⟩ = some (.slice none 0 0) := cell_of hhb 2
      have S2 : Hid (∀ u ∈ rcells (xs.drop r), u.oneCell' = true) := rcells_one_cell _
      have F7 := F6.trans FH fun _ _ e => e
      have S3 : Hid (∀ j u, (rcells (xs.drop r))[j]? = some u → (w6.alloc (.cells #[.int .i64 3, .bool t, .slice none 0 0] 156)).drew.cell? ((⟨g, 0, none⟩ : Addr).add j) = some u) := fun j u hu => by rw [hdr] at hu; simp [rcells] at hu
      clear hdr hrcap
      go_wp2_with fail
      go_region_law (refine step_append_own rfl (.tmp 42) (.tmp 48) 154 rfl (w6.heap.size + 1) 163 i0 (.agg #[.int .i64 0, s0, f0, f0, .int .i64 0, f0, f0]) 7 64 Tryz.underlying154 hi hz0 hz1 hz2 rfl (by decide) (.slice none 0 0) 0 [] (by simp [Act.eval, Act.put]) (World.ownsRow_nil _ _ _ _) ⟨g, 0, none⟩ (xs.length - r) 0 (rcells (xs.drop r)) (by simp [Act.eval, Act.put]) T3 S3.out S2.out (by unfold maxLen; omega) (by omega) (by simp) ?_; intro a8 c8 w8 own8 grow8; have z2 := frozen_of ((grow8.block w6.heap.size (by simp) (by simp [Value.ownBlock])).trans hhb) 2; have y2 := cell_of ((grow8.block w6.heap.size (by simp) (by simp [Value.ownBlock])).trans hhb) 2)
      all_goals
        have G8 : Fr (fun _ => False) (w6.alloc (.cells #[.int .i64 3, .bool t, .slice none 0 0] 156)) w8 := grown_fr (Fr.drew (Fr.refl _ _)) grow8 (fun k e => by cases e)
        have hld : (xs.drop r).length = xs.length - r := List.length_drop
        have own8' : w8.ownsRow (w6.heap.size + 1) 163 7 (.slice a8 (xs.drop r).length c8) (xs.drop r).length (rcells (xs.drop r)) := by rw [hld]; simpa using own8
        have N2 := ref_new (B := B) (FH.trans G8 fun _ _ e => e) ((grow8.block w6.heap.size (by simp) (by simp [Value.ownBlock])).trans hhb) (Nat.le_refl _) (by omega) (by have := F6.size; omega) own8'
        rw [hld] at N2
        generalize w8.setCell ⟨w6.heap.size, 2, none⟩ (.slice a8 (xs.length - r) c8) = w9 at *
        obtain ⟨M2, O2, F9⟩ := N2
        have HZ : Hid (∃ ol oh : Nat → Prop, RefM w9 B ws.heap.size t ol (xs.take r) ∧ RefM w9 B w6.heap.size t oh (xs.drop r) ∧ (∀ x, ol x → w.heap.size ≤ x) ∧ (∀ x, oh x → w.heap.size ≤ x) ∧ (∀ x, ol x → ¬ oh x) ∧ Fr (fun _ => False) w w9) :=
          ⟨_, _, M1.fr F9 fun _ _ e => e, M2, fun x hx => by have := O1 x hx; omega, fun x hx => by have := O2 x hx; have := F6.size; omega, fun x hx hy => by have := ml x hx; have := O2 x hy; omega, F6.trans F9 fun _ _ e => e⟩
        clear M1 M2 O1 O2 F9 G8 own8 own8' grow8 FH F7 F6 hhb l2 c0 c1 c2 hb6 hb7 S2 S3 ml y2 z2
        go_wp2_with fail
        go_ret2
        exact ⟨_, _, rfl, HZ.out⟩
    · have hrcap1 : r < cap := by omega
      have hrcap2 : (r : Int) < (cap : Int) := by omega
      have hrcap3 : ¬ cap = r := by omega
      have FH : Fr (fun _ => False) w6 (w6.alloc (.cells #[.int .i64 3, .bool t, .slice none 0 0] 156)) := Fr.alloc (Fr.refl _ _) _
      have hb7 := (FH.block b (lt_of_blk hb6) (fun e => e)).trans hb6
      have c0 : w6.cell? ⟨b, 0, none⟩ = some (.int .i64 3) := cell_of hb6 0
      have c1 : w6.cell? ⟨b, 1, none⟩ = some (.bool t) := cell_of hb6 1
      have c2 : (w6.alloc (.cells #[.int .i64 3, .bool t, .slice none 0 0] 156)).cell? ⟨b, 2, none⟩ = some (.slice (some ⟨g, 0, none⟩) xs.length cap) := cell_of hb7 2
      have hhb := blk_new w6 (.cells #[.int .i64 3, .bool t, .slice none 0 0] 156)
      have l2 : (w6.alloc (.cells #[.int .i64 3, .bool t, .slice none 0 0] 156)).cell? ⟨w6.heap.size, 2, none⟩ = some (.slice none 0 0) := cell_of hhb 2
      have S2 : Hid (∀ u ∈ rcells (xs.drop r), u.oneCell' = true) := rcells_one_cell _
      have F7 := F6.trans FH fun _ _ e => e
      have S3 : Hid (∀ j u, (rcells (xs.drop r))[j]? = some u → (w6.alloc (.cells #[.int .i64 3, .bool t, .slice none 0 0] 156)).drew.cell? ((⟨g, r * 7, none⟩ : Addr).add j) = some u) := src_drop hrl fun j u hu => F7.get (HCW.out j u hu)
      go_wp2_with fail
      go_region_law (refine step_append_own rfl (.tmp 42) (.tmp 48) 154 rfl (w6.heap.size + 1) 163 i0 (.agg #[.int .i64 0, s0, f0, f0, .int .i64 0, f0, f0]) 7 64 Tryz.underlying154 hi hz0 hz1 hz2 rfl (by decide) (.slice none 0 0) 0 [] (by simp [Act.eval, Act.put]) (World.ownsRow_nil _ _ _ _) ⟨g, r * 7, none⟩ (xs.length - r) (cap - r) (rcells (xs.drop r)) (by simp [Act.eval, Act.put]) T3 S3.out S2.out (by unfold maxLen; omega) (by omega) (by simp) ?_; intro a8 c8 w8 own8 grow8; have z2 := frozen_of ((grow8.block w6.heap.size (by simp) (by simp [Value.ownBlock])).trans hhb) 2; have y2 := cell_of ((grow8.block w6.heap.size (by simp) (by simp [Value.ownBlock])).trans hhb) 2)
      all_goals
        have G8 : Fr (fun _ => False) (w6.alloc (.cells #[.int .i64 3, .bool t, .slice none 0 0] 156)) w8 := grown_fr (Fr.drew (Fr.refl _ _)) grow8 (fun k e => by cases e)
        have hld : (xs.drop r).length = xs.length - r := List.length_drop
        have own8' : w8.ownsRow (w6.heap.size + 1) 163 7 (.slice a8 (xs.drop r).length c8) (xs.drop r).length (rcells (xs.drop r)) := by rw [hld]; simpa using own8
        have N2 := ref_new (B := B) (FH.trans G8 fun _ _ e => e) ((grow8.block w6.heap.size (by simp) (by simp [Value.ownBlock])).trans hhb) (Nat.le_refl _) (by omega) (by have := F6.size; omega) own8'
        rw [hld] at N2
        generalize w8.setCell ⟨w6.heap.size, 2, none⟩ (.slice a8 (xs.length - r) c8) = w9 at *
        obtain ⟨M2, O2, F9⟩ := N2
        have HZ : Hid (∃ ol oh : Nat → Prop, RefM w9 B ws.heap.size t ol (xs.take r) ∧ RefM w9 B w6.heap.size t oh (xs.drop r) ∧ (∀ x, ol x → w.heap.size ≤ x) ∧ (∀ x, oh x → w.heap.size ≤ x) ∧ (∀ x, ol x → ¬ oh x) ∧ Fr (fun _ => False) w w9) :=
          ⟨_, _, M1.fr F9 fun _ _ e => e, M2, fun x hx => by have := O1 x hx; omega, fun x hx => by have := O2 x hx; have := F6.size; omega, fun x hx hy => by have := ml x hx; have := O2 x hy; omega, F6.trans F9 fun _ _ e => e⟩
        clear M1 M2 O1 O2 F9 G8 own8 own8' grow8 FH F7 F6 hhb l2 c0 c1 c2 hb6 hb7 S2 S3 ml y2 z2
        go_wp2_with fail
        go_ret2
        exact ⟨_, _, rfl, HZ.out⟩

theorem ref_empty {w5 : World} {B lb : Nat} {t : Bool} (hlb : w5.heap[lb]? = some (.cells #[.int .i64 3, .bool t, .slice none 0 0] 156 (0, 0))) : RefM w5 B lb t (fun x => x = lb) [] :=
  ⟨.slice none 0 0, hlb, ⟨by simp [rcells], Or.inl ⟨rfl, rfl⟩⟩, by simp [Value.ownBlock], fun x => by simp [Value.ownBlock]⟩

set_option maxRecDepth 100000 in
set_option maxHeartbeats 3200000 in
theorem rsplit_nil (B b : Nat) (t : Bool) (k : Int) (w : World) (hb : w.heap[b]? = some (refBlk t none 0 0)) :
    Calls Tryz.prog 132 #[.pointer (some ⟨b, 0, none⟩), rkey k] w fun e w' => ∃ lb hb : Nat, e = .returned (.tuple #[.pointer (some ⟨lb, 0, none⟩), .pointer (some ⟨hb, 0, none⟩)]) ∧ ∃ ol oh : Nat → Prop, RefM w' B lb t ol [] ∧ RefM w' B hb t oh [] ∧
      (∀ x, ol x → w.heap.size ≤ x) ∧ (∀ x, oh x → w.heap.size ≤ x) ∧ (∀ x, ol x → ¬ oh x) ∧ Fr (fun _ => False) w w' := by
  have hF : Fr (fun _ => False) w (w.alloc (.cells #[.int .i64 0, s0, fx k, fy k] 66)) := Fr.alloc (Fr.refl _ _) _
  have hb1 := (hF.block b (lt_of_blk hb) (fun e => e)).trans hb
  have hrk := rrank_any b t none 0 [] k _ hb1 (Or.inl rfl) (by simp)
  have hr0 : lrank t k [] = 0 := rfl
  rw [hr0] at hrk
  obtain ⟨i0, hi, hz0, hz1, hz2⟩ := info_parts info_item
  clear hr0 hz0 hz1 hz2
  go_enter Tryz.func132, Tryz.ntmps132
  go_wp2_with fail
  refine hrk.mono ?_
  rintro e ws ⟨rfl, F⟩
  have F' := hF.trans F fun _ _ e => e
  have hb2 := (F'.block b (lt_of_blk hb) (fun e => e)).trans hb
  have hbl := lt_of_blk hb2
  have hne : b ≠ ws.heap.size := by omega
  have c0 : ws.cell? ⟨b, 0, none⟩ = some (.int .i64 3) := cell_of hb2 0
  have c1 : ws.cell? ⟨b, 1, none⟩ = some (.bool t) := cell_of hb2 1
  have c2 : ws.cell? ⟨b, 2, none⟩ = some (.slice none 0 0) := cell_of hb2 2
  have FL : Fr (fun _ => False) ws (ws.alloc (.cells #[.int .i64 3, .bool t, .slice none 0 0] 156)) := Fr.alloc (Fr.refl _ _) _
  have hlb := blk_new ws (.cells #[.int .i64 3, .bool t, .slice none 0 0] 156)
  have d2 : (ws.alloc (.cells #[.int .i64 3, .bool t, .slice none 0 0] 156)).cell? ⟨b, 2, none⟩ = some (.slice none 0 0) := FL.get c2
  have l2 : (ws.alloc (.cells #[.int .i64 3, .bool t, .slice none 0 0] 156)).cell? ⟨ws.heap.size, 2, none⟩ = some (.slice none 0 0) := cell_of hlb 2
  have z2 : (ws.alloc (.cells #[.int .i64 3, .bool t, .slice none 0 0] 156)).frozen? ⟨ws.heap.size, 2, none⟩ = false := frozen_of hlb 2
  clear hrk F
  go_wp2_with fail
  go_region_law (refine step_append_none rfl (.tmp 22) (.tmp 28) 154 rfl 0 163 i0 7 Tryz.underlying154 hi (.slice none 0 0) 0 [] (by simp [Act.eval, Act.put]) (World.ownsRow_nil _ 0 _ 7) (by simp [Act.eval, Act.put]) ?_)
  all_goals
    have F6 : Fr (fun _ => False) w (ws.alloc (.cells #[.int .i64 3, .bool t, .slice none 0 0] 156)).drew := Fr.drew (F'.trans FL fun _ _ e => e)
    have hb6 : (ws.alloc (.cells #[.int .i64 3, .bool t, .slice none 0 0] 156)).drew.heap[b]? = some (refBlk t none 0 0) := (FL.block b hbl (fun e => e)).trans hb2
    have hl6 : (ws.alloc (.cells #[.int .i64 3, .bool t, .slice none 0 0] 156)).drew.heap[ws.heap.size]? = some (.cells #[.int .i64 3, .bool t, .slice none 0 0] 156 (0, 0)) := hlb
    have hs6 : ws.heap.size < (ws.alloc (.cells #[.int .i64 3, .bool t, .slice none 0 0] 156)).drew.heap.size := lt_of_blk hl6
    generalize (ws.alloc (.cells #[.int .i64 3, .bool t, .slice none 0 0] 156)).drew = w6 at *
    clear d2 l2 z2 c0 c1 c2 hlb FL hb2 hb1 hF hb
    have hbl6 := lt_of_blk hb6
    have hne6 : b ≠ w6.heap.size := by omega
    have c0 : w6.cell? ⟨b, 0, none⟩ = some (.int .i64 3) := cell_of hb6 0
    have c1 : w6.cell? ⟨b, 1, none⟩ = some (.bool t) := cell_of hb6 1
    have FH : Fr (fun _ => False) w6 (w6.alloc (.cells #[.int .i64 3, .bool t, .slice none 0 0] 156)) := Fr.alloc (Fr.refl _ _) _
    have hhb := blk_new w6 (.cells #[.int .i64 3, .bool t, .slice none 0 0] 156)
    have d2 : (w6.alloc (.cells #[.int .i64 3, .bool t, .slice none 0 0] 156)).cell? ⟨b, 2, none⟩ = some (.slice none 0 0) := FH.get (cell_of hb6 2)
    have l2 : (w6.alloc (.cells #[.int .i64 3, .bool t, .slice none 0 0] 156)).cell? ⟨w6.heap.size, 2, none⟩ = some (.slice none 0 0) := cell_of hhb 2
    have z2 : (w6.alloc (.cells #[.int .i64 3, .bool t, .slice none 0 0] 156)).frozen? ⟨w6.heap.size, 2, none⟩ = false := frozen_of hhb 2
    go_wp2_with fail
    go_region_law (refine step_append_none rfl (.tmp 42) (.tmp 48) 154 rfl 0 163 i0 7 Tryz.underlying154 hi (.slice none 0 0) 0 [] (by simp [Act.eval, Act.put]) (World.ownsRow_nil _ 0 _ 7) (by simp [Act.eval, Act.put]) ?_)
    all_goals
      have F9 : Fr (fun _ => False) w6 (w6.alloc (.cells #[.int .i64 3, .bool t, .slice none 0 0] 156)).drew := Fr.drew FH
      have HZ : Hid (∃ ol oh : Nat → Prop, RefM (w6.alloc (.cells #[.int .i64 3, .bool t, .slice none 0 0] 156)).drew B ws.heap.size t ol [] ∧ RefM (w6.alloc (.cells #[.int .i64 3, .bool t, .slice none 0 0] 156)).drew B w6.heap.size t oh [] ∧ (∀ x, ol x → w.heap.size ≤ x) ∧ (∀ x, oh x → w.heap.size ≤ x) ∧ (∀ x, ol x → ¬ oh x) ∧ Fr (fun _ => False) w (w6.alloc (.cells #[.int .i64 3, .bool t, .slice none 0 0] 156)).drew) :=
        ⟨_, _, (ref_empty hl6).fr F9 fun _ _ e => e, ref_empty hhb, fun x hx => by have := F'.size; omega, fun x hx => by have := F6.size; omega, fun x hx hy => by omega, F6.trans F9 fun _ _ e => e⟩
      generalize (w6.alloc (.cells #[.int .i64 3, .bool t, .slice none 0 0] 156)).drew = w9 at *
      clear F9 FH hhb d2 l2 z2 c0 c1 hb6 hl6 F6
      go_wp2_with fail
      go_ret2
      exact ⟨_, _, rfl, HZ.out⟩

theorem rsplit_any (B b : Nat) (t : Bool) (own : Nat → Prop) (xs : Row) (k : Int) (w : World) (h : RefM w B b t own xs) (hl : xs.length ≤ 400) (hB : B ≤ w.heap.size) :
    Calls Tryz.prog 132 #[.pointer (some ⟨b, 0, none⟩), rkey k] w fun e w' => ∃ lb hb : Nat, e = .returned (.tuple #[.pointer (some ⟨lb, 0, none⟩), .pointer (some ⟨hb, 0, none⟩)]) ∧ ∃ ol oh : Nat → Prop, RefM w' B lb t ol (xs.take (lrank t k xs)) ∧ RefM w' B hb t oh (xs.drop (lrank t k xs)) ∧
      (∀ x, ol x → w.heap.size ≤ x) ∧ (∀ x, oh x → w.heap.size ≤ x) ∧ (∀ x, ol x → ¬ oh x) ∧ Fr (fun _ => False) w w' := by
  obtain ⟨a, cap, hb, hr, hcase⟩ := h.reads
  rcases hcase with ⟨rfl, rfl, rfl⟩ | ⟨g, rfl, _, _, hcap, hcells⟩
  · exact rsplit_nil B b t k w hb
  · exact rsplit_some B b t xs k w hl hB g cap hb hr hcap hcells

end Go.Proofs.YthbnbocpddddmaaGreat
