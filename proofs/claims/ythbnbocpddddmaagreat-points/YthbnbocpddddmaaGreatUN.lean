import Derived.Test.YthbnbocpddddmaaGreatUB
import Derived.Test.YthbnbocpddddmaaGreatUG
import Derived.Test.YthbnbocpddddmaaGreatUH
import Derived.Test.YthbnbocpddddmaaGreatUI
import Derived.Test.YthbnbocpddddmaaGreatUJ
import Derived.Test.YthbnbocpddddmaaGreatUK
import Derived.Test.YthbnbocpddddmaaGreatUL
import Derived.Test.YthbnbocpddddmaaGreatUM
import Derived.Test.YthbnbocpddddmaaGreatQU
import Derived.Test.YthbnbocpddddmaaGreatQO
import Derived.Test.YthbnbocpddddmaaGreatQR
namespace Go.Proofs.YthbnbocpddddmaaGreat
open Go.RowKit

theorem maps_split (w : World) (B S : Nat) (lab : Nat → Nat) (V : Nat → Value) (ms : List MR) (cs : List CR) (bd : Int) (h : Sh w B S lab V ms cs bd) (i jj : Nat) (r q : MR) (hr : ms[i]? = some r) (hq : ms[jj]? = some q) (hcs : cs.length ≤ 10000000000000) (hbd : bd ≤ 7000000000000000000)
    (mp ot en n a b : Int) (s t : ByteArray) (x y z : Nat) (hX0 : x < 18446744073709551616) (hY0 : y < 18446744073709551616) :
    Calls Tryz.prog 111 #[.pointer (some ⟨S, 0, none⟩), opV 14 mp ot en n a b s t x y z, .int .i64 i, .int .i64 jj] w (Res w B S lab cs.length r bd fun _ => True) := by
  rcases (show ms.length < 7 ∨ ms.length = 7 ∨ 8 ≤ ms.length by omega) with c | c | c
  · exact step_splitA w B S lab V ms cs bd h i jj r q hr hq hcs hbd c mp ot en n a b s t x y z hX0 hY0
  · exact step_splitB w B S lab V ms cs bd h i jj r q hr hq hcs hbd (by omega) (by omega) mp ot en n a b s t x y z hX0 hY0
  · exact step_splitC w B S lab V ms cs bd h i jj r q hr hq hcs hbd c mp ot en n a b s t x y z hX0 hY0

theorem maps_com (w : World) (B S : Nat) (lab : Nat → Nat) (V : Nat → Value) (ms : List MR) (cs : List CR) (bd : Int) (h : Sh w B S lab V ms cs bd) (i jj : Nat) (r q : MR) (hr : ms[i]? = some r) (hq : ms[jj]? = some q) (hcs : cs.length ≤ 10000000000000) (hbd : bd ≤ 7000000000000000000)
    (mp ot en n a b : Int) (s t : ByteArray) (x y z : Nat) :
    Calls Tryz.prog 111 #[.pointer (some ⟨S, 0, none⟩), opV 15 mp ot en n a b s t x y z, .int .i64 i, .int .i64 jj] w (Res w B S lab cs.length r bd fun _ => True) := by
  by_cases ht : r.t = q.t
  · rcases Nat.lt_or_ge ms.length 8 with c | c
    · exact step_comA w B S lab V ms cs bd h i jj r q hr hq hcs hbd ht c mp ot en n a b s t x y z
    · exact step_comB w B S lab V ms cs bd h i jj r q hr hq hcs hbd ht c mp ot en n a b s t x y z
  · exact step_comC w B S lab V ms cs bd h i jj r q hr hq hcs hbd ht mp ot en n a b s t x y z

theorem maps_wit (w : World) (B S : Nat) (lab : Nat → Nat) (V : Nat → Value) (ms : List MR) (cs : List CR) (bd : Int) (h : Sh w B S lab V ms cs bd) (i jj : Nat) (r q : MR) (hr : ms[i]? = some r) (hq : ms[jj]? = some q) (hcs : cs.length ≤ 10000000000000) (hbd : bd ≤ 7000000000000000000)
    (mp ot en n a b : Int) (s t : ByteArray) (x y z : Nat) :
    Calls Tryz.prog 111 #[.pointer (some ⟨S, 0, none⟩), opV 16 mp ot en n a b s t x y z, .int .i64 i, .int .i64 jj] w (Res w B S lab cs.length r bd fun _ => True) := by
  by_cases ht : r.t = q.t
  · rcases Nat.lt_or_ge ms.length 8 with c | c
    · exact step_witA w B S lab V ms cs bd h i jj r q hr hq hcs hbd ht c mp ot en n a b s t x y z
    · exact step_witB w B S lab V ms cs bd h i jj r q hr hq hcs hbd ht c mp ot en n a b s t x y z
  · exact step_witC w B S lab V ms cs bd h i jj r q hr hq hcs hbd ht mp ot en n a b s t x y z

set_option maxRecDepth 100000 in
set_option maxHeartbeats 4000000 in
theorem does_split (w : World) (B S : Nat) (lab : Nat → Nat) (V : Nat → Value) (ms : List MR) (cs : List CR) (bd : Int) (h : Sh w B S lab V ms cs bd) (i jj : Nat) (r q : MR) (hr : ms[i]? = some r) (hq : ms[jj]? = some q) (hcs : cs.length ≤ 10000000000000) (hbd : bd ≤ 7000000000000000000)
    (mp ot en n a b : Int) (s t : ByteArray) (x y z : Nat) (hX0 : x < 18446744073709551616) (hY0 : y < 18446744073709551616) :
    Calls Tryz.prog 79 #[.pointer (some ⟨S, 0, none⟩), opV 14 mp ot en n a b s t x y z, .int .i64 i, .int .i64 jj] w (Res w B S lab cs.length r bd fun _ => True) := by
  have A0 : Fr (fun _ => False) w (w.alloc (opBlk 14 mp ot en n a b s t x y z)) := Fr.alloc (Fr.refl _ _) _
  have hc := maps_split (w.alloc (opBlk 14 mp ot en n a b s t x y z)) B S lab V ms cs bd (h.old A0) i jj r q hr hq hcs hbd mp ot en n a b s t x y z hX0 hY0
  clear h hr hq
  go_enter Tryz.func79, Tryz.ntmps79
  go_wp2_with fail
  refine hc.mono ?_
  rintro e w1 hR
  obtain ⟨rfl, h2, h3, h4⟩ := hR.from A0
  go_wp2_with fail
  go_ret
  exact ⟨rfl, h2, h3, h4⟩

set_option maxRecDepth 100000 in
set_option maxHeartbeats 4000000 in
theorem does_com (w : World) (B S : Nat) (lab : Nat → Nat) (V : Nat → Value) (ms : List MR) (cs : List CR) (bd : Int) (h : Sh w B S lab V ms cs bd) (i jj : Nat) (r q : MR) (hr : ms[i]? = some r) (hq : ms[jj]? = some q) (hcs : cs.length ≤ 10000000000000) (hbd : bd ≤ 7000000000000000000)
    (mp ot en n a b : Int) (s t : ByteArray) (x y z : Nat) :
    Calls Tryz.prog 79 #[.pointer (some ⟨S, 0, none⟩), opV 15 mp ot en n a b s t x y z, .int .i64 i, .int .i64 jj] w (Res w B S lab cs.length r bd fun _ => True) := by
  have A0 : Fr (fun _ => False) w (w.alloc (opBlk 15 mp ot en n a b s t x y z)) := Fr.alloc (Fr.refl _ _) _
  have hc := maps_com (w.alloc (opBlk 15 mp ot en n a b s t x y z)) B S lab V ms cs bd (h.old A0) i jj r q hr hq hcs hbd mp ot en n a b s t x y z
  clear h hr hq
  go_enter Tryz.func79, Tryz.ntmps79
  go_wp2_with fail
  refine hc.mono ?_
  rintro e w1 hR
  obtain ⟨rfl, h2, h3, h4⟩ := hR.from A0
  go_wp2_with fail
  go_ret
  exact ⟨rfl, h2, h3, h4⟩

set_option maxRecDepth 100000 in
set_option maxHeartbeats 4000000 in
theorem does_wit (w : World) (B S : Nat) (lab : Nat → Nat) (V : Nat → Value) (ms : List MR) (cs : List CR) (bd : Int) (h : Sh w B S lab V ms cs bd) (i jj : Nat) (r q : MR) (hr : ms[i]? = some r) (hq : ms[jj]? = some q) (hcs : cs.length ≤ 10000000000000) (hbd : bd ≤ 7000000000000000000)
    (mp ot en n a b : Int) (s t : ByteArray) (x y z : Nat) :
    Calls Tryz.prog 79 #[.pointer (some ⟨S, 0, none⟩), opV 16 mp ot en n a b s t x y z, .int .i64 i, .int .i64 jj] w (Res w B S lab cs.length r bd fun _ => True) := by
  have A0 : Fr (fun _ => False) w (w.alloc (opBlk 16 mp ot en n a b s t x y z)) := Fr.alloc (Fr.refl _ _) _
  have hc := maps_wit (w.alloc (opBlk 16 mp ot en n a b s t x y z)) B S lab V ms cs bd (h.old A0) i jj r q hr hq hcs hbd mp ot en n a b s t x y z
  clear h hr hq
  go_enter Tryz.func79, Tryz.ntmps79
  go_wp2_with fail
  refine hc.mono ?_
  rintro e w1 hR
  obtain ⟨rfl, h2, h3, h4⟩ := hR.from A0
  go_wp2_with fail
  go_ret
  exact ⟨rfl, h2, h3, h4⟩

end Go.Proofs.YthbnbocpddddmaaGreat

namespace Go.Proofs.YthbnbocpddddmaaGreat
open Go.RowKit

set_option maxRecDepth 100000 in
set_option maxHeartbeats 8000000 in
theorem step_rank (w : World) (B S : Nat) (lab : Nat → Nat) (V : Nat → Value) (ms : List MR) (cs : List CR) (bd : Int) (h : Sh w B S lab V ms cs bd) (i : Nat) (r : MR) (hr : ms[i]? = some r) (hbd : bd ≤ 7000000000000000000)
    (mp ot en n a b : Int) (s t : ByteArray) (x y z : Nat) (jj : Int) (hx0 : x < 18446744073709551616) (hy0 : y < 18446744073709551616) :
    Calls Tryz.prog 79 #[.pointer (some ⟨S, 0, none⟩), opV 5 mp ot en n a b s t x y z, .int .i64 i, .int .i64 jj] w (Res w B S lab cs.length r bd fun m => (0 < r.xs.length → 1 ≤ m) ∧ (r.g = false → m ≤ 3 * dg (r.xs.length + 1))) := by
  have A0 : Fr (fun _ => False) w (w.alloc (opBlk 5 mp ot en n a b s t x y z)) := Fr.alloc (Fr.refl _ _) _
  have hb := h.old A0
  have hob := blk_new w (opBlk 5 mp ot en n a b s t x y z)
  obtain ⟨g1, g2, g3, g4, g5, g6, g7⟩ := hb.m i r hr
  obtain ⟨q0, cap0, q1, cap1, R⟩ := hb.rd hr
  have tO : ¬ (r.oP w.heap.size ∨ r.oR w.heap.size) := fun e => by
    obtain ⟨e1, e2, _⟩ := h.m i r hr
    rcases e with e | e
    · have := e1.lt _ e; omega
    · have := e2.lt _ e; omega
  have hi := (List.getElem?_eq_some_iff.1 hr).1
  have hil : (i : Int) < (ms.length : Int) := by omega
  have dPR : ∀ y, r.oR y → ¬ r.oP y := fun y e e' => by have := (g3 y e').1; have := (g4 y e).1; omega
  generalize hwb : w.alloc (opBlk 5 mp ot en n a b s t x y z) = wb at *
  have HWB : Hid (w.alloc (opBlk 5 mp ot en n a b s t x y z) = wb) := hwb
  have D1 : Fr (fun _ => False) wb wb.drew := Fr.drew (Fr.refl _ _)
  have hput := rank_anyG r.g r.pm r.t r.c r.oP r.xs (cod x y) wb.drew (g1.fr D1 fun _ _ e => e) g6 (by omega) g5
  rw [kv_cod hx0 hy0] at hput
  have R0 := R.s0
  have R1 := R.c0
  have o9 : wb.cell? ⟨w.heap.size, 9, none⟩ = some (.float .f64 x) := cell_of hob 9
  have o10 : wb.cell? ⟨w.heap.size, 10, none⟩ = some (.float .f64 y) := cell_of hob 10
  have o0 : wb.cell? ⟨w.heap.size, 0, none⟩ = some (.int .i64 5) := cell_of hob 0
  have zO := lt_of_blk hob
  have hsr := g1.srt
  have hself := g1.self
  have hBb := hb.hB
  have hlp := g5
  have HH : Hid (Sh wb B S lab V ms cs bd ∧ ms[i]? = some r ∧ Fr (fun _ => False) w wb ∧ (∀ y, r.oP y → B ≤ y ∧ lab y ≠ 7) ∧ (∀ y, r.oR y → B ≤ y ∧ lab y ≠ 7) ∧ B ≤ w.heap.size) := ⟨hb, hr, A0, fun y e => ⟨(g3 y e).2, by have := (g3 y e).1; omega⟩, fun y e => ⟨(g4 y e).2, by have := (g4 y e).1; omega⟩, h.hB⟩
  have HC : Hid (0 ≤ r.c ∧ r.c ≤ bd) := ⟨g6, g7⟩
  clear h hb hr hwb g3 g4 g6 g7
  go_enter Tryz.func79, Tryz.ntmps79
  go_wp2_with fail
  rw [HWB.out]
  go_region_held3 (fun w' => w'.cell? ⟨S, 0, none⟩ = some (.slice (some ⟨q0, 0, none⟩) ms.length cap0) ∧ w'.cell? ⟨q0, i, none⟩ = some (.pointer (some ⟨r.pm, 0, none⟩)) ∧ w'.cell? ⟨w.heap.size, 9, none⟩ = some (.float .f64 x) ∧ w'.cell? ⟨w.heap.size, 10, none⟩ = some (.float .f64 y))
    (first | exact ⟨R0, R1, o9, o10⟩ | exact ⟨R2.s0, R2.c0, cell_of ob2 9, cell_of ob2 10⟩)
    ((go_at_call 25; refine hput.mono ?_; rintro e w3 ⟨m3, rfl, M3, b3, b4, b5, f3⟩; have F3 : Fr r.oP wb w3 := Fr.trans (S' := fun x => x = r.pm) (D1.mono fun _ _ e => e.elim) f3 (fun _ _ e => e) |>.mono fun x _ e => (by rw [e]; exact hself); have R2 := R.fr F3 fun _ e => Or.inl e; have ob2 := F3.kept hob fun e => tO (Or.inl e)))
  have RM := g2.fr F3 dPR
  have D3 : Fr (fun _ => False) w3 w3.drew := Fr.drew (Fr.refl _ _)
  have D3' : Fr r.oR w3 w3.drew := D3.mono fun _ _ e => e.elim
  obtain ⟨aR, capR, hbR, hrR, _⟩ := RM.reads
  have hrp := fun w' (f : Fr (fun _ => False) w3 w') => rrank_any r.rb r.t aR capR r.xs (cod x y) w' (f.kept hbR fun e => e) (hrR.fr f fun _ _ _ e => e) (by omega)
  rw [rkey_cod hx0 hy0] at hrp
  have HC2 : Hid (∀ w', Fr r.oR w3 w' → w'.cell? ⟨S, 1, none⟩ = some (.slice (some ⟨q1, 0, none⟩) ms.length cap1) ∧ w'.cell? ⟨q1, i, none⟩ = some (.pointer (some ⟨r.rb, 0, none⟩)) ∧ w'.cell? ⟨w.heap.size, 9, none⟩ = some (.float .f64 x) ∧ w'.cell? ⟨w.heap.size, 10, none⟩ = some (.float .f64 y)) := fun w' f => by
    have R3 := R2.fr f fun _ e => Or.inr e
    have ob3 := f.kept ob2 fun e => tO (Or.inr e)
    exact ⟨R3.s1, R3.c1, cell_of ob3 9, cell_of ob3 10⟩
  have hn3 : ¬ r.oR w3.heap.size := fun e => by have := RM.lt _ e; omega
  have hY3 : w3.heap.size < w3.heap.size → False := fun e => absurd e (Nat.lt_irrefl _)
  have hZ3 : w3.heap.size < w3.heap.size → r.oR w3.heap.size := fun e => absurd e (Nat.lt_irrefl _)
  have HM : Hid (MapG r.g w3 r.pm r.t (r.c + (m3 : Nat)) r.oP (r.xs) ∧ m3 ≤ 10000 ∧ (fun m => (0 < r.xs.length → 1 ≤ m) ∧ (r.g = false → m ≤ 3 * dg (r.xs.length + 1))) m3 ∧ (∀ x, r.oP x → r.oP x ∨ wb.heap.size ≤ x) ∧ Fr r.oP wb w3 ∧ RefM w3 B r.rb r.t r.oR r.xs) := ⟨M3, b3, ⟨b5, b4⟩, fun x e => Or.inl e, F3, RM⟩
  have HFin : Hid (∀ w5, Fr (fun _ => False) w3 w5 → Res w B S lab cs.length r bd (fun m => (0 < r.xs.length → 1 ≤ m) ∧ (r.g = false → m ≤ 3 * dg (r.xs.length + 1))) (.returned (.bool true)) w5) := by
    intro w5 f5
    obtain ⟨k1, k2, k3, k4, k5, k6⟩ := HH.out
    obtain ⟨M3, b3, b5, s3, F3, RM⟩ := HM.out
    obtain ⟨c0, c1⟩ := HC.out
    have M5 := RM.fr f5 fun _ _ e => e
    obtain ⟨lab', e1, e2⟩ := Sh.op k1 k2 F3 (f5.mono fun _ _ e => e.elim) s3 (fun x e => Or.inl e) M3 M5 hlp (by omega) (by omega : r.c + ((m3 : Nat) : Int) ≤ bd + 5000000) (by omega)
    exact ⟨rfl, ⟨lab', V, _, cs, e1, Nat.le_succ _⟩, ⟨m3, _, _, e2, Nat.le_trans b3 (by omega), b5⟩, ((k3.mono fun _ _ e => e.elim).trans F3 fun x _ e => k4 x e).trans (f5.mono fun _ _ e => e.elim) fun x _ e => k5 x e⟩
  have hsf := store_f0
  generalize (lrank r.t (cod x y) r.xs : Int) = rk at *
  clear hput R0 R1 o9 o10 o0 g1 g2 RM R R2 hob ob2 M3 b3 b4 b5 f3 F3
  · skip
    go_wp2_with fail
    go_region_held3 (fun w' => Fr r.oR w3 w' ∧ w'.cell? ⟨S, 1, none⟩ = some (.slice (some ⟨q1, 0, none⟩) ms.length cap1) ∧ w'.cell? ⟨q1, i, none⟩ = some (.pointer (some ⟨r.rb, 0, none⟩)) ∧ w'.cell? ⟨w.heap.size, 9, none⟩ = some (.float .f64 x) ∧ w'.cell? ⟨w.heap.size, 10, none⟩ = some (.float .f64 y))
      (first | with_reducible exact ⟨D3', HC2.out _ D3'⟩ | with_reducible exact ⟨K4, HC2.out _ K4⟩)
      ((go_at_call 100; (with_reducible refine (hrp _ D3).mono ?_); rintro e w4 ⟨rfl, f4⟩; have K4 : Fr r.oR w3 w4 := Fr.trans (S' := fun _ => False) D3' f4 fun _ _ e => e.elim; have J4 : Fr (fun _ => False) w3 w4 := D3.trans f4 fun _ _ e => e))
    go_wp2_with fail
    go_ret
    exact HFin.out _ (J4)

end Go.Proofs.YthbnbocpddddmaaGreat

namespace Go.Proofs.YthbnbocpddddmaaGreat
open Go.RowKit

set_option maxRecDepth 100000 in
set_option maxHeartbeats 4000000 in
theorem step_len (w : World) (B S : Nat) (lab : Nat → Nat) (V : Nat → Value) (ms : List MR) (cs : List CR) (bd : Int) (h : Sh w B S lab V ms cs bd) (i : Nat) (r : MR) (hr : ms[i]? = some r)
    (mp ot en n a b : Int) (s t : ByteArray) (x y z : Nat) (jj : Int) :
    Calls Tryz.prog 79 #[.pointer (some ⟨S, 0, none⟩), opV 9 mp ot en n a b s t x y z, .int .i64 i, .int .i64 jj] w (Res w B S lab cs.length r bd fun m => m = 0) := by
  have A0 : Fr (fun _ => False) w (w.alloc (opBlk 9 mp ot en n a b s t x y z)) := Fr.alloc (Fr.refl _ _) _
  have hb := h.old A0
  have hob := blk_new w (opBlk 9 mp ot en n a b s t x y z)
  obtain ⟨g1, g2, g3, g4, g5, g6, g7⟩ := hb.m i r hr
  obtain ⟨q0, cap0, q1, cap1, R⟩ := hb.rd hr
  obtain ⟨q0', cap0', q1', cap1', R'⟩ := h.rd hr
  obtain ⟨aR, capR, hbR, hrR, _⟩ := g2.reads
  have hlen := len_anyG r.g r.pm r.t r.c r.oP r.xs _ g1
  have hil : (i : Int) < (ms.length : Int) := by have := (List.getElem?_eq_some_iff.1 hr).1; omega
  have R0 := R.s0
  have R1 := R.c0
  have R2 := R.s1
  have R3 := R.c1
  have R4 : (w.alloc (opBlk 9 mp ot en n a b s t x y z)).cell? ⟨r.rb, 2, none⟩ = some (.slice aR r.xs.length capR) := cell_of hbR 2
  have HFin : Hid (Res w B S lab cs.length r bd (fun m => m = 0) (.returned (.bool true)) (w.alloc (opBlk 9 mp ot en n a b s t x y z))) :=
    ⟨rfl, ⟨lab, V, ms, cs, hb.keep (Fr.refl (fun _ => False) _) (fun _ _ => rfl) (fun _ e => e.elim) (by omega), Nat.le_succ _⟩, ⟨0, r.oP, r.xs, by simpa using g1, Nat.zero_le _, rfl⟩, A0.mono fun _ _ e => e.elim⟩
  clear h hb hr g1 g2 g3 g4 g5 g6 g7 R R' hob hbR hrR
  go_enter Tryz.func79, Tryz.ntmps79
  go_wp2_with fail
  refine hlen.mono ?_
  rintro e w3 ⟨rfl, rfl⟩
  go_wp2_with fail
  go_ret
  exact HFin.out

end Go.Proofs.YthbnbocpddddmaaGreat
