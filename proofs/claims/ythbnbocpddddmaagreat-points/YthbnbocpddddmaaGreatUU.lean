import Derived.Test.YthbnbocpddddmaaGreatRows
import Derived.Test.YthbnbocpddddmaaGreatUT
import Derived.SizedLaws
import Derived.WalkKit
import Derived.ProofKit
import Derived.OpenShut
import Derived.ShutString
import Derived.ChangeOld
import Derived.Below
import Derived.Deep.Slices
namespace Go.Proofs.YthbnbocpddddmaaGreat.points
open Go.ChangeShapes Go.WideShapes Go.ChangeAt Go.RowKit
set_option linter.unusedVariables false

theorem own : ownKnob Tryz.prog.godebug = none := by kernel_rfl
theorem laidOut : laidOutB Tryz.prog = true := by kernel_rfl
theorem cellsI : Tryz.prog.cellsOf 3 = 1 := by kernel_rfl
theorem cellsS : Tryz.prog.cellsOf 9 = 1 := by kernel_rfl
theorem cellsF : Tryz.prog.cellsOf 22 = 1 := by kernel_rfl
theorem cellsO : Tryz.prog.cellsOf 83 = 12 := by kernel_rfl
theorem bytesO : Tryz.prog.bytesOf 83 = 112 := by kernel_rfl

theorem lt_of_cell {w : World} {b o : Nat} {v : Value} (h : w.cell? ⟨b, o, none⟩ = some v) : b < w.heap.size := by
  rcases Nat.lt_or_ge b w.heap.size with c | c
  · exact c
  · simp [World.cell?, Array.getElem?_eq_none c] at h

section
variable {H : Type} {enc : TypeId × Value → H} {W : World} {base : Nat} {spare : Nat → Bool} {held : Bool}

theorem float_open {P : Program} {t : TypeId} {fuel : Nat} {k : FloatKind} {cs : List Value} {x : DataW H × List MemPlace} (ht : P.underlying t = some (.float k)) (h : DataW.trod enc P W base spare held fuel t cs = some x) : ∃ n, cs = [.float k n] ∧ (Lit.float k n).wf = true := by
  cases fuel with
  | zero => simp [DataW.trod] at h
  | succ n =>
    unfold DataW.trod at h
    rw [ht] at h
    split at h <;> simp_all

theorem float_lt {n : Nat} (h : (Lit.float .f64 n).wf = true) : n < 18446744073709551616 := by
  simpa [Lit.wf] using h

set_option maxRecDepth 100000 in
theorem op_open {fuel : Nat} {cs : List Value} {x : DataW H × List MemPlace} (h : DataW.trod enc Tryz.prog W base spare held fuel 83 cs = some x) (hlen : cs.length = 12) : ∃ (k mp ot en n a b : Int) (s t : ByteArray) (x y z : Nat),
    (-9223372036854775808 ≤ mp ∧ mp < 9223372036854775808) ∧ (-9223372036854775808 ≤ ot ∧ ot < 9223372036854775808) ∧ (-9223372036854775808 ≤ n ∧ n < 9223372036854775808) ∧ (x < 18446744073709551616 ∧ y < 18446744073709551616 ∧ z < 18446744073709551616) ∧
    cs = [Value.int .i64 k, .int .i64 mp, .int .i64 ot, .int .i64 en, .int .i64 n, .int .i64 a, .int .i64 b, .string s, .string t, .float .f64 x, .float .f64 y, .float .f64 z] := by
  obtain ⟨xs, m, _, _, _, hxl, hf⟩ := DataW.trod_struct Tryz.underlying83 h
  have hxl' : xs.length = 12 := hxl
  clear h hxl
  have one : ∀ i, i < 12 → ∃ y, xs[i]? = some y := fun i hi => ⟨_, List.getElem?_eq_getElem (by omega)⟩
  match cs, hlen with
  | [v0, v1, v2, v3, v4, v5, v6, v7, v8, v9, v10, v11], _ =>
    obtain ⟨y0, e0⟩ := one 0 (by omega)
    obtain ⟨y1, e1⟩ := one 1 (by omega)
    obtain ⟨y2, e2⟩ := one 2 (by omega)
    obtain ⟨y3, e3⟩ := one 3 (by omega)
    obtain ⟨y4, e4⟩ := one 4 (by omega)
    obtain ⟨y5, e5⟩ := one 5 (by omega)
    obtain ⟨y6, e6⟩ := one 6 (by omega)
    obtain ⟨y7, e7⟩ := one 7 (by omega)
    obtain ⟨y8, e8⟩ := one 8 (by omega)
    obtain ⟨y9, e9⟩ := one 9 (by omega)
    obtain ⟨y10, e10⟩ := one 10 (by omega)
    obtain ⟨y11, e11⟩ := one 11 (by omega)
    have g0 : DataW.trod enc Tryz.prog W base spare held m 3 (([v0, v1, v2, v3, v4, v5, v6, v7, v8, v9, v10, v11].drop 0).take (Tryz.prog.cellsOf 3)) = some y0 := (hf 0 _ rfl).trans e0
    have g1 : DataW.trod enc Tryz.prog W base spare held m 3 (([v0, v1, v2, v3, v4, v5, v6, v7, v8, v9, v10, v11].drop 1).take (Tryz.prog.cellsOf 3)) = some y1 := (hf 1 _ rfl).trans e1
    have g2 : DataW.trod enc Tryz.prog W base spare held m 3 (([v0, v1, v2, v3, v4, v5, v6, v7, v8, v9, v10, v11].drop 2).take (Tryz.prog.cellsOf 3)) = some y2 := (hf 2 _ rfl).trans e2
    have g3 : DataW.trod enc Tryz.prog W base spare held m 3 (([v0, v1, v2, v3, v4, v5, v6, v7, v8, v9, v10, v11].drop 3).take (Tryz.prog.cellsOf 3)) = some y3 := (hf 3 _ rfl).trans e3
    have g4 : DataW.trod enc Tryz.prog W base spare held m 3 (([v0, v1, v2, v3, v4, v5, v6, v7, v8, v9, v10, v11].drop 4).take (Tryz.prog.cellsOf 3)) = some y4 := (hf 4 _ rfl).trans e4
    have g5 : DataW.trod enc Tryz.prog W base spare held m 3 (([v0, v1, v2, v3, v4, v5, v6, v7, v8, v9, v10, v11].drop 5).take (Tryz.prog.cellsOf 3)) = some y5 := (hf 5 _ rfl).trans e5
    have g6 : DataW.trod enc Tryz.prog W base spare held m 3 (([v0, v1, v2, v3, v4, v5, v6, v7, v8, v9, v10, v11].drop 6).take (Tryz.prog.cellsOf 3)) = some y6 := (hf 6 _ rfl).trans e6
    have g7 : DataW.trod enc Tryz.prog W base spare held m 9 (([v0, v1, v2, v3, v4, v5, v6, v7, v8, v9, v10, v11].drop 7).take (Tryz.prog.cellsOf 9)) = some y7 := (hf 7 _ rfl).trans e7
    have g8 : DataW.trod enc Tryz.prog W base spare held m 9 (([v0, v1, v2, v3, v4, v5, v6, v7, v8, v9, v10, v11].drop 8).take (Tryz.prog.cellsOf 9)) = some y8 := (hf 8 _ rfl).trans e8
    have g9 : DataW.trod enc Tryz.prog W base spare held m 22 (([v0, v1, v2, v3, v4, v5, v6, v7, v8, v9, v10, v11].drop 9).take (Tryz.prog.cellsOf 22)) = some y9 := (hf 9 _ rfl).trans e9
    have g10 : DataW.trod enc Tryz.prog W base spare held m 22 (([v0, v1, v2, v3, v4, v5, v6, v7, v8, v9, v10, v11].drop 10).take (Tryz.prog.cellsOf 22)) = some y10 := (hf 10 _ rfl).trans e10
    have g11 : DataW.trod enc Tryz.prog W base spare held m 22 (([v0, v1, v2, v3, v4, v5, v6, v7, v8, v9, v10, v11].drop 11).take (Tryz.prog.cellsOf 22)) = some y11 := (hf 11 _ rfl).trans e11
    clear hf
    rw [cellsI] at g0 g1 g2 g3 g4 g5 g6
    rw [cellsS] at g7 g8
    rw [cellsF] at g9 g10 g11
    obtain ⟨k, q0, _, _⟩ := DataW.trod_int Tryz.underlying3 g0
    obtain ⟨mp, q1, _, b1⟩ := DataW.trod_int Tryz.underlying3 g1
    obtain ⟨ot, q2, _, b2⟩ := DataW.trod_int Tryz.underlying3 g2
    obtain ⟨en, q3, _, _⟩ := DataW.trod_int Tryz.underlying3 g3
    obtain ⟨n, q4, _, b4⟩ := DataW.trod_int Tryz.underlying3 g4
    obtain ⟨a, q5, _, _⟩ := DataW.trod_int Tryz.underlying3 g5
    obtain ⟨b, q6, _, _⟩ := DataW.trod_int Tryz.underlying3 g6
    obtain ⟨s, q7, _, _⟩ := DataW.trod_string Tryz.underlying9 g7
    obtain ⟨t, q8, _, _⟩ := DataW.trod_string Tryz.underlying9 g8
    obtain ⟨x, q9, f9⟩ := float_open Tryz.underlying22 g9
    obtain ⟨y, q10, f10⟩ := float_open Tryz.underlying22 g10
    obtain ⟨z, q11, f11⟩ := float_open Tryz.underlying22 g11
    simp only [List.drop_succ_cons, List.drop_zero, List.take_succ_cons, List.take_zero, List.cons.injEq, and_true] at q0 q1 q2 q3 q4 q5 q6 q7 q8 q9 q10 q11
    obtain ⟨c1, c2⟩ := bounds_i64 b1
    obtain ⟨c3, c4⟩ := bounds_i64 b2
    obtain ⟨c5, c6⟩ := bounds_i64 b4
    refine ⟨k, mp, ot, en, n, a, b, s, t, x, y, z, ⟨by omega, by omega⟩, ⟨by omega, by omega⟩, ⟨by omega, by omega⟩, ⟨float_lt f9, float_lt f10, float_lt f11⟩, ?_⟩
    rw [q0, q1, q2, q3, q4, q5, q6, q7, q8, q9, q10, q11]
end

theorem walk (a0 : Option Addr) (len0 cap0 : Nat) (w : World) (w0 : OpsAt w a0 len0) (s0 : len0 ≤ 1300000000000) :
    Calls Tryz.prog 5 #[.slice a0 len0 cap0] w fun e w' => e = .returned (.bool true) ∧ Below w.heap.size w w' :=
  (points_any a0 len0 cap0 w w0 s0).mono fun e w' ⟨he, fr⟩ => ⟨he, fr.none_below⟩

set_option maxRecDepth 100000 in
theorem lifted (os : Os) (started : os.Started) (H : Type) (enc : TypeId × Value → H) :
    ReturnsInHanded {} Tryz.checked os 5 .any (Rows.pointsSpec.pre6 enc Tryz.prog Tryz.f5 Rows.pointsRow.domain false) (Rows.pointsSpec.post enc Tryz.prog Tryz.f5 false true false false) := by
  refine returnsInHanded_of_change_sized (C := Tryz.checked) own started (by kernel_rfl) Tryz.func5
    (ChangeSpec.witness6 (enc := enc) (C := Tryz.checked) false ⟨#[], #[.slice none 0 0], []⟩ 8 (by kernel_rfl) (by kernel_rfl) (by kernel_rfl) (by kernel_rfl)) ?_
  intro W base args ds gs before hval0 hW hcnd hsz0 _
  have hsz : (DataW.weightsEach Tryz.prog (Tryz.f5.params.toList ++ Rows.pointsSpec.plain.varTypes Tryz.prog) (ds ++ gs)).all (· ≤ reachBytes) = true := hsz0
  clear hsz0
  have hval : ∀ (j : Nat) t v, Tryz.f5.params[j]? = some t → args[j]? = some v → Value.okWide Tryz.prog W .any base t v := hval0
  have hW' := hW
  obtain ⟨p, q, hA0, hV, rfl, hfz, hnd⟩ := hW
  have hA : DataW.TrodAll enc Tryz.prog W 0 (fun _ => true) true Tryz.f5.params.toList args.toList ds p := hA0
  rw [Tryz.params5] at hA hval hsz
  obtain ⟨v0, vs0, d0, ds0, p0, q0, hargs, rfl, rfl, h0, r0⟩ := trodAll_cons hA
  obtain ⟨rfl, rfl, rfl⟩ := trodAll_nil r0
  obtain rfl : args = #[v0] := by cases args; simp_all
  obtain ⟨rfl, rfl⟩ := trodVars_none hV
  obtain ⟨a0, len0, cap0, rfl⟩ := okWide_slice Tryz.underlying71 (hval 0 71 v0 rfl rfl)
  have k0 := h0
  have lt0 : ∀ x ∈ p0, x.block < W.heap.size := by obtain ⟨m, hm⟩ := k0; exact DataW.trod_lt m _ _ _ hm
  obtain ⟨w0, s0⟩ : OpsAt W a0 len0 ∧ len0 ≤ 1300000000000 := by
    obtain ⟨fuel, hf⟩ := h0
    rcases Go.Deep.open_slice Tryz.underlying71 hf with ⟨hcs, _⟩ | ⟨x, l, c, m, n, D, Pl, hcs, _, hl, hm, hmm, hx, hel⟩
    · simp [Value.cells] at hcs
      obtain ⟨rfl, rfl, rfl⟩ := hcs
      exact ⟨Or.inl rfl, Nat.zero_le _⟩
    · simp [Value.cells] at hcs
      obtain ⟨rfl, rfl, rfl⟩ := hcs
      have hm' : m = cap0 := by simpa using hmm
      subst hm'
      refine ⟨?_, ?_⟩
      · by_cases c : len0 = 0
        · exact Or.inl c
        · obtain ⟨g, off, spot⟩ := x
          rw [cellsO] at hel
          obtain ⟨cs0, hc0, _⟩ := hel 0 (by omega)
          obtain ⟨_, hl0, hcell0⟩ := World.cells?_some hc0
          have hcl := hcell0 0 (by omega)
          rw [List.getElem?_eq_getElem (by omega)] at hcl
          have hspot : spot = none := by simpa [Addr.add] using World.cell?_spot hcl
          subst hspot
          have hg : g < W.heap.size := by
            have := lt_of_cell hcl
            simpa [Addr.add] using this
          refine Or.inr ⟨g, off, rfl, hg, fun i hi => ?_⟩
          obtain ⟨cs', hc, ht⟩ := hel i (by omega)
          obtain ⟨_, hl', hcell⟩ := World.cells?_some hc
          obtain ⟨k, mp, ot, en, n, a, b, s, t, x, y, z, h1, h2, h3, h4, rfl⟩ := op_open ht hl'
          refine ⟨k, mp, ot, en, n, a, b, s, t, x, y, z, h1, h2, h3, h4, fun c u hu => ?_⟩
          have hc12 : c < 12 := by have := (List.getElem?_eq_some_iff.1 hu).1; simpa using this
          have := hcell c hc12
          rw [hu, Go.Deep.add_add] at this
          rw [← this]
          congr 1
          simp [Addr.add, Nat.add_assoc]
      · simp only [Prod.mk.injEq] at hx
        obtain ⟨rfl, _⟩ := hx
        have hr := sized_slice hsz (j := 0) (t := 71) (e := 83) rfl rfl Tryz.underlying71
        rw [bytesO] at hr
        simp only [List.length_map, List.length_range, reachBytes] at hr
        omega
  clear hA0 hval0
  refine (walk a0 len0 cap0 W w0 s0).mono fun e W' ⟨he, bel⟩ => ?_
  subst he
  exact ⟨_, rfl, _, _, _, [], _, [], hW', trodAll_mk1 (shut_bool Tryz.underlying4 _), (trodAll_cons_mk (Below.trod laidOut (by kernel_rfl) (of_decide_eq_true (by kernel_rfl)) k0 bel lt0) trodAll_mk0), rfl, bel.frame _, fun h => by cases h⟩

theorem over : Rows.pointsRow.holds Tryz.pinned (OpenSpec.ofChange Rows.pointsSpec) :=
  OpenClaim.holds_of_wide 5 Tryz.f5 rfl rfl rfl rfl rfl rfl rfl ⟨rfl, rfl, rfl, rfl, rfl⟩ rfl rfl rfl rfl rfl (by kernel_rfl) Tryz.func5 (by kernel_rfl)
    (of_decide_eq_true (by kernel_rfl)) (by unfold Func.isWrapper; first | (rw [if_pos (by decide +kernel)]; kernel_rfl) | (rw [if_neg (by decide +kernel)]; exact ⟨rfl, rfl⟩))
    (fun os started H enc _ => lifted os started H enc)

theorem proved : Rows.PointsSaid := over
end Go.Proofs.YthbnbocpddddmaaGreat.points

namespace Go.Proofs.YthbnbocpddddmaaGreat
theorem points_holds : Rows.PointsSaid := points.proved
#print axioms points_holds
end Go.Proofs.YthbnbocpddddmaaGreat
