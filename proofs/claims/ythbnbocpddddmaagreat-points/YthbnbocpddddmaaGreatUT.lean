import Derived.Test.YthbnbocpddddmaaGreatUN
import Derived.Test.YthbnbocpddddmaaGreatUO
import Derived.Test.YthbnbocpddddmaaGreatUP
import Derived.Test.YthbnbocpddddmaaGreatUQ
import Derived.Test.YthbnbocpddddmaaGreatUX
import Derived.Test.YthbnbocpddddmaaGreatUR
import Derived.Test.YthbnbocpddddmaaGreatUS
import Derived.Test.YthbnbocpddddmaaGreatQU
namespace Go.Proofs.YthbnbocpddddmaaGreat
open Go.RowKit

theorem play_any (w : World) (B S : Nat) (lab : Nat → Nat) (V : Nat → Value) (ms : List MR) (cs : List CR) (bd : Int) (h : Sh w B S lab V ms cs bd) (hb0 : 0 ≤ bd) (hbd : bd ≤ 7000000000000000000) (hcs : cs.length ≤ 10000000000000)
    (k mp ot en n a b : Int) (s t : ByteArray) (x y z : Nat) (m0 : -9223372036854775808 ≤ mp) (m1 : mp < 9223372036854775808) (p0 : -9223372036854775808 ≤ ot) (p1 : ot < 9223372036854775808) (n0 : -9223372036854775808 ≤ n) (n1 : n < 9223372036854775808) (hx0 : x < 18446744073709551616) (hy0 : y < 18446744073709551616) (hz0 : z < 18446744073709551616) :
    Calls Tryz.prog 30 #[.pointer (some ⟨S, 0, none⟩), opV k mp ot en n a b s t x y z] w fun e w' => e = .returned (.bool true) ∧ (∃ lab V ms cs', Sh w' B S lab V ms cs' (bd + 5000000) ∧ cs'.length ≤ cs.length + 1) ∧ Fr (fun x => B ≤ x) w w' := by
  rcases (show k < 1 ∨ k = 1 ∨ k = 2 ∨ k = 3 ∨ k = 4 ∨ k = 5 ∨ k = 6 ∨ k = 7 ∨ k = 8 ∨ k = 9 ∨ k = 10 ∨ k = 11 ∨ k = 12 ∨ k = 13 ∨ k = 14 ∨ k = 15 ∨ k = 16 ∨ 16 < k by omega) with c | rfl | rfl | rfl | rfl | rfl | rfl | rfl | rfl | rfl | rfl | rfl | rfl | rfl | rfl | rfl | rfl | c
  · exact play_lo w B S lab V ms cs bd h hbd k mp ot en n a b s t x y z c m0 m1 p0 p1 fun w' lab' i j r _ hS hr _ => does_sum w' B S lab' V ms cs bd hS i r hr hbd k mp ot en n a b s t x y z j hx0 hy0 hz0 (Or.inl (by omega))
  · exact (play_new w B S lab V ms cs bd h hb0 mp ot en n a b s t x y z n0 n1).mono fun e w' ⟨h1, ⟨lab', V', ms', h2⟩, h3⟩ => ⟨h1, ⟨lab', V', ms', cs, h2.keep (Fr.refl (fun _ => False) _) (fun _ _ => rfl) (fun _ e => e.elim) (by omega), Nat.le_succ _⟩, h3⟩
  · exact play_few w B S lab V ms cs bd h hbd 2 mp ot en n a b s t x y z (by omega) (by omega) m0 m1 p0 p1 fun w' lab' i j r _ hS hr _ => does_put w' B S lab' V ms cs bd hS i r hr hbd mp ot en n a b s t x y z j hx0 hy0 hz0
  · exact play_few w B S lab V ms cs bd h hbd 3 mp ot en n a b s t x y z (by omega) (by omega) m0 m1 p0 p1 fun w' lab' i j r _ hS hr _ => does_get w' B S lab' V ms cs bd hS i r hr hbd mp ot en n a b s t x y z j hx0 hy0
  · exact play_few w B S lab V ms cs bd h hbd 4 mp ot en n a b s t x y z (by omega) (by omega) m0 m1 p0 p1 fun w' lab' i j r _ hS hr _ => does_del w' B S lab' V ms cs bd hS i r hr hbd mp ot en n a b s t x y z j hx0 hy0
  · exact play_few w B S lab V ms cs bd h hbd 5 mp ot en n a b s t x y z (by omega) (by omega) m0 m1 p0 p1 fun w' lab' i j r _ hS hr _ => step_rank w' B S lab' V ms cs bd hS i r hr hbd mp ot en n a b s t x y z j hx0 hy0
  · exact play_few w B S lab V ms cs bd h hbd 6 mp ot en n a b s t x y z (by omega) (by omega) m0 m1 p0 p1 fun w' lab' i j r _ hS hr _ => step_floor w' B S lab' V ms cs bd hS i r hr hbd mp ot en n a b s t x y z j hx0 hy0
  · exact play_few w B S lab V ms cs bd h hbd 7 mp ot en n a b s t x y z (by omega) (by omega) m0 m1 p0 p1 fun w' lab' i j r _ hS hr _ => step_ceil w' B S lab' V ms cs bd hS i r hr hbd mp ot en n a b s t x y z j hx0 hy0
  · exact play_8 w B S lab V ms cs bd h hbd mp ot en n a b s t x y z m0 m1 p0 p1 fun w' lab' i j r _ hS hr _ => step_at w' B S lab' V ms cs bd hS i r hr hbd mp ot en n a b s t x y z j 
  · exact play_9 w B S lab V ms cs bd h hbd mp ot en n a b s t x y z m0 m1 p0 p1 fun w' lab' i j r _ hS hr _ => step_len w' B S lab' V ms cs bd hS i r hr  mp ot en n a b s t x y z j 
  · exact play_hi w B S lab V ms cs bd h hbd 10 mp ot en n a b s t x y z (by omega) m0 m1 p0 p1 fun w' lab' i j r _ hS hr _ => does_cursor w' B S lab' V ms cs bd hS i r hr hcs mp ot en n a b s t x y z j 
  · exact play_hi w B S lab V ms cs bd h hbd 11 mp ot en n a b s t x y z (by omega) m0 m1 p0 p1 fun w' lab' i j r _ hS hr _ => does_next w' B S lab' V ms cs bd hS i r hr hcs hbd mp ot en n a b s t x y z j n0 n1
  · exact play_hi w B S lab V ms cs bd h hbd 12 mp ot en n a b s t x y z (by omega) m0 m1 p0 p1 fun w' lab' i j r _ hS hr _ => does_prev w' B S lab' V ms cs bd hS i r hr hcs hbd mp ot en n a b s t x y z j n0 n1
  · exact play_hi w B S lab V ms cs bd h hbd 13 mp ot en n a b s t x y z (by omega) m0 m1 p0 p1 fun w' lab' i j r _ hS hr _ => does_seek w' B S lab' V ms cs bd hS i r hr hcs hbd mp ot en n a b s t x y z j hx0 hy0 n0 n1
  · exact play_hi w B S lab V ms cs bd h hbd 14 mp ot en n a b s t x y z (by omega) m0 m1 p0 p1 fun w' lab' i j r q hS hr hq => does_split w' B S lab' V ms cs bd hS i j r q hr hq hcs hbd mp ot en n a b s t x y z hx0 hy0
  · exact play_hi w B S lab V ms cs bd h hbd 15 mp ot en n a b s t x y z (by omega) m0 m1 p0 p1 fun w' lab' i j r q hS hr hq => does_com w' B S lab' V ms cs bd hS i j r q hr hq hcs hbd mp ot en n a b s t x y z 
  · exact play_hi w B S lab V ms cs bd h hbd 16 mp ot en n a b s t x y z (by omega) m0 m1 p0 p1 fun w' lab' i j r q hS hr hq => does_wit w' B S lab' V ms cs bd hS i j r q hr hq hcs hbd mp ot en n a b s t x y z 
  · exact play_hi w B S lab V ms cs bd h hbd k mp ot en n a b s t x y z (by omega) m0 m1 p0 p1 fun w' lab' i j r _ hS hr _ => does_sum w' B S lab' V ms cs bd hS i r hr hbd k mp ot en n a b s t x y z j hx0 hy0 hz0 (Or.inr c)

end Go.Proofs.YthbnbocpddddmaaGreat

namespace Go.Proofs.YthbnbocpddddmaaGreat
open Go.RowKit

set_option maxRecDepth 100000 in
set_option maxHeartbeats 8000000 in
theorem all_any (w : World) (B S : Nat) (lab : Nat → Nat) (V : Nat → Value) (ms : List MR) (cs : List CR) (bd : Int) (h : Sh w B S lab V ms cs bd) :
    Calls Tryz.prog 31 #[.pointer (some ⟨S, 0, none⟩)] w fun e w' => e = .returned (.bool true) ∧ Fr (fun _ => False) w w' := by
  obtain ⟨aP, cP, vP⟩ := own_shape (h.x.own 0 (by omega))
  have nP : (rows ms cs 0).length = ms.length := List.length_map ..
  rw [nP] at vP
  have u0 : w.cell? ⟨S, 0, none⟩ = some (.slice aP ms.length cP) := (cell_of h.x.blk 0).trans (by rw [← vP]; rfl)
  have zS := lt_of_blk h.x.blk
  have h8 := h.n8
  go_enter Tryz.func31, Tryz.ntmps31
  go_wp2_with fail
  go_loopg [3] ms.length (fun gk s3 wr => ∃ i : Nat, gk + i = ms.length ∧ s3 = .int .i64 i ∧ Fr (fun _ => False) w wr)
  case atStart => exact ⟨0, by omega, rfl, Fr.refl _ _⟩
  case round =>
    obtain ⟨i, y0, rfl, F⟩ := hrel
    have u0' := (F.cell (b := S) 0 zS (fun e => e)).trans u0
    have HY : Hid (gk + i = ms.length) := y0
    by_cases hi : i < ms.length
    · have hil : (i : Int) < (ms.length : Int) := by omega
      have hi8 : i < 8 := by omega
      obtain ⟨r, hr⟩ : ∃ r, ms[i]? = some r := ⟨_, List.getElem?_eq_getElem hi⟩
      obtain ⟨q0, cap0, q1, cap1, R⟩ := h.rd hr
      obtain ⟨g1, g2, g3, g4, g5, g6, g7⟩ := h.m i r hr
      obtain ⟨aR, capR, hbR, hrR, _⟩ := g2.reads
      have hap : aP = some ⟨q0, 0, none⟩ ∧ cP = cap0 := by
        have := u0.symm.trans R.s0
        simpa using this
      obtain ⟨rfl, rfl⟩ := hap
      obtain ⟨G, rfl⟩ : ∃ G, gk = G + 1 := ⟨gk - 1, by omega⟩
      clear y0 hi hr
      go_wp2_with fail
      go_loopg [4] (r.xs.length + 2) (fun gk s4 wr => ∃ n : Nat, gk + n = r.xs.length + 2 ∧ s4 = .int .i64 ((n : Int) - 1) ∧ Fr (fun _ => False) w wr)
      case atStart => exact ⟨0, by omega, rfl, F⟩
      case round =>
        clear F u0'
        obtain ⟨n, x0, rfl, F⟩ := hrel
        have R' := R.fr F (T := fun _ => False) fun _ e => e.elim
        have s0' := R'.s0
        have c0' := R'.c0
        have s1' := R'.s1
        have c1' := R'.c1
        have hbR' := F.kept hbR fun e => e
        have s2' : wr.cell? ⟨r.rb, 2, none⟩ = some (.slice aR r.xs.length capR) := cell_of hbR' 2
        have HX : Hid (gk + n = r.xs.length + 2) := x0
        by_cases hn : n < r.xs.length + 2
        · have hn1 : (n : Int) - 1 ≤ (r.xs.length : Int) := by omega
          have hn2 : n ≤ 401 := by omega
          have hA := at_anyG r.g r.pm r.t r.c r.oP r.xs ((n : Int) - 1) wr (g1.fr F fun _ _ e => e) g5
          have hB := fun w' (f : Fr (fun _ => False) wr w') => rat_any r.rb r.t aR capR r.xs ((n : Int) - 1) w' (f.kept hbR' fun e => e) ((hrR.fr F fun _ _ _ e => e).fr f fun _ _ _ e => e)
          generalize latK r.xs ((n : Int) - 1) = gK at *
          generalize latV r.xs ((n : Int) - 1) = gV at *
          generalize latB r.xs ((n : Int) - 1) = gB at *
          have hsf := store_f0
          clear x0 hn
          go_wp2_with fail
          refine hA.mono ?_
          rintro e w3 ⟨rfl, f3⟩
          have R3 := R'.fr f3 (T := fun _ => False) fun _ e => e.elim
          have t1 := R3.s1
          have t2 := R3.c1
          go_wp2_with fail
          refine (hB _ f3).mono ?_
          rintro e w4 ⟨rfl, f4⟩
          go_wp2_with fail
          refine (item_same _ _ _ _).mono ?_
          rintro e w6 ⟨rfl, f6⟩
          have J6 : Fr (fun _ => False) w w6 := by with_reducible exact Fr.trans (S' := fun _ => False) (Fr.alloc ((F.trans f3 fun _ _ e => e).trans f4 fun _ _ e => e) _) f6 fun _ _ e => e
          go_wp2_with fail
          go_roundg (gk - 1)
          case measure => have := HX.out; omega
          case rel => exact ⟨n + 1, by have := HX.out; omega, by go_num, J6⟩
        · have hn1 : ¬ (n : Int) - 1 ≤ (r.xs.length : Int) := by omega
          have hlen := len_anyG r.g r.pm r.t r.c r.oP r.xs wr (g1.fr F fun _ _ e => e)
          have hn2 : n ≤ 402 := by omega
          clear x0 hn
          go_wp2_with fail
          refine hlen.mono ?_
          rintro e w3 ⟨rfl, rfl⟩
          go_wp2_with fail
          go_roundg G
          case measure => have := HY.out; omega
          case rel => exact ⟨i + 1, by have := HY.out; omega, by go_num, F⟩
    · have hil : ¬ (i : Int) < (ms.length : Int) := by omega
      clear y0 hi
      go_wp2_with fail
      go_ret
      exact ⟨rfl, F⟩

end Go.Proofs.YthbnbocpddddmaaGreat

namespace Go.Proofs.YthbnbocpddddmaaGreat
open Go.RowKit

/-- A script in memory: a row of steps, twelve cells each. -/
def OpsAt (w : World) (v : Option Addr) (len : Nat) : Prop :=
  len = 0 ∨ ∃ g off, v = some ⟨g, off, none⟩ ∧ g < w.heap.size ∧ ∀ i, i < len → ∃ (k mp ot en n a b : Int) (s t : ByteArray) (x y z : Nat),
    (-9223372036854775808 ≤ mp ∧ mp < 9223372036854775808) ∧ (-9223372036854775808 ≤ ot ∧ ot < 9223372036854775808) ∧ (-9223372036854775808 ≤ n ∧ n < 9223372036854775808) ∧ (x < 18446744073709551616 ∧ y < 18446744073709551616 ∧ z < 18446744073709551616) ∧
    ∀ c u, [Value.int .i64 k, .int .i64 mp, .int .i64 ot, .int .i64 en, .int .i64 n, .int .i64 a, .int .i64 b, .string s, .string t, .float .f64 x, .float .f64 y, .float .f64 z][c]? = some u → w.cell? ⟨g, off + i * 12 + c, none⟩ = some u

abbrev shelf0 : Obj := .cells #[.slice none 0 0, .slice none 0 0, .slice none 0 0, .slice none 0 0, .slice none 0 0, .slice none 0 0] 90

set_option maxRecDepth 100000 in
set_option maxHeartbeats 8000000 in
theorem points_any (v : Option Addr) (len cap : Nat) (w : World) (h : OpsAt w v len) (hl : len ≤ 1300000000000) :
    Calls Tryz.prog 5 #[.slice v len cap] w fun e w' => e = .returned (.bool true) ∧ Fr (fun _ => False) w w' := by
  have A0 : Fr (fun _ => False) w (w.alloc shelf0) := Fr.alloc (Fr.refl _ _) _
  have S0 := sh_start w
  have HE : Hid (∀ w', Fr (fun x => w.heap.size ≤ x) w w' → Fr (fun _ => False) w w') := fun w' f => f.mono fun x hx e => by omega
  go_enter Tryz.func5, Tryz.ntmps5
  go_wp2_with fail
  go_loopg [4] 2 (fun gk s4 wr => ∃ i : Nat, gk + i = 2 ∧ s4 = .int .i64 i ∧ (∃ lab V ms, Sh wr w.heap.size w.heap.size lab V ms [] 0 ∧ ms.length = i) ∧ Fr (fun x => w.heap.size ≤ x) w wr)
  case atStart => exact ⟨0, by omega, rfl, ⟨_, _, [], S0, rfl⟩, A0.mono fun _ _ e => e.elim⟩
  case round =>
    obtain ⟨i, y0, rfl, ⟨lab, V, ms, hS, hm⟩, F⟩ := hrel
    have HY : Hid (gk + i = 2) := y0
    by_cases hi : i < 2
    · have hil : (i : Int) < 2 := by omega
      have HM : Hid (ms.length = i) := hm
      have hc : Calls Tryz.prog 29 #[.pointer (some ⟨w.heap.size, 0, none⟩), .int .i64 i, .int .i64 i] wr fun e w' => e = .returned (.bool true) ∧ (∃ lab V r, Sh w' w.heap.size w.heap.size lab V (ms ++ [r]) [] 0) ∧ Fr (fun x => w.heap.size ≤ x) wr w' := by
        rcases (show i = 0 ∨ i = 1 by omega) with rfl | rfl
        · exact snew_good wr w.heap.size w.heap.size lab V ms [] 0 hS (by omega) (Int.le_refl _) 0 false (by omega) (by omega)
        · exact snew_good wr w.heap.size w.heap.size lab V ms [] 0 hS (by omega) (Int.le_refl _) 1 true (by omega) (by omega)
      clear y0 hS hm h S0
      go_wp2_with fail
      refine hc.mono ?_
      rintro e w2 ⟨rfl, ⟨lab', V', r, hS'⟩, f2⟩
      have HS : Hid (∃ lab V ms', Sh w2 w.heap.size w.heap.size lab V ms' [] 0 ∧ ms'.length = i + 1) := ⟨lab', V', _, hS', by have := HM.out; simp [this]⟩
      have F2 := F.trans f2 fun _ _ e => e
      clear hS' hc
      go_wp2_with fail
      go_roundg (gk - 1)
      case measure => have := HY.out; omega
      case rel => exact ⟨i + 1, by have := HY.out; omega, by go_num, HS.out, F2⟩
    · have hil : ¬ (i : Int) < 2 := by omega
      have HS : Hid (Sh wr w.heap.size w.heap.size lab V ms [] 0) := hS
      clear y0 hS hm S0 HY
      go_wp2_with fail
      clear hil hi
      have HF : Hid (Fr (fun x => w.heap.size ≤ x) w wr) := F
      clear F
      go_loopg [6] len (fun gk s6 wr => ∃ j : Nat, gk + j = len ∧ s6 = .int .i64 j ∧ (∃ lab V ms cs, Sh wr w.heap.size w.heap.size lab V ms cs (5000000 * (j : Int)) ∧ cs.length ≤ j) ∧ Fr (fun x => w.heap.size ≤ x) w wr)
      case atStart => exact ⟨0, by omega, rfl, ⟨lab, V, ms, [], HS.out, Nat.le_refl _⟩, HF.out⟩
      case round =>
        obtain ⟨j, y0, rfl, ⟨lab', V', ms', cs', hS, hcs⟩, F⟩ := hrel
        have HY : Hid (gk + j = len) := y0
        by_cases hj : j < len
        · have hjl : (j : Int) < (len : Int) := by omega
          rcases h with h | ⟨g, off, rfl, hg, hops⟩
          · omega
          obtain ⟨k, mp, ot, en, n, a, b, s, t, x, y, z, ⟨m0, m1⟩, ⟨p0, p1⟩, ⟨n0, n1⟩, ⟨hx0, hy0, hz0⟩, hc⟩ := hops j hj
          have hng : ¬ w.heap.size ≤ g := by omega
          have kc : ∀ c u, [Value.int .i64 k, .int .i64 mp, .int .i64 ot, .int .i64 en, .int .i64 n, .int .i64 a, .int .i64 b, .string s, .string t, .float .f64 x, .float .f64 y, .float .f64 z][c]? = some u → wr.cell? ⟨g, off + j * 12 + c, none⟩ = some u := fun c u hu => (F.cell (b := g) (off + j * 12 + c) hg hng).trans (hc c u hu)
          have k0 : wr.cell? ⟨g, off + j * 12, none⟩ = some (.int .i64 k) := kc 0 _ rfl
          have k1 := kc 1 _ rfl
          have k2 := kc 2 _ rfl
          have k3 := kc 3 _ rfl
          have k4 := kc 4 _ rfl
          have k5 := kc 5 _ rfl
          have k6 := kc 6 _ rfl
          have k7 := kc 7 _ rfl
          have k8 := kc 8 _ rfl
          have k9 := kc 9 _ rfl
          have k10 := kc 10 _ rfl
          have k11 := kc 11 _ rfl
          have hp := play_any wr w.heap.size w.heap.size lab' V' ms' cs' (5000000 * (j : Int)) hS (by omega) (by omega) (by omega) k mp ot en n a b s t x y z m0 m1 p0 p1 n0 n1 hx0 hy0 hz0
          have HC : Hid (cs'.length ≤ j) := hcs
          have hj2 : j ≤ 1300000000000 := by omega
          clear y0 hS hcs m0 m1 p0 p1 n0 n1 hx0 hy0 hz0 hc kc hops hg hng
          go_wp2_with fail
          refine hp.mono ?_
          rintro e w2 ⟨rfl, ⟨l2, v2, m2, c2, hS2, hc2⟩, f2⟩
          have he : 5000000 * ((j + 1 : Nat) : Int) = 5000000 * (j : Int) + 5000000 := by omega
          have HS2 : Hid (∃ lab V ms cs, Sh w2 w.heap.size w.heap.size lab V ms cs (5000000 * ((j + 1 : Nat) : Int)) ∧ cs.length ≤ j + 1) := ⟨l2, v2, m2, c2, by rw [he]; exact hS2, by have := HC.out; omega⟩
          have F2 := F.trans f2 fun _ _ e => e
          clear hS2 hc2 hp he k0 k1 k2 k3 k4 k5 k6 k7 k8 k9 k10 k11
          go_wp2_with fail
          go_roundg (gk - 1)
          case measure => have := HY.out; omega
          case rel => exact ⟨j + 1, by have := HY.out; omega, by go_num, HS2.out, F2⟩
        · have hjl : ¬ (j : Int) < (len : Int) := by omega
          have ha := all_any wr w.heap.size w.heap.size lab' V' ms' cs' _ hS
          clear y0 hS hcs h HS HF
          go_wp2_with fail
          refine ha.mono ?_
          rintro e w2 ⟨rfl, f2⟩
          have F2 := F.trans f2 fun _ _ e => e.elim
          go_wp2_with fail
          go_ret
          exact ⟨rfl, HE.out _ F2⟩

end Go.Proofs.YthbnbocpddddmaaGreat
