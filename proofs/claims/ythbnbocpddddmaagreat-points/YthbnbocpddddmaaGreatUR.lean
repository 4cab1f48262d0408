import Derived.Test.YthbnbocpddddmaaGreatQX
namespace Go.Proofs.YthbnbocpddddmaaGreat
open Go.RowKit

theorem dg_half {n : Nat} (h : 1 < n) : dg n = dg (n / 2) + 1 := by
  rw [dg]; rw [dif_neg (by omega)]
theorem dg_low {n : Nat} (h : n ≤ 1) : dg n = 1 := by
  rw [dg]; rw [dif_pos h]

theorem rows_none (j : Nat) : rows [] [] j = [] := by
  match j with
  | 0 => rfl
  | 1 => rfl
  | 2 => rfl
  | 3 => rfl
  | 4 => rfl
  | _ + 5 => rfl

/-- The shelf as it begins. -/
theorem sh_start (w : World) : Sh (w.alloc (.cells #[.slice none 0 0, .slice none 0 0, .slice none 0 0, .slice none 0 0, .slice none 0 0, .slice none 0 0] 90)) w.heap.size w.heap.size (fun _ => 0) (fun _ => .slice none 0 0) [] [] 0 :=
  ⟨⟨blk_new _ _, fun j _ => by rw [rows_none]; exact World.ownsRow_nil _ _ _ _, rfl, fun _ _ _ hx => (by cases hx), Nat.le_refl _⟩, fun i r hr => by simp at hr, fun n q hq => by simp at hq, by simp, by simp⟩

set_option maxRecDepth 100000 in
set_option maxHeartbeats 4000000 in
theorem play_new (w : World) (B S : Nat) (lab : Nat → Nat) (V : Nat → Value) (ms : List MR) (cs : List CR) (bd : Int) (h : Sh w B S lab V ms cs bd) (hbd : 0 ≤ bd)
    (mp ot en n a b : Int) (s t : ByteArray) (x y z : Nat) (n0 : -9223372036854775808 ≤ n) (n1 : n < 9223372036854775808) :
    Calls Tryz.prog 30 #[.pointer (some ⟨S, 0, none⟩), opV 1 mp ot en n a b s t x y z] w fun e w' => e = .returned (.bool true) ∧ (∃ lab V ms, Sh w' B S lab V ms cs bd) ∧ Fr (fun x => B ≤ x) w w' := by
  have A0 : Fr (fun _ => False) w (w.alloc (opBlk 1 mp ot en n a b s t x y z)) := Fr.alloc (Fr.refl _ _) _
  have hb := h.old A0
  obtain ⟨aP, cP, vP⟩ := own_shape (hb.x.own 0 (by omega))
  have nP : (rows ms cs 0).length = ms.length := List.length_map ..
  rw [nP] at vP
  have u0 : (w.alloc (opBlk 1 mp ot en n a b s t x y z)).cell? ⟨S, 0, none⟩ = some (.slice aP ms.length cP) := (cell_of hb.x.blk 0).trans (by rw [← vP]; rfl)
  by_cases h8 : 8 ≤ ms.length
  · have h8' : (8 : Int) ≤ (ms.length : Int) := by omega
    have HZ : Hid (∃ lab V ms, Sh (w.alloc (opBlk 1 mp ot en n a b s t x y z)) B S lab V ms cs bd) := ⟨lab, V, ms, hb⟩
    clear h hb vP nP n0 n1
    go_enter Tryz.func30, Tryz.ntmps30
    go_wp2_with fail
    go_ret
    exact ⟨rfl, HZ.out, A0.mono fun _ _ e => e.elim⟩
  · have h8' : ¬ (8 : Int) ≤ (ms.length : Int) := by omega
    by_cases hE : en = 0 ∨ en = 1
    · obtain ⟨g, hg⟩ : ∃ g, engI g = en := by
        rcases hE with rfl | rfl
        · exact ⟨false, rfl⟩
        · exact ⟨true, rfl⟩
      have hc := snew_good _ B S lab V ms cs bd hb (by omega) hbd n g n0 n1
      rw [hg] at hc
      clear h hb vP nP n0 n1 hE hg
      go_enter Tryz.func30, Tryz.ntmps30
      go_wp2_with fail
      refine hc.mono ?_
      rintro e w2 ⟨rfl, ⟨lab', V', r, hS⟩, f2⟩
      go_wp2_with fail
      go_ret
      exact ⟨rfl, ⟨lab', V', _, hS⟩, (A0.mono fun _ _ e => e.elim).trans f2 fun _ _ e => e⟩
    · have hc := snew_bad (w.alloc (opBlk 1 mp ot en n a b s t x y z)) S n en n0 n1 (fun e => hE (Or.inl e)) (fun e => hE (Or.inr e))
      have HZ : Hid (∀ w', Fr (fun _ => False) w w' → ∃ lab V ms, Sh w' B S lab V ms cs bd) := fun w' f => ⟨lab, V, ms, h.old f⟩
      clear h hb vP nP n0 n1 hE
      go_enter Tryz.func30, Tryz.ntmps30
      go_wp2_with fail
      refine hc.mono ?_
      rintro e w2 ⟨rfl, f2⟩
      have F := A0.trans f2 fun _ _ e => e
      go_wp2_with fail
      go_ret
      exact ⟨rfl, HZ.out _ F, F.mono fun _ _ e => e.elim⟩

end Go.Proofs.YthbnbocpddddmaaGreat

namespace Go.Proofs.YthbnbocpddddmaaGreat
open Go.RowKit

set_option maxRecDepth 100000 in
set_option maxHeartbeats 16000000 in
theorem play_few (w : World) (B S : Nat) (lab : Nat → Nat) (V : Nat → Value) (ms : List MR) (cs : List CR) (bd : Int) (h : Sh w B S lab V ms cs bd) (hbd : bd ≤ 7000000000000000000)
    (k mp ot en n a b : Int) (s t : ByteArray) (x y z : Nat) (hk : 2 ≤ k) (hk7 : k ≤ 7) (m0 : -9223372036854775808 ≤ mp) (m1 : mp < 9223372036854775808) (p0 : -9223372036854775808 ≤ ot) (p1 : ot < 9223372036854775808)
    (hdo : ∀ (w' : World) (lab' : Nat → Nat) (i j : Nat) (r q : MR), Sh w' B S lab' V ms cs bd → ms[i]? = some r → ms[j]? = some q → Calls Tryz.prog 79 #[.pointer (some ⟨S, 0, none⟩), opV k mp ot en n a b s t x y z, .int .i64 i, .int .i64 j] w' (Res w' B S lab' cs.length r bd fun m => (0 < r.xs.length → 1 ≤ m) ∧ (r.g = false → m ≤ 3 * dg (r.xs.length + 1)))) :
    Calls Tryz.prog 30 #[.pointer (some ⟨S, 0, none⟩), opV k mp ot en n a b s t x y z] w fun e w' => e = .returned (.bool true) ∧ (∃ lab V ms cs', Sh w' B S lab V ms cs' (bd + 5000000) ∧ cs'.length ≤ cs.length + 1) ∧ Fr (fun x => B ≤ x) w w' := by
  have A0 : Fr (fun _ => False) w (w.alloc (opBlk k mp ot en n a b s t x y z)) := Fr.alloc (Fr.refl _ _) _
  have hb := h.label A0 (fun x => if x < w.heap.size then lab x else 7) fun x hx => by simp only [if_pos hx]
  have L7 : (fun x => if x < w.heap.size then lab x else 7) w.heap.size = 7 := by simp only [if_neg (Nat.lt_irrefl _)]
  generalize (fun x => if x < w.heap.size then lab x else 7) = lab7 at *
  have hob := blk_new w (opBlk k mp ot en n a b s t x y z)
  obtain ⟨aP, cP, vP⟩ := own_shape (hb.x.own 0 (by omega))
  have nP : (rows ms cs 0).length = ms.length := List.length_map ..
  rw [nP] at vP
  have u0 : (w.alloc (opBlk k mp ot en n a b s t x y z)).cell? ⟨S, 0, none⟩ = some (.slice aP ms.length cP) := (cell_of hb.x.blk 0).trans (by rw [← vP]; rfl)
  have e1 : (k == 1) = false := by rw [beq_eq_false_iff_ne]; omega
  have d1 : ¬ k = 1 := by omega
  by_cases hz : ms.length = 0
  · rw [hz] at u0
    have HZ : Hid (∃ lab V ms cs', Sh (w.alloc (opBlk k mp ot en n a b s t x y z)) B S lab V ms cs' (bd + 5000000) ∧ cs'.length ≤ cs.length + 1) := ⟨lab7, V, ms, cs, hb.keep (Fr.refl (fun _ => False) _) (fun _ _ => rfl) (fun _ e => e.elim) (by omega), Nat.le_succ _⟩
    clear h hb hob vP nP hdo
    go_enter Tryz.func30, Tryz.ntmps30
    go_wp2_with fail
    go_ret
    exact ⟨rfl, HZ.out, A0.mono fun _ _ e => e.elim⟩
  · have hp := fun w' => lpick_any mp ms.length w' m0 m1 (by omega) (by have := h.n8; omega)
    have hq := fun w' => lpick_any ot ms.length w' p0 p1 (by omega) (by have := h.n8; omega)
    obtain ⟨i0, i1⟩ := pkn_b mp ms.length (by omega)
    obtain ⟨i, ei⟩ := Int.eq_ofNat_of_zero_le i0
    obtain ⟨j0, j1⟩ := pkn_b ot ms.length (by omega)
    obtain ⟨j, ej⟩ := Int.eq_ofNat_of_zero_le j0
    rw [ei] at hp i1
    rw [ej] at hq j1
    have hil : i < ms.length := by omega
    have hjl : j < ms.length := by omega
    obtain ⟨r, hr⟩ : ∃ r, ms[i]? = some r := ⟨_, List.getElem?_eq_getElem hil⟩
    obtain ⟨rj, hrj⟩ : ∃ r, ms[j]? = some r := ⟨_, List.getElem?_eq_getElem hjl⟩
    obtain ⟨q0, cap0, q1, cap1, R⟩ := hb.rd hr
    obtain ⟨g1, g2, g3, g4, g5, g6, g7⟩ := hb.m i r hr
    obtain ⟨aR, capR, hbR, hrR, _⟩ := g2.reads
    have hr5 : (rows ms cs 5)[i]? = some (.int .i64 (engI r.g)) := by show (ms.map _)[i]? = _; rw [List.getElem?_map, hr]; rfl
    obtain ⟨q5, cap5, v5, e5', _, _, _⟩ := hb.x.here 5 (by omega) hr5
    have n5 : (rows ms cs 5).length = ms.length := List.length_map ..
    rw [n5] at v5
    have u5 : (w.alloc (opBlk k mp ot en n a b s t x y z)).cell? ⟨S, 5, none⟩ = some (.slice (some ⟨q5, 0, none⟩) ms.length cap5) := (cell_of hb.x.blk 5).trans (by rw [← v5]; rfl)
    have hap : aP = some ⟨q0, 0, none⟩ ∧ cP = cap0 := by
      have := u0.symm.trans R.s0
      simpa using this
    obtain ⟨rfl, rfl⟩ := hap
    have o1 : (w.alloc (opBlk k mp ot en n a b s t x y z)).cell? ⟨w.heap.size, 1, none⟩ = some (.int .i64 mp) := cell_of hob 1
    have o2 : (w.alloc (opBlk k mp ot en n a b s t x y z)).cell? ⟨w.heap.size, 2, none⟩ = some (.int .i64 ot) := cell_of hob 2
    have hzi : ¬ (ms.length : Int) = 0 := by omega
    have hil' : (i : Int) < (ms.length : Int) := by omega
    have R1 := R.c0
    have R2 := R.s1
    have R3 := R.c1
    have R4 : (w.alloc (opBlk k mp ot en n a b s t x y z)).cell? ⟨r.rb, 2, none⟩ = some (.slice aR r.xs.length capR) := cell_of hbR 2
    have hL' : (r.xs.length : Int) ≤ 400 := by omega
    have e1 : (k == 1) = false := by rw [beq_eq_false_iff_ne]; omega
    have e8 : (k == 8) = false := by rw [beq_eq_false_iff_ne]; omega
    have e9 : (k == 9) = false := by rw [beq_eq_false_iff_ne]; omega
    have d1 : ¬ k = 1 := by omega
    have d8 : ¬ k = 8 := by omega
    have d9 : ¬ k = 9 := by omega
    have e3 : ¬ k < 2 := by omega
    have e4 : ¬ 9 < k := by omega
    go_enter Tryz.func30, Tryz.ntmps30
    go_wp2_with fail
    go_region_held3 (fun w' => w'.cell? ⟨w.heap.size, 1, none⟩ = some (.int .i64 mp) ∧ w'.cell? ⟨S, 0, none⟩ = some (.slice (some ⟨q0, 0, none⟩) ms.length cP))
      (first | exact ⟨o1, u0⟩)
      ((go_at_call 48; refine (hp _).mono ?_; rintro e w2 ⟨rfl, rfl⟩))
    go_wp2_with fail
    go_region_held3 (fun w' => w'.cell? ⟨w.heap.size, 2, none⟩ = some (.int .i64 ot) ∧ w'.cell? ⟨S, 0, none⟩ = some (.slice (some ⟨q0, 0, none⟩) ms.length cP))
      (first | exact ⟨o2, u0⟩)
      ((go_at_call 48; refine (hq _).mono ?_; rintro e w2 ⟨rfl, rfl⟩))
    go_wp2_with fail
    have hd := dg_le (r.xs.length + 1)
    have D2 : Fr (fun _ => False) (w.alloc (opBlk k mp ot en n a b s t x y z)) (w.alloc (opBlk k mp ot en n a b s t x y z)).drew.drew := Fr.drew (Fr.drew (Fr.refl _ _))
    have FA : Fr (fun _ => False) w (w.alloc (opBlk k mp ot en n a b s t x y z)).drew.drew := A0.trans D2 fun _ _ e => e
    have hob2 := D2.kept hob fun e => e
    have hS2 := hb.old D2
    have hM2 := g1.fr D2 fun _ _ e => e
    have HH : Hid (0 ≤ r.c ∧ r.c ≤ bd ∧ bd ≤ 7000000000000000000) := ⟨g6, g7, hbd⟩
    have hdo2 := hdo _ lab7 i j r rj hS2 hr hrj
    clear h hb hob vP nP hdo R hbR hrR v5 n5 hr5 g1 g2 g3 g4 g6 g7 m0 m1 p0 p1 i0 i1 j0 j1 ei ej hp hq hS2 hr hrj A0
    go_loopg [9, 10] r.xs.length (fun gk s9 s10 wr => ∃ (nn mo : Nat), nn ≤ gk + 1 ∧ 1 ≤ nn ∧ nn ≤ 401 ∧ s10 = .int .i64 nn ∧ s9 = .int .i64 mo ∧ mo + 3 * dg nn = 3 * dg (r.xs.length + 1) + 3 ∧ wr = (w.alloc (opBlk k mp ot en n a b s t x y z)).drew.drew)
    case atStart => exact ⟨r.xs.length + 1, 3, by omega, by omega, by omega, by go_num, rfl, by omega, rfl⟩
    case round =>
      obtain ⟨nn, mo, y0, y1, y2, rfl, rfl, y3, rfl⟩ := hrel
      by_cases hn : nn ≤ 1
      · have hmo : mo = 3 * dg (r.xs.length + 1) := by rw [dg_low hn] at y3; omega
        have hmo2 : mo ≤ 2000 := by omega
        have hn' : ¬ (1 : Int) < (nn : Int) := by omega
        have HM : Hid (mo = 3 * dg (r.xs.length + 1)) := hmo
        clear y0 y1 y2 y3 hn hmo hd
        go_wp2_with fail
        refine (compared_anyG r.g r.pm r.t r.c r.oP r.xs _ hM2).mono ?_
        rintro e w3 ⟨rfl, rfl⟩
        go_wp2_with fail
        refine hdo2.mono ?_
        rintro e w4 ⟨rfl, hS4, ⟨n4, o4, y4, M4, b4, k4⟩, f4⟩
        have ob4 := f4.kept hob2 fun e => e.2 L7
        have o40 : w4.cell? ⟨w.heap.size, 0, none⟩ = some (.int .i64 k) := cell_of ob4 0
        clear hob2 ob4 hdo2 hM2 R1 R2 R3 R4 u0 u5 e5' o1 o2
        have hcp := compared_anyG r.g r.pm r.t (r.c + (n4 : Int)) o4 y4 w4 M4
        have HZ : Hid (∃ lab V ms cs', Sh w4 B S lab V ms cs' (bd + 5000000) ∧ cs'.length ≤ cs.length + 1) := hS4
        have FZ : Fr (fun x => B ≤ x) w w4 := (FA.mono fun _ _ e => e.elim).trans f4 fun x _ e => e.1
        obtain ⟨k41, k42⟩ := k4
        obtain ⟨hc0, hc1, hc2⟩ := HH.out
        have b4' : (n4 : Int) ≤ 5000000 := by omega
        have c1 : r.c ≤ r.c + (n4 : Int) := by omega
        have hm : r.g = false → (n4 : Int) ≤ (mo : Int) := fun e => by have := k42 e; have := HM.out; omega
        by_cases hl0 : r.xs.length = 0
        · have hl1 : ¬ (0 : Int) < (r.xs.length : Int) := by omega
          have hl2 : (r.xs.length : Int) = 0 := by omega
          clear M4 hS4 k41 k42 f4
          by_cases hn4 : n4 = 0
          · have c2 : ¬ r.c < r.c + (n4 : Int) := by omega
            cases hg : r.g
            · have hm' := hm hg
              have hs4 : r.c + (n4 : Int) - r.c ≤ (mo : Int) := by omega
              have hE : engI r.g = 0 := by rw [hg]; rfl
              rw [hE] at *
              go_wp2_with fail
              refine hcp.mono ?_
              rintro e w5 ⟨rfl, rfl⟩
              go_wp2_with fail
              all_goals
                go_ret
                exact ⟨rfl, HZ.out, FZ⟩
            · have hE : engI r.g = 1 := by rw [hg]; rfl
              rw [hE] at *
              go_wp2_with fail
              refine hcp.mono ?_
              rintro e w5 ⟨rfl, rfl⟩
              go_wp2_with fail
              all_goals
                go_ret
                exact ⟨rfl, HZ.out, FZ⟩
          · have c2 : r.c < r.c + (n4 : Int) := by omega
            cases hg : r.g
            · have hm' := hm hg
              have hs4 : r.c + (n4 : Int) - r.c ≤ (mo : Int) := by omega
              have hE : engI r.g = 0 := by rw [hg]; rfl
              rw [hE] at *
              go_wp2_with fail
              refine hcp.mono ?_
              rintro e w5 ⟨rfl, rfl⟩
              go_wp2_with fail
              all_goals
                go_ret
                exact ⟨rfl, HZ.out, FZ⟩
            · have hE : engI r.g = 1 := by rw [hg]; rfl
              rw [hE] at *
              go_wp2_with fail
              refine hcp.mono ?_
              rintro e w5 ⟨rfl, rfl⟩
              go_wp2_with fail
              all_goals
                go_ret
                exact ⟨rfl, HZ.out, FZ⟩
        · have hl1 : (0 : Int) < (r.xs.length : Int) := by omega
          have hn4 : 1 ≤ n4 := k41 (by omega)
          have c2 : r.c < r.c + (n4 : Int) := by omega
          clear M4 hS4 k41 k42 f4
          cases hg : r.g
          · have hm' := hm hg
            have hs4 : r.c + (n4 : Int) - r.c ≤ (mo : Int) := by omega
            have hE : engI r.g = 0 := by rw [hg]; rfl
            rw [hE] at *
            go_wp2_with fail
            refine hcp.mono ?_
            rintro e w5 ⟨rfl, rfl⟩
            go_wp2_with fail
            all_goals
              go_ret
              exact ⟨rfl, HZ.out, FZ⟩
          · have hE : engI r.g = 1 := by rw [hg]; rfl
            rw [hE] at *
            go_wp2_with fail
            refine hcp.mono ?_
            rintro e w5 ⟨rfl, rfl⟩
            go_wp2_with fail
            all_goals
              go_ret
              exact ⟨rfl, HZ.out, FZ⟩
      · have hn' : (1 : Int) < (nn : Int) := by omega
        have hY : Hid (nn ≤ gk + 1 ∧ 1 ≤ nn ∧ nn ≤ 401 ∧ mo + 3 * dg nn = 3 * dg (r.xs.length + 1) + 3 ∧ ¬ nn ≤ 1) := ⟨y0, y1, y2, y3, hn⟩
        have hmo2 : mo ≤ 2000 := by omega
        clear y0 y1 y3 hd hdo2
        go_wp2_with fail
        obtain ⟨y0, y1, y2, y3, hn⟩ := hY.out
        go_roundg (nn / 2 - 1)
        case measure => omega
        case rel =>
          rw [dg_half (by omega)] at y3
          exact ⟨nn / 2, mo + 3, by omega, by omega, by omega, by go_num, by go_num, by omega, rfl⟩

end Go.Proofs.YthbnbocpddddmaaGreat
