import Derived.Test.YthbnbocpddddmaaGreatQK
import Derived.Laws.AppendOwnNone
namespace Go.Proofs.YthbnbocpddddmaaGreat
open Go.RowKit

/-- The place of what Above, Below give. -/
def labv (t : Bool) (k : Int) (sm : Bool) (xs : Row) : Nat := lrank t k xs + (if lsame k xs = true ∧ sm = false then 1 else 0)

theorem labv_lt {t : Bool} {k : Int} {sm : Bool} {xs : Row} (h : Srt t xs) {i : Nat} {p : Int × Int} (hp : xs[i]? = some p) (hi : i < labv t k sm xs) : side t p.1 k < 0 ∨ (side t p.1 k = 0 ∧ sm = false) := by
  unfold labv at hi
  by_cases hr : i < lrank t k xs
  · left
    refine side_neg.2 ((take_below h).1 p (List.mem_of_getElem? (i := i) ?_))
    rw [List.getElem?_take_of_lt hr]; exact hp
  · right
    by_cases hc : lsame k xs = true ∧ sm = false
    · rw [if_pos hc] at hi
      have : i = lrank t k xs := by omega
      subst this
      obtain ⟨v, hv, e⟩ := at_rank h hc.1
      rw [hv] at hp; cases hp
      exact ⟨side_zero.2 e, hc.2⟩
    · rw [if_neg hc] at hi; omega

theorem labv_ge {t : Bool} {k : Int} {sm : Bool} {xs : Row} (h : Srt t xs) {i : Nat} {p : Int × Int} (hi : labv t k sm xs ≤ i) (hp : xs[i]? = some p) : 0 < side t p.1 k ∨ (side t p.1 k = 0 ∧ sm = true) := by
  have hle : lrank t k xs ≤ labv t k sm xs := by unfold labv; omega
  have hd : ¬ side t p.1 k < 0 := by
    intro c
    have : p ∈ xs.drop (lrank t k xs) := List.mem_of_getElem? (i := i - lrank t k xs) (by rw [List.getElem?_drop, show lrank t k xs + (i - lrank t k xs) = i by omega]; exact hp)
    have := (take_below (k := k) h).2 p this
    rw [side_neg.1 c] at this; cases this
  by_cases hz : side t p.1 k = 0
  · right
    refine ⟨hz, ?_⟩
    cases sm with
    | true => rfl
    | false =>
      exfalso
      have hk := side_zero.1 hz
      have hs : lsame k xs = true := by rw [lsame, List.any_eq_true]; exact ⟨p, List.mem_of_getElem? hp, by simpa using hk⟩
      obtain ⟨v, hv, ev⟩ := at_rank h hs
      have e : labv t k false xs = lrank t k xs + 1 := by unfold labv; rw [if_pos ⟨hs, rfl⟩]
      have h1 := (List.getElem?_eq_some_iff.1 hv).1
      obtain ⟨h2, e2⟩ := List.getElem?_eq_some_iff.1 hp
      have := List.pairwise_iff_getElem.1 h (lrank t k xs) i h1 h2 (by omega)
      rw [e2, less_r hk] at this
      have hv' := (List.getElem?_eq_some_iff.1 hv).2
      rw [hv', less_l ev, less_irr] at this; cases this
  · left; omega

theorem labv_le {t : Bool} {k : Int} {sm : Bool} {xs : Row} (h : Srt t xs) : labv t k sm xs ≤ xs.length := by
  rcases Nat.lt_or_ge (lrank t k xs) xs.length with g | g
  · unfold labv; split <;> omega
  · have := same_out h g; have := lrank_le t k xs; unfold labv; rw [if_neg (by simp [*])]; omega

set_option maxRecDepth 100000 in
set_option maxHeartbeats 1600000 in
theorem rget_any (b : Nat) (t : Bool) (a : Option Addr) (cap : Nat) (xs : Row) (k : Int) (w : World) (hb : w.heap[b]? = some (refBlk t a xs.length cap)) (hr : RowAt w a xs) (hsr : Srt t xs) (hl : xs.length ≤ 4000) :
    Calls Tryz.prog 122 #[.pointer (some ⟨b, 0, none⟩), rkey k] w fun e w' => e = .returned (.tuple #[rval (lget t k xs), .bool (lsame k xs)]) ∧ Fr (fun _ => False) w w' := by
  have hF : Fr (fun _ => False) w ((w.alloc (.cells #[.int .i64 0, s0, fx k, fy k] 66)).alloc (.cells #[.int .i64 0, f0, f0] 161)) := Fr.alloc (Fr.alloc (Fr.refl _ _) _) _
  have hb := (hF.block b (lt_of_blk hb) (fun e => e)).trans hb
  have hr := hr.fr hF fun _ _ _ e => e
  have hhas := rhas_any b t a cap xs k _ hb hr hsr hl
  have hsf := store_f0
  have HF : Hid (Fr (fun _ => False) w ((w.alloc (.cells #[.int .i64 0, s0, fx k, fy k] 66)).alloc (.cells #[.int .i64 0, f0, f0] 161))) := hF
  unfold lhas at hhas
  unfold lget
  cases hsm : lsame k xs with
  | true =>
    obtain ⟨⟨kq, v⟩, hv, _⟩ := at_rank hsr hsm
    rw [hsm] at hhas
    simp only [if_true] at hhas ⊢
    rw [hv]
    simp only [Option.getD_some]
    have hr' := hr
    have hi0 : ¬ ((lrank t k xs : Int) < 0) := by omega
    have hlt := (List.getElem?_eq_some_iff.1 hv).1
    have hi1 : (lrank t k xs : Int) < (xs.length : Int) := by omega
    have hz0 := blk_new (w.alloc (.cells #[.int .i64 0, s0, fx k, fy k] 66)) (.cells #[.int .i64 0, f0, f0] 161)
    rw [World.size_alloc] at hz0
    generalize lrank t k xs = j at *
    rcases hr' with rfl | ⟨g, off, rfl, hg, hc⟩
    · simp at hv
    have k4 := hc j _ hv 4 _ rfl
    have k5 := hc j _ hv 5 _ rfl
    have k6 := hc j _ hv 6 _ rfl
    have c2 := cell_of hb 2
    clear hF hc hv hsm hr hsr hl hlt hb hg
    go_enter Tryz.func122, Tryz.ntmps122
    go_wp2_with fail
    refine hhas.mono ?_
    rintro e wr ⟨rfl, F⟩
    have k4 : wr.cell? ⟨g, off + j * 7 + 4, none⟩ = some (.int .i64 0) := F.get k4
    have k5 : wr.cell? ⟨g, off + j * 7 + 5, none⟩ = some (fx v) := F.get k5
    have k6 : wr.cell? ⟨g, off + j * 7 + 6, none⟩ = some (fy v) := F.get k6
    have c2 : wr.cell? ⟨b, 2, none⟩ = some (.slice (some ⟨g, off, none⟩) xs.length cap) := F.get c2
    have hz := (F.block (w.heap.size + 1) (by simp) (fun e => e)).trans hz0
    have n0 : wr.cell? ⟨w.heap.size + 1, 0, none⟩ = some (.int .i64 0) := cell_of hz 0
    have n1 : wr.cell? ⟨w.heap.size + 1, 1, none⟩ = some f0 := cell_of hz 1
    have n2 : wr.cell? ⟨w.heap.size + 1, 2, none⟩ = some f0 := cell_of hz 2
    have z0 : wr.frozen? ⟨w.heap.size + 1, 0, none⟩ = false := frozen_of hz 0
    have z1 : wr.frozen? ⟨w.heap.size + 1, 1, none⟩ = false := frozen_of hz 1
    have z2 : wr.frozen? ⟨w.heap.size + 1, 2, none⟩ = false := frozen_of hz 2
    clear hz hz0
    clear hhas
    go_wp2_with fail
    refine bodyPost_ret (v := .tuple #[rval v, .bool true]) (by simp [results, Tryz.results122, go_sem, *]) rfl ⟨rfl, ?_⟩
    have nb : w.heap.size + 1 < w.heap.size → False := by omega
    exact Fr.setCell (Fr.setCell (Fr.setCell (HF.out.trans F fun _ _ e => e) (by exact nb) _) (by exact nb) _) (by exact nb) _
  | false =>
    rw [hsm] at hhas
    simp only [Bool.false_eq_true, if_false] at hhas ⊢
    have hz0 := blk_new (w.alloc (.cells #[.int .i64 0, s0, fx k, fy k] 66)) (.cells #[.int .i64 0, f0, f0] 161)
    rw [World.size_alloc] at hz0
    clear hF hsm hr hsr hl hb
    go_enter Tryz.func122, Tryz.ntmps122
    go_wp2_with fail
    refine hhas.mono ?_
    rintro e wr ⟨rfl, F⟩
    have hz := (F.block (w.heap.size + 1) (by simp) (fun e => e)).trans hz0
    have n0 : wr.cell? ⟨w.heap.size + 1, 0, none⟩ = some (.int .i64 0) := cell_of hz 0
    have n1 : wr.cell? ⟨w.heap.size + 1, 1, none⟩ = some f0 := cell_of hz 1
    have n2 : wr.cell? ⟨w.heap.size + 1, 2, none⟩ = some f0 := cell_of hz 2
    have z0 : wr.frozen? ⟨w.heap.size + 1, 0, none⟩ = false := frozen_of hz 0
    have z1 : wr.frozen? ⟨w.heap.size + 1, 1, none⟩ = false := frozen_of hz 1
    have z2 : wr.frozen? ⟨w.heap.size + 1, 2, none⟩ = false := frozen_of hz 2
    clear hz hz0
    clear hhas
    go_wp2_with fail
    refine bodyPost_ret (v := .tuple #[.agg #[.int .i64 0, f0, f0], .bool false]) (by simp [results, Tryz.results122, go_sem, *]) rfl ⟨rfl, ?_⟩
    have nb : w.heap.size + 1 < w.heap.size → False := by omega
    exact Fr.setCell (Fr.setCell (Fr.setCell (HF.out.trans F fun _ _ e => e) (by exact nb) _) (by exact nb) _) (by exact nb) _

set_option maxRecDepth 100000 in
set_option maxHeartbeats 3200000 in
theorem rabove_any (b : Nat) (t : Bool) (a : Option Addr) (cap : Nat) (xs : Row) (k : Int) (sm : Bool) (w : World) (hb : w.heap[b]? = some (refBlk t a xs.length cap)) (hr : RowAt w a xs) (hsr : Srt t xs) (hl : xs.length ≤ 4000) :
    Calls Tryz.prog 104 #[.pointer (some ⟨b, 0, none⟩), rkey k, .bool sm] w fun e w' => e = .returned (.tuple #[.agg #[.int .i64 0, s0, fx (latK xs (labv t k sm xs)), fy (latK xs (labv t k sm xs)), .int .i64 0, fx (latV xs (labv t k sm xs)), fy (latV xs (labv t k sm xs))], .bool (latB xs (labv t k sm xs))]) ∧ Fr (fun _ => False) w w' := by
  have hF : Fr (fun _ => False) w ((w.alloc (.cells #[.int .i64 0, s0, fx k, fy k] 66)).alloc z7) := Fr.alloc (Fr.alloc (Fr.refl _ _) _) _
  have hb := (hF.block b (lt_of_blk hb) (fun e => e)).trans hb
  have hr := hr.fr hF fun _ _ _ e => e
  have hq : ((w.alloc (.cells #[.int .i64 0, s0, fx k, fy k] 66)).alloc z7).heap[w.heap.size]? = some (.cells #[.int .i64 0, s0, fx k, fy k] 66 (0, 0)) := by
    rw [Below.heap_alloc _ _ _ (by simp)]; exact blk_new _ _
  have hz : ((w.alloc (.cells #[.int .i64 0, s0, fx k, fy k] 66)).alloc z7).heap[w.heap.size + 1]? = some z7 := by
    have := blk_new (w.alloc (.cells #[.int .i64 0, s0, fx k, fy k] 66)) z7
    rw [World.size_alloc] at this; exact this
  have HF : Hid (Fr (fun _ => False) w ((w.alloc (.cells #[.int .i64 0, s0, fx k, fy k] 66)).alloc z7)) := hF
  have hsf := store_f0
  have hl4 : (xs.length : Int) ≤ 4000 := by omega
  clear hF
  unfold z7 at *
  have nb : w.heap.size + 1 < w.heap.size → False := by omega
  have HNB : Hid (w.heap.size + 1 < w.heap.size → False) := nb
  clear nb
  have hle := labv_le (t := t) (k := k) (sm := sm) hsr
  obtain ⟨R, hRe⟩ : ∃ R, R = labv t k sm xs := ⟨_, rfl⟩
  have HL : Hid (∀ (i : Nat) (p : Int × Int), xs[i]? = some p → i < R → side t p.1 k < 0 ∨ (side t p.1 k = 0 ∧ sm = false)) := fun i p hp hi => by have := labv_lt hsr hp (by omega : i < labv t k sm xs); simpa using this
  have HA : Hid (∀ (i : Nat) (p : Int × Int), R ≤ i → xs[i]? = some p → 0 < side t p.1 k ∨ (side t p.1 k = 0 ∧ sm = true)) := fun i p hi hp => by have := labv_ge hsr (by omega : labv t k sm xs ≤ i) hp; simpa using this
  rw [← hRe] at hle ⊢
  clear hRe
  generalize hw1 : (w.alloc (.cells #[.int .i64 0, s0, fx k, fy k] 66)).alloc (.cells #[.int .i64 0, s0, f0, f0, .int .i64 0, f0, f0] 163) = w1 at *
  rcases Nat.lt_or_ge R xs.length with hR | hR
  · obtain ⟨pR, hpR⟩ : ∃ p, xs[R]? = some p := ⟨_, List.getElem?_eq_getElem hR⟩
    obtain ⟨l1, l2, l3⟩ := lat_in hpR
    rw [l1, l2, l3]
    have HPR : Hid (xs[R]? = some pR) := hpR
    clear hpR l1 l2 l3
    go_enter Tryz.func104, Tryz.ntmps104
    go_wp2_with fail
    go_loopg [8] (R + 1) (fun gk s8 wr => ∃ j : Nat, gk + j = R + 1 ∧ j ≤ R ∧ s8 = .int .i64 j ∧ Fr (fun _ => False) w1 wr)
    case atStart => exact ⟨0, by omega, by omega, rfl, by first | exact Fr.refl _ _ | (rw [← hw1]; exact Fr.refl _ _)⟩
    case round =>
      obtain ⟨j, y0, y1, rfl, F⟩ := hrel
      have hj : j < xs.length := by omega
      have HY : Hid (gk + j = R + 1 ∧ j ≤ R) := ⟨y0, y1⟩
      have hb' := (F.block b (lt_of_blk hb) (fun e => e)).trans hb
      have c0 : wr.cell? ⟨b, 0, none⟩ = some (.int .i64 3) := cell_of hb' 0
      have c1 : wr.cell? ⟨b, 1, none⟩ = some (.bool t) := cell_of hb' 1
      have c2 : wr.cell? ⟨b, 2, none⟩ = some (.slice a xs.length cap) := cell_of hb' 2
      have hr' := hr.fr F fun _ _ _ e => e
      have hq' := (F.block w.heap.size (lt_of_blk hq) (fun e => e)).trans hq
      have q0 : wr.cell? ⟨w.heap.size, 0, none⟩ = some (.int .i64 0) := cell_of hq' 0
      have q1 : wr.cell? ⟨w.heap.size, 1, none⟩ = some s0 := cell_of hq' 1
      have q2 : wr.cell? ⟨w.heap.size, 2, none⟩ = some (fx k) := cell_of hq' 2
      have q3 : wr.cell? ⟨w.heap.size, 3, none⟩ = some (fy k) := cell_of hq' 3
      obtain ⟨p, hp⟩ : ∃ p, xs[j]? = some p := ⟨_, List.getElem?_eq_getElem hj⟩
      have hj1 : (j : Int) < (xs.length : Int) := by omega
      have hcmp := fun w => rcompare_any t p.1 k w
      rcases hr' with rfl | ⟨g, off, rfl, hg, hc⟩
      · simp at hj
      have k0 : wr.cell? ⟨g, off + j * 7, none⟩ = some (.int .i64 0) := hc j p hp 0 _ rfl
      have k1 : wr.cell? ⟨g, off + j * 7 + 1, none⟩ = some s0 := hc j p hp 1 _ rfl
      have k2 : wr.cell? ⟨g, off + j * 7 + 2, none⟩ = some (fx p.1) := hc j p hp 2 _ rfl
      have k3 : wr.cell? ⟨g, off + j * 7 + 3, none⟩ = some (fy p.1) := hc j p hp 3 _ rfl
      have HC0 : Hid (∀ w', Fr (fun _ => False) wr.drew w' → w'.cell? ⟨g, off + j * 7 + 4, none⟩ = some (.int .i64 0) ∧ w'.cell? ⟨g, off + j * 7 + 5, none⟩ = some (fx p.2) ∧ w'.cell? ⟨g, off + j * 7 + 6, none⟩ = some (fy p.2)) := fun w' f => ⟨f.get (hc j p hp 4 _ rfl), f.get (hc j p hp 5 _ rfl), f.get (hc j p hp 6 _ rfl)⟩
      have HS0 : Hid ((j < R → side t p.1 k < 0 ∨ (side t p.1 k = 0 ∧ sm = false)) ∧ (j = R → (0 < side t p.1 k ∨ (side t p.1 k = 0 ∧ sm = true)) ∧ p = pR)) :=
        ⟨fun h => HL.out j p hp h, fun h => by subst h; exact ⟨HA.out j p (Nat.le_refl _) hp, by have := HPR.out; rw [hp] at this; exact Option.some.inj this⟩⟩
      have HZ : Hid (w1.heap[w.heap.size + 1]? = some (.cells #[.int .i64 0, s0, f0, f0, .int .i64 0, f0, f0] 163 (0, 0))) := hz
      clear hc hg hb hr hb' hq hq' hw1 hp hj hsr hl hz hle hR y0 y1
      generalize side t p.1 k = sd at *
      go_wp2_with fail
      go_region_held3 (fun w' => w'.cell? ⟨b, 0, none⟩ = some (.int .i64 3) ∧ w'.cell? ⟨b, 1, none⟩ = some (.bool t) ∧ w'.cell? ⟨b, 2, none⟩ = some (.slice (some ⟨g, off, none⟩) xs.length cap) ∧
                  w'.cell? ⟨g, off + j * 7, none⟩ = some (.int .i64 0) ∧ w'.cell? ⟨g, off + j * 7 + 1, none⟩ = some s0 ∧ w'.cell? ⟨g, off + j * 7 + 2, none⟩ = some (fx p.1) ∧ w'.cell? ⟨g, off + j * 7 + 3, none⟩ = some (fy p.1) ∧
                  w'.cell? ⟨w.heap.size, 0, none⟩ = some (.int .i64 0) ∧ w'.cell? ⟨w.heap.size, 1, none⟩ = some s0 ∧ w'.cell? ⟨w.heap.size, 2, none⟩ = some (fx k) ∧ w'.cell? ⟨w.heap.size, 3, none⟩ = some (fy k))
                (first | exact ⟨c0, c1, c2, k0, k1, k2, k3, q0, q1, q2, q3⟩ | exact ⟨fr.get c0, fr.get c1, fr.get c2, fr.get k0, fr.get k1, fr.get k2, fr.get k3, fr.get q0, fr.get q1, fr.get q2, fr.get q3⟩)
                ((go_at_call 22; refine (hcmp _).mono ?_; rintro e w3 ⟨rfl, fr⟩))
      have F := Fr.trans (S' := fun _ => False) (Fr.drew F) fr fun _ _ e => e
      obtain ⟨k4, k5, k6⟩ := HC0.out _ fr
      have k0 : w3.cell? ⟨g, off + j * 7, none⟩ = some (.int .i64 0) := fr.get k0
      have k1 : w3.cell? ⟨g, off + j * 7 + 1, none⟩ = some s0 := fr.get k1
      have k2 : w3.cell? ⟨g, off + j * 7 + 2, none⟩ = some (fx p.1) := fr.get k2
      have k3 : w3.cell? ⟨g, off + j * 7 + 3, none⟩ = some (fy p.1) := fr.get k3
      have c2 : w3.cell? ⟨b, 2, none⟩ = some (.slice (some ⟨g, off, none⟩) xs.length cap) := fr.get c2
      clear fr q0 q1 q2 q3 c0 c1
      rcases Nat.lt_or_ge j R with hjR | hjR
      · have hs := HS0.out.1 hjR
        have hd1 : decide (0 < sd) = false := by simp; omega
        clear k0 k1 k2 k3 k4 k5 k6 c2
        rcases hs with hs | ⟨hs, hs2⟩
        · have hd2 : (sd == 0) = false := by rw [beq_eq_false_iff_ne]; omega
          clear hs
          go_wp2_with fail
          go_roundg (gk - 1)
          case measure => have := HY.out; omega
          case rel => exact ⟨j + 1, by have := HY.out; omega, by omega, by go_num, F⟩
        · subst hs
          subst hs2
          go_wp2_with fail
          go_roundg (gk - 1)
          case measure => have := HY.out; omega
          case rel => exact ⟨j + 1, by have := HY.out; omega, by omega, by go_num, F⟩
      · have ej : j = R := by have := HY.out; omega
        obtain ⟨hs, hpp⟩ := HS0.out.2 ej
        subst hpp
        have hz := HZ.out
        have hz' := (F.block (w.heap.size + 1) (lt_of_blk hz) (fun e => e)).trans hz
        have n0 : w3.cell? ⟨w.heap.size + 1, 0, none⟩ = some (.int .i64 0) := cell_of hz' 0
        have n1 : w3.cell? ⟨w.heap.size + 1, 1, none⟩ = some s0 := cell_of hz' 1
        have n2 : w3.cell? ⟨w.heap.size + 1, 2, none⟩ = some f0 := cell_of hz' 2
        have n3 : w3.cell? ⟨w.heap.size + 1, 3, none⟩ = some f0 := cell_of hz' 3
        have n4 : w3.cell? ⟨w.heap.size + 1, 4, none⟩ = some (.int .i64 0) := cell_of hz' 4
        have n5 : w3.cell? ⟨w.heap.size + 1, 5, none⟩ = some f0 := cell_of hz' 5
        have n6 : w3.cell? ⟨w.heap.size + 1, 6, none⟩ = some f0 := cell_of hz' 6
        have hfz : ∀ o, w3.frozen? ⟨w.heap.size + 1, o, none⟩ = false := fun o => frozen_of hz' o
        clear hz'
        clear hz ej hjR
        rcases hs with hs | ⟨hs, hs2⟩
        · go_wp2_with fail
          refine bodyPost_ret (v := .tuple #[.agg #[.int .i64 0, s0, fx p.1, fy p.1, .int .i64 0, fx p.2, fy p.2], .bool true]) (by simp [results, Tryz.results104, go_sem, *]) rfl ⟨rfl, ?_⟩
          have nb := HNB.out
          have F0 := HF.out.trans F fun _ _ e => e
          exact Fr.setCell (Fr.setCell (Fr.setCell (Fr.setCell (Fr.setCell (Fr.setCell (Fr.setCell (F0) (by exact nb) _) (by exact nb) _) (by exact nb) _) (by exact nb) _) (by exact nb) _) (by exact nb) _) (by exact nb) _
        · subst hs
          subst hs2
          go_wp2_with fail
          refine bodyPost_ret (v := .tuple #[.agg #[.int .i64 0, s0, fx p.1, fy p.1, .int .i64 0, fx p.2, fy p.2], .bool true]) (by simp [results, Tryz.results104, go_sem, *]) rfl ⟨rfl, ?_⟩
          have nb := HNB.out
          have F0 := HF.out.trans F fun _ _ e => e
          exact Fr.setCell (Fr.setCell (Fr.setCell (Fr.setCell (Fr.setCell (Fr.setCell (Fr.setCell (F0) (by exact nb) _) (by exact nb) _) (by exact nb) _) (by exact nb) _) (by exact nb) _) (by exact nb) _) (by exact nb) _
  · have hRl : R = xs.length := by omega
    have l1 : latK xs R = 0 := by unfold latK; rw [if_neg (by omega)]
    have l2 : latV xs R = 0 := by unfold latV; rw [if_neg (by omega)]
    have l3 : latB xs R = false := by unfold latB; rw [if_neg (by omega)]
    rw [l1, l2, l3]
    clear l1 l2 l3
    go_enter Tryz.func104, Tryz.ntmps104
    go_wp2_with fail
    go_loopg [8] xs.length (fun gk s8 wr => ∃ j : Nat, gk + j = xs.length ∧ s8 = .int .i64 j ∧ Fr (fun _ => False) w1 wr)
    case atStart => exact ⟨0, by omega, rfl, by first | exact Fr.refl _ _ | (rw [← hw1]; exact Fr.refl _ _)⟩
    case round =>
      obtain ⟨j, y0, rfl, F⟩ := hrel
      by_cases hj : j < xs.length
      · have HY : Hid (gk + j = xs.length ∧ j < xs.length) := ⟨y0, hj⟩
        have hb' := (F.block b (lt_of_blk hb) (fun e => e)).trans hb
        have c0 : wr.cell? ⟨b, 0, none⟩ = some (.int .i64 3) := cell_of hb' 0
        have c1 : wr.cell? ⟨b, 1, none⟩ = some (.bool t) := cell_of hb' 1
        have c2 : wr.cell? ⟨b, 2, none⟩ = some (.slice a xs.length cap) := cell_of hb' 2
        have hr' := hr.fr F fun _ _ _ e => e
        have hq' := (F.block w.heap.size (lt_of_blk hq) (fun e => e)).trans hq
        have q0 : wr.cell? ⟨w.heap.size, 0, none⟩ = some (.int .i64 0) := cell_of hq' 0
        have q1 : wr.cell? ⟨w.heap.size, 1, none⟩ = some s0 := cell_of hq' 1
        have q2 : wr.cell? ⟨w.heap.size, 2, none⟩ = some (fx k) := cell_of hq' 2
        have q3 : wr.cell? ⟨w.heap.size, 3, none⟩ = some (fy k) := cell_of hq' 3
        obtain ⟨p, hp⟩ : ∃ p, xs[j]? = some p := ⟨_, List.getElem?_eq_getElem hj⟩
        have hj1 : (j : Int) < (xs.length : Int) := by omega
        have hcmp := fun w => rcompare_any t p.1 k w
        rcases hr' with rfl | ⟨g, off, rfl, hg, hc⟩
        · simp at hj
        have k0 : wr.cell? ⟨g, off + j * 7, none⟩ = some (.int .i64 0) := hc j p hp 0 _ rfl
        have k1 : wr.cell? ⟨g, off + j * 7 + 1, none⟩ = some s0 := hc j p hp 1 _ rfl
        have k2 : wr.cell? ⟨g, off + j * 7 + 2, none⟩ = some (fx p.1) := hc j p hp 2 _ rfl
        have k3 : wr.cell? ⟨g, off + j * 7 + 3, none⟩ = some (fy p.1) := hc j p hp 3 _ rfl
        have HC0 : Hid (∀ w', Fr (fun _ => False) wr.drew w' → w'.cell? ⟨g, off + j * 7 + 4, none⟩ = some (.int .i64 0) ∧ w'.cell? ⟨g, off + j * 7 + 5, none⟩ = some (fx p.2) ∧ w'.cell? ⟨g, off + j * 7 + 6, none⟩ = some (fy p.2)) := fun w' f => ⟨f.get (hc j p hp 4 _ rfl), f.get (hc j p hp 5 _ rfl), f.get (hc j p hp 6 _ rfl)⟩
        have HS0 : Hid (side t p.1 k < 0 ∨ (side t p.1 k = 0 ∧ sm = false)) := HL.out j p hp (by omega)
        have HZ : Hid (w1.heap[w.heap.size + 1]? = some (.cells #[.int .i64 0, s0, f0, f0, .int .i64 0, f0, f0] 163 (0, 0))) := hz
        clear hc hg hb hr hb' hq hq' hw1 hp hj hsr hl hz hle hR y0 hRl
        generalize side t p.1 k = sd at *
        go_wp2_with fail
        go_region_held3 (fun w' => w'.cell? ⟨b, 0, none⟩ = some (.int .i64 3) ∧ w'.cell? ⟨b, 1, none⟩ = some (.bool t) ∧ w'.cell? ⟨b, 2, none⟩ = some (.slice (some ⟨g, off, none⟩) xs.length cap) ∧
                    w'.cell? ⟨g, off + j * 7, none⟩ = some (.int .i64 0) ∧ w'.cell? ⟨g, off + j * 7 + 1, none⟩ = some s0 ∧ w'.cell? ⟨g, off + j * 7 + 2, none⟩ = some (fx p.1) ∧ w'.cell? ⟨g, off + j * 7 + 3, none⟩ = some (fy p.1) ∧
                    w'.cell? ⟨w.heap.size, 0, none⟩ = some (.int .i64 0) ∧ w'.cell? ⟨w.heap.size, 1, none⟩ = some s0 ∧ w'.cell? ⟨w.heap.size, 2, none⟩ = some (fx k) ∧ w'.cell? ⟨w.heap.size, 3, none⟩ = some (fy k))
                  (first | exact ⟨c0, c1, c2, k0, k1, k2, k3, q0, q1, q2, q3⟩ | exact ⟨fr.get c0, fr.get c1, fr.get c2, fr.get k0, fr.get k1, fr.get k2, fr.get k3, fr.get q0, fr.get q1, fr.get q2, fr.get q3⟩)
                  ((go_at_call 22; refine (hcmp _).mono ?_; rintro e w3 ⟨rfl, fr⟩))
        have F := Fr.trans (S' := fun _ => False) (Fr.drew F) fr fun _ _ e => e
        obtain ⟨k4, k5, k6⟩ := HC0.out _ fr
        have k0 : w3.cell? ⟨g, off + j * 7, none⟩ = some (.int .i64 0) := fr.get k0
        have k1 : w3.cell? ⟨g, off + j * 7 + 1, none⟩ = some s0 := fr.get k1
        have k2 : w3.cell? ⟨g, off + j * 7 + 2, none⟩ = some (fx p.1) := fr.get k2
        have k3 : w3.cell? ⟨g, off + j * 7 + 3, none⟩ = some (fy p.1) := fr.get k3
        have c2 : w3.cell? ⟨b, 2, none⟩ = some (.slice (some ⟨g, off, none⟩) xs.length cap) := fr.get c2
        clear fr q0 q1 q2 q3 c0 c1
        have hs := HS0.out
        have hd1 : decide (0 < sd) = false := by simp; omega
        clear k0 k1 k2 k3 k4 k5 k6 c2
        rcases hs with hs | ⟨hs, hs2⟩
        · have hd2 : (sd == 0) = false := by rw [beq_eq_false_iff_ne]; omega
          clear hs
          go_wp2_with fail
          go_roundg (gk - 1)
          case measure => have := HY.out; omega
          case rel => exact ⟨j + 1, by have := HY.out; omega, by go_num, F⟩
        · subst hs
          subst hs2
          go_wp2_with fail
          go_roundg (gk - 1)
          case measure => have := HY.out; omega
          case rel => exact ⟨j + 1, by have := HY.out; omega, by go_num, F⟩
      · have hj1 : ¬ (j : Int) < (xs.length : Int) := by omega
        have hb' := (F.block b (lt_of_blk hb) (fun e => e)).trans hb
        have c2 : wr.cell? ⟨b, 2, none⟩ = some (.slice a xs.length cap) := cell_of hb' 2
        have hz' := (F.block (w.heap.size + 1) (lt_of_blk hz) (fun e => e)).trans hz
        have n0 : wr.cell? ⟨w.heap.size + 1, 0, none⟩ = some (.int .i64 0) := cell_of hz' 0
        have n1 : wr.cell? ⟨w.heap.size + 1, 1, none⟩ = some s0 := cell_of hz' 1
        have n2 : wr.cell? ⟨w.heap.size + 1, 2, none⟩ = some f0 := cell_of hz' 2
        have n3 : wr.cell? ⟨w.heap.size + 1, 3, none⟩ = some f0 := cell_of hz' 3
        have n4 : wr.cell? ⟨w.heap.size + 1, 4, none⟩ = some (.int .i64 0) := cell_of hz' 4
        have n5 : wr.cell? ⟨w.heap.size + 1, 5, none⟩ = some f0 := cell_of hz' 5
        have n6 : wr.cell? ⟨w.heap.size + 1, 6, none⟩ = some f0 := cell_of hz' 6
        have hfz : ∀ o, wr.frozen? ⟨w.heap.size + 1, o, none⟩ = false := fun o => frozen_of hz' o
        clear hz'
        clear hb' hb hr hq hz hw1 hj hsr hl hle hR hRl y0
        go_wp2_with fail
        refine bodyPost_ret (v := .tuple #[.agg #[.int .i64 0, s0, f0, f0, .int .i64 0, f0, f0], .bool false]) (by simp [results, Tryz.results104, go_sem, *]) rfl ⟨rfl, ?_⟩
        have nb := HNB.out
        have F0 := HF.out.trans F fun _ _ e => e
        exact Fr.setCell (Fr.setCell (Fr.setCell (Fr.setCell (Fr.setCell (Fr.setCell (Fr.setCell (F0) (by exact nb) _) (by exact nb) _) (by exact nb) _) (by exact nb) _) (by exact nb) _) (by exact nb) _) (by exact nb) _

set_option maxRecDepth 100000 in
set_option maxHeartbeats 3200000 in
theorem rbelow_any (b : Nat) (t : Bool) (a : Option Addr) (cap : Nat) (xs : Row) (k : Int) (sm : Bool) (w : World) (hb : w.heap[b]? = some (refBlk t a xs.length cap)) (hr : RowAt w a xs) (hsr : Srt t xs) (hl : xs.length ≤ 4000) :
    Calls Tryz.prog 102 #[.pointer (some ⟨b, 0, none⟩), rkey k, .bool sm] w fun e w' => e = .returned (.tuple #[.agg #[.int .i64 0, s0, fx (latK xs ((labv t k (!sm) xs : Int) - 1)), fy (latK xs ((labv t k (!sm) xs : Int) - 1)), .int .i64 0, fx (latV xs ((labv t k (!sm) xs : Int) - 1)), fy (latV xs ((labv t k (!sm) xs : Int) - 1))], .bool (latB xs ((labv t k (!sm) xs : Int) - 1))]) ∧ Fr (fun _ => False) w w' := by
  have hF : Fr (fun _ => False) w ((w.alloc (.cells #[.int .i64 0, s0, fx k, fy k] 66)).alloc z7) := Fr.alloc (Fr.alloc (Fr.refl _ _) _) _
  have hb := (hF.block b (lt_of_blk hb) (fun e => e)).trans hb
  have hr := hr.fr hF fun _ _ _ e => e
  have hq : ((w.alloc (.cells #[.int .i64 0, s0, fx k, fy k] 66)).alloc z7).heap[w.heap.size]? = some (.cells #[.int .i64 0, s0, fx k, fy k] 66 (0, 0)) := by
    rw [Below.heap_alloc _ _ _ (by simp)]; exact blk_new _ _
  have hz : ((w.alloc (.cells #[.int .i64 0, s0, fx k, fy k] 66)).alloc z7).heap[w.heap.size + 1]? = some z7 := by
    have := blk_new (w.alloc (.cells #[.int .i64 0, s0, fx k, fy k] 66)) z7
    rw [World.size_alloc] at this; exact this
  have HF : Hid (Fr (fun _ => False) w ((w.alloc (.cells #[.int .i64 0, s0, fx k, fy k] 66)).alloc z7)) := hF
  have hsf := store_f0
  have hl4 : (xs.length : Int) ≤ 4000 := by omega
  clear hF
  unfold z7 at *
  have nb : w.heap.size + 1 < w.heap.size → False := by omega
  have HNB : Hid (w.heap.size + 1 < w.heap.size → False) := nb
  clear nb
  have hle := labv_le (t := t) (k := k) (sm := !sm) hsr
  obtain ⟨R, hRe⟩ : ∃ R, R = labv t k (!sm) xs := ⟨_, rfl⟩
  have HL : Hid (∀ (i : Nat) (p : Int × Int), xs[i]? = some p → i < R → side t p.1 k < 0 ∨ (side t p.1 k = 0 ∧ sm = true)) := fun i p hp hi => by have := labv_lt hsr hp (by omega : i < labv t k (!sm) xs); simpa using this
  have HA : Hid (∀ (i : Nat) (p : Int × Int), R ≤ i → xs[i]? = some p → 0 < side t p.1 k ∨ (side t p.1 k = 0 ∧ sm = false)) := fun i p hi hp => by have := labv_ge hsr (by omega : labv t k (!sm) xs ≤ i) hp; simpa using this
  rw [← hRe] at hle ⊢
  clear hRe
  generalize hw1 : (w.alloc (.cells #[.int .i64 0, s0, fx k, fy k] 66)).alloc (.cells #[.int .i64 0, s0, f0, f0, .int .i64 0, f0, f0] 163) = w1 at *
  rcases Nat.eq_zero_or_pos R with hR | hR
  · subst hR
    have l1 : latK xs (((0 : Nat) : Int) - 1) = 0 := by unfold latK; rw [if_neg (by omega)]
    have l2 : latV xs (((0 : Nat) : Int) - 1) = 0 := by unfold latV; rw [if_neg (by omega)]
    have l3 : latB xs (((0 : Nat) : Int) - 1) = false := by unfold latB; rw [if_neg (by omega)]
    rw [l1, l2, l3]
    clear l1 l2 l3
    have c2 : w1.cell? ⟨b, 2, none⟩ = some (.slice a xs.length cap) := cell_of hb 2
    go_enter Tryz.func102, Tryz.ntmps102
    go_wp2_with fail
    clear c2
    go_loopg [8] xs.length (fun gk s8 wr => ∃ i : Int, (gk : Int) = i + 1 ∧ i < xs.length ∧ s8 = .int .i64 i ∧ Fr (fun _ => False) w1 wr)
    case atStart => exact ⟨(xs.length : Int) - 1, by omega, by omega, by go_num, by first | exact Fr.refl _ _ | (rw [← hw1]; exact Fr.refl _ _)⟩
    case round =>
      obtain ⟨i, y0, y1, rfl, F⟩ := hrel
      by_cases hi : 0 ≤ i
      · obtain ⟨j, rfl⟩ := Int.eq_ofNat_of_zero_le hi
        have hj : j < xs.length := by omega
        have HY : Hid ((gk : Int) = j + 1 ∧ j < xs.length) := ⟨y0, hj⟩
        have hb' := (F.block b (lt_of_blk hb) (fun e => e)).trans hb
        have c0 : wr.cell? ⟨b, 0, none⟩ = some (.int .i64 3) := cell_of hb' 0
        have c1 : wr.cell? ⟨b, 1, none⟩ = some (.bool t) := cell_of hb' 1
        have c2 : wr.cell? ⟨b, 2, none⟩ = some (.slice a xs.length cap) := cell_of hb' 2
        have hr' := hr.fr F fun _ _ _ e => e
        have hq' := (F.block w.heap.size (lt_of_blk hq) (fun e => e)).trans hq
        have q0 : wr.cell? ⟨w.heap.size, 0, none⟩ = some (.int .i64 0) := cell_of hq' 0
        have q1 : wr.cell? ⟨w.heap.size, 1, none⟩ = some s0 := cell_of hq' 1
        have q2 : wr.cell? ⟨w.heap.size, 2, none⟩ = some (fx k) := cell_of hq' 2
        have q3 : wr.cell? ⟨w.heap.size, 3, none⟩ = some (fy k) := cell_of hq' 3
        obtain ⟨p, hp⟩ : ∃ p, xs[j]? = some p := ⟨_, List.getElem?_eq_getElem hj⟩
        have hj1 : (j : Int) < (xs.length : Int) := by omega
        have hcmp := fun w => rcompare_any t p.1 k w
        rcases hr' with rfl | ⟨g, off, rfl, hg, hc⟩
        · simp at hj
        have k0 : wr.cell? ⟨g, off + j * 7, none⟩ = some (.int .i64 0) := hc j p hp 0 _ rfl
        have k1 : wr.cell? ⟨g, off + j * 7 + 1, none⟩ = some s0 := hc j p hp 1 _ rfl
        have k2 : wr.cell? ⟨g, off + j * 7 + 2, none⟩ = some (fx p.1) := hc j p hp 2 _ rfl
        have k3 : wr.cell? ⟨g, off + j * 7 + 3, none⟩ = some (fy p.1) := hc j p hp 3 _ rfl
        have HC0 : Hid (∀ w', Fr (fun _ => False) wr.drew w' → w'.cell? ⟨g, off + j * 7 + 4, none⟩ = some (.int .i64 0) ∧ w'.cell? ⟨g, off + j * 7 + 5, none⟩ = some (fx p.2) ∧ w'.cell? ⟨g, off + j * 7 + 6, none⟩ = some (fy p.2)) := fun w' f => ⟨f.get (hc j p hp 4 _ rfl), f.get (hc j p hp 5 _ rfl), f.get (hc j p hp 6 _ rfl)⟩
        have HS0 : Hid (0 < side t p.1 k ∨ (side t p.1 k = 0 ∧ sm = false)) := HA.out j p (Nat.zero_le _) hp
        have HZ : Hid (w1.heap[w.heap.size + 1]? = some (.cells #[.int .i64 0, s0, f0, f0, .int .i64 0, f0, f0] 163 (0, 0))) := hz
        clear hc hg hb hr hb' hq hq' hw1 hp hj hsr hl hz hle y0 y1 hi
        generalize side t p.1 k = sd at *
        go_wp2_with fail
        go_region_held3 (fun w' => w'.cell? ⟨b, 0, none⟩ = some (.int .i64 3) ∧ w'.cell? ⟨b, 1, none⟩ = some (.bool t) ∧ w'.cell? ⟨b, 2, none⟩ = some (.slice (some ⟨g, off, none⟩) xs.length cap) ∧
                    w'.cell? ⟨g, off + j * 7, none⟩ = some (.int .i64 0) ∧ w'.cell? ⟨g, off + j * 7 + 1, none⟩ = some s0 ∧ w'.cell? ⟨g, off + j * 7 + 2, none⟩ = some (fx p.1) ∧ w'.cell? ⟨g, off + j * 7 + 3, none⟩ = some (fy p.1) ∧
                    w'.cell? ⟨w.heap.size, 0, none⟩ = some (.int .i64 0) ∧ w'.cell? ⟨w.heap.size, 1, none⟩ = some s0 ∧ w'.cell? ⟨w.heap.size, 2, none⟩ = some (fx k) ∧ w'.cell? ⟨w.heap.size, 3, none⟩ = some (fy k))
                  (first | exact ⟨c0, c1, c2, k0, k1, k2, k3, q0, q1, q2, q3⟩ | exact ⟨fr.get c0, fr.get c1, fr.get c2, fr.get k0, fr.get k1, fr.get k2, fr.get k3, fr.get q0, fr.get q1, fr.get q2, fr.get q3⟩)
                  ((go_at_call 22; refine (hcmp _).mono ?_; rintro e w3 ⟨rfl, fr⟩))
        have F := Fr.trans (S' := fun _ => False) (Fr.drew F) fr fun _ _ e => e
        obtain ⟨k4, k5, k6⟩ := HC0.out _ fr
        have k0 : w3.cell? ⟨g, off + j * 7, none⟩ = some (.int .i64 0) := fr.get k0
        have k1 : w3.cell? ⟨g, off + j * 7 + 1, none⟩ = some s0 := fr.get k1
        have k2 : w3.cell? ⟨g, off + j * 7 + 2, none⟩ = some (fx p.1) := fr.get k2
        have k3 : w3.cell? ⟨g, off + j * 7 + 3, none⟩ = some (fy p.1) := fr.get k3
        have c2 : w3.cell? ⟨b, 2, none⟩ = some (.slice (some ⟨g, off, none⟩) xs.length cap) := fr.get c2
        clear fr q0 q1 q2 q3 c0 c1
        have hs := HS0.out
        have hd1 : decide (sd < 0) = false := by simp; omega
        clear k0 k1 k2 k3 k4 k5 k6 c2
        rcases hs with hs | ⟨hs, hs2⟩
        · have hd2 : (sd == 0) = false := by rw [beq_eq_false_iff_ne]; omega
          clear hs
          go_wp2_with fail
          go_roundg (gk - 1)
          case measure => have := HY.out; omega
          case rel => exact ⟨(j : Int) - 1, by have := HY.out; omega, by have := HY.out; omega, by go_num, F⟩
        · subst hs
          subst hs2
          go_wp2_with fail
          go_roundg (gk - 1)
          case measure => have := HY.out; omega
          case rel => exact ⟨(j : Int) - 1, by have := HY.out; omega, by have := HY.out; omega, by go_num, F⟩
      · have hi' : i = -1 := by omega
        subst hi'
        have hz' := (F.block (w.heap.size + 1) (lt_of_blk hz) (fun e => e)).trans hz
        have n0 : wr.cell? ⟨w.heap.size + 1, 0, none⟩ = some (.int .i64 0) := cell_of hz' 0
        have n1 : wr.cell? ⟨w.heap.size + 1, 1, none⟩ = some s0 := cell_of hz' 1
        have n2 : wr.cell? ⟨w.heap.size + 1, 2, none⟩ = some f0 := cell_of hz' 2
        have n3 : wr.cell? ⟨w.heap.size + 1, 3, none⟩ = some f0 := cell_of hz' 3
        have n4 : wr.cell? ⟨w.heap.size + 1, 4, none⟩ = some (.int .i64 0) := cell_of hz' 4
        have n5 : wr.cell? ⟨w.heap.size + 1, 5, none⟩ = some f0 := cell_of hz' 5
        have n6 : wr.cell? ⟨w.heap.size + 1, 6, none⟩ = some f0 := cell_of hz' 6
        have hfz : ∀ o, wr.frozen? ⟨w.heap.size + 1, o, none⟩ = false := fun o => frozen_of hz' o
        clear hz'
        clear hb hr hq hz hw1 hi hsr hl hle y0 y1
        go_wp2_with fail
        refine bodyPost_ret (v := .tuple #[.agg #[.int .i64 0, s0, f0, f0, .int .i64 0, f0, f0], .bool false]) (by simp [results, Tryz.results102, go_sem, *]) rfl ⟨rfl, ?_⟩
        have nb := HNB.out
        have F0 := HF.out.trans F fun _ _ e => e
        exact Fr.setCell (Fr.setCell (Fr.setCell (Fr.setCell (Fr.setCell (Fr.setCell (Fr.setCell (F0) (by exact nb) _) (by exact nb) _) (by exact nb) _) (by exact nb) _) (by exact nb) _) (by exact nb) _) (by exact nb) _
  · obtain ⟨Q, rfl⟩ : ∃ Q, R = Q + 1 := ⟨R - 1, by omega⟩
    have hQ : Q < xs.length := by omega
    obtain ⟨pR, hpR⟩ : ∃ p, xs[Q]? = some p := ⟨_, List.getElem?_eq_getElem hQ⟩
    obtain ⟨l1, l2, l3⟩ := lat_in hpR
    rw [show ((Q + 1 : Nat) : Int) - 1 = (Q : Int) by omega, l1, l2, l3]
    have HPR : Hid (xs[Q]? = some pR) := hpR
    clear hpR l1 l2 l3
    have c2 : w1.cell? ⟨b, 2, none⟩ = some (.slice a xs.length cap) := cell_of hb 2
    go_enter Tryz.func102, Tryz.ntmps102
    go_wp2_with fail
    clear c2
    go_loopg [8] xs.length (fun gk s8 wr => ∃ j : Nat, gk = j + 1 ∧ Q ≤ j ∧ j < xs.length ∧ s8 = .int .i64 j ∧ Fr (fun _ => False) w1 wr)
    case atStart => exact ⟨xs.length - 1, by omega, by omega, by omega, by go_num, by first | exact Fr.refl _ _ | (rw [← hw1]; exact Fr.refl _ _)⟩
    case round =>
      obtain ⟨j, y0, y1, hj, rfl, F⟩ := hrel
      have HY : Hid (gk = j + 1 ∧ Q ≤ j ∧ j < xs.length) := ⟨y0, y1, hj⟩
      have hb' := (F.block b (lt_of_blk hb) (fun e => e)).trans hb
      have c0 : wr.cell? ⟨b, 0, none⟩ = some (.int .i64 3) := cell_of hb' 0
      have c1 : wr.cell? ⟨b, 1, none⟩ = some (.bool t) := cell_of hb' 1
      have c2 : wr.cell? ⟨b, 2, none⟩ = some (.slice a xs.length cap) := cell_of hb' 2
      have hr' := hr.fr F fun _ _ _ e => e
      have hq' := (F.block w.heap.size (lt_of_blk hq) (fun e => e)).trans hq
      have q0 : wr.cell? ⟨w.heap.size, 0, none⟩ = some (.int .i64 0) := cell_of hq' 0
      have q1 : wr.cell? ⟨w.heap.size, 1, none⟩ = some s0 := cell_of hq' 1
      have q2 : wr.cell? ⟨w.heap.size, 2, none⟩ = some (fx k) := cell_of hq' 2
      have q3 : wr.cell? ⟨w.heap.size, 3, none⟩ = some (fy k) := cell_of hq' 3
      obtain ⟨p, hp⟩ : ∃ p, xs[j]? = some p := ⟨_, List.getElem?_eq_getElem hj⟩
      have hj1 : (j : Int) < (xs.length : Int) := by omega
      have hcmp := fun w => rcompare_any t p.1 k w
      rcases hr' with rfl | ⟨g, off, rfl, hg, hc⟩
      · simp at hj
      have k0 : wr.cell? ⟨g, off + j * 7, none⟩ = some (.int .i64 0) := hc j p hp 0 _ rfl
      have k1 : wr.cell? ⟨g, off + j * 7 + 1, none⟩ = some s0 := hc j p hp 1 _ rfl
      have k2 : wr.cell? ⟨g, off + j * 7 + 2, none⟩ = some (fx p.1) := hc j p hp 2 _ rfl
      have k3 : wr.cell? ⟨g, off + j * 7 + 3, none⟩ = some (fy p.1) := hc j p hp 3 _ rfl
      have HC0 : Hid (∀ w', Fr (fun _ => False) wr.drew w' → w'.cell? ⟨g, off + j * 7 + 4, none⟩ = some (.int .i64 0) ∧ w'.cell? ⟨g, off + j * 7 + 5, none⟩ = some (fx p.2) ∧ w'.cell? ⟨g, off + j * 7 + 6, none⟩ = some (fy p.2)) := fun w' f => ⟨f.get (hc j p hp 4 _ rfl), f.get (hc j p hp 5 _ rfl), f.get (hc j p hp 6 _ rfl)⟩
      have HS0 : Hid ((Q < j → 0 < side t p.1 k ∨ (side t p.1 k = 0 ∧ sm = false)) ∧ (j = Q → (side t p.1 k < 0 ∨ (side t p.1 k = 0 ∧ sm = true)) ∧ p = pR)) :=
        ⟨fun h => HA.out j p (by omega) hp, fun h => by subst h; exact ⟨HL.out j p hp (by omega), by have := HPR.out; rw [hp] at this; exact Option.some.inj this⟩⟩
      have HZ : Hid (w1.heap[w.heap.size + 1]? = some (.cells #[.int .i64 0, s0, f0, f0, .int .i64 0, f0, f0] 163 (0, 0))) := hz
      clear hc hg hb hr hb' hq hq' hw1 hp hj hsr hl hz hle hR hQ y0 y1
      generalize side t p.1 k = sd at *
      go_wp2_with fail
      go_region_held3 (fun w' => w'.cell? ⟨b, 0, none⟩ = some (.int .i64 3) ∧ w'.cell? ⟨b, 1, none⟩ = some (.bool t) ∧ w'.cell? ⟨b, 2, none⟩ = some (.slice (some ⟨g, off, none⟩) xs.length cap) ∧
                  w'.cell? ⟨g, off + j * 7, none⟩ = some (.int .i64 0) ∧ w'.cell? ⟨g, off + j * 7 + 1, none⟩ = some s0 ∧ w'.cell? ⟨g, off + j * 7 + 2, none⟩ = some (fx p.1) ∧ w'.cell? ⟨g, off + j * 7 + 3, none⟩ = some (fy p.1) ∧
                  w'.cell? ⟨w.heap.size, 0, none⟩ = some (.int .i64 0) ∧ w'.cell? ⟨w.heap.size, 1, none⟩ = some s0 ∧ w'.cell? ⟨w.heap.size, 2, none⟩ = some (fx k) ∧ w'.cell? ⟨w.heap.size, 3, none⟩ = some (fy k))
                (first | exact ⟨c0, c1, c2, k0, k1, k2, k3, q0, q1, q2, q3⟩ | exact ⟨fr.get c0, fr.get c1, fr.get c2, fr.get k0, fr.get k1, fr.get k2, fr.get k3, fr.get q0, fr.get q1, fr.get q2, fr.get q3⟩)
                ((go_at_call 22; refine (hcmp _).mono ?_; rintro e w3 ⟨rfl, fr⟩))
      have F := Fr.trans (S' := fun _ => False) (Fr.drew F) fr fun _ _ e => e
      obtain ⟨k4, k5, k6⟩ := HC0.out _ fr
      have k0 : w3.cell? ⟨g, off + j * 7, none⟩ = some (.int .i64 0) := fr.get k0
      have k1 : w3.cell? ⟨g, off + j * 7 + 1, none⟩ = some s0 := fr.get k1
      have k2 : w3.cell? ⟨g, off + j * 7 + 2, none⟩ = some (fx p.1) := fr.get k2
      have k3 : w3.cell? ⟨g, off + j * 7 + 3, none⟩ = some (fy p.1) := fr.get k3
      have c2 : w3.cell? ⟨b, 2, none⟩ = some (.slice (some ⟨g, off, none⟩) xs.length cap) := fr.get c2
      clear fr q0 q1 q2 q3 c0 c1
      rcases Nat.lt_or_ge Q j with hjR | hjR
      · have hs := HS0.out.1 hjR
        have hd1 : decide (sd < 0) = false := by simp; omega
        have hj0 : (1 : Int) ≤ (j : Int) := by omega
        clear k0 k1 k2 k3 k4 k5 k6 c2
        rcases hs with hs | ⟨hs, hs2⟩
        · have hd2 : (sd == 0) = false := by rw [beq_eq_false_iff_ne]; omega
          clear hs
          go_wp2_with fail
          go_roundg (gk - 1)
          case measure => have := HY.out; omega
          case rel => exact ⟨j - 1, by have := HY.out; omega, by omega, by have := HY.out; omega, by go_num, F⟩
        · subst hs
          subst hs2
          go_wp2_with fail
          go_roundg (gk - 1)
          case measure => have := HY.out; omega
          case rel => exact ⟨j - 1, by have := HY.out; omega, by omega, by have := HY.out; omega, by go_num, F⟩
      · have ej : j = Q := by have := HY.out; omega
        obtain ⟨hs, hpp⟩ := HS0.out.2 ej
        subst hpp
        have hz := HZ.out
        have hz' := (F.block (w.heap.size + 1) (lt_of_blk hz) (fun e => e)).trans hz
        have n0 : w3.cell? ⟨w.heap.size + 1, 0, none⟩ = some (.int .i64 0) := cell_of hz' 0
        have n1 : w3.cell? ⟨w.heap.size + 1, 1, none⟩ = some s0 := cell_of hz' 1
        have n2 : w3.cell? ⟨w.heap.size + 1, 2, none⟩ = some f0 := cell_of hz' 2
        have n3 : w3.cell? ⟨w.heap.size + 1, 3, none⟩ = some f0 := cell_of hz' 3
        have n4 : w3.cell? ⟨w.heap.size + 1, 4, none⟩ = some (.int .i64 0) := cell_of hz' 4
        have n5 : w3.cell? ⟨w.heap.size + 1, 5, none⟩ = some f0 := cell_of hz' 5
        have n6 : w3.cell? ⟨w.heap.size + 1, 6, none⟩ = some f0 := cell_of hz' 6
        have hfz : ∀ o, w3.frozen? ⟨w.heap.size + 1, o, none⟩ = false := fun o => frozen_of hz' o
        clear hz'
        clear hz ej hjR
        rcases hs with hs | ⟨hs, hs2⟩
        · go_wp2_with fail
          refine bodyPost_ret (v := .tuple #[.agg #[.int .i64 0, s0, fx p.1, fy p.1, .int .i64 0, fx p.2, fy p.2], .bool true]) (by simp [results, Tryz.results102, go_sem, *]) rfl ⟨rfl, ?_⟩
          have nb := HNB.out
          have F0 := HF.out.trans F fun _ _ e => e
          exact Fr.setCell (Fr.setCell (Fr.setCell (Fr.setCell (Fr.setCell (Fr.setCell (Fr.setCell (F0) (by exact nb) _) (by exact nb) _) (by exact nb) _) (by exact nb) _) (by exact nb) _) (by exact nb) _) (by exact nb) _
        · subst hs
          subst hs2
          go_wp2_with fail
          refine bodyPost_ret (v := .tuple #[.agg #[.int .i64 0, s0, fx p.1, fy p.1, .int .i64 0, fx p.2, fy p.2], .bool true]) (by simp [results, Tryz.results102, go_sem, *]) rfl ⟨rfl, ?_⟩
          have nb := HNB.out
          have F0 := HF.out.trans F fun _ _ e => e
          exact Fr.setCell (Fr.setCell (Fr.setCell (Fr.setCell (Fr.setCell (Fr.setCell (Fr.setCell (F0) (by exact nb) _) (by exact nb) _) (by exact nb) _) (by exact nb) _) (by exact nb) _) (by exact nb) _) (by exact nb) _

end Go.Proofs.YthbnbocpddddmaaGreat

namespace Go.Proofs.YthbnbocpddddmaaGreat
open Go.RowKit

theorem rcells_len (xs : Row) : (rcells xs).length = xs.length * 7 := by
  induction xs with
  | nil => rfl
  | cons p xs ih =>
    have : rcells (p :: xs) = ritem p ++ rcells xs := rfl
    rw [this, List.length_append, ih]; simp [ritem]; omega
theorem rcells_append (xs ys : Row) : rcells (xs ++ ys) = rcells xs ++ rcells ys := by unfold rcells; rw [List.flatMap_append]
theorem rcells_one (p : Int × Int) : rcells [p] = ritem p := by simp [rcells]
theorem rcells_split (xs : Row) (r : Nat) : rcells xs = rcells (xs.take r) ++ rcells (xs.drop r) := by rw [← rcells_append, List.take_append_drop]

theorem rcells_get {xs : Row} {i : Nat} {p : Int × Int} (h : xs[i]? = some p) (o : Nat) (u : Value) (hu : (ritem p)[o]? = some u) : (rcells xs)[i * 7 + o]? = some u := by
  obtain ⟨hl, rfl⟩ := List.getElem?_eq_some_iff.1 h
  have ho : o < 7 := by have := (List.getElem?_eq_some_iff.1 hu).1; simpa [ritem] using this
  rw [rcells_split xs i, List.getElem?_append_right (by rw [rcells_len, List.length_take]; omega), rcells_len, List.length_take, show i * 7 + o - min i xs.length * 7 = o by rw [Nat.min_eq_left (by omega)]; omega,
    List.drop_eq_getElem_cons hl]
  have : rcells (xs[i] :: xs.drop (i + 1)) = ritem xs[i] ++ rcells (xs.drop (i + 1)) := rfl
  rw [this, List.getElem?_append_left (by simpa [ritem] using ho)]
  exact hu

theorem rcells_one_cell (xs : Row) : ∀ u ∈ rcells xs, u.oneCell' = true := by
  intro u hu
  obtain ⟨p, _, hp⟩ := List.mem_flatMap.1 hu
  simp only [ritem, List.mem_cons, List.not_mem_nil, or_false] at hp
  rcases hp with rfl | rfl | rfl | rfl | rfl | rfl | rfl <;> rfl

/-- A list of the document's, in memory: its blocks are 'own'. -/
def RefM (w : World) (B b : Nat) (t : Bool) (own : Nat → Prop) (xs : Row) : Prop :=
  ∃ v, w.heap[b]? = some (.cells #[.int .i64 3, .bool t, v] 156 (0, 0)) ∧ w.ownsRow B 163 7 v xs.length (rcells xs) ∧ v.ownBlock ≠ some b ∧ (∀ x, own x ↔ x = b ∨ v.ownBlock = some x)

theorem RefM.lt {w : World} {B b : Nat} {t : Bool} {own : Nat → Prop} {xs : Row} (h : RefM w B b t own xs) : ∀ x, own x → x < w.heap.size := by
  obtain ⟨v, h1, h2, h3, h4⟩ := h
  intro x hx
  rcases (h4 x).1 hx with rfl | e
  · exact lt_of_blk h1
  · exact (h2.lt x e).2

theorem RefM.fr {S : Nat → Prop} {w w' : World} {B b : Nat} {t : Bool} {own : Nat → Prop} {xs : Row} (h : RefM w B b t own xs) (f : Fr S w w') (hd : ∀ x, own x → ¬ S x) : RefM w' B b t own xs := by
  have hlt := h.lt
  obtain ⟨v, h1, h2, h3, h4⟩ := h
  refine ⟨v, (f.block b (lt_of_blk h1) (hd b ((h4 b).2 (Or.inl rfl)))).trans h1, ?_, h3, h4⟩
  obtain ⟨e1, e2⟩ := h2
  refine ⟨e1, ?_⟩
  rcases e2 with e2 | ⟨g, cap, cur, rfl, q1, q2, q3⟩
  · exact Or.inl e2
  · exact Or.inr ⟨g, cap, cur, rfl, q1, (f.block g (lt_of_blk q2) (hd g ((h4 g).2 (Or.inr rfl)))).trans q2, q3⟩

/-- What the calls that only read take. -/
theorem RefM.reads {w : World} {B b : Nat} {t : Bool} {own : Nat → Prop} {xs : Row} (h : RefM w B b t own xs) :
    ∃ a cap, w.heap[b]? = some (refBlk t a xs.length cap) ∧ RowAt w a xs ∧ ((a = none ∧ cap = 0 ∧ xs = []) ∨ ∃ g, a = some ⟨g, 0, none⟩ ∧ own g ∧ g ≠ b ∧ xs.length ≤ cap ∧ ∀ j u, (rcells xs)[j]? = some u → w.cell? ⟨g, j, none⟩ = some u) := by
  obtain ⟨v, h1, ⟨e1, e2⟩, h3, h4⟩ := h
  rcases e2 with ⟨rfl, e⟩ | ⟨g, cap, cur, rfl, q1, q2, q3, q4, q5, q6⟩
  · have hx : xs = [] := List.eq_nil_of_length_eq_zero e
    subst hx
    exact ⟨none, 0, h1, Or.inl rfl, Or.inl ⟨rfl, rfl, rfl⟩⟩
  · have hcell : ∀ j u, (rcells xs)[j]? = some u → w.cell? ⟨g, j, none⟩ = some u := fun j u hu => by
      rw [cell_of q2]
      rw [← q6, List.getElem?_take] at hu
      split at hu
      · simpa using hu
      · cases hu
    refine ⟨some ⟨g, 0, none⟩, cap, h1, Or.inr ⟨g, 0, rfl, lt_of_blk q2, fun i p hp o u hu => ?_⟩, Or.inr ⟨g, rfl, (h4 g).2 (Or.inr rfl), fun e => h3 (by rw [e]; rfl), q3, hcell⟩⟩
    have := hcell _ _ (rcells_get hp o u hu)
    rw [Nat.zero_add]; exact this

theorem set_at (A D : List Value) (n o : Nat) (hA : A.length = n) (x : Value) : (A ++ D).set (n + o) x = A ++ D.set o x := by
  subst hA
  rw [List.set_append_right _ _ (by omega)]
  simp

theorem set_cells {cur : Array Value} {xs : Row} {j : Nat} {k u v : Int} (h : cur.toList.take (xs.length * 7) = rcells xs) (hj : xs[j]? = some (k, u)) :
    ((((cur.setIfInBounds (j * 7 + 4) (.int .i64 0)).setIfInBounds (j * 7 + 4 + 1) (fx v)).setIfInBounds (j * 7 + 4 + 2) (fy v)).toList).take (xs.length * 7) = rcells (xs.set j (k, v)) := by
  obtain ⟨hl, he⟩ := List.getElem?_eq_some_iff.1 hj
  have e1 : xs.set j (k, v) = xs.take j ++ ([(k, v)] ++ xs.drop (j + 1)) := by rw [List.set_eq_take_append_cons_drop, if_pos hl]; rfl
  have e2 : rcells xs = rcells (xs.take j) ++ (ritem (k, u) ++ rcells (xs.drop (j + 1))) := by
    rw [rcells_split xs j, List.drop_eq_getElem_cons hl, he]; rfl
  have hA : (rcells (xs.take j)).length = j * 7 := by rw [rcells_len, List.length_take, Nat.min_eq_left (by omega)]
  rw [e1, rcells_append, rcells_append, rcells_one]
  simp only [Array.toList_setIfInBounds, List.take_set, h, e2]
  rw [show j * 7 + 4 + 1 = j * 7 + 5 by omega, show j * 7 + 4 + 2 = j * 7 + 6 by omega, set_at _ _ _ _ hA, set_at _ _ _ _ hA, set_at _ _ _ _ hA]
  rfl

theorem add_at (g o j : Nat) : ((⟨g, o, none⟩ : Addr).add j) = ⟨g, o + j, none⟩ := by
  unfold Addr.add
  split <;> simp_all
theorem src_take {w : World} {g r : Nat} {xs : Row} (h : ∀ j u, (rcells xs)[j]? = some u → w.cell? ⟨g, j, none⟩ = some u) : ∀ j u, (rcells (xs.take r))[j]? = some u → w.cell? ((⟨g, 0, none⟩ : Addr).add j) = some u := by
  intro j u hu
  rw [add_at, Nat.zero_add]
  exact h j u (by rw [rcells_split xs r, List.getElem?_append_left (List.getElem?_eq_some_iff.1 hu).1]; exact hu)
theorem src_drop {w : World} {g r : Nat} {xs : Row} (hr : r ≤ xs.length) (h : ∀ j u, (rcells xs)[j]? = some u → w.cell? ⟨g, j, none⟩ = some u) : ∀ j u, (rcells (xs.drop r))[j]? = some u → w.cell? ((⟨g, r * 7, none⟩ : Addr).add j) = some u := by
  intro j u hu
  have hA : (rcells (xs.take r)).length = r * 7 := by rw [rcells_len, List.length_take, Nat.min_eq_left hr]
  rw [add_at]
  exact h _ u (by rw [rcells_split xs r, List.getElem?_append_right (by omega), hA, show r * 7 + j - r * 7 = j by omega]; exact hu)

theorem new_item (w : World) (p : Int × Int) (j : Nat) (u : Value) (h : (ritem p)[j]? = some u) : (w.alloc (.cells #[.int .i64 0, s0, fx p.1, fy p.1, .int .i64 0, fx p.2, fy p.2] 163)).cell? ((⟨w.heap.size, 0, none⟩ : Addr).add j) = some u := by
  have : ((⟨w.heap.size, 0, none⟩ : Addr).add j) = ⟨w.heap.size, j, none⟩ := by simp [Addr.add]; exact fun e => e.symm
  rw [this, cell_of (blk_new _ _)]
  simpa [ritem] using h

theorem own_shape {w : World} {B : Nat} {e : TypeId} {s : Nat} {v : Value} {n : Nat} {xs : List Value} (h : w.ownsRow B e s v n xs) : ∃ a c, v = .slice a n c := by
  rcases h.2 with ⟨rfl, rfl⟩ | ⟨g, cap, cur, rfl, _⟩
  · exact ⟨none, 0, rfl⟩
  · exact ⟨_, cap, rfl⟩

theorem info_item : (Tryz.prog.info? 163).map (fun i => (i.zero, i.size, i.bytes)) = some (some (.agg #[.int .i64 0, s0, f0, f0, .int .i64 0, f0, f0]), 7, 64) := by kernel_rfl

end Go.Proofs.YthbnbocpddddmaaGreat
