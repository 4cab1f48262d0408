/- Stable, over one engine: the walk. -/
import Derived.Test.YthbnbocpddddmaaGreatWMadeK
import Derived.Test.YthbnbocpddddmaaGreatWDelK
import Derived.Test.YthbnbocpddddmaaGreatWCurK
import Derived.Test.YthbnbocpddddmaaGreatWPick
import Derived.Deep.QuietTactic
import Derived.BigQuiet
import Derived.OwnWalk
namespace Go.Proofs.YthbnbocpddddmaaGreat
open Go.RowKit

theorem info_intK : (Tryz.prog.info? 3).map (fun i => (i.zero, i.size, i.bytes)) = some (some (.int .i64 0), 1, 8) := by kernel_rfl

theorem grown_frK {w wr w' : World} {row : Option Nat} (F : Fr (fun _ => False) w wr) (g : wr.grownBy w' row) (hr : ∀ k, row = some k → w.heap.size ≤ k) : Fr (fun _ => False) w w' :=
  ⟨g.os.trans F.os, g.tape.trans F.tape, g.output.trans F.output, Nat.le_trans F.size g.size, fun k hk _ => (g.block k (Nat.lt_of_lt_of_le hk F.size) (fun e => by have := hr k e.symm; omega)).trans (F.block k hk (fun e => e))⟩

theorem own_keysK {w : World} {B : Nat} {v : Value} {n : Nat} {ys : List Int} (h : w.ownsRow B 3 1 v n (ys.map (Value.int .i64))) : ∃ a cap, v = .slice a ys.length cap ∧ KeysAt w a ys ∧ n = ys.length := by
  obtain ⟨h1, h2⟩ := h
  have hn : n = ys.length := by simpa using h1.symm
  subst hn
  rcases h2 with ⟨rfl, e⟩ | ⟨g, cap, cur, rfl, hb, hblk, hle, hm, hsz, htk⟩
  · exact ⟨none, 0, by rw [e], Or.inl (List.eq_nil_of_length_eq_zero e), rfl⟩
  · refine ⟨some ⟨g, 0, none⟩, cap, rfl, Or.inr ⟨g, 0, rfl, lt_of_blk hblk, fun i k hk => ?_⟩, rfl⟩
    rw [cell_of hblk]
    have hi : i < ys.length := (List.getElem?_eq_some_iff.1 hk).1
    have e : (cur.toList.take (ys.length * 1))[i]? = some (.int .i64 k) := by rw [htk, List.getElem?_map, hk]; rfl
    rw [List.getElem?_take_of_lt (by omega)] at e
    simpa using e

theorem cnt_congrK {L : Int} {xs ys : Row} (h : ev xs = ev ys) : cnt L xs = cnt L ys := by unfold cnt; rw [h]

set_option maxRecDepth 100000 in
set_option maxHeartbeats 8000000 in
theorem stable_anyK (eng : Int) (a1 : Option Addr) (ks : List Int) (cap1 : Nat) (a2 : Option Addr) (qs : List Int) (cap2 : Nat) (w : World) (e0 : -9223372036854775808 ≤ eng) (e1 : eng < 9223372036854775808) (hpk : pk eng = 1)
    (hks : KeysAt w a1 ks) (hkl : ks.length < 9223372036854775808) (hkb : ∀ k ∈ ks, -9223372036854775808 ≤ k ∧ k < 9223372036854775808) (hqs : KeysAt w a2 qs) (hql : qs.length < 9223372036854775808) (hqb : ∀ k ∈ qs, -9223372036854775808 ≤ k ∧ k < 9223372036854775808) :
    Calls Tryz.prog 9 #[.int .i64 eng, .slice a1 ks.length cap1, .slice a2 qs.length cap2] w fun e w' => e = .returned (.bool true) ∧ Fr (fun _ => False) w w' := by
  obtain ⟨i0, hi, hz0, hz1, hz2⟩ := info_parts info_intK
  have hql' : (qs.length : Int) < 9223372036854775808 := by omega
  have HB : Hid (∀ xs : Row, xs.length ≤ 400 → 10000 ≤ 10000) := by
    intro xs hx
    first
      | exact Nat.le_refl _
      | (have := dg_le (xs.length + 1); omega)
  have HPK : Hid (pk eng = 1 ∧ -9223372036854775808 ≤ eng ∧ eng < 9223372036854775808) := ⟨hpk, e0, e1⟩
  have HQB : Hid (∀ k ∈ qs, -9223372036854775808 ≤ k ∧ k < 9223372036854775808) := hqb
  have HKB : Hid (∀ k ∈ ks, -9223372036854775808 ≤ k ∧ k < 9223372036854775808) := hkb
  clear hpk e0 e1 hqb hkb
  go_enter Tryz.func9, Tryz.ntmps9
  go_wp2_with fail
  go_loopg [7, 8] (min ks.length 100) (fun gk s7 s8 wr => ∃ j : Nat, gk + j = min ks.length 100 ∧ s8 = .int .i64 j ∧ wr.ownsRow w.heap.size 3 1 s7 j ((evs ks j).map (Value.int .i64)) ∧ Fr (fun _ => False) w wr)
  case atStart => exact ⟨0, by omega, rfl, World.ownsRow_nil _ _ _ _, Fr.refl _ _⟩
  case round =>
    obtain ⟨j, y0, rfl, hown, F⟩ := hrel
    by_cases hj : j < min ks.length 100
    · have hj1 : (j : Int) < (ks.length : Int) := by omega
      have hj2 : (j : Int) < 100 := by omega
      obtain ⟨k, hk⟩ : ∃ k, ks[j]? = some k := ⟨_, List.getElem?_eq_getElem (by omega)⟩
      have kb := HKB.out k (List.mem_of_getElem? hk)
      have hp := fun w => pick1000_any k w kb.1 kb.2
      have hpb := pkn_b k 1000 (by omega)
      have HE : Hid (evs ks (j + 1) = evs ks j ++ [pkn k 1000 * 2]) := evs_succ ks j k hk
      generalize pkn k 1000 = y at *
      obtain ⟨p0, p1⟩ := hpb
      rcases hks with rfl | ⟨b, off, rfl, hb, hcell⟩
      · simp at hj
      · have hc := (F.cell (b := b) (off + j) hb (fun e => e)).trans (hcell j k hk)
        have HY : Hid (gk + j = min ks.length 100 ∧ j < min ks.length 100) := ⟨y0, hj⟩
        clear hk hcell y0 hj
        go_wp2_with fail
        refine (hp _).mono ?_
        rintro e w2 ⟨rfl, rfl⟩
        clear hp
        go_wp2_with
          (at_builtin; refine wpList_append_own _ rfl _ _ 77 rfl w.heap.size 3 i0 (.int .i64 0) 1 8 Tryz.underlying77 hi hz0 hz1 hz2 rfl (by decide) _ _ _ rfl (hown.alloc _) ⟨w2.heap.size, 0, none⟩ 1 1 [.int .i64 (y * 2)] rfl rfl ?c1 ?c2 ?c3 ?c4 ?c5 ?_)
        case c1 =>
          intro j u hj
          match j, hj with
          | 0, hj => simp at hj; subst hj; simp [Addr.add]
        case c2 => intro u hu; simp at hu; subst hu; rfl
        case c3 => unfold maxLen; omega
        case c4 => omega
        case c5 => have := F.size; simp; omega
        intro v' w1 hown' hgrow _
        have hlt := hown.lt
        have R : w1.ownsRow w.heap.size 3 1 v' (j + 1) ((evs ks (j + 1)).map (Value.int .i64)) ∧ Fr (fun _ => False) w w1 := by
          refine ⟨?_, grown_frK (Fr.alloc F _) hgrow fun k e => (hlt k e).1⟩
          rw [HE.out, List.map_append]
          exact hown'
        clear hown' hgrow hown F hlt
        go_wp2_with fail
        go_roundg (gk - 1)
        case measure => have := HY.out; omega
        case rel => exact ⟨j + 1, by have := HY.out; omega, by go_num, R.1, R.2⟩
    · obtain ⟨a, cap, rfl, hkeys, hjl⟩ := own_keysK hown
      have hj' : ¬ (j < ks.length ∧ j < 100) := by omega
      obtain ⟨hpk, e0, e1⟩ := HPK.out
      have hmade := made_anyK eng false a (evs ks j) cap wr e0 e1 hpk hkeys (by omega)
      obtain ⟨hev, hrg⟩ := row_start ks j
      have hsr := rowTo_srt false (evs ks j) (min (evs ks j).length 400)
      have hln := rowTo_len false (evs ks j) (min (evs ks j).length 400)
      have hl100 : (rowTo false (evs ks j) (min (evs ks j).length 400)).length ≤ 100 := by omega
      generalize rowTo false (evs ks j) (min (evs ks j).length 400) = xs0 at *
      have HJ : Hid (j = (evs ks j).length) := hjl
      generalize hZ : (evs ks j).length = zl at *
      have hjl' : j = zl := hjl
      subst hjl'
      have HS : Hid (Srt false xs0 ∧ ev xs0 = xs0 ∧ rng xs0 ∧ xs0.length ≤ 100) := ⟨hsr, hev, hrg, hl100⟩
      clear hpk e0 e1 hkeys hev hrg hsr hln hjl hZ HJ hown y0 hj
      have hjx : (decide ((j : Int) < (ks.length : Int)) && decide ((j : Int) < 100)) = false := by
        simp only [Bool.and_eq_false_iff, decide_eq_false_iff_not]; omega
      rcases (show ¬ ((j : Int) < (ks.length : Int)) ∨ ((j : Int) < (ks.length : Int) ∧ ¬ ((j : Int) < 100)) by omega) with hj1 | ⟨hj1, hj2⟩
      all_goals
        go_wp2_with fail
        refine hmade.mono ?_
        rintro e w1 ⟨m, rfl, c, own, hM, c0, c1, hown, f1⟩
        have F1 := F.trans f1 fun _ _ e => e
        have ow : ∀ x, own x → w.heap.size ≤ x := fun x e => Nat.le_trans F.size (hown x e)
        clear hmade hown f1 F
        have hcur := cursor_anyK m w1
        go_wp2_with fail
        refine hcur.mono ?_
        rintro e w2 ⟨cb, rfl, hcb, hcb0, f2⟩
        have hn : ¬ own cb := fun e => by have := hM.lt cb e; omega
        have hM2 := hM.fr f2 fun _ _ e => e
        have F2 := F1.trans f2 fun _ _ e => e
        have hcw : w.heap.size ≤ cb := Nat.le_trans F1.size hcb0
        have hmw := ow m ((hM.choose_spec.choose_spec.2.2.2.1 m).2 (Or.inl rfl))
        have hlen := len_anyK m false c own xs0 w2 hM2
        clear hM f2 F1 hcur hcb0
        go_wp2_with fail
        refine hlen.mono ?_
        rintro e w3 ⟨rfl, rfl⟩
        clear hlen
        go_wp2_with fail
        generalize hN : xs0.length = N at *
        go_loopg [12, 13, 14] 4002 (fun gk s12 s13 s14 wr => ∃ (L : Int) (st sn : Nat) (c : Int) (own : Nat → Prop) (xs : Row) (s k : Int), s12 = .int .i64 L ∧ s13 = .int .i64 st ∧ s14 = .int .i64 sn ∧ (gk : Int) + L = 4001 ∧ -1 ≤ L ∧ L ≤ 4000 ∧ st ≤ qs.length ∧
          MapK wr m false c own xs ∧ wr.heap[cb]? = some (curBlk m s k) ∧ ¬ own cb ∧ Stands s k L ∧ rng xs ∧ ev xs = ev xs0 ∧ sn = cnt L xs ∧ xs.length ≤ 300 ∧ 0 ≤ c ∧ c ≤ 4000000 + 30000 * (L + 1) ∧ (∀ x, own x → w.heap.size ≤ x) ∧ Fr (fun _ => False) w wr)
        case atStart =>
          obtain ⟨s1, s2, s3, s4⟩ := HS.out
          exact ⟨-1, 0, 0, c, own, xs0, 0, 0, rfl, rfl, rfl, by omega, by omega, by omega, by omega, hM2, hcb, hn, Or.inl ⟨rfl, rfl⟩, s3, rfl, (cnt_none fun p hp => by have := (s3 p hp).1; omega).symm, by omega, c0, by omega, ow, F2⟩
        case round =>
          clear hM2 hcb hn c0 c1 ow F2
          obtain ⟨L, st, sn, c, own, xs, s, k, rfl, rfl, rfl, y1, y2, y3, hst, hM, hcb, hn, hsd, hrg, hev, hsn, hxl, c0, c1, hown, F⟩ := hrel
          have hN2 : N = (ev xs).length := by rw [hev, HS.out.2.1]; exact hN.symm
          by_cases hlt : sn < N
          · have hlt1 : (sn : Int) < (N : Int) := by omega
            have HX0 : Hid ((gk : Int) + L = 4001 ∧ -1 ≤ L ∧ L ≤ 4000 ∧ sn < N ∧ 0 ≤ c ∧ c ≤ 4000000 + 30000 * (L + 1)) := ⟨y1, y2, y3, hlt, c0, c1⟩
            have HSD : Hid (Stands s k L) := hsd
            have hLb : -1 ≤ L ∧ L ≤ 4000 := ⟨y2, y3⟩
            have hsb : (sn : Int) ≤ 100 := by have := HS.out.2.2.2; omega
            have HA : Hid (sn = cnt L xs ∧ ev xs = ev xs0) := ⟨hsn, hev⟩
            obtain ⟨G, rfl⟩ : ∃ G, gk = G + 1 := ⟨gk - 1, by omega⟩
            clear hN2 hlt y1 y2 y3 hsd hsn hev
            go_wp2_with fail
            go_loopg [13, 15] 2 (fun gk s13 s15 wr => ∃ (i st : Nat) (c1 : Int) (own : Nat → Prop) (xs : Row), s13 = .int .i64 st ∧ s15 = .int .i64 i ∧ gk + i = 2 ∧ st ≤ qs.length ∧ MapK wr m false c1 own xs ∧ wr.heap[cb]? = some (curBlk m s k) ∧ ¬ own cb ∧ rng xs ∧ ev xs = ev xs0 ∧ sn = cnt L xs ∧ xs.length ≤ 300 ∧
              0 ≤ c1 ∧ c1 ≤ c + 10000 * i ∧ (∀ x, own x → w.heap.size ≤ x) ∧ Fr (fun _ => False) w wr)
            case atStart => exact ⟨0, st, c, own, xs, rfl, rfl, by omega, hst, hM, hcb, hn, hrg, HA.out.2, HA.out.1, hxl, c0, by omega, hown, F⟩
            case round =>
              clear hM hcb hn hrg hxl c0 c1 hown F hst HA
              obtain ⟨i, st, c2, own, xs, rfl, rfl, z0, hst, hM, hcb, hn, hrg, hev, hsn, hxl, d0, d1, hown, F⟩ := hrel
              have hsrt : Srt false xs := hM.choose_spec.choose_spec.2.2.2.2
              by_cases hi : i < 2 ∧ st < qs.length
              · obtain ⟨hi1, hst1⟩ := hi
                have hi2 : (i : Int) < 2 := by omega
                have hst2 : (st : Int) < (qs.length : Int) := by omega
                obtain ⟨q, hq⟩ : ∃ q, qs[st]? = some q := ⟨_, List.getElem?_eq_getElem hst1⟩
                have qb := HQB.out q (List.mem_of_getElem? hq)
                have hp := fun w => pick2000_any q w qb.1 qb.2
                have hpb := pkn_b q 2000 (by omega)
                have ho := odd_even q
                generalize pkn q 2000 = y at *
                obtain ⟨p0, p1⟩ := hpb
                have hcc : c2 ≤ 8000000000000000000 := by have := HX0.out; omega
                rcases hqs with rfl | ⟨b, off, rfl, hb, hcell⟩
                · simp at hst1
                · have hc := (F.cell (b := b) (off + st) hb (fun e => e)).trans (hcell st q hq)
                  have HY : Hid (gk + i = 2 ∧ i < 2 ∧ st < qs.length ∧ xs.length ≤ 300 ∧ 0 ≤ c2 ∧ c2 ≤ c + 10000 * i) := ⟨z0, hi1, hst1, hxl, d0, d1⟩
                  by_cases h3 : st % 3 = 2
                  · have h3' : ((st : Int) % 3 == 2) = true := by rw [beq_iff_eq]; omega
                    have HRW : Hid (rng (ldel false (y * 2 + 1) xs) ∧ ev (ldel false (y * 2 + 1) xs) = ev xs0 ∧ sn = cnt L (ldel false (y * 2 + 1) xs) ∧ (ldel false (y * 2 + 1) xs).length ≤ 300) := by
                      have e := ev_del hsrt (ho 0)
                      exact ⟨rng_del hrg, e.trans hev, by rw [cnt_congrK e]; exact hsn, Nat.le_trans (len_del _ _ _) hxl⟩
                    have hO := delete_anyK m false c2 own xs (y * 2 + 1) wr hM d0 hcc (by omega)
                    clear hcell hq hrg hev hsn hxl d0 d1 z0 hst hsrt ho hi1 hst1 hcc h3
                    go_wp2_with fail
                    refine (hp _).mono ?_
                    rintro e w4 ⟨rfl, rfl⟩
                    go_wp2_with fail
                    refine hO.mono ?_
                    rintro e w5 ⟨n5, o5, rfl, m5, c5, s5, f5⟩
                    have F5 : Fr (fun _ => False) w w5 := F.trans f5 fun x h e => by have := hown x e; omega
                    have b5 : w5.heap[cb]? = some (curBlk m s k) := (f5.block cb (lt_of_blk hcb) hn).trans hcb
                    have n6 : ¬ o5 cb := fun e => by rcases s5 cb e with e | e; exact hn e; have := lt_of_blk hcb; omega
                    have o6 : ∀ x, o5 x → w.heap.size ≤ x := fun x e => by rcases s5 x e with e | e; exact hown x e; exact Nat.le_trans F.size e
                    clear F f5 s5 hcb hn hown hM
                    clear hO
                    go_wp2_with fail
                    go_roundg (gk - 1)
                    case measure => have := HY.out; omega
                    case rel =>
                      have hrow := HRW.out
                      obtain ⟨y1, y2, y3, y4, y5, y6⟩ := HY.out
                      have := HB.out xs (by omega)
                      exact ⟨i + 1, st + 1, c2 + n5, o5, _, by go_num, by go_num, by omega, by omega, m5, b5, n6, hrow.1, hrow.2.1, hrow.2.2.1, hrow.2.2.2, by omega, by omega, o6, F5⟩
                  · have h3' : ((st : Int) % 3 == 2) = false := by rw [beq_eq_false_iff_ne]; omega
                    have hlen := len_anyK m false c2 own xs wr hM
                    by_cases h300 : xs.length < 300
                    · have h300' : (xs.length : Int) < 300 := by omega
                      have HRW : Hid (rng (lput false (y * 2 + 1) (-1) xs) ∧ ev (lput false (y * 2 + 1) (-1) xs) = ev xs0 ∧ sn = cnt L (lput false (y * 2 + 1) (-1) xs) ∧ (lput false (y * 2 + 1) (-1) xs).length ≤ 300) := by
                        have e := ev_put hsrt (ho (-1))
                        exact ⟨rng_put hrg (by omega) (by omega), e.trans hev, by rw [cnt_congrK e]; exact hsn, by rw [len_put]; split <;> omega⟩
                      have hO := put_anyK m false c2 own xs (y * 2 + 1) (-1) wr hM d0 hcc (by omega)
                      rw [(lputF_room (t := false) (k := y * 2 + 1) (v := -1) (xs := xs) (by omega)).1] at hO
                      clear hcell hq hrg hev hsn hxl d0 d1 z0 hst hsrt ho hi1 hst1 hcc h300 h3
                      go_wp2_with fail
                      refine (hp _).mono ?_
                      rintro e w4 ⟨rfl, rfl⟩
                      go_wp2_with fail
                      refine hlen.mono ?_
                      rintro e w4 ⟨rfl, rfl⟩
                      clear hlen
                      go_wp2_with fail
                      refine hO.mono ?_
                      rintro e w5 ⟨n5, o5, rfl, m5, c5, _, s5, f5⟩
                      have F5 : Fr (fun _ => False) w w5 := F.trans f5 fun x h e => by have := hown x e; omega
                      have b5 : w5.heap[cb]? = some (curBlk m s k) := (f5.block cb (lt_of_blk hcb) hn).trans hcb
                      have n6 : ¬ o5 cb := fun e => by rcases s5 cb e with e | e; exact hn e; have := lt_of_blk hcb; omega
                      have o6 : ∀ x, o5 x → w.heap.size ≤ x := fun x e => by rcases s5 x e with e | e; exact hown x e; exact Nat.le_trans F.size e
                      clear F f5 s5 hcb hn hown hM
                      clear hO
                      go_wp2_with fail
                      go_roundg (gk - 1)
                      case measure => have := HY.out; omega
                      case rel =>
                        have hrow := HRW.out
                        obtain ⟨y1, y2, y3, y4, y5, y6⟩ := HY.out
                        have := HB.out xs (by omega)
                        exact ⟨i + 1, st + 1, c2 + n5, o5, _, by go_num, by go_num, by omega, by omega, m5, b5, n6, hrow.1, hrow.2.1, hrow.2.2.1, hrow.2.2.2, by omega, by omega, o6, F5⟩
                    · have hd : decide (xs.length < 300) = false := by simp; omega
                      have hd2 : decide ((xs.length : Int) < 300) = false := by simp; omega
                      have HRW : Hid (rng xs ∧ ev xs = ev xs0 ∧ sn = cnt L xs ∧ xs.length ≤ 300) := ⟨hrg, hev, hsn, hxl⟩
                      clear hcell hq hrg hev hsn hxl d0 d1 z0 hst hsrt ho hi1 hst1 hcc h300 h3
                      go_wp2_with fail
                      refine (hp _).mono ?_
                      rintro e w4 ⟨rfl, rfl⟩
                      go_wp2_with fail
                      refine hlen.mono ?_
                      rintro e w4 ⟨rfl, rfl⟩
                      clear hlen
                      go_wp2_with fail
                      go_roundg (gk - 1)
                      case measure => have := HY.out; omega
                      case rel =>
                        obtain ⟨y1, y2, y3, y4, y5, y6⟩ := HY.out
                        have hrow := HRW.out
                        exact ⟨i + 1, st + 1, c2, own, xs, by go_num, by go_num, by omega, by omega, hM, hcb, hn, hrow.1, hrow.2.1, hrow.2.2.1, hrow.2.2.2, by omega, by omega, hown, F⟩
              · have hcl : cnt L xs < (ev xs).length := by have := HX0.out; have := HS.out.2.1; rw [← hsn, hev, this]; omega
                obtain ⟨k1, k2, k3, p, kp, kq⟩ := next_step (L := L) hsrt hcl
                have h3 : s = 0 ∨ s = 1 ∨ s = 2 := by rcases HSD.out with h | h | h; exact Or.inl h.1; exact Or.inr (Or.inr h.1); exact Or.inr (Or.inl h.1)
                have hpas := pas_eq hsrt hrg HSD.out
                rw [← hpas] at k1 k2 k3 kq
                have hcn := cnext_anyK m cb false c2 own xs s k wr hM hcb hn d0 (by have := HX0.out; omega) (by omega) h3 k1
                generalize latK xs (pas false s k xs) = K at *
                generalize latV xs (pas false s k xs) = V at *
                have kr := hrg p kp
                rw [kq] at kr
                have HC : Hid (cnt K xs = cnt L xs + (if K.tmod 2 = 0 then 1 else 0)) := k3
                have HR : Hid (rng xs ∧ ev xs = ev xs0) := ⟨hrg, hev⟩
                have HX : Hid (((G + 1 : Nat) : Int) + L = 4001 ∧ L < K ∧ K ≤ 4000 ∧ sn = cnt L xs ∧ xs.length ≤ 300 ∧ 0 ≤ c2 ∧ c2 ≤ 4000000 + 30000 * (L + 1) + 20000) := ⟨HX0.out.1, k2, kr.2, hsn, hxl, d0, by have := HX0.out; omega⟩
                have kr0 := kr.1
                have kr1 := kr.2
                have hKL : decide (K ≤ L) = false := by simp; omega
                rcases (show ¬ ((i : Int) < 2) ∨ ((i : Int) < 2 ∧ ¬ ((st : Int) < (qs.length : Int))) by omega) with hi1 | ⟨hi1, hi2⟩
                all_goals
                  clear k1 k2 k3 kp kq kr hpas h3 hcl hrg hev hsn hxl d0 d1 z0 hsrt hi
                  go_wp2_with fail
                  refine hcn.mono ?_
                  rintro e w5 ⟨n5, rfl, m5, b5, c5, f5⟩
                  have F5 : Fr (fun _ => False) w w5 := F.trans f5 fun x h e => by rcases e with e | e <;> omega
                  clear F f5 hcn hM hcb
                  have hKt : K.tmod 2 = K % 2 := Int.tmod_eq_emod_of_nonneg kr0
                  have HKT : Hid (K.tmod 2 = K % 2) := hKt
                  clear hKt
                  by_cases hE : K % 2 = 0
                  · have hE' : (K % 2 == 0) = true := by rw [beq_iff_eq]; exact hE
                    have HC2 : Hid (cnt K xs = cnt L xs + 1) := by have := HC.out; rw [if_pos (HKT.out.trans hE)] at this; exact this
                    clear hE
                    go_wp2_with fail
                    go_roundg (4001 - K).toNat
                    case measure => have := HX.out; omega
                    case rel =>
                      obtain ⟨x1, x2, x3, x4, x5, x6, x7⟩ := HX.out
                      have := HB.out xs (by omega)
                      exact ⟨K, st, sn + 1, c2 + n5, own, xs, 2, K, rfl, rfl, by go_num, by omega, by omega, by omega, hst, m5, b5, hn, Or.inr (Or.inl ⟨rfl, rfl⟩), HR.out.1, HR.out.2, by have := HC2.out; omega, by omega, by omega, by omega, hown, F5⟩
                  · have hE' : (K % 2 == 0) = false := by rw [beq_eq_false_iff_ne]; exact hE
                    have HC2 : Hid (cnt K xs = cnt L xs) := by have := HC.out; rw [HKT.out, if_neg hE] at this; exact this
                    clear hE
                    go_wp2_with fail
                    go_roundg (4001 - K).toNat
                    case measure => have := HX.out; omega
                    case rel =>
                      obtain ⟨x1, x2, x3, x4, x5, x6, x7⟩ := HX.out
                      have := HB.out xs (by omega)
                      exact ⟨K, st, sn, c2 + n5, own, xs, 2, K, rfl, rfl, rfl, by omega, by omega, by omega, hst, m5, b5, hn, Or.inr (Or.inl ⟨rfl, rfl⟩), HR.out.1, HR.out.2, by have := HC2.out; omega, by omega, by omega, by omega, hown, F5⟩
          · have hlt1 : ¬ (sn : Int) < (N : Int) := by omega
            have hall : cnt L xs = N := by
              have : cnt L xs ≤ (ev xs).length := List.countP_le_length
              omega
            have hsrt : Srt false xs := hM.choose_spec.choose_spec.2.2.2.2
            have hcm : c ≤ 200000000 := by omega
            have om := hown m ((hM.choose_spec.choose_spec.2.2.2.1 m).2 (Or.inl rfl))
            have hN3 : (N : Int) ≤ 100 := by have := HS.out.2.2.2; omega
            have HQ : Hid (-1 ≤ L ∧ L ≤ 4000 ∧ cnt L xs = N ∧ 0 ≤ c) := ⟨y2, y3, hall, c0⟩
            have HRS : Hid (rng xs ∧ Srt false xs ∧ xs.length ≤ 300 ∧ c ≤ 200000000) := ⟨hrg, hsrt, hxl, hcm⟩
            clear hlt hsn hev hN2 y1 c1 hst hall hsrt hcm hrg hxl c0 y2 y3
            go_wp2_with fail
            go_loopg [12, 20] (L + 2).toNat (fun gk s12 s20 wr => ∃ (L : Int) (sn : Nat) (c2 s k : Int), s12 = .int .i64 L ∧ s20 = .int .i64 sn ∧ (gk : Int) = L + 2 ∧ -1 ≤ L ∧ L ≤ 4000 ∧ MapK wr m false c2 own xs ∧ wr.heap[cb]? = some (curBlk m s k) ∧ Stands s k L ∧ sn + cnt L xs = N ∧
              0 ≤ c2 ∧ c2 ≤ 300000000 - 10000 * L ∧ Fr (fun _ => False) w wr)
            case atStart =>
              obtain ⟨q1, q2, q3, q4⟩ := HQ.out
              exact ⟨L, 0, c, s, k, rfl, rfl, by omega, q1, q2, hM, hcb, hsd, by omega, q4, by have := HRS.out; omega, F⟩
            case round =>
              clear hM hcb hsd F
              obtain ⟨L2, sn2, c2, s2, k2, rfl, rfl, y1, y2, y3, hM, hcb, hsd, hsum, d0, d1, F⟩ := hrel
              by_cases hlt2 : sn2 < N
              · have hlt3 : (sn2 : Int) < (N : Int) := by omega
                have hsb2 : (sn2 : Int) ≤ 100 := by omega
                obtain ⟨r1, r2, r3, r4⟩ := HRS.out
                obtain ⟨k1, kk2, k3, p, kp, kq⟩ := prev_step (L := L2) r2 (by omega)
                have h3 : s2 = 0 ∨ s2 = 1 ∨ s2 = 2 := by rcases hsd with h | h | h; exact Or.inl h.1; exact Or.inr (Or.inr h.1); exact Or.inr (Or.inl h.1)
                have hpas := pas_eq r2 r1 hsd
                rw [← hpas] at k1 kk2 k3 kq
                have hcn := cprev_anyK m cb false c2 own xs s2 k2 wr hM hcb hn d0 (by omega) (by omega) h3 k1
                generalize latK xs (pas false s2 k2 xs - 1) = K at *
                generalize latV xs (pas false s2 k2 xs - 1) = V at *
                have kr := r1 p kp
                rw [kq] at kr
                obtain ⟨kr0, kr1⟩ := kr
                have HX : Hid ((gk : Int) = L2 + 2 ∧ -1 ≤ L2 ∧ L2 ≤ 4000 ∧ K ≤ L2 ∧ 0 ≤ K ∧ sn2 + cnt L2 xs = N ∧ 0 ≤ c2 ∧ c2 ≤ 300000000 - 10000 * L2 ∧ cnt L2 xs = cnt (K - 1) xs + (if K.tmod 2 = 0 then 1 else 0)) := ⟨y1, y2, y3, kk2, kr0, hsum, d0, d1, k3⟩
                have hKL : decide (L2 < K) = false := by simp; omega
                clear k1 kk2 k3 kp kq hpas h3 hsum hsd r1 r2 r3 r4 y1 hlt2
                go_wp2_with fail
                refine hcn.mono ?_
                rintro e w5 ⟨n5, rfl, m5, b5, c5, f5⟩
                have F5 : Fr (fun _ => False) w w5 := F.trans f5 fun x h e => by rcases e with e | e <;> omega
                clear F f5 hcn hM hcb d0 d1
                have hKt : K.tmod 2 = K % 2 := Int.tmod_eq_emod_of_nonneg kr0
                have HKT : Hid (K.tmod 2 = K % 2) := hKt
                clear hKt
                by_cases hE : K % 2 = 0
                · have hE' : (K % 2 == 0) = true := by rw [beq_iff_eq]; exact hE
                  have HE : Hid (K % 2 = 0) := hE
                  clear hE
                  go_wp2_with fail
                  go_roundg (K + 1).toNat
                  case measure => have := HX.out; omega
                  case rel =>
                    obtain ⟨x1, x2, x3, x4, x5, x6, x7, x8, x9⟩ := HX.out
                    rw [HKT.out, if_pos HE.out] at x9
                    have := HB.out xs (by have := HRS.out; omega)
                    exact ⟨K - 1, sn2 + 1, c2 + n5, 1, K, rfl, by go_num, by omega, by omega, by omega, m5, b5, Or.inr (Or.inr ⟨rfl, by omega⟩), by omega, by omega, by omega, F5⟩
                · have hE' : (K % 2 == 0) = false := by rw [beq_eq_false_iff_ne]; exact hE
                  have HE : Hid (¬ K % 2 = 0) := hE
                  clear hE
                  go_wp2_with fail
                  go_roundg (K + 1).toNat
                  case measure => have := HX.out; omega
                  case rel =>
                    obtain ⟨x1, x2, x3, x4, x5, x6, x7, x8, x9⟩ := HX.out
                    rw [HKT.out, if_neg HE.out] at x9
                    have := HB.out xs (by have := HRS.out; omega)
                    exact ⟨K - 1, sn2, c2 + n5, 1, K, rfl, rfl, by omega, by omega, by omega, m5, b5, Or.inr (Or.inr ⟨rfl, by omega⟩), by omega, by omega, by omega, F5⟩
              · have hlt3 : ¬ (sn2 : Int) < (N : Int) := by omega
                clear hM hcb hsd hsum d0 d1 y1 y2 y3 hlt2
                go_wp2_with fail
                go_ret
                exact ⟨rfl, F⟩

end Go.Proofs.YthbnbocpddddmaaGreat
