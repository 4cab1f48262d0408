import Derived.Test.YthbnbocpddddmaaGreatQJ
import Derived.Test.YthbnbocpddddmaaGreatQY
import Derived.Test.YthbnbocpddddmaaGreatQZ
import Derived.RangeFuncNested
import Derived.RangeFuncBound
import Derived.RangeFuncCalls
import Derived.RangeFuncLeaves
import Derived.Shelf.Abstract
import Derived.Shelf.RegionOpen
import Derived.OwnWalkIn
import Derived.TacticsInMore
import Derived.LoopNIn
import Derived.LoopIn
namespace Go.Proofs.YthbnbocpddddmaaGreat
open Go.RowKit Go.Shelf

attribute [local go_sem] Oper.semAt_some

/-- Where a key stands that is there. -/
theorem lrank_at {t : Bool} {xs : Row} (h : Srt t xs) {j : Nat} {p : Int × Int} (hj : xs[j]? = some p) : lrank t p.1 xs = j ∧ lsame p.1 xs = true := by
  obtain ⟨hl, he⟩ := List.getElem?_eq_some_iff.1 hj
  have hs : lsame p.1 xs = true := by rw [lsame, List.any_eq_true]; exact ⟨p, List.mem_of_getElem? hj, by simp⟩
  refine ⟨?_, hs⟩
  obtain ⟨q, hq, e⟩ := at_rank h hs
  rcases Nat.lt_trichotomy (lrank t p.1 xs) j with c | c | c
  · exact absurd e (srt_ne h hq hj (by omega))
  · exact c
  · exact absurd e (srt_ne h hq hj (by omega))

theorem pas_two {t : Bool} {xs : Row} (h : Srt t xs) {j : Nat} {p : Int × Int} (hj : xs[j]? = some p) : pas t 2 p.1 xs = ((j + 1 : Nat) : Int) := by
  obtain ⟨h1, h2⟩ := lrank_at h hj
  unfold pas
  rw [if_neg (by omega), h1, if_pos ⟨h2, rfl⟩]
  omega
theorem pas_one (t : Bool) (k : Int) (xs : Row) : pas t 1 k xs = (lrank t k xs : Int) := by
  unfold pas
  rw [if_neg (by omega), if_neg (by omega)]
  omega

theorem next_anyG (g : Bool) (m : Nat) (t : Bool) (c : Int) (own : Nat → Prop) (xs : Row) (s k : Int) (w : World) (h : MapG g w m t c own xs) (b0 : 0 ≤ c) (b1 : c ≤ 8000000000000000000) (hs : xs.length ≤ 400) (h3 : s = 0 ∨ s = 1 ∨ s = 2) :
    Calls Tryz.prog 153 #[.pointer (some ⟨m, 0, none⟩), .agg #[.int .i64 s, kv k]] w fun e w' => ∃ n : Nat, e = .returned (.tuple #[kv (latK xs (pas t s k xs)), kv (latV xs (pas t s k xs)), .bool (latB xs (pas t s k xs))]) ∧
      MapG g w' m t (c + n) own xs ∧ n ≤ 10000 ∧ Fr (fun x => x = m) w w' := by
  cases g
  · exact (next_anyT m t c own xs s k w h b0 b1 (by omega) h3).mono fun _ _ ⟨n, q1, q2, q3, q4⟩ => ⟨n, q1, q2, Nat.le_trans q3 (few_le hs), q4⟩
  · exact next_anyK m t c own xs s k w h b0 b1 (by omega) h3

/-- How many rounds are left, at most. -/
def togo (t : Bool) (xs : Row) : Value → Value → Nat
  | .complex _ a b, .bool true => 1 + (xs.length - lrank t (cod a b) xs)
  | _, _ => 0

theorem rk_cod (k : Int) : rk (cod (reB k) (imB k)) = rk k := by
  unfold rk
  rw [reB_cod (reB_lt k) (imB_lt k), imB_cod (imB_lt k)]
theorem togo_at {t : Bool} {xs : Row} (h : Srt t xs) {j : Nat} {p : Int × Int} (hj : xs[j]? = some p) : togo t xs (kv p.1) (.bool true) = 1 + (xs.length - j) := by
  have : lrank t (cod (reB p.1) (imB p.1)) xs = lrank t p.1 xs := by
    unfold lrank
    congr 1
    funext q
    exact less_r (rk_cod p.1)
  simp only [togo]
  rw [this, (lrank_at h hj).1]

theorem lt_cell {w : World} {b o : Nat} {v : Value} (h : w.cell? ⟨b, o, none⟩ = some v) : b < w.heap.size := by
  rcases Nat.lt_or_ge b w.heap.size with c | c
  · exact c
  · simp [World.cell?, Array.getElem?_eq_none c] at h

theorem map_cells {g : Bool} {W : World} {m : Nat} {t : Bool} {c : Int} {own : Nat → Prop} {xs : Row} (h : MapG g W m t c own xs) : ∃ items, W.heap[m]? = some (mapBlk t items c) := by
  cases g
  · obtain ⟨p, oE, h1, _⟩ := h
    exact ⟨_, h1⟩
  · obtain ⟨p, oE, h1, _⟩ := h
    exact ⟨_, h1⟩

set_option maxRecDepth 100000 in
set_option maxHeartbeats 4000000 in
theorem rising1_in (l m Bm Bp : Nat) (g t : Bool) (own : Nat → Prop) (xs : Row) (k c0 : Int) (R : Nat → World → Prop) (Rx : World → Prop) (hl : xs.length ≤ 400) (b0 : 0 ≤ c0) (b1 : c0 ≤ 7500000000000000000) (nm : Bm ≠ m)
    (hR : ∀ j W W', R j W → Fr (fun x => x = m) W W' → (∃ items c, W.heap[m]? = some (mapBlk t items c)) → R j W')
    (hY : ∀ (j : Nat) (p : Int × Int) (W : World) (c : Int), xs[j]? = some p → R j W → MapG g W m t c own xs → c0 ≤ c → c ≤ c0 + 10001 * ((j : Int) + 1) → YieldAt Fence.wide 0 Tryz.prog l #[kv p.1, kv p.2] W fun e W' =>
      (e = .returned (.bool true) ∧ R (j + 1) W' ∧ (∃ c', MapG g W' m t c' own xs ∧ c ≤ c' ∧ c' ≤ c + 1) ∧ W'.cell? ⟨Bm, 0, none⟩ = W.cell? ⟨Bm, 0, none⟩) ∨ (e = .returned (.bool false) ∧ Rx W' ∧ ∃ c', MapG g W' m t c' own xs ∧ c ≤ c' ∧ c' ≤ c + 1))
    (W : World) (hM : MapG g W m t c0 own xs) (hBm : W.cell? ⟨Bm, 0, none⟩ = some (.pointer (some ⟨m, 0, none⟩))) (hB0 : W.cell? ⟨Bp, 0, none⟩ = some (.int .i64 1)) (hB1 : W.cell? ⟨Bp, 1, none⟩ = some (kv k)) (zm : Bm < W.heap.size) (h0 : R (lrank t k xs) W) :
    CallsIn Fence.wide 0 Tryz.prog 172 #[.func (.yield l) #[] #[], .pointer (some ⟨Bm, 0, none⟩), .pointer (some ⟨Bp, 0, none⟩)] W fun e W' => (∃ v, e = .returned v) ∧ (∃ c', MapG g W' m t c' own xs ∧ c0 ≤ c' ∧ c' ≤ c0 + 4100000) ∧ (R xs.length W' ∨ Rx W') := by
  have hn := next_anyG g m t c0 own xs 1 k W hM b0 (by omega) hl (Or.inr (Or.inl rfl))
  rw [pas_one] at hn
  have hsr := hM.srt
  have hlr := lrank_le t k xs
  refine callsIn_of_wp Tryz.func172 rfl trivial ?_ rfl
  simp only [Tryz.ntmps172, List.size_toArray, List.length_cons, List.length_nil, Nat.reduceAdd, Nat.reduceSub, Array.replicate_succ, Array.replicate_zero, List.push_toArray, List.append_toArray, List.nil_append, List.cons_append]
  gi_wp2_with fail
  refine ⟨trivial, rfl, (callsIn_wide.2 hn).mono ?_⟩
  rintro e W1 ⟨n1, rfl, M1, hn1, F1⟩
  have hc1 := (F1.cell (b := Bm) 0 zm nm).trans hBm
  have R1 := hR _ W W1 h0 F1 (let ⟨items, e⟩ := map_cells hM; ⟨items, _, e⟩)
  have z1 := Nat.lt_of_lt_of_le zm F1.size
  clear hn
  gi_wp2_with fail
  gi_loopw [4, 5, 6] (fun s4 s5 s6 wr => ∃ (j : Nat) (c : Int), j ≤ xs.length ∧ s4 = kv (latK xs j) ∧ s5 = kv (latV xs j) ∧ s6 = .bool (latB xs j) ∧ R j wr ∧ MapG g wr m t c own xs ∧ c0 ≤ c ∧ c ≤ c0 + 10001 * ((j : Int) + 1) ∧ wr.cell? ⟨Bm, 0, none⟩ = some (.pointer (some ⟨m, 0, none⟩)) ∧ Bm < wr.heap.size)
    (fun s4 s5 s6 wr => togo t xs s4 s6)
  case atStart => exact ⟨lrank t k xs, _, hlr, rfl, rfl, rfl, R1, M1, by omega, by omega, hc1, z1⟩
  case round =>
    obtain ⟨j, c, hj, rfl, rfl, rfl, hRj, M2, c20, c21, hcm, zm2⟩ := hrel
    by_cases hlt : j < xs.length
    · obtain ⟨p, hp⟩ : ∃ p, xs[j]? = some p := ⟨_, List.getElem?_eq_getElem hlt⟩
      obtain ⟨e1, e2, e3⟩ := lat_in hp
      rw [e1, e2, e3]
      obtain ⟨fn, tmps, assign, body, hy, hRd⟩ := hY j p wr c hp hRj M2 c20 c21
      gi_wp2_with fail
      refine ⟨rfl, hRd.mono ?_⟩
      rintro e W3 (⟨rfl, R3, ⟨c3, M3, c30, c31⟩, hb3⟩ | ⟨rfl, Rx3, c3, M3, c30, c31⟩)
      · have hc3 := hb3.trans hcm
        have z3 : Bm < W3.heap.size := lt_cell hc3
        have hn2 := next_anyG g m t c3 own xs 2 p.1 W3 M3 (by omega) (by omega) hl (Or.inr (Or.inr rfl))
        rw [pas_two hsr hp] at hn2
        gi_wp2_with fail
        refine ⟨trivial, rfl, (callsIn_wide.2 hn2).mono ?_⟩
        rintro e W4 ⟨n4, rfl, M4, hn4, F4⟩
        have R4 := hR _ W3 W4 R3 F4 (let ⟨items, e⟩ := map_cells M3; ⟨items, _, e⟩)
        have hc4 := (F4.cell (b := Bm) 0 z3 nm).trans hc3
        have z4 := Nat.lt_of_lt_of_le z3 F4.size
        gi_wp2_with fail
        go_roundw
        case rel => exact ⟨j + 1, _, by omega, rfl, rfl, rfl, R4, M4, by omega, by omega, hc4, z4⟩
        case measure =>
          rw [togo_at hsr hp]
          by_cases hn : j + 1 < xs.length
          · obtain ⟨p', hp'⟩ : ∃ p, xs[j + 1]? = some p := ⟨_, List.getElem?_eq_getElem hn⟩
            obtain ⟨d1, d2, d3⟩ := lat_in hp'
            rw [show ((j : Int) + 1) = ((j + 1 : Nat) : Int) from by omega, d1, d3, togo_at hsr hp']
            omega
          · rw [latB_ge (Or.inr (by omega))]
            simp only [togo]
            omega
      · gi_wp2_with fail
        go_end0
        exact ⟨⟨_, rfl⟩, ⟨c3, M3, by omega, by omega⟩, Or.inr Rx3⟩
    · have hjl : j = xs.length := by omega
      subst hjl
      rw [latB_ge (Or.inr (Int.le_refl _))]
      gi_wp2_with fail
      refine ⟨fun _ h => (by cases h), ?_⟩
      gi_wp2_with fail
      go_end0
      exact ⟨⟨_, rfl⟩, ⟨c, M2, c20, by omega⟩, Or.inl hRj⟩

/-- How the body of a round may be left: the loop's own two blocks lie as they lay. -/
def post2 (I : Nat → World → Prop) (Ix : World → Prop) (G : World → World → Prop) (B j : Nat) (W : World) : Exit → Act → World → Prop
  | .normal, _, W' => (W'.heap[B]? = W.heap[B]? ∧ W'.heap[B + 1]? = W.heap[B + 1]?) ∧ G W W' ∧ I (j + 1) W'
  | .ret, _, W' => (W'.heap[B]? = W.heap[B]? ∧ W'.heap[B + 1]? = W.heap[B + 1]?) ∧ G W W' ∧ Ix W'
  | _, _, _ => False

/-- A range over a function that hands on keys and values; the function may write what its steps 'St' allow. -/
theorem range_law {P : Program} {gO : Operand} {ps : Array Tmp} {assign body : Code} {Q : Exit → Act → World → Prop} {a : Act} {w : World} {gf : Nat} {lb : Array Value}
    (hg : a.eval gO = .func (.func gf) #[] lb) (eg : ∀ args w, (callFunc gf args).run P w = .ok (.enter gf args) w) (hps : ps.size = 2)
    (I : Nat → World → Prop) (Ix : World → Prop) (E : Nat → World → Prop) (G : World → World → Prop) (Z : World → Prop) (St : World → World → Prop) (it : Nat → Option (Int × Int)) (i0 jf : Nat) (a₁ : Int × Int → Act)
    (hI : ∀ j W l o, I j W → l = w.heap.size + 1 → I j (W.putObj l o)) (hIx : ∀ W l o, Ix W → l = w.heap.size + 1 → Ix (W.putObj l o)) (hE : ∀ j W l o, E j W → l = w.heap.size + 1 → E j (W.putObj l o)) (hZ : ∀ W l o, Z W → l = w.heap.size + 1 → Z (W.putObj l o))
    (hG1 : ∀ W l o W', l = w.heap.size + 1 → G (W.putObj l o) W' → G W W') (hG2 : ∀ W W' l o, l = w.heap.size + 1 → G W W' → G W (W'.putObj l o))
    (hSt : ∀ j W W' o o', I j W → St W W' → W.heap[w.heap.size]? = some (.deferred o) → W.heap[w.heap.size + 1]? = some (.loop o') → I j W' ∧ W'.heap[w.heap.size]? = W.heap[w.heap.size]? ∧ W'.heap[w.heap.size + 1]? = W.heap[w.heap.size + 1]?)
    (h0 : ∀ o o', I i0 ((w.alloc o).alloc o'))
    (hassign : ∀ (l : Nat) (x : Int × Int) (W : World) (K : Act → World → Prop), K (a₁ x) W →
      assign.wpIn (Fence.wide.inRound l) 0 P (Exit.then K (fun _ _ _ => False)) { tmps := (ps.zip #[kv x.1, kv x.2]).foldl (fun t (p, v) => t.setIfInBounds p v) a.tmps, defers := [] } W)
    (hbody : ∀ (j : Nat) (x : Int × Int) (W : World), it j = some x → I j W → E j W → w.heap.size + 2 ≤ W.heap.size → body.wpIn (Fence.wide.inRound (w.heap.size + 1)) 0 P (post2 I Ix G w.heap.size j W) (a₁ x) W)
    (hseq : ∀ (R : Nat → World → Prop) (Rx : World → Prop) (W1 : World), Fr (fun _ => False) w W1 → W1.heap.size = w.heap.size + 2 → (∀ W, Rx W → Ix W) → (∀ j W W', R j W → St W W' → R j W') →
      (∀ j x W, it j = some x → R j W → E j W → YieldAt Fence.wide 0 P (w.heap.size + 1) #[kv x.1, kv x.2] W fun e W' => (e = .returned (.bool true) ∧ R (j + 1) W' ∧ G W W') ∨ (e = .returned (.bool false) ∧ Rx W' ∧ G W W')) →
      R i0 W1 → CallsIn Fence.wide 0 P gf (#[.func (.yield (w.heap.size + 1)) #[] #[]] ++ lb) W1 fun e W' => (∃ v, e = .returned v) ∧ Z W' ∧ (R jf W' ∨ Rx W'))
    (hdone : ∀ W, I jf W → Z W → W.heap[w.heap.size]? = some (.deferred (some [])) → Q .normal { a with defers := { target := .collected w.heap.size, args := #[] } :: a.defers } W)
    (hstop : ∀ W, Ix W → Z W → W.heap[w.heap.size]? = some (.deferred (some [])) → Code.ret.wpIn Fence.wide 0 P Q { a with defers := { target := .collected w.heap.size, args := #[] } :: a.defers } W) :
    (Code.rangeFunc gO ps assign body).wpIn Fence.wide 0 P Q a w := by
  refine wpIn_rangeFunc ?_
  intro fn hfn
  obtain ⟨rec, hrec⟩ : ∃ rec : LoopState → Option Code → Loop, rec = fun st pe => { state := st, pending := pe, fn, tmps := a.tmps, params := ps, assign, body, defers := w.heap.size } := ⟨_, rfl⟩
  obtain ⟨W1, hW1⟩ : ∃ W1, (w.alloc (.deferred (some []))).alloc (.loop (rec .ready none)) = W1 := ⟨_, rfl⟩
  have hL1 : W1.heap[w.heap.size + 1]? = some (.loop (rec .ready none)) := by
    rw [← hW1]; have := World.alloc_heap_new (w.alloc (.deferred (some []))) (.loop (rec .ready none)); rwa [World.size_alloc] at this
  have hK1 : W1.heap[w.heap.size]? = some (.deferred (some [])) := by
    rw [← hW1]; exact (Below.heap_alloc _ _ _ (by simp)).trans (World.alloc_heap_new w _)
  have hI1 : I i0 W1 := by rw [← hW1]; exact h0 _ _
  have hS1 : W1.heap.size = w.heap.size + 2 := by rw [← hW1]; simp
  have hF1 : Fr (fun _ => False) w W1 := by rw [← hW1]; exact Fr.alloc (Fr.alloc (Fr.refl _ _) _) _
  refine ⟨w.heap.size + 1, [{ target := .collected w.heap.size, args := #[] }], W1, { target := .fn (.func gf) lb, args := #[.func (.yield (w.heap.size + 1)) #[] #[]] }, W1, gf,
    #[.func (.yield (w.heap.size + 1)) #[] #[]] ++ lb, W1, ?_, ?_, ?_, ?_, fun h => (by cases h), ?_⟩
  · rw [← hW1, hrec]; exact run_enterLoop_outer _ _ _ _ _
  · simp only [resolve, hg]
    simp [go_sem]
  · intro f' hf'; exact trivial
  · simp [invoke, go_sem, eg]
  · refine (hseq
      (fun j W => I j W ∧ W.heap[w.heap.size + 1]? = some (.loop (rec .ready none)) ∧ W.heap[w.heap.size]? = some (.deferred (some [])))
      (fun W => Ix W ∧ W.heap[w.heap.size + 1]? = some (.loop (rec .done (some .ret))) ∧ W.heap[w.heap.size]? = some (.deferred (some [])))
      W1 hF1 hS1 (fun _ h => h.1) ?_ ?_ ⟨hI1, hL1, hK1⟩).mono ?_
    · rintro j W W' ⟨hi, hl, hk⟩ hst
      obtain ⟨q1, q2, q3⟩ := hSt j W W' _ _ hi hst hk hl
      exact ⟨q1, q3.trans hl, q2.trans hk⟩
    · rintro j x W hx ⟨hi, hl, hk⟩ he
      have hlt : w.heap.size + 1 < W.heap.size := (Array.getElem?_eq_some_iff.1 hl).1
      have hy := run_yield (P := P) (args := #[kv x.1, kv x.2]) hl (by rw [hrec]; exact hps.symm)
      rw [hrec] at hy
      refine ⟨fn, _, assign, body, hy, roundIn_of_wpIn hfn (hassign _ x W _ ⟨_, run_beginRound hl (by rw [hrec]), ?_⟩)⟩
      have hl2 : (W.putObj (w.heap.size + 1) (.loop { rec .ready none with state := .busy })).heap[w.heap.size + 1]? = some (.loop { rec .ready none with state := .busy }) := World.putObj_heap_same hlt
      have hk2 : (W.putObj (w.heap.size + 1) (.loop { rec .ready none with state := .busy })).heap[w.heap.size]? = some (.deferred (some [])) := (World.putObj_heap_other (by omega)).trans hk
      refine wpIn_mono (hbody j x _ hx (hI _ _ _ _ hi rfl) (hE _ _ _ _ he rfl) (by simp; omega)) ?_
      have fin : ∀ (jump : Option Code) (W3 : World), W3.heap[w.heap.size]? = (W.putObj (w.heap.size + 1) (.loop { rec .ready none with state := .busy })).heap[w.heap.size]? → W3.heap[w.heap.size + 1]? = (W.putObj (w.heap.size + 1) (.loop { rec .ready none with state := .busy })).heap[w.heap.size + 1]? →
          (Instr.endRound (w.heap.size + 1) jump).run P W3 = .ok (.bool jump.isNone) (W3.putObj (w.heap.size + 1) (.loop (rec (if jump.isNone then .ready else .done) jump))) ∧
          (W3.putObj (w.heap.size + 1) (.loop (rec (if jump.isNone then .ready else .done) jump))).heap[w.heap.size + 1]? = some (.loop (rec (if jump.isNone then .ready else .done) jump)) ∧
          (W3.putObj (w.heap.size + 1) (.loop (rec (if jump.isNone then .ready else .done) jump))).heap[w.heap.size]? = some (.deferred (some [])) := fun jump W3 h1 h2 => by
        have hl3 := h2.trans hl2
        have := run_endRound (P := P) jump hl3
        rw [hrec] at this ⊢
        exact ⟨this, World.putObj_heap_same (Array.getElem?_eq_some_iff.1 hl3).1, (World.putObj_heap_other (by omega)).trans (h1.trans hk2)⟩
      rintro e a3 W3 hp
      cases e with
      | normal =>
        obtain ⟨⟨h1, h2⟩, hg3, hi3⟩ := hp
        obtain ⟨hr, hl4, hk4⟩ := fin none W3 h1 h2
        exact ⟨_, _, hr, .inl ⟨rfl, ⟨hI _ _ _ _ hi3 rfl, hl4, hk4⟩, hG2 _ _ _ _ rfl (hG1 _ _ _ _ rfl hg3)⟩⟩
      | ret =>
        obtain ⟨⟨h1, h2⟩, hg3, hi3⟩ := hp
        obtain ⟨hr, hl4, hk4⟩ := fin (some .ret) W3 h1 h2
        exact ⟨_, _, hr, .inr ⟨rfl, ⟨hIx _ _ _ hi3 rfl, hl4, hk4⟩, hG2 _ _ _ _ rfl (hG1 _ _ _ _ rfl hg3)⟩⟩
      | exit id => exact hp.elim
      | goto t => exact hp.elim
      | panic ch => exact hp.elim
      | outgrown => exact hp.elim
    · rintro e W2 ⟨⟨v, rfl⟩, hz, (⟨hi, hl, hk⟩ | ⟨hi, hl, hk⟩)⟩
      · exact ⟨none, _, by have := run_endLoop (P := P) hl (by rw [hrec]; simp); rw [hrec] at this; exact this, hdone _ (hI _ _ _ _ hi rfl) (hZ _ _ _ hz rfl) ((World.putObj_heap_other (by omega)).trans hk)⟩
      · exact ⟨some .ret, _, by have := run_endLoop (P := P) hl (by rw [hrec]; simp); rw [hrec] at this; exact this, hstop _ (hIx _ _ _ hi rfl) (hZ _ _ _ hz rfl) ((World.putObj_heap_other (by omega)).trans hk)⟩

end Go.Proofs.YthbnbocpddddmaaGreat
