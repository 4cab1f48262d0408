import Derived.Test.YthbnbocpddddmaaGreatQF
import Derived.Lib.Builder
import Derived.Test.YthbnbocpddddmaaGreatQG
import Derived.Test.YthbnbocpddddmaaGreatQB
namespace Go.Proofs.YthbnbocpddddmaaGreat.SkI
open Go.RowKit

/-- The nodes whose keys are below, then the others: by f. -/
theorem rank_split {f : Int → Int} {xs : RowI} (mono : xs.Pairwise fun a b => 0 ≤ f b.1 → 0 < f a.1) {r : Nat} (hr : r ≤ xs.length) (h1 : r = 0 ∨ ∃ a, xs[r - 1]? = some a ∧ 0 < f a.1) (h2 : ∀ b, xs[r]? = some b → f b.1 ≤ 0) :
    xs.countP (fun a => decide (0 < f a.1)) = r ∧ (xs.any fun a => f a.1 == 0) = (match xs[r]? with | some b => f b.1 == 0 | none => false) := by
  induction xs generalizing r with
  | nil => simp at hr; subst hr; simp
  | cons x xs ih =>
    rw [List.pairwise_cons] at mono
    cases r with
    | zero =>
      have hx := h2 x (by simp)
      have e0 : ∀ b ∈ xs, f b.1 < 0 := fun b hb => by
        rcases Int.lt_or_le (f b.1) 0 with c | c
        · exact c
        · have := mono.1 b hb c; omega
      refine ⟨?_, ?_⟩
      · rw [List.countP_eq_zero]
        intro b hb
        rcases List.mem_cons.1 hb with rfl | hb
        · simp; omega
        · have := e0 b hb; simp; omega
      · have e1 : (xs.any fun a => f a.1 == 0) = false := by
          rw [List.any_eq_false]; intro b hb; have := e0 b hb; simp; omega
        simp [e1]
    | succ r =>
      have hx : 0 < f x.1 := by
        rcases h1 with h1 | ⟨a, ha, hf⟩
        · omega
        · cases r with
          | zero => simp at ha; subst ha; exact hf
          | succ r =>
            simp only [Nat.add_sub_cancel, List.getElem?_cons_succ] at ha
            exact mono.1 a (List.mem_of_getElem? ha) (by omega)
      have := ih mono.2 (r := r) (by simpa using hr) (by
        rcases h1 with h1 | ⟨a, ha, hf⟩
        · omega
        · cases r with
          | zero => exact Or.inl rfl
          | succ r => exact Or.inr ⟨a, by simpa using ha, hf⟩) (fun b hb => h2 b (by simpa using hb))
      refine ⟨?_, ?_⟩
      · rw [List.countP_cons, this.1]; simp [hx]
      · rw [List.any_cons, this.2]
        have : (f x.1 == 0) = false := by rw [beq_eq_false_iff_ne]; omega
        simp [this]

/-- What is known of 'above'. -/
def AbOk (all : List Nd) (f : Int → Int) (q l : Nat) (ab : Option Addr) : Prop := ∀ a, ab = some a → ∃ (ai : Nat) (an : Nd), all[ai]? = some an ∧ a = ⟨an.nb, 0, none⟩ ∧ f an.k < 0 ∧ q < ai ∧ l < an.h

section
variable {P : Program} (w : World)
theorem run_neq_ptr_other {tp te : TypeId} {j : TypeInfo} {a b : Addr} {ca cb : Array Value} {ta tb : TypeId} (hp : P.underlying tp = some (.pointer te)) (hte : P.info? te = some j) (hsz : j.size ≠ 0)
    (hne : a ≠ b) (ha : w.heap[a.block]? = some (.cells ca ta (0, 0))) (hb : w.heap[b.block]? = some (.cells cb tb (0, 0))) :
    (binOp .neq tp (.pointer (some a)) (.pointer (some b))).run P w = .ok (.bool true) w := by
  have h : ∀ d : Nat, (Op.equalIn (d + 1) tp (.pointer (some a)) (.pointer (some b))).run P w = .ok false w := fun d => by
    simp [Op.equalIn, run_underlying hp, sizeOf, typeInfo, hte, hsz, run_sameAddr_other w hne ha hb]
  simp only [binOp]
  simp [Op.equal, Op.maxDepth, h 9999]
end

theorem info_node : ∃ j, Tryz.prog.info? 220 = some j ∧ j.size ≠ 0 := by
  have h : (Tryz.prog.info? 220).map (·.size) = some 3 := by kernel_rfl
  cases hq : Tryz.prog.info? 220 with
  | none => rw [hq] at h; cases h
  | some j => rw [hq] at h; simp at h; exact ⟨j, rfl, by omega⟩

theorem ptr_node : Tryz.prog.underlying 217 = some (.pointer (Tryz.prog.pointee 217)) := by kernel_rfl

theorem neq_same (ab : Option Addr) (w : World) : (binOp .neq 217 (.pointer ab) (.pointer ab)).run Tryz.prog w = .ok (.bool false) w := by
  obtain ⟨j, hj, _⟩ := info_node
  cases ab with
  | none => exact run_neq_pointer_nil w _ none ptr_node
  | some a => exact Lib.run_neq_ptr_same w a Tryz.underlying217 hj

theorem neq_above {w : World} {all : List Nd} {lk : Nat → Nat → Option Addr × Int} (h : SkipAt w all lk) {f : Int → Int} {q l t : Nat} {tn : Nd} {ab : Option Addr} (ht : all[t]? = some tn) (ha : AbOk all f q l ab) (hne : some ⟨tn.nb, 0, none⟩ ≠ ab) :
    (binOp .neq 217 (.pointer (some ⟨tn.nb, 0, none⟩)) (.pointer ab)).run Tryz.prog w = .ok (.bool true) w := by
  obtain ⟨j, hj, hz⟩ := info_node
  cases hab : ab with
  | none => exact run_neq_pointer_nil w _ _ ptr_node
  | some a =>
    obtain ⟨ai, an, g1, g2, _⟩ := ha a hab
    subst g2
    have hn : (⟨tn.nb, 0, none⟩ : Addr) ≠ ⟨an.nb, 0, none⟩ := fun e => hne (by rw [hab, e])
    exact run_neq_ptr_other w Tryz.underlying217 hj hz hn (h.1 _ _ ht).1 (h.1 _ _ g1).1

def FindAt (all : List Nd) (f : Int → Int) (B : Int → Obj) (m : Nat) (c : Int) (w : World) (gk : Nat) (s6 s7 s8 s9 : Value) (wr : World) : Prop :=
  ∃ (q cnt : Nat) (n : Nd) (ab : Option Addr), gk ≤ 9 ∧ s6 = .pointer (some ⟨n.nb, 0, none⟩) ∧ s7 = .int .i64 q ∧ s8 = .pointer ab ∧ s9 = .int .i64 ((gk : Int) - 1) ∧
    all[q]? = some n ∧ gk ≤ n.h ∧ (q = 0 ∨ 0 < f n.k) ∧ AbOk all f q gk ab ∧ (gk < 9 → tgt gk (all.drop (q + 1)) = ab) ∧
    cnt + gk ≤ q + 9 ∧ (cnt = 0 → q = 0 ∧ ab = none) ∧ wr.heap[m]? = some (B (c + cnt)) ∧ Fr (fun x => x = m) w wr

/-- Inside a level. -/
def FindIn (all : List Nd) (f : Int → Int) (B : Int → Obj) (m : Nat) (c : Int) (w : World) (l gk : Nat) (s6 s7 s8 : Value) (wr : World) : Prop :=
  ∃ (q cnt : Nat) (n : Nd) (ab : Option Addr), s6 = .pointer (some ⟨n.nb, 0, none⟩) ∧ s7 = .int .i64 q ∧ s8 = .pointer ab ∧
    all[q]? = some n ∧ l < n.h ∧ (q = 0 ∨ 0 < f n.k) ∧ AbOk all f q l ab ∧ (tgt l (all.drop (q + 1)) = ab ∨ (cnt + l ≤ q + 8 ∧ all.length ≤ q + gk)) ∧
    cnt + l ≤ q + 9 ∧ (cnt = 0 → q = 0 ∧ ab = none) ∧ wr.heap[m]? = some (B (c + cnt)) ∧ Fr (fun x => x = m) w wr

set_option maxRecDepth 100000 in
set_option maxHeartbeats 1000000 in
theorem kFind_any (p m mb kb : Nat) (own : Nat → Prop) (xs : RowI) (f : Int → Int) (B : Int → Obj) (bm bk : Obj) (c : Int) (w : World) (h : Eng w p own xs) (hm : w.heap[m]? = some (B c))
    (hmb : w.heap[mb]? = some bm) (hkb : w.heap[kb]? = some bk) (nm : ¬ own m) (n1 : mb ≠ m) (n2 : kb ≠ m) (b0 : 0 ≤ c) (b1 : c ≤ 8000000000000000000) (hs : xs.length ≤ 4000)
    (mono : xs.Pairwise fun a b => 0 ≤ f b.1 → 0 < f a.1)
    (hside : ∀ (c : Int) (key : Int) (wr : World), (∃ v, (key, v) ∈ xs) → wr.heap[m]? = some (B c) → wr.heap[mb]? = some bm → wr.heap[kb]? = some bk → 0 ≤ c → c ≤ 9000000000000000000 →
      Calls Tryz.prog 96 #[kv key, .pointer (some ⟨mb, 0, none⟩), .pointer (some ⟨kb, 0, none⟩)] wr fun e w' => e = .returned (.int .i64 (f key)) ∧ w'.heap[m]? = some (B (c + 1)) ∧ Fr (fun x => x = m) wr w') :
    Calls Tryz.prog 266 #[.pointer (some ⟨p, 0, none⟩), .func (.func 96) #[] #[.pointer (some ⟨mb, 0, none⟩), .pointer (some ⟨kb, 0, none⟩)]] w fun e w' => ∃ n : Nat,
      e = .returned (.tuple #[.int .i64 (xs.countP fun a => decide (0 < f a.1)), .bool (xs.any fun a => f a.1 == 0)]) ∧ w'.heap[m]? = some (B (c + n)) ∧ n ≤ 10000 ∧ (0 < xs.length → 1 ≤ n) ∧ Fr (fun x => x = m) w w' := by
  obtain ⟨hd, ns, laid, h1, l0, l1, h2, h3, h4, h5, rfl, h7⟩ := h
  rw [List.length_map] at hs ⊢
  have c0 : w.cell? ⟨p, 0, none⟩ = some (.pointer (some ⟨hd.nb, 0, none⟩)) := cell_of h1 0
  have hml := lt_of_blk hm
  have l1' := lt_of_blk hmb
  have l2' := lt_of_blk hkb
  have nmb : m ∉ blocks (hd :: ns) := fun e => nm ((h7 m).2 (Or.inr e))
  have HFIN : Hid (∀ r : Nat, r ≤ ns.length → (r = 0 ∨ ∃ a, ns[r - 1]? = some a ∧ 0 < f a.k) → (∀ b, ns[r]? = some b → f b.k ≤ 0) →
      (ns.map fun n => (n.k, n.v)).countP (fun a => decide (0 < f a.1)) = r ∧ ((ns.map fun n => (n.k, n.v)).any fun a => f a.1 == 0) = (match ns[r]? with | some b => f b.k == 0 | none => false)) := fun r hr e1 e2 => by
    have := rank_split mono (r := r) (by simpa using hr) (by
      rcases e1 with e1 | ⟨a, ha, hf⟩
      · exact Or.inl e1
      · exact Or.inr ⟨(a.k, a.v), by rw [List.getElem?_map, ha]; rfl, hf⟩) (fun b hb => by
        rw [List.getElem?_map] at hb
        cases hn : ns[r]? with
        | none => rw [hn] at hb; cases hb
        | some x => rw [hn] at hb; simp at hb; rw [← hb]; exact e2 x hn)
    refine ⟨this.1, this.2.trans ?_⟩
    rw [List.getElem?_map]
    cases ns[r]? <;> rfl
  generalize hC : (ns.map fun n => (n.k, n.v)).countP (fun a => decide (0 < f a.1)) = C at *
  generalize hA : ((ns.map fun n => (n.k, n.v)).any fun a => f a.1 == 0) = A at *
  have HMONO : Hid (∀ (i j : Nat) (a b : Nd), i < j → ns[i]? = some a → ns[j]? = some b → 0 ≤ f b.k → 0 < f a.k) := fun i j a b hij ha hb hf => by
    have ha' : (ns.map fun n => (n.k, n.v))[i]? = some (a.k, a.v) := by rw [List.getElem?_map, ha]; rfl
    have hb' : (ns.map fun n => (n.k, n.v))[j]? = some (b.k, b.v) := by rw [List.getElem?_map, hb]; rfl
    obtain ⟨la, ea⟩ := List.getElem?_eq_some_iff.1 ha'
    obtain ⟨lb, eb⟩ := List.getElem?_eq_some_iff.1 hb'
    have := List.pairwise_iff_getElem.1 mono i j la lb hij
    rw [ea, eb] at this; exact this hf
  clear h1 l0 l1 h5 h7 mono hC hA
  go_enter Tryz.func266, Tryz.ntmps266
  go_wp2_with fail
  go_loopg [6, 7, 8, 9] 9 (fun gk s6 s7 s8 s9 wr => FindAt (hd :: ns) f B m c w gk s6 s7 s8 s9 wr)
  case atStart => exact ⟨0, 0, hd, none, by omega, rfl, rfl, rfl, by simp, rfl, by omega, Or.inl rfl, (fun a e => by cases e), (fun e => by omega), by omega, fun _ => ⟨rfl, rfl⟩, by simpa using hm, Fr.refl _ _⟩
  case round =>
    obtain ⟨q, cnt, n, ab, z0, rfl, rfl, rfl, rfl, z1, z2, z3, z4, z5, z6, z7, z8, fr⟩ := hrel
    have hql : q < (hd :: ns).length := (List.getElem?_eq_some_iff.1 z1).1
    by_cases hg : gk = 0
    · subst hg
      rw [show ((0 : Nat) : Int) - 1 = -1 by omega]
      have HEND : Hid (C = q ∧ A = false ∧ (0 < ns.length → 1 ≤ cnt)) := by
        have hle : q ≤ ns.length := by simp at hql; omega
        have hnx : ∀ b, ns[q]? = some b → f b.k < 0 := by
          intro b hb
          have hb1 := (h4 b (List.mem_of_getElem? hb)).1
          have hdr : (hd :: ns).drop (q + 1) = b :: ns.drop (q + 1) := by
            obtain ⟨hlt, e⟩ := List.getElem?_eq_some_iff.1 hb
            rw [List.drop_succ_cons, List.drop_eq_getElem_cons hlt, e]
          have ht := z5 (by omega)
          rw [hdr] at ht
          simp only [tgt] at ht
          rw [if_pos (by omega)] at ht
          obtain ⟨ai, an, g1, g2, g3, _⟩ := z4 _ ht.symm
          have hbq : (hd :: ns)[q + 1]? = some b := by simpa using hb
          have e : q + 1 = ai := blocks_inj h2.2 hbq g1 (Or.inl (by simpa using congrArg Addr.block g2))
          subst e
          rw [hbq] at g1; simp at g1; subst g1; exact g3
        obtain ⟨e1, e2⟩ := HFIN.out q hle (by
          rcases z3 with e | e
          · exact Or.inl e
          · cases q with
            | zero => exact Or.inl rfl
            | succ q => exact Or.inr ⟨n, by simpa using z1, e⟩) (fun b hb => by have := hnx b hb; omega)
        refine ⟨e1, ?_, fun hpos => ?_⟩
        · rw [e2]
          cases hb : ns[q]? with
          | none => rfl
          | some b => have := hnx b hb; simp; omega
        · rcases Nat.eq_zero_or_pos cnt with e | e
          · exfalso
            obtain ⟨e3, e4⟩ := z7 e
            subst e3
            have ht := z5 (by omega)
            rw [e4] at ht
            cases ns with
            | nil => simp at hpos
            | cons b ns =>
              have hb1 := (h4 b (by simp)).1
              simp only [List.drop_succ_cons, List.drop_zero, tgt] at ht
              rw [if_pos (by omega)] at ht
              cases ht
          · exact e
      clear z3 z4 z5 z7
      go_wp2_with fail
      go_ret2
      obtain ⟨e1, e2, e3⟩ := HEND.out
      rw [e1, e2]
      exact ⟨cnt, rfl, z8, by simp at hql; omega, e3, fr⟩
    · obtain ⟨l, rfl⟩ : ∃ l, gk = l + 1 := ⟨gk - 1, by omega⟩
      rw [show ((l + 1 : Nat) : Int) - 1 = (l : Int) by omega]
      have hll : (l : Int) ≤ 8 := by omega
      have HI : Hid (FindIn (hd :: ns) f B m c w l (ns.length + 1) (.pointer (some ⟨n.nb, 0, none⟩)) (.int .i64 q) (.pointer ab) wr) :=
        ⟨q, cnt, n, ab, rfl, rfl, rfl, z1, by omega, z3, fun a e => by obtain ⟨ai, an, g1, g2, g3, g4, g5⟩ := z4 a e; exact ⟨ai, an, g1, g2, g3, g4, by omega⟩, Or.inr ⟨by omega, by simp⟩, by omega, z7, z8, fr⟩
      clear z1 z2 z3 z4 z5 z6 z7 z8 fr hql
      go_wp2_with fail
      go_loopg [6, 7, 8] (ns.length + 1) (fun gk s6 s7 s8 wr => FindIn (hd :: ns) f B m c w l gk s6 s7 s8 wr)
      case atStart => exact HI.out
      case round =>
        clear HI
        obtain ⟨q, cnt, n, ab, rfl, rfl, rfl, z1, z2, z3, z4, z5, z6, z7, z8, fr⟩ := hrel
        have hql : q < (hd :: ns).length := (List.getElem?_eq_some_iff.1 z1).1
        have hall : SkipAt wr (hd :: ns) (canon (hd :: ns)) := h2.congr fun x hx => fr.block x (h2.lt x hx) (fun e => nmb (e ▸ hx))
        obtain ⟨k1, k2, k3⟩ := hall.cells z1 z2
        obtain ⟨nb1, nb2⟩ := hall.1 _ n z1
        have bl1 := lt_of_blk nb1
        have bl2 := lt_of_blk nb2
        obtain ⟨d1, d2, d3, d4⟩ := dist_spec l ((hd :: ns).drop (q + 1))
        simp only [canon] at k2 k3
        have z2' : (l : Int) < (n.h : Int) := by omega
        have hqs : (q : Int) ≤ 4000 := by simp at hql; omega
        by_cases he : tgt l ((hd :: ns).drop (q + 1)) = ab
        · have HR : Hid (FindAt (hd :: ns) f B m c w l (.pointer (some ⟨n.nb, 0, none⟩)) (.int .i64 q) (.pointer ab) (.int .i64 ((l : Int) - 1)) wr) :=
            ⟨q, cnt, n, ab, by omega, rfl, rfl, rfl, rfl, z1, by omega, z3, z4, fun _ => he, by omega, z7, z8, fr⟩
          rw [he] at k2
          have hsame := neq_same ab wr
          clear z3 z4 z5 z6 z7 z8 fr d1 d2 d3 d4 he
          go_wp2_with fail
          go_roundg l
          case measure => omega
          case rel => exact HR.out
        · have z5' := z5.resolve_left he
          rcases d4 with ⟨tn, x1, x2, x3, x4⟩ | ⟨x1, x4⟩
          · rw [List.getElem?_drop] at x2
            have x2' : (hd :: ns)[q + dist l ((hd :: ns).drop (q + 1))]? = some tn := by rw [← x2]; congr 1; omega
            rw [x4] at he k2
            have hneq := neq_above hall x2' z4 he
            obtain ⟨t1, t2⟩ := hall.1 _ tn x2'
            have t3 : wr.cell? ⟨tn.nb, 0, none⟩ = some (kv tn.k) := cell_of t1 0
            have tl1 := lt_of_blk t1
            have hbox : ∀ o, (wr.alloc o).heap[m]? = some (B (c + cnt)) := fun o => by rw [Below.heap_alloc _ _ _ (lt_of_blk z8)]; exact z8
            have hmb' : ∀ o, (wr.alloc o).heap[mb]? = some bm := fun o => by rw [Below.heap_alloc _ _ _ (Nat.lt_of_lt_of_le l1' fr.size)]; exact (fr.block mb l1' n1).trans hmb
            have hkb' : ∀ o, (wr.alloc o).heap[kb]? = some bk := fun o => by rw [Below.heap_alloc _ _ _ (Nat.lt_of_lt_of_le l2' fr.size)]; exact (fr.block kb l2' n2).trans hkb
            have htn : (tn.k, tn.v) ∈ ns.map fun n => (n.k, n.v) := by
              rw [show q + dist l ((hd :: ns).drop (q + 1)) = (q + dist l ((hd :: ns).drop (q + 1)) - 1) + 1 by omega, List.getElem?_cons_succ] at x2'
              exact List.mem_map.2 ⟨tn, List.mem_of_getElem? x2', rfl⟩
            have hcall := fun o => hside (c + cnt) tn.k (wr.alloc o) ⟨tn.v, htn⟩ (hbox o) (hmb' o) (hkb' o) (by omega) (by simp at hql; omega)
            have mwr : m ≠ wr.heap.size := by have := lt_of_blk z8; omega
            have hD1 : (1 : Int) ≤ (dist l ((hd :: ns).drop (q + 1)) : Nat) := by omega
            have hD2 : ((dist l ((hd :: ns).drop (q + 1)) : Nat) : Int) ≤ 4001 := by have hlx : ((hd :: ns).drop (q + 1)).length ≤ 4000 := (by simp; omega); omega
            have hDl : q + dist l ((hd :: ns).drop (q + 1)) < (hd :: ns).length := (List.getElem?_eq_some_iff.1 x2').1
            generalize hDD : dist l ((hd :: ns).drop (q + 1)) = D at *
            clear d3 x2 x1 hbox hmb' hkb' t1 t2 hDD
            rcases Int.lt_trichotomy (f tn.k) 0 with fl | fe | fg
            · -- below: it is above the key sought
              have HR : Hid (∀ W, W.heap[m]? = some (B (c + cnt + 1)) → Fr (fun x => x = m) w W → FindIn (hd :: ns) f B m c w l 0 (.pointer (some ⟨n.nb, 0, none⟩)) (.int .i64 q) (.pointer (some ⟨tn.nb, 0, none⟩)) W) := fun W g1 g2 =>
                ⟨q, cnt + 1, n, _, rfl, rfl, rfl, z1, z2, z3, (fun a e => ⟨q + D, tn, x2', by simpa using e.symm, fl, by omega, x3⟩), Or.inl x4, by omega, (fun e => by omega), by rw [g1]; congr 2; omega, g2⟩
              have HG : Hid (0 < gk) := by have h9 := z5'.2; unfold Hid; omega
              have fl0 : (f tn.k == 0) = false := by rw [beq_eq_false_iff_ne]; omega
              clear z3 z4 z5 z6 z7 z5' x4 he
              go_wp2_with fail
              refine (hcall _).mono ?_
              rintro e w1 ⟨rfl, q1, q2⟩
              have e0 : w1.cell? ⟨wr.heap.size, 0, none⟩ = _ := (World.cell?_of_block (w := wr.alloc _) (q2.block wr.heap.size (by simp) (Ne.symm mwr))).trans (cell_of (blk_new wr _) 0)
              have e1 : w1.cell? ⟨wr.heap.size, 1, none⟩ = _ := (World.cell?_of_block (w := wr.alloc _) (q2.block wr.heap.size (by simp) (Ne.symm mwr))).trans (cell_of (blk_new wr _) 1)
              simp at e0 e1
              go_wp2_with fail
              go_roundg 0
              case measure => exact HG.out
              case rel => exact HR.out _ q1 ((fr.trans (Fr.alloc (Fr.refl _ _) _) fun _ _ e => e).trans q2 fun _ _ e => e)
            · -- the same
              have HEND : Hid (C = q + D - 1 ∧ A = true) := by
                have hns : ns[q + D - 1]? = some tn := by
                  rw [show q + D = (q + D - 1) + 1 by omega, List.getElem?_cons_succ] at x2'; exact x2'
                have hlen := (List.getElem?_eq_some_iff.1 hns).1
                obtain ⟨e1, e2⟩ := HFIN.out (q + D - 1) (by omega) (by
                  rcases Nat.eq_zero_or_pos (q + D - 1) with e | e
                  · exact Or.inl e
                  · obtain ⟨a, ha⟩ : ∃ a, ns[q + D - 1 - 1]? = some a := ⟨_, List.getElem?_eq_getElem (by omega)⟩
                    exact Or.inr ⟨a, ha, HMONO.out _ _ a tn (by omega) ha hns (by omega)⟩) (fun b hb => by rw [hns] at hb; simp at hb; subst hb; omega)
                refine ⟨e1, ?_⟩
                rw [e2, hns]; simp [fe]
              have hcb : cnt + 1 ≤ 10000 := by simp at hql; omega
              clear z3 z4 z5 z6 z7 z5' x4 he
              rw [fe] at hcall
              go_wp2_with fail
              refine (hcall _).mono ?_
              rintro e w1 ⟨rfl, q1, q2⟩
              have e0 : w1.cell? ⟨wr.heap.size, 0, none⟩ = _ := (World.cell?_of_block (w := wr.alloc _) (q2.block wr.heap.size (by simp) (Ne.symm mwr))).trans (cell_of (blk_new wr _) 0)
              have e1 : w1.cell? ⟨wr.heap.size, 1, none⟩ = _ := (World.cell?_of_block (w := wr.alloc _) (q2.block wr.heap.size (by simp) (Ne.symm mwr))).trans (cell_of (blk_new wr _) 1)
              simp at e0 e1
              go_wp2_with fail
              go_ret2
              obtain ⟨g1, g2⟩ := HEND.out
              rw [g1, g2]
              refine ⟨cnt + 1, ?_, by rw [q1]; congr 2; omega, hcb, fun _ => by omega, (fr.trans (Fr.alloc (Fr.refl _ _) _) fun _ _ e => e).trans q2 fun _ _ e => e⟩
              rw [show ((q + D - 1 : Nat) : Int) = (q : Int) + D - 1 by omega]; rfl
            · -- above: on to it
              have HR : Hid (∀ W, W.heap[m]? = some (B (c + cnt + 1)) → Fr (fun x => x = m) w W → FindIn (hd :: ns) f B m c w l (gk - 1) (.pointer (some ⟨tn.nb, 0, none⟩)) (.int .i64 ((q : Int) + D)) (.pointer ab) W) := fun W g1 g2 => by
                refine ⟨q + D, cnt + 1, tn, ab, rfl, by congr 1, rfl, x2', x3, Or.inr fg, (fun a e => ?_), Or.inr ⟨by omega, by omega⟩, by omega, (fun e => by omega), by rw [g1]; congr 2; omega, g2⟩
                obtain ⟨ai, an, y1, y2, y3, y4, y5⟩ := z4 a e
                refine ⟨ai, an, y1, y2, y3, ?_, y5⟩
                rcases Nat.lt_trichotomy ai (q + D) with o | o | o
                · have := HMONO.out (ai - 1) (q + D - 1) an tn (by omega) (by rw [show ai = (ai - 1) + 1 by omega, List.getElem?_cons_succ] at y1; exact y1) (by rw [show q + D = (q + D - 1) + 1 by omega, List.getElem?_cons_succ] at x2'; exact x2') (by omega)
                  omega
                · subst o; rw [x2'] at y1; simp at y1; subst y1; omega
                · exact o
              have HG : Hid (0 < gk) := by have h9 := z5'.2; unfold Hid; omega
              have fl0 : (f tn.k == 0) = false := by rw [beq_eq_false_iff_ne]; omega
              have fl1 : ¬ f tn.k < 0 := by omega
              clear z3 z4 z5 z6 z7 z5' x4 he
              go_wp2_with fail
              refine (hcall _).mono ?_
              rintro e w1 ⟨rfl, q1, q2⟩
              have e0 : w1.cell? ⟨wr.heap.size, 0, none⟩ = _ := (World.cell?_of_block (w := wr.alloc _) (q2.block wr.heap.size (by simp) (Ne.symm mwr))).trans (cell_of (blk_new wr _) 0)
              have e1 : w1.cell? ⟨wr.heap.size, 1, none⟩ = _ := (World.cell?_of_block (w := wr.alloc _) (q2.block wr.heap.size (by simp) (Ne.symm mwr))).trans (cell_of (blk_new wr _) 1)
              simp at e0 e1
              go_wp2_with fail
              go_quiet (fail)
              go_wp2_with fail
              go_roundg (gk - 1)
              case measure => have := HG.out; omega
              case rel => exact HR.out _ q1 (Fr.drewN ((fr.trans (Fr.alloc (Fr.refl _ _) _) fun _ _ e => e).trans q2 fun _ _ e => e) _)
          · -- nothing ahead on this level, but something is known above: it cannot be
            exfalso
            cases hab : ab with
            | none => exact he (by rw [x4, hab])
            | some a =>
              obtain ⟨ai, an, g1, g2, g3, g4, g5⟩ := z4 a hab
              have hlt := (List.getElem?_eq_some_iff.1 g1).1
              have := d3 (ai - (q + 1)) an (by rw [x1]; simp; simp at hlt; omega) (by rw [List.getElem?_drop, ← g1]; congr 1; omega)
              omega

end Go.Proofs.YthbnbocpddddmaaGreat.SkI

namespace Go.Proofs.YthbnbocpddddmaaGreat
open Go.RowKit

def EngK (w : World) (p : Nat) (own : Nat → Prop) (xs : Row) : Prop := SkI.Eng w p own xs

theorem EngK.lt {w : World} {p : Nat} {own : Nat → Prop} {xs : Row} (h : EngK w p own xs) : ∀ x, own x → x < w.heap.size := SkI.Eng.lt h
theorem EngK.own {w : World} {p : Nat} {own : Nat → Prop} {xs : Row} (h : EngK w p own xs) : own p := SkI.Eng.own h
theorem EngK.congr {w w' : World} {p : Nat} {own : Nat → Prop} {xs : Row} (h : EngK w p own xs) (hc : ∀ x, own x → w'.heap[x]? = w.heap[x]?) : EngK w' p own xs := SkI.Eng.congr h hc
theorem EngK.fr {S : Nat → Prop} {w w' : World} {p : Nat} {own : Nat → Prop} {xs : Row} (h : EngK w p own xs) (f : Fr S w w') (hd : ∀ x, own x → ¬ S x) : EngK w' p own xs := SkI.Eng.fr h f hd

theorem kLen_any (p : Nat) (own : Nat → Prop) (xs : Row) (w : World) (h : EngK w p own xs) :
    Calls Tryz.prog 268 #[.pointer (some ⟨p, 0, none⟩)] w fun e w' => e = .returned (.int .i64 xs.length) ∧ w' = w := SkI.kLen_any p own xs w h
theorem kAt_any (p : Nat) (own : Nat → Prop) (xs : Row) (i : Nat) (k v : Int) (w : World) (h : EngK w p own xs) (hi : xs[i]? = some (k, v)) (hs : xs.length ≤ 5000) :
    Calls Tryz.prog 265 #[.pointer (some ⟨p, 0, none⟩), .int .i64 i] w fun e w' => e = .returned (.tuple #[kv k, kv v]) ∧ Fr (fun _ => False) w w' := SkI.kAt_any p own xs i k v w h hi hs
theorem kSet_any (p : Nat) (own : Nat → Prop) (xs : Row) (i : Nat) (k v u : Int) (w : World) (h : EngK w p own xs) (hi : xs[i]? = some (k, v)) (hs : xs.length ≤ 5000) :
    Calls Tryz.prog 270 #[.pointer (some ⟨p, 0, none⟩), .int .i64 i, kv u] w fun e w' => e = .returned (.tuple #[]) ∧ EngK w' p own (xs.set i (k, u)) ∧ Fr own w w' := SkI.kSet_any p own xs i k v u w h hi hs
theorem kInsert_any (p : Nat) (own : Nat → Prop) (xs : Row) (i : Nat) (k v : Int) (w : World) (h : EngK w p own xs) (hi : i ≤ xs.length) (hs : xs.length ≤ 4000) :
    Calls Tryz.prog 267 #[.pointer (some ⟨p, 0, none⟩), .int .i64 i, kv k, kv v] w fun e w' => e = .returned (.tuple #[]) ∧
      ∃ own', EngK w' p own' (xs.take i ++ (k, v) :: xs.drop i) ∧ (∀ x, own' x → own x ∨ w.heap.size ≤ x) ∧ Fr own w w' := SkI.kInsert_any p own xs i k v w h hi hs

theorem side_pos {t : Bool} {a b : Int} : 0 < side t a b ↔ lessB t b a = true := by unfold side sgn lessB; cases t <;> simp <;> (repeat' split) <;> omega

theorem mono_of {t : Bool} {k : Int} {xs : Row} (h : Srt t xs) : xs.Pairwise fun a b => 0 ≤ side t k b.1 → 0 < side t k a.1 := by
  refine List.Pairwise.imp ?_ h
  intro a b hab hk
  rw [side_pos]
  rcases Int.lt_or_eq_of_le hk with c | c
  · exact less_trans hab (side_pos.1 c)
  · rw [less_r (side_zero.1 c.symm)]; exact hab

theorem count_lrank (t : Bool) (k : Int) (xs : Row) : (xs.countP fun a => decide (0 < side t k a.1)) = lrank t k xs := by
  unfold lrank
  congr 1
  funext a
  rw [Bool.eq_iff_iff, decide_eq_true_iff, side_pos]
theorem any_lsame (t : Bool) (k : Int) (xs : Row) : (xs.any fun a => side t k a.1 == 0) = lsame k xs := by
  unfold lsame
  congr 1
  funext a
  rw [Bool.eq_iff_iff, beq_iff_eq, beq_iff_eq, side_zero]
  exact eq_comm

theorem kFind_eng (p m mb kb : Nat) (own : Nat → Prop) (xs : Row) (turned : Bool) (items : Value) (c k : Int) (w : World) (h : EngK w p own xs) (hsr : Srt turned xs) (hm : w.heap[m]? = some (mapBlk turned items c))
    (hmb : w.heap[mb]? = some (.cells #[.pointer (some ⟨m, 0, none⟩)] 50 (0, 0))) (hkb : w.heap[kb]? = some (.cells #[kv k] 53 (0, 0)))
    (nT : ¬ own m) (n1 : mb ≠ m) (n2 : kb ≠ m) (b0 : 0 ≤ c) (b1 : c ≤ 8000000000000000000) (hs : xs.length ≤ 4000) :
    Calls Tryz.prog 266 #[.pointer (some ⟨p, 0, none⟩), .func (.func 96) #[] #[.pointer (some ⟨mb, 0, none⟩), .pointer (some ⟨kb, 0, none⟩)]] w fun e w' => ∃ n : Nat,
      e = .returned (.tuple #[.int .i64 (lrank turned k xs), .bool (lsame k xs)]) ∧ w'.heap[m]? = some (mapBlk turned items (c + n)) ∧ n ≤ 10000 ∧ (0 < xs.length → 1 ≤ n) ∧ Fr (fun x => x = m) w w' := by
  have := SkI.kFind_any p m mb kb own xs (side turned k) (mapBlk turned items) _ _ c w h hm hmb hkb nT n1 n2 b0 b1 hs (mono_of hsr)
    (fun c key wr _ g1 g2 g3 g4 g5 => side_any m mb kb turned items c k key wr g1 g2 g3 n1 n2 g4 g5)
  rw [count_lrank, any_lsame] at this
  exact this

end Go.Proofs.YthbnbocpddddmaaGreat
