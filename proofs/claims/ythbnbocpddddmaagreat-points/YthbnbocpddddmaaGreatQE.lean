import Derived.Test.YthbnbocpddddmaaGreatQD
namespace Go.Proofs.YthbnbocpddddmaaGreat
open Go.RowKit

/-- The tree at block p holds the row xs; 'own': its blocks. -/
def EngT (w : World) (p : Nat) (own : Nat → Prop) (xs : Row) : Prop :=
  ∃ T : Tr, w.heap[p]? = some (treeBlk T.ad) ∧ Lies 360 w T ∧ T.avl ∧ ¬ T.has p ∧ T.items = xs ∧ ∀ x, own x ↔ x = p ∨ T.has x

theorem EngT.lt {w : World} {p : Nat} {own : Nat → Prop} {xs : Row} (h : EngT w p own xs) : ∀ x, own x → x < w.heap.size := by
  obtain ⟨T, h1, h2, h3, h4, h5, h6⟩ := h
  intro x hx
  rcases (h6 x).1 hx with rfl | e
  · exact lt_of_blk h1
  · exact h2.lt x e

theorem EngT.own {w : World} {p : Nat} {own : Nat → Prop} {xs : Row} (h : EngT w p own xs) : own p := by
  obtain ⟨T, h1, h2, h3, h4, h5, h6⟩ := h
  exact (h6 p).2 (Or.inl rfl)

theorem EngT.congr {w w' : World} {p : Nat} {own : Nat → Prop} {xs : Row} (h : EngT w p own xs) (hc : ∀ x, own x → w'.heap[x]? = w.heap[x]?) : EngT w' p own xs := by
  obtain ⟨T, h1, h2, h3, h4, h5, h6⟩ := h
  exact ⟨T, (hc p ((h6 p).2 (Or.inl rfl))).trans h1, h2.congr fun x hx => hc x ((h6 x).2 (Or.inr hx)), h3, h4, h5, h6⟩

theorem EngT.fr {S : Nat → Prop} {w w' : World} {p : Nat} {own : Nat → Prop} {xs : Row} (h : EngT w p own xs) (f : Fr S w w') (hd : ∀ x, own x → ¬ S x) : EngT w' p own xs :=
  h.congr fun x hx => f.block x (h.lt x hx) (hd x hx)

set_option maxHeartbeats 400000 in
theorem tLen_any (p : Nat) (own : Nat → Prop) (xs : Row) (w : World) (h : EngT w p own xs) :
    Calls Tryz.prog 252 #[.pointer (some ⟨p, 0, none⟩)] w fun e w' => e = .returned (.int .i64 xs.length) ∧ w' = w := by
  obtain ⟨T, h1, h2, h3, h4, h5, h6⟩ := h
  have t0 : w.cell? ⟨p, 0, none⟩ = some (.pointer T.ad) := cell_of h1 0
  have tl := h2.top
  rw [← T.size_items, h5] at tl
  generalize hTa : T.ad = tp at t0 tl
  clear hTa h1 h2 h3 h4 h5 h6
  go_enter Tryz.func252, Tryz.ntmps252
  go_wp2_with fail
  refine (count_any tp xs.length T.ht _ tl).mono ?_
  rintro e w2 ⟨rfl, rfl⟩
  go_wp2_with fail
  go_ret
  exact ⟨rfl, rfl⟩

set_option maxHeartbeats 400000 in
theorem tAt_any (p : Nat) (own : Nat → Prop) (xs : Row) (i : Nat) (k v : Int) (w : World) (h : EngT w p own xs) (hi : xs[i]? = some (k, v)) (hs : xs.length ≤ 10000) :
    Calls Tryz.prog 249 #[.pointer (some ⟨p, 0, none⟩), .int .i64 i] w fun e w' => e = .returned (.tuple #[kv k, kv v]) ∧ Fr (fun _ => False) w w' := by
  obtain ⟨T, h1, h2, h3, h4, rfl, h6⟩ := h
  have hl : i < T.items.length := (List.getElem?_eq_some_iff.1 hi).1
  rw [Tr.size_items] at hl hs
  obtain ⟨k', v', lp, rp, s, g, hb, hkv⟩ := h2.nth i hl
  rw [hi] at hkv
  simp only [Option.some.injEq, Prod.mk.injEq] at hkv
  obtain ⟨rfl, rfl⟩ := hkv
  have hp := place_any p T i w h1 h2 (by omega) (by omega) hs
  rw [Int.toNat_natCast] at hp
  have c0 : w.cell? ⟨T.nthB i, 0, none⟩ = some (kv k) := cell_of hb 0
  have c1 : w.cell? ⟨T.nthB i, 1, none⟩ = some (kv v) := cell_of hb 1
  generalize hbb : T.nthB i = bb at *
  clear h1 h2 h3 h4 h6 hb hi hbb
  go_enter Tryz.func249, Tryz.ntmps249
  go_wp2_with fail
  refine hp.mono ?_
  rintro e w2 ⟨rfl, rfl⟩
  go_wp2_with fail
  go_quiet (fail)
  go_wp2_with fail
  go_ret2
  exact ⟨rfl, ⟨rfl, rfl, rfl, Nat.le_refl _, fun _ _ _ => rfl⟩⟩

set_option maxHeartbeats 400000 in
theorem tSet_any (p : Nat) (own : Nat → Prop) (xs : Row) (i : Nat) (k v u : Int) (w : World) (h : EngT w p own xs) (hi : xs[i]? = some (k, v)) (hs : xs.length ≤ 10000) :
    Calls Tryz.prog 254 #[.pointer (some ⟨p, 0, none⟩), .int .i64 i, kv u] w fun e w' => e = .returned (.tuple #[]) ∧ EngT w' p own (xs.set i (k, u)) ∧ Fr own w w' := by
  obtain ⟨T, h1, h2, h3, h4, rfl, h6⟩ := h
  have hl : i < T.items.length := (List.getElem?_eq_some_iff.1 hi).1
  rw [Tr.size_items] at hl hs
  obtain ⟨k', v', lp, rp, s, g, hb, hkv⟩ := h2.nth i hl
  rw [hi] at hkv
  simp only [Option.some.injEq, Prod.mk.injEq] at hkv
  obtain ⟨rfl, rfl⟩ := hkv
  have hp := place_any p T i w h1 h2 (by omega) (by omega) hs
  rw [Int.toNat_natCast] at hp
  have c1 : w.cell? ⟨T.nthB i, 1, none⟩ = some (kv v) := cell_of hb 1
  have f1 : w.frozen? ⟨T.nthB i, 1, none⟩ = false := frozen_of hb 1
  have hh := T.has_nthB i hl
  have fin : EngT (w.setCell ⟨T.nthB i, 1, none⟩ (kv u)) p own (T.items.set i (k, u)) ∧ Fr own w (w.setCell ⟨T.nthB i, 1, none⟩ (kv u)) := by
    obtain ⟨a1, k2, v2, a2, a3⟩ := h2.set (w' := w.setCell ⟨T.nthB i, 1, none⟩ (kv u)) i hl u (fun k v lp rp s g hq => by rw [blk_set hq 1]; rfl) (fun x hx _ => blk_set_ne _ _ hx)
    rw [hi] at a2
    simp only [Option.some.injEq, Prod.mk.injEq] at a2
    obtain ⟨rfl, rfl⟩ := a2
    refine ⟨⟨T.setV (T.nthB i) u, ?_, a1, (Tr.avl_setV _ _ _).2 h3, fun e => h4 ((Tr.has_setV _ _ _ _).1 e), a3, fun x => by rw [h6, Tr.has_setV]⟩, Fr.setCell (Fr.refl _ _) (by exact fun _ => (h6 _).2 (Or.inr hh)) _⟩
    have np : p ≠ T.nthB i := fun e => h4 (e ▸ hh)
    rw [blk_set_ne _ _ np, Tr.ad_setV]; exact h1
  generalize hbb : T.nthB i = bb at *
  clear h1 h2 h3 h4 h6 hb hi hbb hh
  have hsc := store_c
  go_enter Tryz.func254, Tryz.ntmps254
  go_wp2_with fail
  refine hp.mono ?_
  rintro e w2 ⟨rfl, rfl⟩
  go_wp2_with fail
  go_end0
  exact ⟨rfl, fin⟩

set_option maxHeartbeats 400000 in
theorem tInsert_any (p : Nat) (own : Nat → Prop) (xs : Row) (i : Nat) (k v : Int) (w : World) (h : EngT w p own xs) (hi : i ≤ xs.length) (hs : xs.length ≤ 5000) :
    Calls Tryz.prog 251 #[.pointer (some ⟨p, 0, none⟩), .int .i64 i, kv k, kv v] w fun e w' => e = .returned (.tuple #[]) ∧
      ∃ own', EngT w' p own' (xs.take i ++ (k, v) :: xs.drop i) ∧ (∀ x, own' x → own x ∨ w.heap.size ≤ x) ∧ Fr own w w' := by
  obtain ⟨T, h1, h2, h3, h4, rfl, h6⟩ := h
  have t0 : w.cell? ⟨p, 0, none⟩ = some (.pointer T.ad) := cell_of h1 0
  have e0 := T.size_items
  have hins := insert_any T i k v w h2 h3 (by omega) (by omega) (by omega)
  rw [Int.toNat_natCast] at hins
  have pl := lt_of_blk h1
  generalize hTa : T.ad = tp at t0 hins
  have HTA : Hid (T.ad = tp) := hTa
  clear hTa
  go_enter Tryz.func251, Tryz.ntmps251
  go_wp2_with fail
  refine hins.mono ?_
  rintro e w2 ⟨U, rfl, lU, aU, eU, g1, g2, gx, gfr⟩
  have hp2 := (gfr.block p pl h4).trans h1
  have c0 : w2.cell? ⟨p, 0, none⟩ = some (.pointer T.ad) := cell_of hp2 0
  have f0 : w2.frozen? ⟨p, 0, none⟩ = false := frozen_of hp2 0
  have nU : ¬ U.has p := fun e => by
    rcases gx p e with e | e
    · exact h4 e
    · omega
  go_wp2_with fail
  go_end0
  refine ⟨rfl, fun x => x = p ∨ U.has x, ⟨U, ?_, lU.congr fun x hx => blk_set_ne _ _ fun e => nU (e ▸ hx), aU, nU, eU, fun x => Iff.rfl⟩, fun x hx => ?_, ?_⟩
  · rw [blk_set hp2 0]; rfl
  · rcases hx with e | e
    · exact Or.inl ((h6 x).2 (Or.inl e))
    · rcases gx x e with e | e
      · exact Or.inl ((h6 x).2 (Or.inr e))
      · exact Or.inr e
  · exact Fr.setCell (gfr.mono fun x _ e => (h6 x).2 (Or.inr e)) (by exact fun _ => (h6 p).2 (Or.inl rfl)) _

theorem tFind_eng (p m mb kb : Nat) (own : Nat → Prop) (xs : Row) (turned : Bool) (items : Value) (c k : Int) (w : World) (h : EngT w p own xs) (hsr : Srt turned xs) (hm : w.heap[m]? = some (mapBlk turned items c))
    (hmb : w.heap[mb]? = some (.cells #[.pointer (some ⟨m, 0, none⟩)] 50 (0, 0))) (hkb : w.heap[kb]? = some (.cells #[kv k] 53 (0, 0)))
    (nT : ¬ own m) (n1 : mb ≠ m) (n2 : kb ≠ m) (b0 : 0 ≤ c) (b1 : c ≤ 8000000000000000000) (hs : xs.length ≤ 5000) :
    Calls Tryz.prog 250 #[.pointer (some ⟨p, 0, none⟩), .func (.func 96) #[] #[.pointer (some ⟨mb, 0, none⟩), .pointer (some ⟨kb, 0, none⟩)]] w fun e w' => ∃ n : Nat,
      e = .returned (.tuple #[.int .i64 (lrank turned k xs), .bool (lsame k xs)]) ∧ w'.heap[m]? = some (mapBlk turned items (c + n)) ∧ n ≤ 3 * dg (xs.length + 1) ∧ (0 < xs.length → 1 ≤ n) ∧ Fr (fun x => x = m) w w' := by
  obtain ⟨T, h1, h2, h3, h4, rfl, h6⟩ := h
  have e0 := T.size_items
  refine (tFind_any p m mb kb T turned items c k w h1 hm hmb hkb h2 (fun e => nT ((h6 m).2 (Or.inr e))) n1 n2 b0 b1 (by omega)).mono ?_
  rintro e w' ⟨rfl, g1, g2⟩
  obtain ⟨r1, r2⟩ := tree_rank turned k T hsr
  exact ⟨_, by rw [r1, r2], g1, cnt_few _ T h3, fun hl => T.cnt_pos _ (by omega), g2⟩

end Go.Proofs.YthbnbocpddddmaaGreat

namespace Go.Proofs.YthbnbocpddddmaaGreat
open Go.RowKit

/-- The map at block m holds the row xs, and has compared c times; 'own': its blocks. -/
def MapT (w : World) (m : Nat) (turned : Bool) (c : Int) (own : Nat → Prop) (xs : Row) : Prop :=
  ∃ p ownE, w.heap[m]? = some (mapBlk turned (.iface 130 (.pointer (some ⟨p, 0, none⟩))) c) ∧ EngT w p ownE xs ∧ ¬ ownE m ∧ (∀ x, own x ↔ x = m ∨ ownE x) ∧ Srt turned xs

theorem MapT.lt {w : World} {m : Nat} {t : Bool} {c : Int} {own : Nat → Prop} {xs : Row} (h : MapT w m t c own xs) : ∀ x, own x → x < w.heap.size := by
  obtain ⟨p, oE, h1, h2, h3, h4, h5⟩ := h
  intro x hx
  rcases (h4 x).1 hx with rfl | e
  · exact lt_of_blk h1
  · exact h2.lt x e

theorem MapT.fr {S : Nat → Prop} {w w' : World} {m : Nat} {t : Bool} {c : Int} {own : Nat → Prop} {xs : Row} (h : MapT w m t c own xs) (f : Fr S w w') (hd : ∀ x, own x → ¬ S x) : MapT w' m t c own xs := by
  have hlt := h.lt
  obtain ⟨p, oE, h1, h2, h3, h4, h5⟩ := h
  exact ⟨p, oE, (f.block m (lt_of_blk h1) (hd m ((h4 m).2 (Or.inl rfl)))).trans h1, h2.fr f fun x hx => hd x ((h4 x).2 (Or.inr hx)), h3, h4, h5⟩

theorem MapT.same {w w' : World} {m : Nat} {t : Bool} {c : Int} {own : Nat → Prop} {xs : Row} (h : MapT w m t c own xs) (e : w'.heap = w.heap) : MapT w' m t c own xs := by
  obtain ⟨p, oE, h1, h2, h3, h4, h5⟩ := h
  exact ⟨p, oE, by rw [e]; exact h1, h2.congr fun x _ => by rw [e], h3, h4, h5⟩

theorem method_findT (a : Addr) (w : World) : (method 489 130 (.pointer (some a)) "Find").run Tryz.prog w = .ok (250, .pointer (some a)) w := by kernel_rfl
theorem method_atT (a : Addr) (w : World) : (method 489 130 (.pointer (some a)) "At").run Tryz.prog w = .ok (249, .pointer (some a)) w := by kernel_rfl
theorem method_setT (a : Addr) (w : World) : (method 489 130 (.pointer (some a)) "Set").run Tryz.prog w = .ok (254, .pointer (some a)) w := by kernel_rfl
theorem method_insertT (a : Addr) (w : World) : (method 489 130 (.pointer (some a)) "Insert").run Tryz.prog w = .ok (251, .pointer (some a)) w := by kernel_rfl
theorem method_lenT (a : Addr) (w : World) : (method 489 130 (.pointer (some a)) "Len").run Tryz.prog w = .ok (252, .pointer (some a)) w := by kernel_rfl

set_option maxRecDepth 100000 in
set_option maxHeartbeats 400000 in
theorem bare_anyT (m : Nat) (t : Bool) (c : Int) (own : Nat → Prop) (xs : Row) (w : World) (h : MapT w m t c own xs) :
    Calls Tryz.prog 67 #[.pointer (some ⟨m, 0, none⟩)] w fun e w' => e = .returned (.bool false) ∧ w' = w := by
  obtain ⟨p, oE, h1, h2, h3, h4, h5⟩ := h
  have c2 : w.cell? ⟨m, 3, none⟩ = some (.iface 130 (.pointer (some ⟨p, 0, none⟩))) := cell_of h1 3
  clear h1 h2 h3 h4 h5
  go_enter Tryz.func67, Tryz.ntmps67
  go_wp2_with fail
  go_ret
  exact ⟨rfl, rfl⟩

set_option maxRecDepth 100000 in
set_option maxHeartbeats 400000 in
theorem len_anyT (m : Nat) (t : Bool) (c : Int) (own : Nat → Prop) (xs : Row) (w : World) (h : MapT w m t c own xs) :
    Calls Tryz.prog 69 #[.pointer (some ⟨m, 0, none⟩)] w fun e w' => e = .returned (.int .i64 xs.length) ∧ w' = w := by
  have hbare := bare_anyT m t c own xs w h
  obtain ⟨p, oE, h1, h2, h3, h4, h5⟩ := h
  have c2 : w.cell? ⟨m, 3, none⟩ = some (.iface 130 (.pointer (some ⟨p, 0, none⟩))) := cell_of h1 3
  have hlen := tLen_any p oE xs w h2
  have hm := method_lenT
  clear h1 h2 h3 h4 h5
  go_enter Tryz.func69, Tryz.ntmps69
  go_wp2_with fail
  refine hbare.mono ?_
  rintro e w2 ⟨rfl, rfl⟩
  go_wp2_with fail
  refine hlen.mono ?_
  rintro e w2 ⟨rfl, rfl⟩
  go_wp2_with fail
  go_ret
  exact ⟨rfl, rfl⟩

set_option maxRecDepth 100000 in
set_option maxHeartbeats 400000 in
theorem find_anyT (m : Nat) (t : Bool) (c : Int) (own : Nat → Prop) (xs : Row) (k : Int) (w : World) (h : MapT w m t c own xs) (b0 : 0 ≤ c) (b1 : c ≤ 8000000000000000000) (hs : xs.length ≤ 4000) :
    Calls Tryz.prog 68 #[.pointer (some ⟨m, 0, none⟩), kv k] w fun e w' => ∃ n : Nat, e = .returned (.tuple #[.int .i64 (lrank t k xs), .bool (lsame k xs)]) ∧
      MapT w' m t (c + n) own xs ∧ n ≤ 3 * dg (xs.length + 1) ∧ (0 < xs.length → 1 ≤ n) ∧ Fr (fun x => x = m) w w' := by
  have hfr : Fr (fun _ => False) w ((w.alloc (.cells #[.pointer (some ⟨m, 0, none⟩)] 50)).alloc (.cells #[kv k] 53)) := Fr.alloc (Fr.alloc (Fr.refl _ _) _) _
  have h' := h.fr hfr fun _ _ e => e
  have hbare := bare_anyT m t c own xs _ h'
  obtain ⟨p, oE, h1, h2, h3, h4, h5⟩ := h
  have hml := lt_of_blk h1
  obtain ⟨h1', h2'⟩ : ((w.alloc (.cells #[.pointer (some ⟨m, 0, none⟩)] 50)).alloc (.cells #[kv k] 53)).heap[m]? = some (mapBlk t (.iface 130 (.pointer (some ⟨p, 0, none⟩))) c) ∧ EngT ((w.alloc (.cells #[.pointer (some ⟨m, 0, none⟩)] 50)).alloc (.cells #[kv k] 53)) p oE xs :=
    ⟨(hfr.block m hml (fun e => e)).trans h1, h2.fr hfr fun _ _ e => e⟩
  have c2 : w.cell? ⟨m, 3, none⟩ = some (.iface 130 (.pointer (some ⟨p, 0, none⟩))) := cell_of h1 3
  have hmb : ((w.alloc (.cells #[.pointer (some ⟨m, 0, none⟩)] 50)).alloc (.cells #[kv k] 53)).heap[w.heap.size]? = some (.cells #[.pointer (some ⟨m, 0, none⟩)] 50 (0, 0)) := by
    rw [Below.heap_alloc _ _ _ (by simp)]; exact blk_new _ _
  have hkb : ((w.alloc (.cells #[.pointer (some ⟨m, 0, none⟩)] 50)).alloc (.cells #[kv k] 53)).heap[w.heap.size + 1]? = some (.cells #[kv k] 53 (0, 0)) := by
    have := blk_new (w.alloc (.cells #[.pointer (some ⟨m, 0, none⟩)] 50)) (.cells #[kv k] 53)
    rw [World.size_alloc] at this; exact this
  have hfind := tFind_eng p m w.heap.size (w.heap.size + 1) oE xs t (.iface 130 (.pointer (some ⟨p, 0, none⟩))) c k _ h2' h5 h1' hmb hkb h3 (by omega) (by omega) b0 b1 (by omega)
  have hmeth := method_findT
  have HQ : Hid ((∀ x, own x ↔ x = m ∨ oE x) ∧ ¬ oE m ∧ Srt t xs) := ⟨h4, h3, h5⟩
  clear h1 h1' hmb hkb h3 h4 h5
  go_enter Tryz.func68, Tryz.ntmps68
  go_wp2_with fail
  refine hbare.mono ?_
  rintro e w2 ⟨rfl, rfl⟩
  go_wp2_with fail
  refine hfind.mono ?_
  rintro e w3 ⟨n, rfl, g1, g2, g3, g4⟩
  go_wp2_with fail
  go_ret2
  obtain ⟨h4, h3, h5⟩ := HQ.out
  refine ⟨n, rfl, ⟨p, oE, g1, h2'.fr g4 fun x hx e => h3 (e ▸ hx), h3, h4, h5⟩, g2, g3, ?_⟩
  exact Fr.trans (hfr.mono fun _ _ e => e.elim) g4 fun _ _ e => e

set_option maxRecDepth 100000 in
set_option maxHeartbeats 400000 in
theorem rank_anyT (m : Nat) (t : Bool) (c : Int) (own : Nat → Prop) (xs : Row) (k : Int) (w : World) (h : MapT w m t c own xs) (b0 : 0 ≤ c) (b1 : c ≤ 8000000000000000000) (hs : xs.length ≤ 4000) :
    Calls Tryz.prog 25 #[.pointer (some ⟨m, 0, none⟩), kv k] w fun e w' => ∃ n : Nat, e = .returned (.int .i64 (lrank t k xs)) ∧
      MapT w' m t (c + n) own xs ∧ n ≤ 3 * dg (xs.length + 1) ∧ (0 < xs.length → 1 ≤ n) ∧ Fr (fun x => x = m) w w' := by
  have hfind := find_anyT m t c own xs k w h b0 b1 hs
  clear h
  go_enter Tryz.func25, Tryz.ntmps25
  go_wp2_with fail
  refine hfind.mono ?_
  rintro e w3 ⟨n, rfl, g1, g2, g3, g4⟩
  go_wp2_with fail
  go_ret
  exact ⟨n, rfl, g1, g2, g3, g4⟩

set_option maxRecDepth 100000 in
set_option maxHeartbeats 400000 in
theorem at_anyT (m : Nat) (t : Bool) (c : Int) (own : Nat → Prop) (xs : Row) (i : Int) (w : World) (h : MapT w m t c own xs) (hs : xs.length ≤ 4000) :
    Calls Tryz.prog 80 #[.pointer (some ⟨m, 0, none⟩), .int .i64 i] w fun e w' => e = .returned (.tuple #[kv (latK xs i), kv (latV xs i), .bool (latB xs i)]) ∧ Fr (fun _ => False) w w' := by
  have hlen := len_anyT m t c own xs w h
  obtain ⟨p, oE, h1, h2, h3, h4, h5⟩ := h
  have c2 : w.cell? ⟨m, 3, none⟩ = some (.iface 130 (.pointer (some ⟨p, 0, none⟩))) := cell_of h1 3
  have hmeth := method_atT
  unfold latK latV latB
  by_cases i0 : i < 0
  · rw [if_neg (by omega), if_neg (by omega), if_neg (by omega)]
    clear h1 h2 h3 h4 h5
    go_enter Tryz.func80, Tryz.ntmps80
    go_wp2_with fail
    go_ret3
    exact ⟨rfl, Fr.refl _ _⟩
  · by_cases i1 : i < xs.length
    · rw [if_pos (by omega), if_pos (by omega), if_pos (by omega)]
      obtain ⟨j, rfl⟩ := Int.eq_ofNat_of_zero_le (Int.not_lt.1 i0)
      rw [Int.toNat_natCast]
      have hj : j < xs.length := by omega
      have hat := tAt_any p oE xs j (xs[j]).1 (xs[j]).2 w h2 (List.getElem?_eq_getElem hj) (by omega)
      have ek : ((xs[j]?).getD (0, 0)) = ((xs[j]).1, (xs[j]).2) := by rw [List.getElem?_eq_getElem hj]; rfl
      rw [ek]
      generalize (xs[j]).1 = kk at *
      generalize (xs[j]).2 = vv at *
      have i2 : ¬ (xs.length : Int) ≤ (j : Int) := by omega
      clear h1 h2 h3 h4 h5 ek
      go_enter Tryz.func80, Tryz.ntmps80
      go_wp2_with fail
      refine hlen.mono ?_
      rintro e w2 ⟨rfl, rfl⟩
      go_wp2_with fail
      refine hat.mono ?_
      rintro e w2 ⟨rfl, fr⟩
      go_wp2_with fail
      go_ret3
      exact ⟨rfl, fr⟩
    · rw [if_neg (by omega), if_neg (by omega), if_neg (by omega)]
      have i2 : (xs.length : Int) ≤ i := by omega
      clear h1 h2 h3 h4 h5
      go_enter Tryz.func80, Tryz.ntmps80
      go_wp2_with fail
      refine hlen.mono ?_
      rintro e w2 ⟨rfl, rfl⟩
      go_wp2_with fail
      go_ret3
      exact ⟨rfl, Fr.refl _ _⟩

set_option maxHeartbeats 400000 in
theorem compared_anyT (m : Nat) (t : Bool) (c : Int) (own : Nat → Prop) (xs : Row) (w : World) (h : MapT w m t c own xs) :
    Calls Tryz.prog 78 #[.pointer (some ⟨m, 0, none⟩)] w fun e w' => e = .returned (.int .i64 c) ∧ w' = w := by
  obtain ⟨p, oE, h1, h2, h3, h4, h5⟩ := h
  have c3 : w.cell? ⟨m, 4, none⟩ = some (.int .i64 c) := cell_of h1 4
  clear h1 h2 h3 h4 h5
  go_enter Tryz.func78, Tryz.ntmps78
  go_wp2_with fail
  go_ret
  exact ⟨rfl, rfl⟩

set_option maxRecDepth 100000 in
set_option maxHeartbeats 400000 in
theorem ceiling_anyT (m : Nat) (t : Bool) (c : Int) (own : Nat → Prop) (xs : Row) (k : Int) (w : World) (h : MapT w m t c own xs) (b0 : 0 ≤ c) (b1 : c ≤ 8000000000000000000) (hs : xs.length ≤ 4000) :
    Calls Tryz.prog 109 #[.pointer (some ⟨m, 0, none⟩), kv k] w fun e w' => ∃ n : Nat, e = .returned (.tuple #[kv (latK xs (lrank t k xs)), kv (latV xs (lrank t k xs)), .bool (latB xs (lrank t k xs))]) ∧
      MapT w' m t (c + n) own xs ∧ n ≤ 3 * dg (xs.length + 1) ∧ (0 < xs.length → 1 ≤ n) ∧ Fr (fun x => x = m) w w' := by
  have hfind := find_anyT m t c own xs k w h b0 b1 hs
  clear h
  go_enter Tryz.func109, Tryz.ntmps109
  go_wp2_with fail
  refine hfind.mono ?_
  rintro e w3 ⟨n, rfl, g1, g2, g3, g4⟩
  have hat := at_anyT m t _ own xs (lrank t k xs) _ g1 hs
  go_wp2_with fail
  refine hat.mono ?_
  rintro e w4 ⟨rfl, fr⟩
  go_wp2_with fail
  go_ret3
  exact ⟨n, rfl, g1.fr fr fun _ _ e => e, g2, g3, g4.trans fr fun _ _ e => e.elim⟩

set_option maxRecDepth 100000 in
set_option maxHeartbeats 400000 in
theorem floor_anyT (m : Nat) (t : Bool) (c : Int) (own : Nat → Prop) (xs : Row) (k : Int) (w : World) (h : MapT w m t c own xs) (b0 : 0 ≤ c) (b1 : c ≤ 8000000000000000000) (hs : xs.length ≤ 4000) :
    Calls Tryz.prog 108 #[.pointer (some ⟨m, 0, none⟩), kv k] w fun e w' => ∃ n : Nat, e = .returned (.tuple #[kv (latK xs (lfloor t k xs)), kv (latV xs (lfloor t k xs)), .bool (latB xs (lfloor t k xs))]) ∧
      MapT w' m t (c + n) own xs ∧ n ≤ 3 * dg (xs.length + 1) ∧ (0 < xs.length → 1 ≤ n) ∧ Fr (fun x => x = m) w w' := by
  have hfind := find_anyT m t c own xs k w h b0 b1 hs
  have hrl := lrank_le t k xs
  unfold lfloor
  clear h
  cases hsm : lsame k xs with
  | true =>
    rw [hsm] at hfind
    simp only [if_true]
    clear hsm
    go_enter Tryz.func108, Tryz.ntmps108
    go_wp2_with fail
    refine hfind.mono ?_
    rintro e w3 ⟨n, rfl, g1, g2, g3, g4⟩
    have hat := at_anyT m t _ own xs (lrank t k xs) _ g1 hs
    go_wp2_with fail
    refine hat.mono ?_
    rintro e w4 ⟨rfl, fr⟩
    go_wp2_with fail
    go_ret3
    exact ⟨n, rfl, g1.fr fr fun _ _ e => e, g2, g3, g4.trans fr fun _ _ e => e.elim⟩
  | false =>
    rw [hsm] at hfind
    simp only [Bool.false_eq_true, if_false]
    clear hsm
    have hrl' : (lrank t k xs : Int) ≤ 4000 := by omega
    go_enter Tryz.func108, Tryz.ntmps108
    go_wp2_with fail
    refine hfind.mono ?_
    rintro e w3 ⟨n, rfl, g1, g2, g3, g4⟩
    have hat := at_anyT m t _ own xs ((lrank t k xs : Int) - 1) _ g1 hs
    go_wp2_with fail
    refine hat.mono ?_
    rintro e w4 ⟨rfl, fr⟩
    go_wp2_with fail
    go_ret3
    exact ⟨n, rfl, g1.fr fr fun _ _ e => e, g2, g3, g4.trans fr fun _ _ e => e.elim⟩

set_option maxRecDepth 100000 in
set_option maxHeartbeats 400000 in
theorem get_anyT (m : Nat) (t : Bool) (c : Int) (own : Nat → Prop) (xs : Row) (k : Int) (w : World) (h : MapT w m t c own xs) (b0 : 0 ≤ c) (b1 : c ≤ 8000000000000000000) (hs : xs.length ≤ 4000) :
    Calls Tryz.prog 21 #[.pointer (some ⟨m, 0, none⟩), kv k] w fun e w' => ∃ n : Nat, e = .returned (.tuple #[kv (lget t k xs), .bool (lsame k xs)]) ∧
      MapT w' m t (c + n) own xs ∧ n ≤ 3 * dg (xs.length + 1) ∧ (0 < xs.length → 1 ≤ n) ∧ Fr (fun x => x = m) w w' := by
  have hfind := find_anyT m t c own xs k w h b0 b1 hs
  have hsr : Srt t xs := h.choose_spec.choose_spec.2.2.2.2
  have hmeth := method_atT
  unfold lget
  clear h
  cases hsm : lsame k xs with
  | true =>
    obtain ⟨⟨kq, u⟩, hu, _⟩ := at_rank hsr hsm
    rw [hsm] at hfind
    simp only [if_true]
    rw [hu]
    simp only [Option.getD_some]
    have HU : Hid (xs[lrank t k xs]? = some (kq, u)) := hu
    clear hsm hu hsr
    go_enter Tryz.func21, Tryz.ntmps21
    go_wp2_with fail
    refine hfind.mono ?_
    rintro e w3 ⟨n, rfl, g1, g2, g3, g4⟩
    have g1' := g1
    obtain ⟨p, oE, h1, h2, h3, h4, h5⟩ := g1'
    have c2 : w3.cell? ⟨m, 3, none⟩ = some (.iface 130 (.pointer (some ⟨p, 0, none⟩))) := cell_of h1 3
    have hat := tAt_any p oE xs (lrank t k xs) kq u w3 h2 HU.out (by omega)
    clear h1 h2 h3 h4 h5
    go_wp2_with fail
    refine hat.mono ?_
    rintro e w4 ⟨rfl, fr⟩
    go_wp2_with fail
    go_ret2
    exact ⟨n, rfl, g1.fr fr fun _ _ e => e, g2, g3, g4.trans fr fun _ _ e => e.elim⟩
  | false =>
    rw [hsm] at hfind
    simp only [Bool.false_eq_true, if_false]
    clear hsm hsr
    go_enter Tryz.func21, Tryz.ntmps21
    go_wp2_with fail
    refine hfind.mono ?_
    rintro e w3 ⟨n, rfl, g1, g2, g3, g4⟩
    go_wp2_with fail
    go_ret2
    exact ⟨n, rfl, g1, g2, g3, g4⟩

set_option maxRecDepth 100000 in
set_option maxHeartbeats 600000 in
theorem put_anyT (m : Nat) (t : Bool) (c : Int) (own : Nat → Prop) (xs : Row) (k v : Int) (w : World) (h : MapT w m t c own xs) (b0 : 0 ≤ c) (b1 : c ≤ 8000000000000000000) (hs : xs.length ≤ 400) :
    Calls Tryz.prog 18 #[.pointer (some ⟨m, 0, none⟩), kv k, kv v] w fun e w' => ∃ (n : Nat) (own' : Nat → Prop), e = .returned (.tuple #[kv (lget t k xs), .bool (lsame k xs), .int .i64 (lerr k xs)]) ∧
      MapT w' m t (c + n) own' (lputF t k v xs) ∧ n ≤ 3 * dg (xs.length + 1) ∧ (0 < xs.length → 1 ≤ n) ∧ (∀ x, own' x → own x ∨ w.heap.size ≤ x) ∧ Fr own w w' := by
  have hbare := bare_anyT m t c own xs w h
  have hfind := find_anyT m t c own xs k w h b0 b1 (by omega)
  have hsr : Srt t xs := h.choose_spec.choose_spec.2.2.2.2
  have hom : own m := (h.choose_spec.choose_spec.2.2.2.1 m).2 (Or.inl rfl)
  have hmeth := method_atT
  have hmeth2 := method_setT
  have hmeth3 := method_insertT
  have hsp := srt_put (k := k) (v := v) hsr
  unfold lputF lerr lget
  unfold lput at hsp ⊢
  clear h
  cases hsm : lsame k xs with
  | true =>
    obtain ⟨⟨kq, u⟩, hu, _⟩ := at_rank hsr hsm
    rw [hsm] at hfind hsp
    simp only [if_true] at hsp ⊢
    rw [hu] at hsp ⊢
    simp only [Option.getD_some] at hsp ⊢
    have HU : Hid (xs[lrank t k xs]? = some (kq, u)) := hu
    have HP : Hid (Srt t (xs.set (lrank t k xs) (kq, v))) := hsp
    clear hsm hu hsr hsp
    go_enter Tryz.func18, Tryz.ntmps18
    go_wp2_with fail
    refine hbare.mono ?_
    rintro e w2 ⟨rfl, rfl⟩
    go_wp2_with fail
    refine hfind.mono ?_
    rintro e w3 ⟨n, rfl, g1, g2, g3, g4⟩
    obtain ⟨p, oE, h1, h2, h3, h4, h5⟩ := g1
    have c2 : w3.cell? ⟨m, 3, none⟩ = some (.iface 130 (.pointer (some ⟨p, 0, none⟩))) := cell_of h1 3
    have hat := tAt_any p oE xs (lrank t k xs) kq u w3 h2 HU.out (by omega)
    go_wp2_with fail
    refine hat.mono ?_
    rintro e w4 ⟨rfl, fr⟩
    have h1' := (fr.block m (lt_of_blk h1) (fun e => e)).trans h1
    have c2' : w4.cell? ⟨m, 3, none⟩ = some (.iface 130 (.pointer (some ⟨p, 0, none⟩))) := cell_of h1' 3
    have hset := tSet_any p oE xs (lrank t k xs) kq u v w4 (h2.fr fr fun _ _ e => e) HU.out (by omega)
    go_wp2_with fail
    refine hset.mono ?_
    rintro e w5 ⟨rfl, q1, q2⟩
    go_wp2_with fail
    go_ret3
    refine ⟨n, own, rfl, ⟨p, oE, (q2.block m (lt_of_blk h1') h3).trans h1', q1, h3, h4, HP.out⟩, g2, g3, fun x hx => Or.inl hx, ?_⟩
    exact ((g4.mono fun x _ e => by rw [e]; exact hom).trans fr fun _ _ e => e.elim).trans q2 fun x _ e => (h4 x).2 (Or.inr e)
  | false =>
    rw [hsm] at hfind hsp
    simp only [Bool.false_eq_true, if_false] at hsp ⊢
    have HP : Hid (Srt t (xs.take (lrank t k xs) ++ (k, v) :: xs.drop (lrank t k xs))) := hsp
    clear hsm hsr hsp
    by_cases hf : 400 ≤ xs.length
    · rw [if_pos hf]
      simp only [show ¬ (3 : Int) = 0 by omega, if_false]
      have hf' : (400 : Int) ≤ (xs.length : Int) := by omega
      clear HP
      go_enter Tryz.func18, Tryz.ntmps18
      go_wp2_with fail
      refine hbare.mono ?_
      rintro e w2 ⟨rfl, rfl⟩
      go_wp2_with fail
      refine hfind.mono ?_
      rintro e w3 ⟨n, rfl, g1, g2, g3, g4⟩
      have hlen := len_anyT m t _ own xs _ g1
      go_wp2_with fail
      refine hlen.mono ?_
      rintro e w4 ⟨rfl, rfl⟩
      go_wp2_with fail
      go_ret3
      exact ⟨n, own, rfl, g1, g2, g3, fun x hx => Or.inl hx, g4.mono fun x _ e => by rw [e]; exact hom⟩
    · rw [if_neg hf]
      simp only [if_true]
      have hf' : ¬ (400 : Int) ≤ (xs.length : Int) := by omega
      have hrl := lrank_le t k xs
      go_enter Tryz.func18, Tryz.ntmps18
      go_wp2_with fail
      refine hbare.mono ?_
      rintro e w2 ⟨rfl, rfl⟩
      go_wp2_with fail
      refine hfind.mono ?_
      rintro e w3 ⟨n, rfl, g1, g2, g3, g4⟩
      have hlen := len_anyT m t _ own xs _ g1
      obtain ⟨p, oE, h1, h2, h3, h4, h5⟩ := g1
      have c2 : w3.cell? ⟨m, 3, none⟩ = some (.iface 130 (.pointer (some ⟨p, 0, none⟩))) := cell_of h1 3
      have hins := tInsert_any p oE xs (lrank t k xs) k v w3 h2 hrl (by omega)
      go_wp2_with fail
      refine hlen.mono ?_
      rintro e w4 ⟨rfl, rfl⟩
      go_wp2_with fail
      refine hins.mono ?_
      rintro e w5 ⟨rfl, oE', q1, q2, q3⟩
      go_wp2_with fail
      go_ret3
      have nm : ¬ oE' m := fun e => by
        rcases q2 m e with e | e
        · exact h3 e
        · have := lt_of_blk h1; omega
      refine ⟨n, fun x => x = m ∨ oE' x, rfl, ⟨p, oE', (q3.block m (lt_of_blk h1) h3).trans h1, q1, nm, fun x => Iff.rfl, HP.out⟩, g2, g3, fun x hx => ?_, ?_⟩
      · rcases hx with e | e
        · rw [e]; exact Or.inl hom
        · rcases q2 x e with e | e
          · exact Or.inl ((h4 x).2 (Or.inr e))
          · exact Or.inr (Nat.le_trans g4.size e)
      · exact (g4.mono fun x _ e => by rw [e]; exact hom).trans q3 fun x _ e => (h4 x).2 (Or.inr e)

end Go.Proofs.YthbnbocpddddmaaGreat
