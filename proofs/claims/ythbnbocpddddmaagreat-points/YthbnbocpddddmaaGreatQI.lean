import Derived.Test.YthbnbocpddddmaaGreatQH
namespace Go.Proofs.YthbnbocpddddmaaGreat
open Go.RowKit

/-- The map at block m holds the row xs, and has compared c times; 'own': its blocks. -/
def MapK (w : World) (m : Nat) (turned : Bool) (c : Int) (own : Nat → Prop) (xs : Row) : Prop :=
  ∃ p ownE, w.heap[m]? = some (mapBlk turned (.iface 136 (.pointer (some ⟨p, 0, none⟩))) c) ∧ EngK w p ownE xs ∧ ¬ ownE m ∧ (∀ x, own x ↔ x = m ∨ ownE x) ∧ Srt turned xs

theorem MapK.lt {w : World} {m : Nat} {t : Bool} {c : Int} {own : Nat → Prop} {xs : Row} (h : MapK w m t c own xs) : ∀ x, own x → x < w.heap.size := by
  obtain ⟨p, oE, h1, h2, h3, h4, h5⟩ := h
  intro x hx
  rcases (h4 x).1 hx with rfl | e
  · exact lt_of_blk h1
  · exact h2.lt x e

theorem MapK.fr {S : Nat → Prop} {w w' : World} {m : Nat} {t : Bool} {c : Int} {own : Nat → Prop} {xs : Row} (h : MapK w m t c own xs) (f : Fr S w w') (hd : ∀ x, own x → ¬ S x) : MapK w' m t c own xs := by
  have hlt := h.lt
  obtain ⟨p, oE, h1, h2, h3, h4, h5⟩ := h
  exact ⟨p, oE, (f.block m (lt_of_blk h1) (hd m ((h4 m).2 (Or.inl rfl)))).trans h1, h2.fr f fun x hx => hd x ((h4 x).2 (Or.inr hx)), h3, h4, h5⟩

theorem MapK.same {w w' : World} {m : Nat} {t : Bool} {c : Int} {own : Nat → Prop} {xs : Row} (h : MapK w m t c own xs) (e : w'.heap = w.heap) : MapK w' m t c own xs := by
  obtain ⟨p, oE, h1, h2, h3, h4, h5⟩ := h
  exact ⟨p, oE, by rw [e]; exact h1, h2.congr fun x _ => by rw [e], h3, h4, h5⟩

theorem method_findK (a : Addr) (w : World) : (method 489 136 (.pointer (some a)) "Find").run Tryz.prog w = .ok (266, .pointer (some a)) w := by kernel_rfl
theorem method_atK (a : Addr) (w : World) : (method 489 136 (.pointer (some a)) "At").run Tryz.prog w = .ok (265, .pointer (some a)) w := by kernel_rfl
theorem method_setK (a : Addr) (w : World) : (method 489 136 (.pointer (some a)) "Set").run Tryz.prog w = .ok (270, .pointer (some a)) w := by kernel_rfl
theorem method_insertK (a : Addr) (w : World) : (method 489 136 (.pointer (some a)) "Insert").run Tryz.prog w = .ok (267, .pointer (some a)) w := by kernel_rfl
theorem method_lenK (a : Addr) (w : World) : (method 489 136 (.pointer (some a)) "Len").run Tryz.prog w = .ok (268, .pointer (some a)) w := by kernel_rfl

set_option maxRecDepth 100000 in
set_option maxHeartbeats 400000 in
theorem bare_anyK (m : Nat) (t : Bool) (c : Int) (own : Nat → Prop) (xs : Row) (w : World) (h : MapK w m t c own xs) :
    Calls Tryz.prog 67 #[.pointer (some ⟨m, 0, none⟩)] w fun e w' => e = .returned (.bool false) ∧ w' = w := by
  obtain ⟨p, oE, h1, h2, h3, h4, h5⟩ := h
  have c2 : w.cell? ⟨m, 3, none⟩ = some (.iface 136 (.pointer (some ⟨p, 0, none⟩))) := cell_of h1 3
  clear h1 h2 h3 h4 h5
  go_enter Tryz.func67, Tryz.ntmps67
  go_wp2_with fail
  go_ret
  exact ⟨rfl, rfl⟩

set_option maxRecDepth 100000 in
set_option maxHeartbeats 400000 in
theorem len_anyK (m : Nat) (t : Bool) (c : Int) (own : Nat → Prop) (xs : Row) (w : World) (h : MapK w m t c own xs) :
    Calls Tryz.prog 69 #[.pointer (some ⟨m, 0, none⟩)] w fun e w' => e = .returned (.int .i64 xs.length) ∧ w' = w := by
  have hbare := bare_anyK m t c own xs w h
  obtain ⟨p, oE, h1, h2, h3, h4, h5⟩ := h
  have c2 : w.cell? ⟨m, 3, none⟩ = some (.iface 136 (.pointer (some ⟨p, 0, none⟩))) := cell_of h1 3
  have hlen := kLen_any p oE xs w h2
  have hm := method_lenK
  clear h1 h2 h3 h4 h5
  go_enter Tryz.func69, Tryz.ntmps69
  go_wp2_with fail
  refine hbare.mono ?_
  rintro e w2 ⟨rfl, rfl⟩
  go_wp2_with fail
  refine hlen.mono ?_
  rintro e w2 ⟨rfl, rfl⟩
  go_wp2_with fail
  go_ret
  exact ⟨rfl, rfl⟩

set_option maxRecDepth 100000 in
set_option maxHeartbeats 400000 in
theorem find_anyK (m : Nat) (t : Bool) (c : Int) (own : Nat → Prop) (xs : Row) (k : Int) (w : World) (h : MapK w m t c own xs) (b0 : 0 ≤ c) (b1 : c ≤ 8000000000000000000) (hs : xs.length ≤ 4000) :
    Calls Tryz.prog 68 #[.pointer (some ⟨m, 0, none⟩), kv k] w fun e w' => ∃ n : Nat, e = .returned (.tuple #[.int .i64 (lrank t k xs), .bool (lsame k xs)]) ∧
      MapK w' m t (c + n) own xs ∧ n ≤ 10000 ∧ (0 < xs.length → 1 ≤ n) ∧ Fr (fun x => x = m) w w' := by
  have hfr : Fr (fun _ => False) w ((w.alloc (.cells #[.pointer (some ⟨m, 0, none⟩)] 50)).alloc (.cells #[kv k] 53)) := Fr.alloc (Fr.alloc (Fr.refl _ _) _) _
  have h' := h.fr hfr fun _ _ e => e
  have hbare := bare_anyK m t c own xs _ h'
  obtain ⟨p, oE, h1, h2, h3, h4, h5⟩ := h
  have hml := lt_of_blk h1
  obtain ⟨h1', h2'⟩ : ((w.alloc (.cells #[.pointer (some ⟨m, 0, none⟩)] 50)).alloc (.cells #[kv k] 53)).heap[m]? = some (mapBlk t (.iface 136 (.pointer (some ⟨p, 0, none⟩))) c) ∧ EngK ((w.alloc (.cells #[.pointer (some ⟨m, 0, none⟩)] 50)).alloc (.cells #[kv k] 53)) p oE xs :=
    ⟨(hfr.block m hml (fun e => e)).trans h1, h2.fr hfr fun _ _ e => e⟩
  have c2 : w.cell? ⟨m, 3, none⟩ = some (.iface 136 (.pointer (some ⟨p, 0, none⟩))) := cell_of h1 3
  have hmb : ((w.alloc (.cells #[.pointer (some ⟨m, 0, none⟩)] 50)).alloc (.cells #[kv k] 53)).heap[w.heap.size]? = some (.cells #[.pointer (some ⟨m, 0, none⟩)] 50 (0, 0)) := by
    rw [Below.heap_alloc _ _ _ (by simp)]; exact blk_new _ _
  have hkb : ((w.alloc (.cells #[.pointer (some ⟨m, 0, none⟩)] 50)).alloc (.cells #[kv k] 53)).heap[w.heap.size + 1]? = some (.cells #[kv k] 53 (0, 0)) := by
    have := blk_new (w.alloc (.cells #[.pointer (some ⟨m, 0, none⟩)] 50)) (.cells #[kv k] 53)
    rw [World.size_alloc] at this; exact this
  have hfind := kFind_eng p m w.heap.size (w.heap.size + 1) oE xs t (.iface 136 (.pointer (some ⟨p, 0, none⟩))) c k _ h2' h5 h1' hmb hkb h3 (by omega) (by omega) b0 b1 (by omega)
  have hmeth := method_findK
  have HQ : Hid ((∀ x, own x ↔ x = m ∨ oE x) ∧ ¬ oE m ∧ Srt t xs) := ⟨h4, h3, h5⟩
  clear h1 h1' hmb hkb h3 h4 h5
  go_enter Tryz.func68, Tryz.ntmps68
  go_wp2_with fail
  refine hbare.mono ?_
  rintro e w2 ⟨rfl, rfl⟩
  go_wp2_with fail
  refine hfind.mono ?_
  rintro e w3 ⟨n, rfl, g1, g2, g3, g4⟩
  go_wp2_with fail
  go_ret2
  obtain ⟨h4, h3, h5⟩ := HQ.out
  refine ⟨n, rfl, ⟨p, oE, g1, h2'.fr g4 fun x hx e => h3 (e ▸ hx), h3, h4, h5⟩, g2, g3, ?_⟩
  exact Fr.trans (hfr.mono fun _ _ e => e.elim) g4 fun _ _ e => e

set_option maxRecDepth 100000 in
set_option maxHeartbeats 400000 in
theorem rank_anyK (m : Nat) (t : Bool) (c : Int) (own : Nat → Prop) (xs : Row) (k : Int) (w : World) (h : MapK w m t c own xs) (b0 : 0 ≤ c) (b1 : c ≤ 8000000000000000000) (hs : xs.length ≤ 4000) :
    Calls Tryz.prog 25 #[.pointer (some ⟨m, 0, none⟩), kv k] w fun e w' => ∃ n : Nat, e = .returned (.int .i64 (lrank t k xs)) ∧
      MapK w' m t (c + n) own xs ∧ n ≤ 10000 ∧ (0 < xs.length → 1 ≤ n) ∧ Fr (fun x => x = m) w w' := by
  have hfind := find_anyK m t c own xs k w h b0 b1 hs
  clear h
  go_enter Tryz.func25, Tryz.ntmps25
  go_wp2_with fail
  refine hfind.mono ?_
  rintro e w3 ⟨n, rfl, g1, g2, g3, g4⟩
  go_wp2_with fail
  go_ret
  exact ⟨n, rfl, g1, g2, g3, g4⟩

set_option maxRecDepth 100000 in
set_option maxHeartbeats 400000 in
theorem at_anyK (m : Nat) (t : Bool) (c : Int) (own : Nat → Prop) (xs : Row) (i : Int) (w : World) (h : MapK w m t c own xs) (hs : xs.length ≤ 4000) :
    Calls Tryz.prog 80 #[.pointer (some ⟨m, 0, none⟩), .int .i64 i] w fun e w' => e = .returned (.tuple #[kv (latK xs i), kv (latV xs i), .bool (latB xs i)]) ∧ Fr (fun _ => False) w w' := by
  have hlen := len_anyK m t c own xs w h
  obtain ⟨p, oE, h1, h2, h3, h4, h5⟩ := h
  have c2 : w.cell? ⟨m, 3, none⟩ = some (.iface 136 (.pointer (some ⟨p, 0, none⟩))) := cell_of h1 3
  have hmeth := method_atK
  unfold latK latV latB
  by_cases i0 : i < 0
  · rw [if_neg (by omega), if_neg (by omega), if_neg (by omega)]
    clear h1 h2 h3 h4 h5
    go_enter Tryz.func80, Tryz.ntmps80
    go_wp2_with fail
    go_ret3
    exact ⟨rfl, Fr.refl _ _⟩
  · by_cases i1 : i < xs.length
    · rw [if_pos (by omega), if_pos (by omega), if_pos (by omega)]
      obtain ⟨j, rfl⟩ := Int.eq_ofNat_of_zero_le (Int.not_lt.1 i0)
      rw [Int.toNat_natCast]
      have hj : j < xs.length := by omega
      have hat := kAt_any p oE xs j (xs[j]).1 (xs[j]).2 w h2 (List.getElem?_eq_getElem hj) (by omega)
      have ek : ((xs[j]?).getD (0, 0)) = ((xs[j]).1, (xs[j]).2) := by rw [List.getElem?_eq_getElem hj]; rfl
      rw [ek]
      generalize (xs[j]).1 = kk at *
      generalize (xs[j]).2 = vv at *
      have i2 : ¬ (xs.length : Int) ≤ (j : Int) := by omega
      clear h1 h2 h3 h4 h5 ek
      go_enter Tryz.func80, Tryz.ntmps80
      go_wp2_with fail
      refine hlen.mono ?_
      rintro e w2 ⟨rfl, rfl⟩
      go_wp2_with fail
      refine hat.mono ?_
      rintro e w2 ⟨rfl, fr⟩
      go_wp2_with fail
      go_ret3
      exact ⟨rfl, fr⟩
    · rw [if_neg (by omega), if_neg (by omega), if_neg (by omega)]
      have i2 : (xs.length : Int) ≤ i := by omega
      clear h1 h2 h3 h4 h5
      go_enter Tryz.func80, Tryz.ntmps80
      go_wp2_with fail
      refine hlen.mono ?_
      rintro e w2 ⟨rfl, rfl⟩
      go_wp2_with fail
      go_ret3
      exact ⟨rfl, Fr.refl _ _⟩

set_option maxHeartbeats 400000 in
theorem compared_anyK (m : Nat) (t : Bool) (c : Int) (own : Nat → Prop) (xs : Row) (w : World) (h : MapK w m t c own xs) :
    Calls Tryz.prog 78 #[.pointer (some ⟨m, 0, none⟩)] w fun e w' => e = .returned (.int .i64 c) ∧ w' = w := by
  obtain ⟨p, oE, h1, h2, h3, h4, h5⟩ := h
  have c3 : w.cell? ⟨m, 4, none⟩ = some (.int .i64 c) := cell_of h1 4
  clear h1 h2 h3 h4 h5
  go_enter Tryz.func78, Tryz.ntmps78
  go_wp2_with fail
  go_ret
  exact ⟨rfl, rfl⟩

set_option maxRecDepth 100000 in
set_option maxHeartbeats 400000 in
theorem ceiling_anyK (m : Nat) (t : Bool) (c : Int) (own : Nat → Prop) (xs : Row) (k : Int) (w : World) (h : MapK w m t c own xs) (b0 : 0 ≤ c) (b1 : c ≤ 8000000000000000000) (hs : xs.length ≤ 4000) :
    Calls Tryz.prog 109 #[.pointer (some ⟨m, 0, none⟩), kv k] w fun e w' => ∃ n : Nat, e = .returned (.tuple #[kv (latK xs (lrank t k xs)), kv (latV xs (lrank t k xs)), .bool (latB xs (lrank t k xs))]) ∧
      MapK w' m t (c + n) own xs ∧ n ≤ 10000 ∧ (0 < xs.length → 1 ≤ n) ∧ Fr (fun x => x = m) w w' := by
  have hfind := find_anyK m t c own xs k w h b0 b1 hs
  clear h
  go_enter Tryz.func109, Tryz.ntmps109
  go_wp2_with fail
  refine hfind.mono ?_
  rintro e w3 ⟨n, rfl, g1, g2, g3, g4⟩
  have hat := at_anyK m t _ own xs (lrank t k xs) _ g1 hs
  go_wp2_with fail
  refine hat.mono ?_
  rintro e w4 ⟨rfl, fr⟩
  go_wp2_with fail
  go_ret3
  exact ⟨n, rfl, g1.fr fr fun _ _ e => e, g2, g3, g4.trans fr fun _ _ e => e.elim⟩

set_option maxRecDepth 100000 in
set_option maxHeartbeats 400000 in
theorem floor_anyK (m : Nat) (t : Bool) (c : Int) (own : Nat → Prop) (xs : Row) (k : Int) (w : World) (h : MapK w m t c own xs) (b0 : 0 ≤ c) (b1 : c ≤ 8000000000000000000) (hs : xs.length ≤ 4000) :
    Calls Tryz.prog 108 #[.pointer (some ⟨m, 0, none⟩), kv k] w fun e w' => ∃ n : Nat, e = .returned (.tuple #[kv (latK xs (lfloor t k xs)), kv (latV xs (lfloor t k xs)), .bool (latB xs (lfloor t k xs))]) ∧
      MapK w' m t (c + n) own xs ∧ n ≤ 10000 ∧ (0 < xs.length → 1 ≤ n) ∧ Fr (fun x => x = m) w w' := by
  have hfind := find_anyK m t c own xs k w h b0 b1 hs
  have hrl := lrank_le t k xs
  unfold lfloor
  clear h
  cases hsm : lsame k xs with
  | true =>
    rw [hsm] at hfind
    simp only [if_true]
    clear hsm
    go_enter Tryz.func108, Tryz.ntmps108
    go_wp2_with fail
    refine hfind.mono ?_
    rintro e w3 ⟨n, rfl, g1, g2, g3, g4⟩
    have hat := at_anyK m t _ own xs (lrank t k xs) _ g1 hs
    go_wp2_with fail
    refine hat.mono ?_
    rintro e w4 ⟨rfl, fr⟩
    go_wp2_with fail
    go_ret3
    exact ⟨n, rfl, g1.fr fr fun _ _ e => e, g2, g3, g4.trans fr fun _ _ e => e.elim⟩
  | false =>
    rw [hsm] at hfind
    simp only [Bool.false_eq_true, if_false]
    clear hsm
    have hrl' : (lrank t k xs : Int) ≤ 4000 := by omega
    go_enter Tryz.func108, Tryz.ntmps108
    go_wp2_with fail
    refine hfind.mono ?_
    rintro e w3 ⟨n, rfl, g1, g2, g3, g4⟩
    have hat := at_anyK m t _ own xs ((lrank t k xs : Int) - 1) _ g1 hs
    go_wp2_with fail
    refine hat.mono ?_
    rintro e w4 ⟨rfl, fr⟩
    go_wp2_with fail
    go_ret3
    exact ⟨n, rfl, g1.fr fr fun _ _ e => e, g2, g3, g4.trans fr fun _ _ e => e.elim⟩

set_option maxRecDepth 100000 in
set_option maxHeartbeats 400000 in
theorem get_anyK (m : Nat) (t : Bool) (c : Int) (own : Nat → Prop) (xs : Row) (k : Int) (w : World) (h : MapK w m t c own xs) (b0 : 0 ≤ c) (b1 : c ≤ 8000000000000000000) (hs : xs.length ≤ 4000) :
    Calls Tryz.prog 21 #[.pointer (some ⟨m, 0, none⟩), kv k] w fun e w' => ∃ n : Nat, e = .returned (.tuple #[kv (lget t k xs), .bool (lsame k xs)]) ∧
      MapK w' m t (c + n) own xs ∧ n ≤ 10000 ∧ (0 < xs.length → 1 ≤ n) ∧ Fr (fun x => x = m) w w' := by
  have hfind := find_anyK m t c own xs k w h b0 b1 hs
  have hsr : Srt t xs := h.choose_spec.choose_spec.2.2.2.2
  have hmeth := method_atK
  unfold lget
  clear h
  cases hsm : lsame k xs with
  | true =>
    obtain ⟨⟨kq, u⟩, hu, _⟩ := at_rank hsr hsm
    rw [hsm] at hfind
    simp only [if_true]
    rw [hu]
    simp only [Option.getD_some]
    have HU : Hid (xs[lrank t k xs]? = some (kq, u)) := hu
    clear hsm hu hsr
    go_enter Tryz.func21, Tryz.ntmps21
    go_wp2_with fail
    refine hfind.mono ?_
    rintro e w3 ⟨n, rfl, g1, g2, g3, g4⟩
    have g1' := g1
    obtain ⟨p, oE, h1, h2, h3, h4, h5⟩ := g1'
    have c2 : w3.cell? ⟨m, 3, none⟩ = some (.iface 136 (.pointer (some ⟨p, 0, none⟩))) := cell_of h1 3
    have hat := kAt_any p oE xs (lrank t k xs) kq u w3 h2 HU.out (by omega)
    clear h1 h2 h3 h4 h5
    go_wp2_with fail
    refine hat.mono ?_
    rintro e w4 ⟨rfl, fr⟩
    go_wp2_with fail
    go_ret2
    exact ⟨n, rfl, g1.fr fr fun _ _ e => e, g2, g3, g4.trans fr fun _ _ e => e.elim⟩
  | false =>
    rw [hsm] at hfind
    simp only [Bool.false_eq_true, if_false]
    clear hsm hsr
    go_enter Tryz.func21, Tryz.ntmps21
    go_wp2_with fail
    refine hfind.mono ?_
    rintro e w3 ⟨n, rfl, g1, g2, g3, g4⟩
    go_wp2_with fail
    go_ret2
    exact ⟨n, rfl, g1, g2, g3, g4⟩

set_option maxRecDepth 100000 in
set_option maxHeartbeats 600000 in
theorem put_anyK (m : Nat) (t : Bool) (c : Int) (own : Nat → Prop) (xs : Row) (k v : Int) (w : World) (h : MapK w m t c own xs) (b0 : 0 ≤ c) (b1 : c ≤ 8000000000000000000) (hs : xs.length ≤ 400) :
    Calls Tryz.prog 18 #[.pointer (some ⟨m, 0, none⟩), kv k, kv v] w fun e w' => ∃ (n : Nat) (own' : Nat → Prop), e = .returned (.tuple #[kv (lget t k xs), .bool (lsame k xs), .int .i64 (lerr k xs)]) ∧
      MapK w' m t (c + n) own' (lputF t k v xs) ∧ n ≤ 10000 ∧ (0 < xs.length → 1 ≤ n) ∧ (∀ x, own' x → own x ∨ w.heap.size ≤ x) ∧ Fr own w w' := by
  have hbare := bare_anyK m t c own xs w h
  have hfind := find_anyK m t c own xs k w h b0 b1 (by omega)
  have hsr : Srt t xs := h.choose_spec.choose_spec.2.2.2.2
  have hom : own m := (h.choose_spec.choose_spec.2.2.2.1 m).2 (Or.inl rfl)
  have hmeth := method_atK
  have hmeth2 := method_setK
  have hmeth3 := method_insertK
  have hsp := srt_put (k := k) (v := v) hsr
  unfold lputF lerr lget
  unfold lput at hsp ⊢
  clear h
  cases hsm : lsame k xs with
  | true =>
    obtain ⟨⟨kq, u⟩, hu, _⟩ := at_rank hsr hsm
    rw [hsm] at hfind hsp
    simp only [if_true] at hsp ⊢
    rw [hu] at hsp ⊢
    simp only [Option.getD_some] at hsp ⊢
    have HU : Hid (xs[lrank t k xs]? = some (kq, u)) := hu
    have HP : Hid (Srt t (xs.set (lrank t k xs) (kq, v))) := hsp
    clear hsm hu hsr hsp
    go_enter Tryz.func18, Tryz.ntmps18
    go_wp2_with fail
    refine hbare.mono ?_
    rintro e w2 ⟨rfl, rfl⟩
    go_wp2_with fail
    refine hfind.mono ?_
    rintro e w3 ⟨n, rfl, g1, g2, g3, g4⟩
    obtain ⟨p, oE, h1, h2, h3, h4, h5⟩ := g1
    have c2 : w3.cell? ⟨m, 3, none⟩ = some (.iface 136 (.pointer (some ⟨p, 0, none⟩))) := cell_of h1 3
    have hat := kAt_any p oE xs (lrank t k xs) kq u w3 h2 HU.out (by omega)
    go_wp2_with fail
    refine hat.mono ?_
    rintro e w4 ⟨rfl, fr⟩
    have h1' := (fr.block m (lt_of_blk h1) (fun e => e)).trans h1
    have c2' : w4.cell? ⟨m, 3, none⟩ = some (.iface 136 (.pointer (some ⟨p, 0, none⟩))) := cell_of h1' 3
    have hset := kSet_any p oE xs (lrank t k xs) kq u v w4 (h2.fr fr fun _ _ e => e) HU.out (by omega)
    go_wp2_with fail
    refine hset.mono ?_
    rintro e w5 ⟨rfl, q1, q2⟩
    go_wp2_with fail
    go_ret3
    refine ⟨n, own, rfl, ⟨p, oE, (q2.block m (lt_of_blk h1') h3).trans h1', q1, h3, h4, HP.out⟩, g2, g3, fun x hx => Or.inl hx, ?_⟩
    exact ((g4.mono fun x _ e => by rw [e]; exact hom).trans fr fun _ _ e => e.elim).trans q2 fun x _ e => (h4 x).2 (Or.inr e)
  | false =>
    rw [hsm] at hfind hsp
    simp only [Bool.false_eq_true, if_false] at hsp ⊢
    have HP : Hid (Srt t (xs.take (lrank t k xs) ++ (k, v) :: xs.drop (lrank t k xs))) := hsp
    clear hsm hsr hsp
    by_cases hf : 400 ≤ xs.length
    · rw [if_pos hf]
      simp only [show ¬ (3 : Int) = 0 by omega, if_false]
      have hf' : (400 : Int) ≤ (xs.length : Int) := by omega
      clear HP
      go_enter Tryz.func18, Tryz.ntmps18
      go_wp2_with fail
      refine hbare.mono ?_
      rintro e w2 ⟨rfl, rfl⟩
      go_wp2_with fail
      refine hfind.mono ?_
      rintro e w3 ⟨n, rfl, g1, g2, g3, g4⟩
      have hlen := len_anyK m t _ own xs _ g1
      go_wp2_with fail
      refine hlen.mono ?_
      rintro e w4 ⟨rfl, rfl⟩
      go_wp2_with fail
      go_ret3
      exact ⟨n, own, rfl, g1, g2, g3, fun x hx => Or.inl hx, g4.mono fun x _ e => by rw [e]; exact hom⟩
    · rw [if_neg hf]
      simp only [if_true]
      have hf' : ¬ (400 : Int) ≤ (xs.length : Int) := by omega
      have hrl := lrank_le t k xs
      go_enter Tryz.func18, Tryz.ntmps18
      go_wp2_with fail
      refine hbare.mono ?_
      rintro e w2 ⟨rfl, rfl⟩
      go_wp2_with fail
      refine hfind.mono ?_
      rintro e w3 ⟨n, rfl, g1, g2, g3, g4⟩
      have hlen := len_anyK m t _ own xs _ g1
      obtain ⟨p, oE, h1, h2, h3, h4, h5⟩ := g1
      have c2 : w3.cell? ⟨m, 3, none⟩ = some (.iface 136 (.pointer (some ⟨p, 0, none⟩))) := cell_of h1 3
      have hins := kInsert_any p oE xs (lrank t k xs) k v w3 h2 hrl (by omega)
      go_wp2_with fail
      refine hlen.mono ?_
      rintro e w4 ⟨rfl, rfl⟩
      go_wp2_with fail
      refine hins.mono ?_
      rintro e w5 ⟨rfl, oE', q1, q2, q3⟩
      go_wp2_with fail
      go_ret3
      have nm : ¬ oE' m := fun e => by
        rcases q2 m e with e | e
        · exact h3 e
        · have := lt_of_blk h1; omega
      refine ⟨n, fun x => x = m ∨ oE' x, rfl, ⟨p, oE', (q3.block m (lt_of_blk h1) h3).trans h1, q1, nm, fun x => Iff.rfl, HP.out⟩, g2, g3, fun x hx => ?_, ?_⟩
      · rcases hx with e | e
        · rw [e]; exact Or.inl hom
        · rcases q2 x e with e | e
          · exact Or.inl ((h4 x).2 (Or.inr e))
          · exact Or.inr (Nat.le_trans g4.size e)
      · exact (g4.mono fun x _ e => by rw [e]; exact hom).trans q3 fun x _ e => (h4 x).2 (Or.inr e)

end Go.Proofs.YthbnbocpddddmaaGreat
