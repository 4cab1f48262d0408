/- The i-th node of a tree; a value set: plain. -/
import Derived.Test.YthbnbocpddddmaaGreatLst
namespace Go.Proofs.YthbnbocpddddmaaGreat

namespace Tr
def nthB : Tr → Nat → Nat
  | nil, _ => 0
  | node b l _ _ r, i => if i < l.size then l.nthB i else if i = l.size then b else r.nthB (i - l.size - 1)
def setV (x : Nat) (u : Int) : Tr → Tr
  | nil => nil
  | node b l k v r => node b (l.setV x u) k (if b = x then u else v) (r.setV x u)

theorem ad_setV (x : Nat) (u : Int) (t : Tr) : (t.setV x u).ad = t.ad := by cases t <;> rfl
theorem size_setV (x : Nat) (u : Int) (t : Tr) : (t.setV x u).size = t.size := by
  induction t with
  | nil => rfl
  | node b l k v r il ir => simp only [setV, size, il, ir]
theorem ht_setV (x : Nat) (u : Int) (t : Tr) : (t.setV x u).ht = t.ht := by
  induction t with
  | nil => rfl
  | node b l k v r il ir => simp only [setV, ht, il, ir]
theorem has_setV (x : Nat) (u : Int) (t : Tr) (y : Nat) : (t.setV x u).has y ↔ t.has y := by
  induction t with
  | nil => exact Iff.rfl
  | node b l k v r il ir => simp only [setV, has, il, ir]
theorem avl_setV (x : Nat) (u : Int) (t : Tr) : (t.setV x u).avl ↔ t.avl := by
  induction t with
  | nil => exact Iff.rfl
  | node b l k v r il ir => simp only [setV, avl, il, ir, ht_setV]
theorem setV_id (x : Nat) (u : Int) (t : Tr) (h : ¬ t.has x) : t.setV x u = t := by
  induction t with
  | nil => rfl
  | node b l k v r il ir =>
    simp only [has, not_or] at h
    simp only [setV, il h.2.1, ir h.2.2, if_neg (Ne.symm h.1)]
theorem has_nthB (t : Tr) (i : Nat) (h : i < t.size) : t.has (t.nthB i) := by
  induction t generalizing i with
  | nil => simp [size] at h
  | node b l k v r il ir =>
    simp only [size] at h
    simp only [nthB, has]
    by_cases c : i < l.size
    · rw [if_pos c]; exact Or.inr (Or.inl (il i c))
    · rw [if_neg c]
      by_cases d : i = l.size
      · rw [if_pos d]; exact Or.inl rfl
      · rw [if_neg d]; exact Or.inr (Or.inr (ir _ (by omega)))
end Tr

theorem Lies.nth {N : TypeId} {w : World} {T : Tr} (h : Lies N w T) (i : Nat) (hi : i < T.size) :
    ∃ k v lp rp s g, w.heap[T.nthB i]? = some (nodeBlk N k v lp rp s g) ∧ T.items[i]? = some (k, v) := by
  induction T generalizing i with
  | nil => simp [Tr.size] at hi
  | node b L k v R il ir =>
    obtain ⟨hb, lL, lR, _⟩ := h
    simp only [Tr.size] at hi
    simp only [Tr.nthB, Tr.items]
    by_cases c : i < L.size
    · rw [if_pos c, List.getElem?_append_left (by rw [Tr.size_items]; exact c)]
      exact il lL i c
    · rw [if_neg c, List.getElem?_append_right (by rw [Tr.size_items]; omega), Tr.size_items]
      by_cases d : i = L.size
      · rw [if_pos d]
        exact ⟨k, v, _, _, _, _, hb, by subst d; simp⟩
      · rw [if_neg d]
        obtain ⟨k', v', lp, rp, s, g, h1, h2⟩ := ir lR (i - L.size - 1) (by omega)
        refine ⟨k', v', lp, rp, s, g, h1, ?_⟩
        rw [show i - L.size = (i - L.size - 1) + 1 by omega, List.getElem?_cons_succ]
        exact h2

/-- The value of the i-th item is set. -/
theorem Lies.set {N : TypeId} {w w' : World} {T : Tr} (h : Lies N w T) (i : Nat) (hi : i < T.size) (u : Int)
    (hs : ∀ k v lp rp s g, w.heap[T.nthB i]? = some (nodeBlk N k v lp rp s g) → w'.heap[T.nthB i]? = some (nodeBlk N k u lp rp s g))
    (ho : ∀ x, x ≠ T.nthB i → T.has x → w'.heap[x]? = w.heap[x]?) :
    Lies N w' (T.setV (T.nthB i) u) ∧ ∃ k v, T.items[i]? = some (k, v) ∧ (T.setV (T.nthB i) u).items = T.items.set i (k, u) := by
  induction T generalizing i with
  | nil => simp [Tr.size] at hi
  | node b L k v R il ir =>
    obtain ⟨hb, lL, lR, n1, n2, n3⟩ := h
    simp only [Tr.size] at hi
    simp only [Tr.nthB] at hs ho ⊢
    by_cases c : i < L.size
    · rw [if_pos c] at hs ho ⊢
      have hh := L.has_nthB i c
      have nb : b ≠ L.nthB i := fun e => n1 (e ▸ hh)
      have nr : ¬ R.has (L.nthB i) := n3 _ hh
      obtain ⟨a1, k', v', a2, a3⟩ := il lL i c hs fun x hx hy => ho x hx (Or.inr (Or.inl hy))
      simp only [Tr.setV, if_neg nb, Tr.setV_id _ _ R nr]
      refine ⟨⟨?_, a1, lR.congr fun x hx => ho x (fun e => nr (e ▸ hx)) (Or.inr (Or.inr hx)), fun e => n1 ((Tr.has_setV _ _ _ _).1 e), n2, fun x hx => n3 x ((Tr.has_setV _ _ _ _).1 hx)⟩, k', v', ?_, ?_⟩
      · rw [Tr.ad_setV, Tr.size_setV, Tr.ht_setV]; exact (ho b nb (Or.inl rfl)).trans hb
      · simp only [Tr.items]; rw [List.getElem?_append_left (by rw [Tr.size_items]; exact c)]; exact a2
      · simp only [Tr.items]; rw [a3, List.set_append_left _ _ (by rw [Tr.size_items]; exact c)]
    · rw [if_neg c] at hs ho ⊢
      by_cases d : i = L.size
      · rw [if_pos d] at hs ho ⊢
        have hb' := hs _ _ _ _ _ _ hb
        simp only [Tr.setV, if_pos, Tr.setV_id _ _ R n2, Tr.setV_id _ _ L n1]
        refine ⟨⟨hb', lL.congr fun x hx => ho x (fun e => n1 (e ▸ hx)) (Or.inr (Or.inl hx)), lR.congr fun x hx => ho x (fun e => n2 (e ▸ hx)) (Or.inr (Or.inr hx)), n1, n2, n3⟩, k, v, ?_, ?_⟩
        · simp only [Tr.items]; rw [List.getElem?_append_right (by rw [Tr.size_items]; omega), Tr.size_items, d]; simp
        · simp only [Tr.items]; rw [List.set_append_right _ _ (by rw [Tr.size_items]; omega), Tr.size_items, d]; simp
      · rw [if_neg d] at hs ho ⊢
        have hj : i - L.size - 1 < R.size := by omega
        have hh := R.has_nthB _ hj
        have nb : b ≠ R.nthB (i - L.size - 1) := fun e => n2 (e ▸ hh)
        have nl : ¬ L.has (R.nthB (i - L.size - 1)) := fun e => n3 _ e hh
        obtain ⟨a1, k', v', a2, a3⟩ := ir lR _ hj hs fun x hx hy => ho x hx (Or.inr (Or.inr hy))
        simp only [Tr.setV, if_neg nb, Tr.setV_id _ _ L nl]
        refine ⟨⟨?_, lL.congr fun x hx => ho x (fun e => nl (e ▸ hx)) (Or.inr (Or.inl hx)), a1, n1, fun e => n2 ((Tr.has_setV _ _ _ _).1 e), fun x hx e => n3 x hx ((Tr.has_setV _ _ _ _).1 e)⟩, k', v', ?_, ?_⟩
        · rw [Tr.ad_setV, Tr.size_setV, Tr.ht_setV]; exact (ho b nb (Or.inl rfl)).trans hb
        · simp only [Tr.items]; rw [List.getElem?_append_right (by rw [Tr.size_items]; omega), Tr.size_items, show i - L.size = (i - L.size - 1) + 1 by omega, List.getElem?_cons_succ]; exact a2
        · simp only [Tr.items]; rw [a3, List.set_append_right _ _ (by rw [Tr.size_items]; omega), Tr.size_items, show i - L.size = (i - L.size - 1) + 1 by omega, List.set_cons_succ]; simp

end Go.Proofs.YthbnbocpddddmaaGreat
