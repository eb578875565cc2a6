/- What is ok is in one place just if it is the same. -/
import Derived.Test.YtkngihmfknmnaaaNice
import Derived.Test.YtkngihmfknmnaaaSameSpec
namespace Go.Proofs.Ytkngihmfknmnaaa
open Go.RowKit Go.Deep

/-- Kinds are kinds, and what a kind leaves empty is empty, all the way down. -/
inductive Neat : V → Prop
  | mk (k n : Int) (t : ByteArray) (l : List V) (hk : k = 0 ∨ k = 1 ∨ k = 2 ∨ k = 3 ∨ k = 4 ∨ k = 5 ∨ k = 6) (hr : restB (.mk k n t l) = true) (hl : k = 4 → ∀ i (hi : i < l.length), Neat l[i]) : Neat (.mk k n t l)

theorem neat_of : ∀ (d : Nat) (x : V), okI d x = true → Neat x
  | 0, x, h => by cases h
  | d + 1, .mk k n t l, h => by
    have hk : k = 0 ∨ k = 1 ∨ k = 2 ∨ k = 3 ∨ k = 4 ∨ k = 5 ∨ k = 6 := by
      have := nice_of (d + 1) _ h
      cases this with
      | mk _ _ _ _ hk _ _ => exact hk
    rw [okI_succ, Bool.and_eq_true] at h
    obtain ⟨h1, h2⟩ := h
    refine .mk k n t l hk h1 ?_
    intro e4 i hi
    subst e4
    simp [allI] at h2
    exact neat_of d l[i] (h2.2 _ (List.getElem_mem _))

theorem cmpI_zero {a b : Int} : cmpI a b = 0 ↔ a = b := by
  unfold cmpI
  split
  · constructor
    · intro h; cases h
    · intro h; omega
  · split
    · constructor
      · intro h; cases h
      · intro h; omega
    · constructor
      · intro _; omega
      · intro _; rfl
theorem bytesLess_irrefl : ∀ l, Op.bytesLess l l = false
  | [] => rfl
  | a :: x => by simp [Op.bytesLess, bytesLess_irrefl x]
theorem cmpT_zero {s t : ByteArray} : cmpT s t = 0 ↔ (s.toList == t.toList) = true := by
  unfold cmpT
  constructor
  · intro h
    split at h
    · cases h
    · split at h
      · cases h
      · rename_i h1 h2
        simp only [Bool.not_eq_true', Bool.not_eq_false, Bool.or_eq_true] at h2
        rcases h2 with h2 | h2
        · exact absurd h2 h1
        · exact h2
  · intro h
    have e : s.toList = t.toList := by simpa using h
    rw [e, bytesLess_irrefl]
    simp
theorem ordTL_length : ∀ (l l' : List V), ordTL l l' = 0 → l.length = l'.length
  | [], [], _ => rfl
  | [], _ :: _, h => by unfold ordTL at h; cases h
  | _ :: _, [], h => by unfold ordTL at h; cases h
  | a :: r, b :: r', h => by
    unfold ordTL at h
    split at h
    · simp [ordTL_length r r' h]
    · contradiction
theorem rankB_inj {k k' : Int} (hk : k = 0 ∨ k = 1 ∨ k = 2 ∨ k = 3 ∨ k = 4 ∨ k = 5 ∨ k = 6) (hk' : k' = 0 ∨ k' = 1 ∨ k' = 2 ∨ k' = 3 ∨ k' = 4 ∨ k' = 5 ∨ k' = 6) (h : rankB k = rankB k') : k = k' := by
  rcases hk with rfl | rfl | rfl | rfl | rfl | rfl | rfl <;> rcases hk' with rfl | rfl | rfl | rfl | rfl | rfl | rfl <;> first | rfl | (exact absurd h (by decide))

theorem same_nil {l l' : List V} (h : l.length = 0) (h' : l'.length = 0) : sameVL l l' = true := by
  obtain rfl := List.eq_nil_of_length_eq_zero h
  obtain rfl := List.eq_nil_of_length_eq_zero h'
  unfold sameVL; rfl

theorem ord_same (k n : Int) (t : ByteArray) (l : List V) (k' n' : Int) (t' : ByteArray) (l' : List V) (hx : Neat (.mk k n t l)) (hy : Neat (.mk k' n' t' l')) (h0 : ¬ k = 0) (h4 : ¬ (k = 4 ∧ k' = 4)) :
    decide (ordT (.mk k n t l) (.mk k' n' t' l') = 0) = sameV (.mk k n t l) (.mk k' n' t' l') := by
  cases hx with
  | mk _ _ _ _ hk hr _ =>
  cases hy with
  | mk _ _ _ _ hk' hr' _ =>
  rw [rest_mk, Bool.and_eq_true, Bool.and_eq_true] at hr hr'
  obtain ⟨⟨r1, r2⟩, r3⟩ := hr
  obtain ⟨⟨s1, s2⟩, s3⟩ := hr'
  rw [Bool.eq_iff_iff, decide_eq_true_iff]
  by_cases e : k = k'
  · subst e
    have n4 : ¬ k = 4 := fun h => h4 ⟨h, h⟩
    have l0 : l.length = 0 := by simpa [n4] using r3
    have l0' : l'.length = 0 := by simpa [n4] using s3
    have hl := same_nil l0 l0'
    unfold ordT sameV
    rw [if_neg (fun h => h rfl), if_neg h0, hl]
    by_cases e3 : k = 3
    · subst e3
      have m0 : n = 0 := by simpa using r1
      have m0' : n' = 0 := by simpa using s1
      subst m0 m0'
      rw [if_pos rfl, cmpT_zero]
      simp
    · rw [if_neg e3, if_neg n4, cmpI_zero]
      have t0 : t.toList = [] := by simpa [e3] using r2
      have t0' : t'.toList = [] := by simpa [e3] using s2
      rw [t0, t0']
      simp
  · unfold ordT sameV
    rw [if_pos e, cmpI_zero]
    constructor
    · intro h; exact absurd (rankB_inj hk hk' h) e
    · intro h; simp [e] at h


theorem same_list (n : Int) (t : ByteArray) (l : List V) (n' : Int) (t' : ByteArray) (l' : List V) (hx : Neat (.mk 4 n t l)) (hy : Neat (.mk 4 n' t' l')) : sameV (.mk 4 n t l) (.mk 4 n' t' l') = sameVL l l' := by
  cases hx with
  | mk _ _ _ _ _ hr _ =>
  cases hy with
  | mk _ _ _ _ _ hr' _ =>
  rw [rest_mk] at hr hr'
  simp at hr hr'
  unfold sameV
  simp [hr, hr']
theorem ordTL_same : ∀ (l l' : List V), (∀ i (hi : i < l.length), ∀ y, Neat y → decide (ordT l[i] y = 0) = sameV l[i] y) → (∀ i (hi : i < l'.length), Neat l'[i]) → decide (ordTL l l' = 0) = sameVL l l'
  | [], [], _, _ => by unfold ordTL sameVL; rfl
  | [], _ :: _, _, _ => by unfold ordTL sameVL; rfl
  | _ :: _, [], _, _ => by unfold ordTL sameVL; rfl
  | a :: r, b :: r', h, h' => by
    have e := h 0 (by simp) b (by have := h' 0 (by simp); simpa using this)
    simp only [List.getElem_cons_zero] at e
    have ih := ordTL_same r r' (fun i hi y hy => by have := h (i + 1) (by simpa using hi) y hy; simpa using this) (fun i hi => by have := h' (i + 1) (by simpa using hi); simpa using this)
    unfold ordTL sameVL
    rw [← e, ← ih]
    by_cases h0 : ordT a b = 0
    · rw [if_pos h0, decide_eq_true h0]; rfl
    · rw [if_neg h0, decide_eq_false h0]; rfl
theorem ordT_same : ∀ x, Neat x → ∀ y, Neat y → decide (ordT x y = 0) = sameV x y := by
  refine V.ind fun k n t l ih => ?_
  intro hx y hy
  obtain ⟨k', n', t', l'⟩ := y
  by_cases h4 : k = 4 ∧ k' = 4
  · obtain ⟨rfl, rfl⟩ := h4
    rw [same_list n t l n' t' l' hx hy]
    have e : ordT (.mk 4 n t l) (.mk 4 n' t' l') = ordTL l l' := by unfold ordT; rfl
    rw [e]
    cases hx with
    | mk _ _ _ _ _ _ hl =>
    cases hy with
    | mk _ _ _ _ _ _ hl' =>
    exact ordTL_same l l' (fun i hi y hy => ih i hi (hl rfl i hi) y hy) (hl' rfl)
  · by_cases h0 : k = 0
    · subst h0
      cases hx with
      | mk _ _ _ _ hk hr _ =>
      cases hy with
      | mk _ _ _ _ hk' hr' _ =>
      by_cases h0' : k' = 0
      · subst h0'
        rw [rest_mk] at hr hr'
        simp at hr hr'
        have e : ordT (.mk 0 n t l) (.mk 0 n' t' l') = 0 := by unfold ordT; rfl
        rw [e]
        unfold sameV
        rw [same_nil (l := l) (l' := l') (by simp [hr]) (by simp [hr'])]
        simp [hr, hr']
      · unfold ordT sameV
        rw [if_pos (fun h => h0' h.symm)]
        have e1 : ¬ cmpI (rankB 0) (rankB k') = 0 := fun h => h0' (rankB_inj (.inl rfl) hk' (cmpI_zero.1 h)).symm
        have e2 : ¬ (0 : Int) = k' := fun h => h0' h.symm
        rw [decide_eq_false e1, decide_eq_false e2]; rfl
    · exact ord_same k n t l k' n' t' l' hx hy h0 h4
mutual
theorem sameV_eq : ∀ (x y : V), sameV x y = true → x = y
  | .mk k n t l, .mk k' n' t' l', h => by
    unfold sameV at h
    simp only [Bool.and_eq_true, decide_eq_true_eq, beq_iff_eq] at h
    obtain ⟨⟨⟨rfl, rfl⟩, ht⟩, hl⟩ := h
    have := sameVL_eq l l' hl
    subst this
    have : t = t' := by
      rw [ByteArray.toList_eq, ByteArray.toList_eq] at ht
      exact Go.WideShapes.bytes_inj ht
    rw [this]
theorem sameVL_eq : ∀ (l l' : List V), sameVL l l' = true → l = l'
  | [], [], _ => rfl
  | [], _ :: _, h => by unfold sameVL at h; cases h
  | _ :: _, [], h => by unfold sameVL at h; cases h
  | a :: r, b :: r', h => by
    unfold sameVL at h
    rw [Bool.and_eq_true] at h
    rw [sameV_eq a b h.1, sameVL_eq r r' h.2]
end
mutual
theorem sameV_refl : ∀ (x : V), sameV x x = true
  | .mk k n t l => by unfold sameV; simp [sameVL_refl l]
theorem sameVL_refl : ∀ (l : List V), sameVL l l = true
  | [] => by unfold sameVL; rfl
  | a :: r => by unfold sameVL; rw [sameV_refl a, sameVL_refl r]; rfl
end
theorem sameV_iff (x y : V) : sameV x y = true ↔ x = y := ⟨sameV_eq x y, fun h => by rw [h]; exact sameV_refl y⟩

end Go.Proofs.Ytkngihmfknmnaaa
