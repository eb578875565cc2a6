/- What impl.ValueOrder answers; that it is what the model answers. -/
import Derived.Test.YtmacoaookleakaaOrdTerm
import Derived.Test.YtmacoaookleakaaOrdSpec2
import Derived.Test.YtmacoaookleakaaValTerm
namespace Go.Proofs.Ytmacoaookleakaa
open Go.RowKit Go.Deep

/-- Kinds are kinds, nothing has no number, all the way down. -/
inductive Nice : V → Prop
  | mk (k n : Int) (t : ByteArray) (l : List V) (hk : k = 0 ∨ k = 1 ∨ k = 2 ∨ k = 3 ∨ k = 4 ∨ k = 5 ∨ k = 6) (h0 : k = 0 → n = 0) (hl : k = 4 → ∀ i (hi : i < l.length), Nice l[i]) : Nice (.mk k n t l)

theorem nice_of : ∀ (d : Nat) (x : V), okI d x = true → Nice x
  | 0, x, h => by cases h
  | d + 1, .mk k n t l, h => by
    rw [okI_succ, Bool.and_eq_true] at h
    obtain ⟨h1, h2⟩ := h
    rw [rest_mk] at h1
    refine .mk k n t l ?_ ?_ ?_
    · by_cases e0 : k = 0
      · exact .inl e0
      by_cases e1 : k = 1
      · exact .inr (.inl e1)
      by_cases e2 : k = 2
      · exact .inr (.inr (.inl e2))
      by_cases e3 : k = 3
      · exact .inr (.inr (.inr (.inl e3)))
      by_cases e4 : k = 4
      · exact .inr (.inr (.inr (.inr (.inl e4))))
      by_cases e5 : k = 5
      · exact .inr (.inr (.inr (.inr (.inr (.inl e5)))))
      by_cases e6 : k = 6
      · exact .inr (.inr (.inr (.inr (.inr (.inr e6)))))
      simp [e0, e1, e2, e3, e4, e5, e6] at h2
    · intro e0
      subst e0
      simp at h1
      exact h1.1.1
    · intro e4 i hi
      subst e4
      simp [allI] at h2
      exact nice_of d l[i] (h2.2 _ (List.getElem_mem _))

theorem rank_eq (k : Int) (hk : k = 0 ∨ k = 1 ∨ k = 2 ∨ k = 3 ∨ k = 4 ∨ k = 5 ∨ k = 6) : rankB k = rankS k := by
  rcases hk with rfl | rfl | rfl | rfl | rfl | rfl | rfl <;> rfl

theorem ordTL_eq : ∀ (l l' : List V), (∀ i (hi : i < l.length), ∀ y, Nice y → ordT l[i] y = ordV l[i] y) → (∀ i (hi : i < l'.length), Nice l'[i]) → ordTL l l' = ordVL l l'
  | [], [], _, _ => by unfold ordTL ordVL; rfl
  | [], _ :: _, _, _ => by unfold ordTL ordVL; rfl
  | _ :: _, [], _, _ => by unfold ordTL ordVL; rfl
  | a :: r, b :: r', h, h' => by
    have e := h 0 (by simp) b (by have := h' 0 (by simp); simpa using this)
    simp at e
    have ih := ordTL_eq r r' (fun i hi y hy => by have := h (i + 1) (by simpa using hi) y hy; simpa using this) (fun i hi => by have := h' (i + 1) (by simpa using hi); simpa using this)
    unfold ordTL ordVL
    rw [e, ih]

theorem ordT_eq : ∀ x, Nice x → ∀ y, Nice y → ordT x y = ordV x y := by
  refine V.ind fun k n t l ih => ?_
  intro hx y hy
  cases hx with
  | mk _ _ _ _ hk h0 hl =>
    cases hy with
    | mk k' n' t' l' hk' h0' hl' =>
      unfold ordT ordV
      rw [rank_eq k hk, rank_eq k' hk']
      by_cases e : k = k'
      · subst e
        rw [if_neg (show ¬ ¬ k = k from fun h => h rfl), if_neg (show ¬ ¬ k = k from fun h => h rfl)]
        by_cases e0 : k = 0
        · rw [if_pos e0, if_neg (by omega), if_neg (by omega), h0 e0, h0' e0]; rfl
        · rw [if_neg e0]
          by_cases e3 : k = 3
          · rw [if_pos e3, if_pos e3]
          · rw [if_neg e3, if_neg e3]
            by_cases e4 : k = 4
            · rw [if_pos e4, if_pos e4]
              exact ordTL_eq l l' (fun i hi y hy => ih i hi (hl e4 i hi) y hy) (hl' e4)
            · rw [if_neg e4, if_neg e4]
      · rw [if_pos e, if_pos e]

end Go.Proofs.Ytmacoaookleakaa
