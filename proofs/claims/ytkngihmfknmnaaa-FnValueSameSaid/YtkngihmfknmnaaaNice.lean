/- What is ok has kinds that are kinds, all the way down. -/
import Derived.Test.YtkngihmfknmnaaaOrdTerm
import Derived.Test.YtkngihmfknmnaaaValTerm
namespace Go.Proofs.Ytkngihmfknmnaaa
open Go.RowKit Go.Deep

/-- Kinds are kinds, nothing has no number, all the way down. -/
inductive Nice : V → Prop
  | mk (k n : Int) (t : ByteArray) (l : List V) (hk : k = 0 ∨ k = 1 ∨ k = 2 ∨ k = 3 ∨ k = 4 ∨ k = 5 ∨ k = 6) (h0 : k = 0 → n = 0) (hl : k = 4 → ∀ i (hi : i < l.length), Nice l[i]) : Nice (.mk k n t l)

theorem nice_of : ∀ (d : Nat) (x : V), okI d x = true → Nice x
  | 0, x, h => by cases h
  | d + 1, .mk k n t l, h => by
    rw [okI_succ, Bool.and_eq_true] at h
    obtain ⟨h1, h2⟩ := h
    rw [rest_mk] at h1
    refine .mk k n t l ?_ ?_ ?_
    · by_cases e0 : k = 0
      · exact .inl e0
      by_cases e1 : k = 1
      · exact .inr (.inl e1)
      by_cases e2 : k = 2
      · exact .inr (.inr (.inl e2))
      by_cases e3 : k = 3
      · exact .inr (.inr (.inr (.inl e3)))
      by_cases e4 : k = 4
      · exact .inr (.inr (.inr (.inr (.inl e4))))
      by_cases e5 : k = 5
      · exact .inr (.inr (.inr (.inr (.inr (.inl e5)))))
      by_cases e6 : k = 6
      · exact .inr (.inr (.inr (.inr (.inr (.inr e6)))))
      simp [e0, e1, e2, e3, e4, e5, e6] at h2
    · intro e0
      subst e0
      simp at h1
      exact h1.1.1
    · intro e4 i hi
      subst e4
      simp [allI] at h2
      exact nice_of d l[i] (h2.2 _ (List.getElem_mem _))

end Go.Proofs.Ytkngihmfknmnaaa
