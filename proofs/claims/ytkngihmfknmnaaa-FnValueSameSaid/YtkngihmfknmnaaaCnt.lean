/- How many values are within a value. -/
import Derived.Test.YtkngihmfknmnaaaOnlys
namespace Go.Proofs.Ytkngihmfknmnaaa
open Go.RowKit Go.Deep

mutual
def cntV : V → Nat
  | .mk _ _ _ l => cntL l
def cntL : List V → Nat
  | [] => 0
  | x :: r => 1 + cntV x + cntL r
end
theorem cntV_eq (x : V) : cntV x = cntL x.list := by obtain ⟨k, n, t, l⟩ := x; rw [cntV]; rfl
theorem cntL_take : ∀ (l : List V) (i : Nat) (hi : i < l.length), cntL (l.take (i + 1)) = cntL (l.take i) + 1 + cntV l[i]
  | [], i, hi => by simp at hi
  | x :: r, 0, _ => by simp [cntL]
  | x :: r, i + 1, hi => by
    have := cntL_take r i (by simpa using hi)
    simp only [List.take_succ_cons, cntL, List.getElem_cons_succ, this]
    omega
theorem cntL_le : ∀ (l : List V) (i : Nat), cntL (l.take i) ≤ cntL l
  | [], i => by simp
  | x :: r, 0 => by simp [cntL]
  | x :: r, i + 1 => by simp only [List.take_succ_cons, cntL]; have := cntL_le r i; omega
theorem cntL_len : ∀ (l : List V), l.length ≤ cntL l
  | [] => by simp [cntL]
  | x :: r => by simp only [List.length_cons, cntL]; have := cntL_len r; omega

end Go.Proofs.Ytkngihmfknmnaaa
