/- Rules as they lie in memory. -/
import Derived.Test.YtbapbcdkmhkigaaName
namespace Go.Proofs.Ytbapbcdkmhkigaa
open Go.RowKit

abbrev RulT := ByteArray × ByteArray
def nameAt (xs : List RulT) (k : Nat) : RulT := xs.getD k (ByteArray.empty, ByteArray.empty)

/-- The value v is a slice of the rules xs that lies in w. -/
def RulIn (w : World) (v : Value) (xs : List RulT) : Prop :=
  ∃ a cap, v = .slice a xs.length cap ∧ xs.length ≤ maxLen ∧ ∀ k, k < xs.length → (nameAt xs k).1.size ≤ maxLen ∧ (nameAt xs k).2.size ≤ maxLen ∧ ∃ b off, a = some ⟨b, off, none⟩ ∧ b < w.heap.size ∧ w.cell? ⟨b, off + k * 2, none⟩ = some (.string (nameAt xs k).1) ∧ w.cell? ⟨b, off + k * 2 + 1, none⟩ = some (.string (nameAt xs k).2)

theorem RulIn.ext {w w' : World} {v : Value} {xs : List RulT} (h : RulIn w v xs) (e : Ext w w') : RulIn w' v xs := by
  obtain ⟨a, cap, hv, hm, h⟩ := h
  refine ⟨a, cap, hv, hm, fun k hk => ?_⟩
  obtain ⟨s1, s2, b, off, ha, hb, c1, c2⟩ := h k hk
  exact ⟨s1, s2, b, off, ha, Nat.lt_of_lt_of_le hb e.le, by rw [e.cell hb]; exact c1, by rw [e.cell hb]; exact c2⟩

end Go.Proofs.Ytbapbcdkmhkigaa
