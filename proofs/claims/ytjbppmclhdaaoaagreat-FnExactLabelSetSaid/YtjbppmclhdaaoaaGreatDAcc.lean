/- What cells of data are; small facts on lists and numbers. -/
import Derived.Test.YtjbppmclhdaaoaaGreatDat
namespace Go.Proofs.YtjbppmclhdaaoaaGreat
open Go.RowKit Go.Deep

def D.int! : D → Int | .int n => n | _ => 0
def D.str! : D → ByteArray | .str s => s | _ => ⟨#[]⟩
def D.bool! : D → Bool | .bool b => b | _ => false
def D.len! : D → Nat | .list _ len _ => len | _ => 0
def D.at! : D → Nat → Nat → D | .list _ _ f => f | _ => fun _ _ => .int 0

def ltS (s t : ByteArray) : Bool := Op.bytesLess s.toList t.toList

theorem wrap_i64 {x : Int} (h0 : -9223372036854775808 ≤ x) (h1 : x ≤ 9223372036854775807) : IntKind.i64.wrap x = x := by
  simp [IntKind.wrap, IntKind.signed, IntKind.bits]
  omega
theorem all_no {n : Nat} {p : Nat → Bool} {k : Nat} (hk : k < n) (h : p k = false) : (List.range n).all p = false := by
  rw [List.all_eq_false]
  exact ⟨k, List.mem_range.2 hk, by simp [h]⟩
theorem all_yes {n : Nat} {p : Nat → Bool} (h : ∀ j, j < n → p j = true) : (List.range n).all p = true := by
  rw [List.all_eq_true]
  intro j hj
  exact h j (List.mem_range.1 hj)
theorem upto_succ {p : Nat → Bool} {k : Nat} (h : ∀ j, j < k → p j = true) (hk : p k = true) : ∀ j, j < k + 1 → p j = true := by
  intro j hj
  rcases Nat.lt_succ_iff_lt_or_eq.1 hj with h' | h'
  · exact h j h'
  · subst h'; exact hk

end Go.Proofs.YtjbppmclhdaaoaaGreat
