/- Which expressions are ok, as plain mathematics. -/
import Derived.Test.YtjcbcfpdgdaffaaDoorGVal
import Derived.Test.YtjcbcfpdgdaffaaDoorName
import Derived.Test.YtjcbcfpdgdaffaaDoorValOkB
import Derived.Test.YtjcbcfpdgdaffaaDoorSameSpec
namespace Go.Proofs.YtjcbcfpdgdaffaaDoor
open Go.RowKit Go.Deep

mutual
/-- Nothing within is a node or an edge. -/
def litB : V → Bool
  | .mk k _ _ l => litL l && decide (k ≤ 4)
def litL : List V → Bool
  | [] => true
  | x :: r => litB x && litL r
end
theorem litL_no : ∀ (l : List V) (i : Nat) (hi : i < l.length), litB l[i] = false → litL l = false
  | [], _, hi, _ => by simp at hi
  | x :: r, 0, _, h => by simp only [List.getElem_cons_zero] at h; rw [litL, h]; rfl
  | x :: r, i + 1, hi, h => by
    simp only [List.getElem_cons_succ] at h
    rw [litL, litL_no r i (by simpa using hi) h]
    exact Bool.and_false _
theorem litL_yes : ∀ (l : List V), (∀ i (hi : i < l.length), litB l[i] = true) → litL l = true
  | [], _ => by rw [litL]
  | x :: r, h => by
    have h0 := h 0 (by simp)
    simp only [List.getElem_cons_zero] at h0
    rw [litL, h0, litL_yes r (fun i hi => by have := h (i + 1) (by simpa using hi); simpa using this)]
    rfl

/-- How many parts a kind has. -/
def arityI (k : Int) : Int := if (1 ≤ k ∧ k ≤ 4) ∨ k = 14 then 0 else if k = 9 ∨ k = 11 ∨ k = 13 ∨ k = 15 then 1 else if (5 ≤ k ∧ k ≤ 8) ∨ k = 10 ∨ k = 12 then 2 else -1
def zeroV : V := .mk 0 0 ⟨#[]⟩ []
def valB (k : Int) (X : V) : Bool := if k = 1 then okN 3 X && litB X else sameV X zeroV
def namedB (k : Int) : Bool := decide (k = 2 ∨ k = 3 ∨ k = 4)
def nmB (k : Int) (s : ByteArray) : Bool := if namedB k = true then nameB s else (s.toList == [])
def keyB (k : Int) (s : ByteArray) : Bool := if k = 3 then nameB s else (s.toList == [])
def evalOf (d : Nat → D) : V := .mk (d 1).int! (d 2).int! (d 3).str! (vsOf (d 4))
/-- Ok with so many within each other. -/
def eok : Nat → Int → V → ByteArray → ByteArray → D → Bool
  | 0, _, _, _, _, _ => false
  | m + 1, k, X, nm, ky, d => valB k X && nmB k nm && keyB k ky && decide ((d.len! : Int) = arityI k) &&
      (List.range d.len!).all fun i => eok m (d.at! i 0).int! (evalOf (d.at! i)) (d.at! i 5).str! (d.at! i 6).str! (d.at! i 7)
def eokRow (m : Nat) (d : Nat → D) : Bool := eok m (d 0).int! (evalOf d) (d 5).str! (d 6).str! (d 7)
theorem eok_succ (m : Nat) (k : Int) (X : V) (nm ky : ByteArray) (n len : Nat) (f : Nat → Nat → D) :
    eok (m + 1) k X nm ky (.list n len f) = (valB k X && nmB k nm && keyB k ky && decide ((len : Int) = arityI k) && (List.range len).all fun i => eokRow m (f i)) := rfl
end Go.Proofs.YtjcbcfpdgdaffaaDoor
