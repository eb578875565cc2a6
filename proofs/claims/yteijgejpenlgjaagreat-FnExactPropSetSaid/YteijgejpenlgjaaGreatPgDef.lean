/- What PropGet answers, as data. -/
import Derived.Test.YteijgejpenlgjaaGreatGSpec3
import Derived.Test.YteijgejpenlgjaaGreatDOwn
namespace Go.Proofs.YteijgejpenlgjaaGreat
open Go.RowKit Go.Deep

/-- A value as data: its kind, number, text and list. -/
structure VD where
 k : Int
 n : Int
 t : ByteArray
 l : D
def noL : D := .list 4 0 (fun _ _ => .int 0)
def VD.zero : VD := ⟨0, 0, ByteArray.empty, noL⟩
/-- The first of so many that is so. -/
def findO (p : Nat → Bool) (len : Nat) : Option Nat := (List.range len).find? p
theorem findI_O (p : Nat → Bool) (len : Nat) : findI p len = (match findO p len with | some i => (i : Int) | none => -1) := rfl
theorem findO_some {p : Nat → Bool} {len k : Nat} (hk : k < len) (h : p k = true) (hno : ∀ j, j < k → p j = false) : findO p len = some k := by
 rw [findO, List.find?_range_eq_some]
 exact ⟨h, by simpa using hk, fun j hj => by simpa using hno j hj⟩
theorem findO_none {p : Nat → Bool} {len : Nat} (hno : ∀ j, j < len → p j = false) : findO p len = none := by
 rw [findO, List.find?_range_eq_none]
 exact fun j hj => by simpa using hno j hj
theorem findO_lt {p : Nat → Bool} {len k : Nat} (h : findO p len = some k) : k < len ∧ p k = true := by
 rw [findO, List.find?_range_eq_some] at h
 exact ⟨by simpa using h.2.1, h.1⟩

/-- The props of a node or an edge. -/
def propsAt (d0 d1 : D) (k n : Int) : Option D :=
 if k = 5 then (findO (fun i => (d0.at! i 0).int! == n) d0.len!).map fun i => d0.at! i 2
 else if k = 6 then (findO (fun i => (d1.at! i 0).int! == n) d1.len!).map fun i => d1.at! i 4
 else none
theorem propsAt_has {d0 d1 : D} (H0 : Has d0 (.list 4)) (H1 : Has d1 (.list 5)) {k n : Int} {d : D} (h : propsAt d0 d1 k n = some d) : Has d (.list 3) := by
 obtain ⟨len0, f0, rfl, HR0⟩ := H0.list
 obtain ⟨len1, f1, rfl, HR1⟩ := H1.list
 unfold propsAt at h
 split at h
 ·
  rw [Option.map_eq_some_iff] at h
  obtain ⟨i, hi, rfl⟩ := h
  exact HR0 i (findO_lt hi).1 2 (by decide)
 ·
  split at h
  ·
   rw [Option.map_eq_some_iff] at h
   obtain ⟨i, hi, rfl⟩ := h
   exact HR1 i (findO_lt hi).1 4 (by decide)
  ·
   cases h
end Go.Proofs.YteijgejpenlgjaaGreat
