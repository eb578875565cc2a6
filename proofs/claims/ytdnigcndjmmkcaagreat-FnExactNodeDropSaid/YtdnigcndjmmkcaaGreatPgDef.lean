/- What PropGet answers, as data. -/
import Derived.Test.YtdnigcndjmmkcaaGreatGSpec3
import Derived.Test.YtdnigcndjmmkcaaGreatDOwn
namespace Go.Proofs.YtdnigcndjmmkcaaGreat
open Go.RowKit Go.Deep

/-- A value as data: its kind, number, text and list. -/
structure VD where
  k : Int
  n : Int
  t : ByteArray
  l : D
def noL : D := .list 4 0 (fun _ _ => .int 0)
def VD.zero : VD := ⟨0, 0, ByteArray.empty, noL⟩
theorem noL_in (S : Nat → Prop) (w : World) : DIn S w noL (.slice none 0 0) ∧ Own w noL S (.slice none 0 0) :=
  ⟨⟨none, 0, 0, 0, rfl, by simp [maxLen], fun h => by omega, fun i hi => by omega⟩, ⟨none, 0, 0, 0, fun _ _ _ => False, rfl, fun h => by omega, fun i j hi => by omega, fun i j i' j' hi => by omega, fun i hi => by omega⟩⟩
theorem noL_has : Has noL (.list 2) := ⟨2, rfl, rfl, fun i hi => by omega⟩
/-- The first of so many that is so. -/
def findO (p : Nat → Bool) (len : Nat) : Option Nat := (List.range len).find? p
theorem findI_O (p : Nat → Bool) (len : Nat) : findI p len = (match findO p len with | some i => (i : Int) | none => -1) := rfl
theorem findO_some {p : Nat → Bool} {len k : Nat} (hk : k < len) (h : p k = true) (hno : ∀ j, j < k → p j = false) : findO p len = some k := by
  rw [findO, List.find?_range_eq_some]
  exact ⟨h, by simpa using hk, fun j hj => by simpa using hno j hj⟩
theorem findO_none {p : Nat → Bool} {len : Nat} (hno : ∀ j, j < len → p j = false) : findO p len = none := by
  rw [findO, List.find?_range_eq_none]
  exact fun j hj => by simpa using hno j hj
theorem findO_lt {p : Nat → Bool} {len k : Nat} (h : findO p len = some k) : k < len ∧ p k = true := by
  rw [findO, List.find?_range_eq_some] at h
  exact ⟨by simpa using h.2.1, h.1⟩

/-- What is under a name in props. -/
def propIn (d : D) (s : ByteArray) : VD := match findO (fun j => (d.at! j 0).str!.toList == s.toList) d.len! with
  | some j => ⟨(d.at! j 1).int!, (d.at! j 2).int!, (d.at! j 3).str!, d.at! j 4⟩
  | none => VD.zero
/-- The props of a node or an edge. -/
def propsAt (d0 d1 : D) (k n : Int) : Option D :=
  if k = 5 then (findO (fun i => (d0.at! i 0).int! == n) d0.len!).map fun i => d0.at! i 2
  else if k = 6 then (findO (fun i => (d1.at! i 0).int! == n) d1.len!).map fun i => d1.at! i 4
  else none
def propAns (d0 d1 : D) (k n : Int) (s : ByteArray) : VD := match propsAt d0 d1 k n with | some d => propIn d s | none => VD.zero
def getAns (gb : Bool) (d0 d1 : D) (k n : Int) (s : ByteArray) : VD := if gb = true then propAns d0 d1 k n s else VD.zero

theorem propIn_has {d : D} (H : Has d (.list 3)) (s : ByteArray) : Has (propIn d s).l (.list 2) := by
  unfold propIn
  cases h : findO (fun j => (d.at! j 0).str!.toList == s.toList) d.len! with
  | none => exact noL_has
  | some j =>
    obtain ⟨len, f, rfl, HR⟩ := H.list
    exact HR j (findO_lt h).1 4 (by decide)
theorem propsAt_has {d0 d1 : D} (H0 : Has d0 (.list 4)) (H1 : Has d1 (.list 5)) {k n : Int} {d : D} (h : propsAt d0 d1 k n = some d) : Has d (.list 3) := by
  obtain ⟨len0, f0, rfl, HR0⟩ := H0.list
  obtain ⟨len1, f1, rfl, HR1⟩ := H1.list
  unfold propsAt at h
  split at h
  · rw [Option.map_eq_some_iff] at h
    obtain ⟨i, hi, rfl⟩ := h
    exact HR0 i (findO_lt hi).1 2 (by decide)
  · split at h
    · rw [Option.map_eq_some_iff] at h
      obtain ⟨i, hi, rfl⟩ := h
      exact HR1 i (findO_lt hi).1 4 (by decide)
    · cases h
theorem propAns_has {d0 d1 : D} (H0 : Has d0 (.list 4)) (H1 : Has d1 (.list 5)) (k n : Int) (s : ByteArray) : Has (propAns d0 d1 k n s).l (.list 2) := by
  unfold propAns
  cases h : propsAt d0 d1 k n with
  | none => exact noL_has
  | some d => exact propIn_has (propsAt_has H0 H1 h) s
theorem getAns_has {d0 d1 : D} (H0 : Has d0 (.list 4)) (H1 : Has d1 (.list 5)) (gb : Bool) (k n : Int) (s : ByteArray) : Has (getAns gb d0 d1 k n s).l (.list 2) := by
  unfold getAns
  split
  · exact propAns_has H0 H1 k n s
  · exact noL_has
theorem propIn_small {d : D} (H : Has d (.list 3)) (hs : SmallD d) (s : ByteArray) : SmallD (propIn d s).l := by
  unfold propIn
  cases h : findO (fun j => (d.at! j 0).str!.toList == s.toList) d.len! with
  | none => exact ⟨by decide, by decide, fun i hi => by omega⟩
  | some j =>
    obtain ⟨len, f, rfl, HR⟩ := H.list
    exact hs.2.2 j (findO_lt h).1 4 (by decide)
theorem propsAt_small {d0 d1 : D} (H0 : Has d0 (.list 4)) (H1 : Has d1 (.list 5)) (s0 : SmallD d0) (s1 : SmallD d1) {k n : Int} {d : D} (h : propsAt d0 d1 k n = some d) : SmallD d := by
  obtain ⟨len0, f0, rfl, HR0⟩ := H0.list
  obtain ⟨len1, f1, rfl, HR1⟩ := H1.list
  unfold propsAt at h
  split at h
  · rw [Option.map_eq_some_iff] at h
    obtain ⟨i, hi, rfl⟩ := h
    exact s0.2.2 i (findO_lt hi).1 2 (by decide)
  · split at h
    · rw [Option.map_eq_some_iff] at h
      obtain ⟨i, hi, rfl⟩ := h
      exact s1.2.2 i (findO_lt hi).1 4 (by decide)
    · cases h

/-- A result in a cell of its own, filled: nothing else turns. -/
theorem res4 {a W : World} {R : Nat} {S : Nat → Prop} {d : D} {u : Value} (hE : Ext a W) (hR : a.heap.size ≤ R) (hS : ¬ S R) (hd : DIn S W d u) (ho : Own W d S u) (c0 c1 c2 c3 : Value) :
    Ext a ((((W.setCell ⟨R, 0, none⟩ c0).setCell ⟨R, 1, none⟩ c1).setCell ⟨R, 2, none⟩ c2).setCell ⟨R, 3, none⟩ c3) ∧ DIn S ((((W.setCell ⟨R, 0, none⟩ c0).setCell ⟨R, 1, none⟩ c1).setCell ⟨R, 2, none⟩ c2).setCell ⟨R, 3, none⟩ c3) d u ∧ Own ((((W.setCell ⟨R, 0, none⟩ c0).setCell ⟨R, 1, none⟩ c1).setCell ⟨R, 2, none⟩ c2).setCell ⟨R, 3, none⟩ c3) d S u :=
  ⟨(((hE.setCell hR _).setCell hR _).setCell hR _).setCell hR _, (((hd.setCell hS _).setCell hS _).setCell hS _).setCell hS _, (((ho.setCell hS _).setCell hS _).setCell hS _).setCell hS _⟩
end Go.Proofs.YtdnigcndjmmkcaaGreat
