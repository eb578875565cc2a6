/- What impl.exprWithin and impl.ExprOk answer. -/
import Derived.Test.YtjcbcfpdgdaffaaDoorEParts
namespace Go.Proofs.YtjcbcfpdgdaffaaDoor
open Go.RowKit Go.Deep

def nilD : D := .list 8 0 (fun _ _ => .int 0)
theorem nilD_has : Has nilD (.list 8) := ⟨8, rfl, rfl, fun i hi => by omega⟩
theorem nilD_in (S : Nat → Prop) (w : World) : DIn S w nilD (.slice none 0 0) := ⟨none, 0, 0, 0, rfl, Nat.zero_le _, fun h => by omega, fun i hi => by omega⟩
def nilV : D := .list 4 0 (fun _ _ => .int 0)
theorem nilV_has : Has nilV (.list 2) := ⟨2, rfl, rfl, fun i hi => by omega⟩
theorem nilV_in (S : Nat → Prop) (w : World) : DIn S w nilV (.slice none 0 0) := ⟨none, 0, 0, 0, rfl, Nat.zero_le _, fun h => by omega, fun i hi => by omega⟩
theorem nilV_vs : V.mk 0 0 ⟨#[]⟩ (vsOf nilV) = zeroV := rfl
theorem same_zero : sameV zeroV zeroV = true := by simp [zeroV, sameV, sameVL]

theorem noB_list (k : Int) (X : V) (nm ky : ByteArray) (n len : Nat) (f : Nat → Nat → D) : noB k X nm ky (.list n len f) = (sameV X zeroV && decide (k = 0) && (nm.toList == []) && (ky.toList == []) && decide (len = 0)) := rfl

theorem all_nil (len : Nat) (p : Nat → Bool) : (decide ((len : Int) = 0) && (List.range len).all p) = decide (len = 0) := by
  cases len with
  | zero => simp
  | succ k => simp; omega
theorem eok1 (m : Nat) (X : V) (nm ky : ByteArray) (n len : Nat) (f : Nat → Nat → D) : eok (m + 1) 1 X nm ky (.list n len f) = (okN 3 X && litB X && noB 0 zeroV nm ky (.list n len f)) := by
  rw [eok_succ, Bool.and_assoc (_ && _ && _), show arityI 1 = 0 from rfl, all_nil]
  rw [Bool.eq_iff_iff]
  simp [valB, nmB, keyB, namedB, noB_list, same_zero, and_assoc]
theorem eok24 (m : Nat) (X : V) (nm ky : ByteArray) (n len : Nat) (f : Nat → Nat → D) (k : Int) (hk : k = 2 ∨ k = 4) : eok (m + 1) k X nm ky (.list n len f) = (nameB nm && noB 0 X ⟨#[]⟩ ky (.list n len f)) := by
  have ha : arityI k = 0 := by rcases hk with rfl | rfl <;> rfl
  rw [eok_succ, Bool.and_assoc (_ && _ && _), ha, all_nil]
  rw [Bool.eq_iff_iff]
  rcases hk with rfl | rfl <;> simp [valB, nmB, keyB, namedB, noB_list, and_comm, and_left_comm]
theorem eok3 (m : Nat) (X : V) (nm ky : ByteArray) (n len : Nat) (f : Nat → Nat → D) : eok (m + 1) 3 X nm ky (.list n len f) = (nameB nm && nameB ky && noB 0 X ⟨#[]⟩ ⟨#[]⟩ (.list n len f)) := by
  rw [eok_succ, Bool.and_assoc (_ && _ && _), show arityI 3 = 0 from rfl, all_nil]
  rw [Bool.eq_iff_iff]
  simp [valB, nmB, keyB, namedB, noB_list, and_assoc, and_comm, and_left_comm]
theorem eok14 (m : Nat) (X : V) (nm ky : ByteArray) (n len : Nat) (f : Nat → Nat → D) : eok (m + 1) 14 X nm ky (.list n len f) = noB 0 X nm ky (.list n len f) := by
  rw [eok_succ, Bool.and_assoc (_ && _ && _), show arityI 14 = 0 from rfl, all_nil]
  rw [Bool.eq_iff_iff]
  simp [valB, nmB, keyB, namedB, noB_list, and_assoc]
theorem eokOne (m : Nat) (X : V) (nm ky : ByteArray) (n len : Nat) (f : Nat → Nat → D) (k : Int) (hk : k = 9 ∨ k = 11 ∨ k = 13 ∨ k = 15) : eok (m + 1) k X nm ky (.list n len f) = (decide ((len : Int) = 1) && ((List.range len).all fun i => eokRow m (f i)) && noB 0 X nm ky nilD) := by
  have ha : arityI k = 1 := by rcases hk with rfl | rfl | rfl | rfl <;> rfl
  rw [eok_succ, ha]
  generalize ((List.range len).all fun i => eokRow m (f i)) = A
  rw [Bool.eq_iff_iff]
  rcases hk with rfl | rfl | rfl | rfl <;> simp [valB, nmB, keyB, namedB, noB_list, nilD, and_assoc, and_comm, and_left_comm]
theorem eokTwo (m : Nat) (X : V) (nm ky : ByteArray) (n len : Nat) (f : Nat → Nat → D) (k : Int) (h1 : ¬ k = 1) (h2 : ¬ k = 2) (h3 : ¬ k = 3) (h4 : ¬ k = 4) (h9 : ¬ k = 9) (h11 : ¬ k = 11) (h13 : ¬ k = 13) (h14 : ¬ k = 14) (h15 : ¬ k = 15) :
    eok (m + 1) k X nm ky (.list n len f) = (pairB k && decide ((len : Int) = 2) && ((List.range len).all fun i => eokRow m (f i)) && noB 0 X nm ky nilD) := by
  rw [eok_succ]
  generalize ((List.range len).all fun i => eokRow m (f i)) = A
  have hv : valB k X = sameV X zeroV := by simp [valB, h1]
  have hn : nmB k nm = (nm.toList == []) := by simp [nmB, namedB, h2, h3, h4]
  have hy : keyB k ky = (ky.toList == []) := by simp [keyB, h3]
  rw [hv, hn, hy]
  by_cases hp : (5 ≤ k ∧ k ≤ 8) ∨ k = 10 ∨ k = 12
  · have ha : arityI k = 2 := by unfold arityI; rw [if_neg (by omega), if_neg (by omega), if_pos hp]
    have hb : pairB k = true := decide_eq_true hp
    rw [ha, hb]
    rw [Bool.eq_iff_iff]
    simp [noB_list, nilD, and_assoc, and_comm, and_left_comm]
  · have ha : arityI k = -1 := by unfold arityI; rw [if_neg (by omega), if_neg (by omega), if_neg hp]
    have hb : pairB k = false := decide_eq_false hp
    have hd : decide ((len : Int) = -1) = false := decide_eq_false (by omega)
    rw [ha, hb, hd]
    simp
end Go.Proofs.YtjcbcfpdgdaffaaDoor
