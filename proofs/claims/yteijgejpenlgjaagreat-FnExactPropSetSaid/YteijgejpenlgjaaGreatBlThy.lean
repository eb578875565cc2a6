/- The order of texts: one is first, or they are the same; strings.Compare tells which. -/
import Derived.Test.YteijgejpenlgjaaGreatDa
import Derived.Lib.Bytealg
namespace Go.Proofs.YteijgejpenlgjaaGreat
open Go.RowKit

theorem bl_irrefl : ∀ l, Op.bytesLess l l = false
 | [] => rfl
 | a :: x => by simp [Op.bytesLess, bl_irrefl x]
theorem bl_asymm : ∀ (l m : List UInt8), Op.bytesLess l m = true → Op.bytesLess m l = false
 | [], [], h => by cases h
 | _ :: _, [], h => by cases h
 | [], b :: y, _ => rfl
 | a :: x, b :: y, h => by
  simp only [Op.bytesLess, Bool.or_eq_true, decide_eq_true_eq, Bool.and_eq_true, beq_iff_eq] at h
  simp only [Op.bytesLess, Bool.or_eq_false_iff, decide_eq_false_iff_not, Bool.and_eq_false_iff, beq_eq_false_iff_ne]
  rcases h with h | ⟨rfl, h⟩
  ·
   exact ⟨UInt8.lt_asymm h, .inl (fun e => by subst e; exact UInt8.lt_irrefl _ h)⟩
  ·
   exact ⟨UInt8.lt_irrefl _, .inr (bl_asymm x y h)⟩
theorem bl_total : ∀ (l m : List UInt8), Op.bytesLess l m = false → Op.bytesLess m l = false → l = m
 | [], [], _, _ => rfl
 | [], _ :: _, h, _ => by cases h
 | _ :: _, [], _, h => by cases h
 | a :: x, b :: y, h, k => by
  simp only [Op.bytesLess, Bool.or_eq_false_iff, decide_eq_false_iff_not, Bool.and_eq_false_iff, beq_eq_false_iff_ne] at h k
  have e : a = b := UInt8.le_antisymm (UInt8.not_lt.1 k.1) (UInt8.not_lt.1 h.1)
  subst e
  have h2 : Op.bytesLess x y = false := by rcases h.2 with h2 | h2; exact absurd rfl h2; exact h2
  have k2 : Op.bytesLess y x = false := by rcases k.2 with h2 | h2; exact absurd rfl h2; exact h2
  rw [bl_total x y h2 k2]
theorem bl_trans : ∀ (l m n : List UInt8), Op.bytesLess l m = true → Op.bytesLess m n = true → Op.bytesLess l n = true
 | [], [], _, h, _ => by cases h
 | _ :: _, [], _, h, _ => by cases h
 | _, _ :: _, [], _, k => by cases k
 | [], _ :: _, _ :: _, _, _ => rfl
 | a :: x, b :: y, c :: z, h, k => by
  simp only [Op.bytesLess, Bool.or_eq_true, decide_eq_true_eq, Bool.and_eq_true, beq_iff_eq] at h k ⊢
  rcases h with h | ⟨rfl, h⟩
  ·
   rcases k with k | ⟨rfl, k⟩
   ·
    exact .inl (UInt8.lt_trans h k)
   ·
    exact .inl h
  ·
   rcases k with k | ⟨rfl, k⟩
   ·
    exact .inl k
   ·
    exact .inr ⟨rfl, bl_trans x y z h k⟩

theorem cb_less : ∀ (l m : List UInt8), decide (Lib.compareBytes l m < 0) = Op.bytesLess l m
 | [], [] => rfl
 | [], _ :: _ => rfl
 | _ :: _, [] => rfl
 | a :: x, b :: y => by
  unfold Lib.compareBytes
  simp only [Op.bytesLess]
  by_cases h : a < b
  ·
   simp [h]
  ·
   by_cases k : b < a
   ·
    have hne : ¬ a = b := fun e => by subst e; exact UInt8.lt_irrefl _ k
    simp [h, k, hne]
   ·
    have e : a = b := UInt8.le_antisymm (UInt8.not_lt.1 k) (UInt8.not_lt.1 h)
    subst e
    rw [if_neg h, if_neg h, cb_less x y]
    simp [UInt8.lt_irrefl]
theorem cb_same : ∀ (l m : List UInt8), (Lib.compareBytes l m == 0) = (l == m)
 | [], [] => rfl
 | [], _ :: _ => rfl
 | _ :: _, [] => rfl
 | a :: x, b :: y => by
  unfold Lib.compareBytes
  by_cases h : a < b
  ·
   have hne : ¬ a = b := fun e => by subst e; exact UInt8.lt_irrefl _ h
   simp [h, hne]
  ·
   by_cases k : b < a
   ·
    have hne : ¬ a = b := fun e => by subst e; exact UInt8.lt_irrefl _ k
    simp [h, k, hne]
   ·
    have e : a = b := UInt8.le_antisymm (UInt8.not_lt.1 k) (UInt8.not_lt.1 h)
    subst e
    rw [if_neg h, if_neg h, cb_same x y]
    simp
end Go.Proofs.YteijgejpenlgjaaGreat
