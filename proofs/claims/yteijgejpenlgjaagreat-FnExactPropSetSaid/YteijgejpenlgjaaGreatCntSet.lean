/- How many marks a row takes of which one leaf is another. -/
import Derived.Test.YteijgejpenlgjaaGreatPsN
import Derived.Test.YteijgejpenlgjaaGreatDMs
namespace Go.Proofs.YteijgejpenlgjaaGreat
open Go.RowKit Go.Deep

theorem cnt_in {f : Nat → Nat → D} {k c : Nat} {v : D} (i : Nat) : ∀ n, sumN (fun j => cntD (setF f k c v i j)) n ≤ sumN (fun j => cntD (f i j)) n + (if i = k then cntD v else 0)
 | 0 => by simp [sumN]
 | n + 1 => by
  have ih := cnt_in (f := f) (k := k) (c := c) (v := v) i n
  by_cases hik : i = k
  ·
   rw [if_pos hik] at ih ⊢
   by_cases hc : n = c
   ·
    have e : sumN (fun j => cntD (setF f k c v i j)) n = sumN (fun j => cntD (f i j)) n := sumN_congr fun j hj => by rw [setF_ne (fun e => by have := e.2; omega)]
    simp only [sumN]
    rw [e, show cntD (setF f k c v i n) = cntD v by rw [hik, hc, setF_at]]
    omega
   ·
    simp only [sumN]
    rw [setF_ne (fun e => hc e.2)]
    omega
  ·
   rw [if_neg hik] at ih ⊢
   simp only [sumN]
   rw [setF_ne (fun e => hik e.1)]
   omega
theorem cnt_setF {f : Nat → Nat → D} {k c n : Nat} {v : D} : ∀ m, sumN (fun i => sumN (fun j => cntD (setF f k c v i j)) n) m ≤ sumN (fun i => sumN (fun j => cntD (f i j)) n) m + (if k < m then cntD v else 0)
 | 0 => by simp [sumN]
 | m + 1 => by
  have ih := cnt_setF (f := f) (k := k) (c := c) (n := n) (v := v) m
  have hin := cnt_in (f := f) (k := k) (c := c) (v := v) m n
  simp only [sumN]
  by_cases h1 : m = k
  ·
   rw [if_pos h1] at hin
   rw [if_neg (by omega)] at ih
   rw [if_pos (by omega)]
   omega
  ·
   rw [if_neg h1] at hin
   by_cases h2 : k < m
   ·
    rw [if_pos h2] at ih
    rw [if_pos (by omega)]
    omega
   ·
    rw [if_neg h2] at ih
    omega
end Go.Proofs.YteijgejpenlgjaaGreat
