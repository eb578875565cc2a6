/- Lengths and marks of PropSet's answer. -/
import Derived.Test.YteijgejpenlgjaaGreatPsStep
import Derived.Test.YteijgejpenlgjaaGreatCntSet
namespace Go.Proofs.YteijgejpenlgjaaGreat
open Go.RowKit Go.Deep

def cntR (r : PRow) : Nat := sumN (fun j => cntD (r j)) 5
theorem cnt_two {l : List PRow} {p q : PRow → Bool} (h : ∀ r, p r = true → q r = false) : ((l.filter p).map cntR).sum + ((l.filter q).map cntR).sum ≤ (l.map cntR).sum := by
 induction l with
 | nil => simp
 | cons r l ih =>
  cases hp : p r
  ·
   cases hq : q r
   ·
    simp only [List.filter_cons, hp, hq, List.map_cons, List.sum_cons]; simp; omega
   ·
    simp only [List.filter_cons, hp, hq, List.map_cons, List.sum_cons]; simp; omega
  ·
   have hq := h r hp
   simp only [List.filter_cons, hp, hq, List.map_cons, List.sum_cons]; simp; omega
theorem cnt_setP (l : List PRow) (s : ByteArray) (p : List PRow) : ((setP l s p).map cntR).sum ≤ (l.map cntR).sum + (p.map cntR).sum := by
 have := cnt_two (l := l) (p := fun r => Op.bytesLess (nmR r) s.toList) (q := fun r => Op.bytesLess s.toList (nmR r)) (fun r h => bl_asymm _ _ h)
 simp only [setP, List.map_append, List.sum_append]
 omega
theorem sumN_list (l : List PRow) : sumN (fun i => cntR (l.getD i prZ)) l.length = (l.map cntR).sum := by
 have key : ∀ m, m ≤ l.length → sumN (fun i => cntR (l.getD i prZ)) m = ((l.take m).map cntR).sum := by
  intro m
  induction m with
  | zero => intro _; simp [sumN]
  | succ m ih =>
   intro hm
   rw [sumN, ih (by omega), List.take_add_one, List.getElem?_eq_getElem (by omega), List.map_append, List.sum_append]
   rw [List.getD_eq_getElem?_getD, List.getElem?_eq_getElem (by omega)]
   simp
 rw [key _ (Nat.le_refl _), List.take_length]
theorem cnt_prD (l : List PRow) : cntD (prD l) = (l.map cntR).sum := sumN_list l
theorem cnt_prL {len : Nat} {f : Nat → Nat → D} : ((prL (.list 5 len f)).map cntR).sum = cntD (.list 5 len f) := by
 rw [← sumN_list, prL_len]
 show sumN _ len = sumN (fun i => cntR (f i)) len
 refine sumN_congr fun i hi => ?_
 rw [List.getD_eq_getElem?_getD, prL_at (d := .list 5 len f) hi]
 rfl
theorem cnt_putP (s : ByteArray) (k n : Int) (t : ByteArray) (l : D) : ((putP s k n t l).map cntR).sum ≤ 4 + cntD l := by
 unfold putP
 split
 ·
  simp
 ·
  simp [cntR, sumN, cntD]
theorem cnt_proD {d : D} (H : Has d (.list 3)) (s : ByteArray) (k n : Int) (t : ByteArray) (l : D) : cntD (proD d s k n t l) ≤ cntD d + 4 + cntD l := by
 obtain ⟨len, f, rfl, _⟩ := H.list
 have h1 := cnt_setP (prL (.list 5 len f)) s (putP s k n t l)
 have h2 := cnt_putP s k n t l
 rw [cnt_prL] at h1
 unfold proD
 rw [cnt_prD]
 show _ ≤ cntD (.list 5 len f) + 4 + cntD l
 show ((setP (prL (.list 5 len f)) s (putP s k n t l)).map cntR).sum ≤ _
 omega
theorem lenOk_prD {l : List PRow} (hl : l.length ≤ maxLen) (h : ∀ r ∈ l, ∀ j, j < 5 → LenOk (r j)) : LenOk (prD l) := by
 refine ⟨hl, fun i hi j hj => ?_⟩
 show LenOk (l.getD i prZ j)
 rw [List.getD_eq_getElem?_getD, List.getElem?_eq_getElem hi]
 exact h _ (List.getElem_mem hi) j hj
theorem lenOk_proD {d : D} (H : Has d (.list 3)) (hs : SmallD d) {s : ByteArray} {k n : Int} {t : ByteArray} {l : D} (h3 : LenOk l) : LenOk (proD d s k n t l) := by
 obtain ⟨len, f, rfl, _⟩ := H.list
 change SmallD (.list 5 len f) at hs
 have hl := hs.2.1
 have h1 := setP_len (prL (.list 5 len f)) s (putP s k n t l)
 have h2 := putP_len s k n t l
 have h4 : (prL (.list 5 len f)).length = len := prL_len _
 have hok : ∀ r ∈ prL (.list 5 len f), ∀ j, j < 5 → LenOk (r j) := fun r hr j hj => by
  obtain ⟨i, hi, rfl⟩ := List.mem_map.1 hr
  exact small_lenOk _ (hs.2.2 i (List.mem_range.1 hi) j hj)
 refine lenOk_prD (l := setP (prL (.list 5 len f)) s (putP s k n t l)) (by unfold maxLen; omega) (fun r hr j hj => ?_)
 unfold setP at hr
 rw [List.mem_append, List.mem_append] at hr
 rcases hr with hr | hr | hr
 ·
  exact hok r (List.mem_filter.1 hr).1 j hj
 ·
  unfold putP at hr
  split at hr
  ·
   cases hr
  ·
   rw [List.mem_singleton] at hr
   subst hr
   rcases (by omega : j = 0 ∨ j = 1 ∨ j = 2 ∨ j = 3 ∨ j = 4) with rfl | rfl | rfl | rfl | rfl
   ·
    trivial
   ·
    trivial
   ·
    trivial
   ·
    trivial
   ·
    exact h3
 ·
  exact hok r (List.mem_filter.1 hr).1 j hj
theorem psD_lenOk {m c r : Nat} {d : D} {vn : Int} {s : ByteArray} {k n : Int} {t : ByteArray} {d3 : D} (H : Has d (.list r)) (hm : m = (rowsOf r).length) (hcm : c < m) (hr : (rowsOf r).getD c Leaf.int = .list 3) (hs : SmallD d) (h3 : LenOk d3) : LenOk (psD m c d vn s k n t d3) := by
 unfold psD
 cases h : edK d vn with
 | none => exact small_lenOk _ hs
 | some i =>
  obtain ⟨len, f, rfl, HR⟩ := H.list
  have hi := (edK_some h).1
  subst hm
  have hok := small_lenOk _ hs
  refine ⟨hok.1, fun q hq j hj => ?_⟩
  show LenOk (setF f i c (proD (f i c) s k n t d3) q j)
  by_cases hij : q = i ∧ j = c
  ·
   obtain ⟨rfl, rfl⟩ := hij
   rw [setF_at]
   exact lenOk_proD (by have := HR q hi j hcm; rw [hr] at this; exact this) (hs.2.2 q hi j hcm) h3
  ·
   rw [setF_ne hij]
   exact hok.2 q hq j hj
theorem sumN_ge {f : Nat → Nat} {i : Nat} : ∀ {m : Nat}, i < m → f i ≤ sumN f m
 | 0, h => by omega
 | m + 1, h => by
  rw [sumN]
  rcases Nat.lt_or_ge i m with h2 | h2
  ·
   have := sumN_ge (f := f) h2; omega
  ·
   obtain rfl : i = m := by omega
   omega
theorem psD_cnt {m c r : Nat} {d : D} {vn : Int} {s : ByteArray} {k n : Int} {t : ByteArray} {d3 : D} (H : Has d (.list r)) (hm : m = (rowsOf r).length) (hcm : c < m) (hr : (rowsOf r).getD c Leaf.int = .list 3) : cntD (psD m c d vn s k n t d3) ≤ cntD d + cntD d + 4 + cntD d3 := by
 unfold psD
 cases h : edK d vn with
 | none => show cntD d ≤ _; omega
 | some i =>
  obtain ⟨len, f, rfl, HR⟩ := H.list
  have hi := (edK_some h).1
  subst hm
  have h1 : cntD (f i c) ≤ cntD (.list (rowsOf r).length len f) := Nat.le_trans (sumN_ge (f := fun j => cntD (f i j)) hcm) (sumN_ge (f := fun i => sumN (fun j => cntD (f i j)) (rowsOf r).length) hi)
  have h2 := cnt_proD (by have := HR i hi c hcm; rw [hr] at this; exact this) s k n t d3 (d := f i c)
  have h3 := cnt_setF (f := f) (k := i) (c := c) (n := (rowsOf r).length) (v := proD (f i c) s k n t d3) len
  show sumN (fun q => sumN (fun j => cntD (setF f i c (proD (f i c) s k n t d3) q j)) (rowsOf r).length) len ≤ _
  have h4 : cntD (.list (rowsOf r).length len f) = sumN (fun i => sumN (fun j => cntD (f i j)) (rowsOf r).length) len := rfl
  split at h3 <;> omega
theorem psD0_lenOk {g b : Bool} {d0 : D} {vk vn : Int} {s : ByteArray} {k n : Int} {t : ByteArray} {d3 : D} (H0 : Has d0 (.list 4)) (s0 : SmallD d0) (s3 : SmallD d3) : LenOk (psD0 g b d0 vk vn s k n t d3) := by
 unfold psD0
 cases g
 ·
  exact ⟨Nat.zero_le _, fun i hi => by omega⟩
 ·
  simp only [if_true]
  split
  ·
   exact psD_lenOk H0 rfl (by decide) rfl s0 (small_lenOk _ s3)
  ·
   exact small_lenOk _ s0
theorem psD1_lenOk {g b : Bool} {d1 : D} {vk vn : Int} {s : ByteArray} {k n : Int} {t : ByteArray} {d3 : D} (H1 : Has d1 (.list 5)) (s1 : SmallD d1) (s3 : SmallD d3) : LenOk (psD1 g b d1 vk vn s k n t d3) := by
 unfold psD1
 cases g
 ·
  exact ⟨Nat.zero_le _, fun i hi => by omega⟩
 ·
  simp only [if_true]
  split
  ·
   exact psD_lenOk H1 rfl (by decide) rfl s1 (small_lenOk _ s3)
  ·
   exact small_lenOk _ s1
theorem psD0_cnt {g b : Bool} {d0 : D} {vk vn : Int} {s : ByteArray} {k n : Int} {t : ByteArray} {d3 : D} (H0 : Has d0 (.list 4)) : cntD (psD0 g b d0 vk vn s k n t d3) ≤ cntD d0 + cntD d0 + 4 + cntD d3 := by
 unfold psD0
 cases g
 ·
  simp [noneL, cntD, sumN]
 ·
  simp only [if_true]
  split
  ·
   exact psD_cnt H0 rfl (by decide) rfl
  ·
   omega
theorem psD1_cnt {g b : Bool} {d1 : D} {vk vn : Int} {s : ByteArray} {k n : Int} {t : ByteArray} {d3 : D} (H1 : Has d1 (.list 5)) : cntD (psD1 g b d1 vk vn s k n t d3) ≤ cntD d1 + cntD d1 + 4 + cntD d3 := by
 unfold psD1
 cases g
 ·
  simp [noneL, cntD, sumN]
 ·
  simp only [if_true]
  split
  ·
   exact psD_cnt H1 rfl (by decide) rfl
  ·
   omega
end Go.Proofs.YteijgejpenlgjaaGreat
