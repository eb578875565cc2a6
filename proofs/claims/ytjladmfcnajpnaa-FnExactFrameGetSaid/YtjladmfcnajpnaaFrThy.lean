/- Frames: what FrameGet answers, by how many figures a text begins with. -/
import Derived.Test.YtjladmfcnajpnaaLeaf0
namespace Go.Proofs.Ytjladmfcnajpnaa
open Go.RowKit

/-- What the first k bytes are as a number. -/
def numV (s : ByteArray) : Nat → Int
  | 0 => 0
  | k + 1 => numV s k * 10 + (chr s k - 48)
/-- A text begins with k figures, five of them at most. -/
structure IsK (s : ByteArray) (k : Nat) : Prop where
  five : k ≤ 5
  le : k ≤ s.size
  fig : ∀ j, j < k → figB (chr s j) = true
  no : k = 5 ∨ k = s.size ∨ figB (chr s k) = false

theorem figB_iff (c : Int) : figB c = true ↔ 48 ≤ c ∧ c ≤ 57 := by simp [figB]
theorem figB_no (c : Int) : figB c = false ↔ c < 48 ∨ 57 < c := by simp [figB]; omega

theorem isK_ex (s : ByteArray) : ∃ k, IsK s k := by
  have go : ∀ n k, k + n = 5 → k ≤ s.size → (∀ j, j < k → figB (chr s j) = true) → ∃ k, IsK s k := by
    intro n
    induction n with
    | zero => intro k hk hl hf; exact ⟨k, by omega, hl, hf, .inl (by omega)⟩
    | succ n ih =>
      intro k hk hl hf
      by_cases he : k = s.size
      · exact ⟨k, by omega, hl, hf, .inr (.inl he)⟩
      · cases hd : figB (chr s k)
        · exact ⟨k, by omega, hl, hf, .inr (.inr hd)⟩
        · refine ih (k + 1) (by omega) (by omega) fun j hj => ?_
          rcases Nat.lt_succ_iff_lt_or_eq.1 hj with h | h
          · exact hf j h
          · subst h; exact hd
  exact go 5 0 rfl (Nat.zero_le _) (fun j h => by omega)

theorem IsK.unique {s : ByteArray} {a b : Nat} (ha : IsK s a) (hb : IsK s b) : a = b := by
  rcases Nat.lt_trichotomy a b with h | h | h
  · rcases ha.no with h1 | h1 | h1
    · have := hb.five; omega
    · have := hb.le; omega
    · rw [hb.fig a h] at h1; cases h1
  · exact h
  · rcases hb.no with h1 | h1 | h1
    · have := ha.five; omega
    · have := ha.le; omega
    · rw [ha.fig b h] at h1; cases h1

def Figs (s : ByteArray) (k : Nat) : Prop := ∀ j, j < k → figB (chr s j) = true
theorem Figs.succ {s : ByteArray} {k : Nat} (h : Figs s k) (hk : figB (chr s k) = true) : Figs s (k + 1) := by
  intro j hj
  rcases Nat.lt_succ_iff_lt_or_eq.1 hj with h1 | h1
  · exact h j h1
  · subst h1; exact hk
theorem numV_step {s : ByteArray} {k j : Nat} (h : Figs s k) (hj : j < k) : 0 ≤ chr s j - 48 ∧ chr s j - 48 ≤ 9 := by
  have := (figB_iff _).1 (h j hj); omega
theorem numV_nonneg {s : ByteArray} {k : Nat} (h : Figs s k) : ∀ j, j ≤ k → 0 ≤ numV s j := by
  intro j
  induction j with
  | zero => intro _; exact Int.le_refl _
  | succ j ih => intro hj; have := ih (by omega); have := numV_step h (show j < k by omega); simp only [numV]; omega
theorem numV_mono {s : ByteArray} {k i : Nat} (h : Figs s k) : ∀ j, i ≤ j → j ≤ k → numV s i ≤ numV s j := by
  intro j
  induction j with
  | zero => intro h1 _; obtain rfl : i = 0 := by omega
            exact Int.le_refl _
  | succ j ih =>
    intro h1 h2
    by_cases he : i = j + 1
    · subst he; exact Int.le_refl _
    · have := ih (by omega) (by omega); have := numV_step h (show j < k by omega); have := numV_nonneg h j (by omega); simp only [numV]; omega
theorem numV_top {s : ByteArray} {k : Nat} (h : Figs s k) : ∀ j, j ≤ k → numV s j < 10 ^ j := by
  intro j
  induction j with
  | zero => intro _; simp [numV]
  | succ j ih => intro hj; have := ih (by omega); have := numV_step h (show j < k by omega); simp only [numV]; rw [Int.pow_succ]; omega
theorem numV_five {s : ByteArray} {k : Nat} (h : Figs s k) (h5 : 5 ≤ k) (h0 : chr s 0 ≠ 48) : 10000 ≤ numV s 5 := by
  have a0 := numV_step h (show 0 < k by omega)
  have a1 := numV_step h (show 1 < k by omega)
  have a2 := numV_step h (show 2 < k by omega)
  have a3 := numV_step h (show 3 < k by omega)
  have a4 := numV_step h (show 4 < k by omega)
  simp only [numV]; omega

/-- The number that a text begins with; -1 of none. -/
def headN (s : ByteArray) (k : Nat) : Int := if k = 0 ∨ (1 < k ∧ chr s 0 = 48) then -1 else numV s k
def ansK (s : ByteArray) (k : Nat) : ByteArray × Int :=
  if 0 < k ∧ (headN s k < 0 ∨ 6000 < headN s k) then (ByteArray.empty, -1)
  else if k = s.size then (ByteArray.empty, 0)
  else if chr s k ≠ 58 ∨ k = 0 then (ByteArray.empty, -1)
  else if s.size < k + (headN s k).toNat + 2 then (ByteArray.empty, 0)
  else if chr s (k + (headN s k).toNat + 1) ≠ 10 then (ByteArray.empty, -1)
  else (s.extract (k + 1) (k + (headN s k).toNat + 1), (k : Int) + headN s k + 2)

theorem ans_big {s : ByteArray} {k : Nat} (hk : 0 < k) (h : headN s k < 0 ∨ 6000 < headN s k) : ansK s k = (ByteArray.empty, -1) := by
  unfold ansK; rw [if_pos ⟨hk, h⟩]
theorem ans_all {s : ByteArray} {k : Nat} (h : ¬ (0 < k ∧ (headN s k < 0 ∨ 6000 < headN s k))) (he : k = s.size) : ansK s k = (ByteArray.empty, 0) := by
  unfold ansK; rw [if_neg h, if_pos he]
theorem ans_colon {s : ByteArray} {k : Nat} (he : k ≠ s.size) (hc : chr s k ≠ 58 ∨ k = 0) : ansK s k = (ByteArray.empty, -1) := by
  unfold ansK
  by_cases h : 0 < k ∧ (headN s k < 0 ∨ 6000 < headN s k)
  · rw [if_pos h]
  · rw [if_neg h, if_neg he, if_pos hc]
theorem ans_less {s : ByteArray} {k : Nat} (h : ¬ (headN s k < 0 ∨ 6000 < headN s k)) (he : k ≠ s.size) (hc : ¬ (chr s k ≠ 58 ∨ k = 0)) (hl : s.size < k + (headN s k).toNat + 2) : ansK s k = (ByteArray.empty, 0) := by
  unfold ansK; rw [if_neg (fun q => h q.2), if_neg he, if_neg hc, if_pos hl]
theorem ans_end {s : ByteArray} {k : Nat} (h : ¬ (headN s k < 0 ∨ 6000 < headN s k)) (he : k ≠ s.size) (hc : ¬ (chr s k ≠ 58 ∨ k = 0)) (hl : ¬ s.size < k + (headN s k).toNat + 2) (hn : chr s (k + (headN s k).toNat + 1) ≠ 10) : ansK s k = (ByteArray.empty, -1) := by
  unfold ansK; rw [if_neg (fun q => h q.2), if_neg he, if_neg hc, if_neg hl, if_pos hn]
theorem ans_body {s : ByteArray} {k : Nat} (h : ¬ (headN s k < 0 ∨ 6000 < headN s k)) (he : k ≠ s.size) (hc : ¬ (chr s k ≠ 58 ∨ k = 0)) (hl : ¬ s.size < k + (headN s k).toNat + 2) (hn : ¬ chr s (k + (headN s k).toNat + 1) ≠ 10) : ansK s k = (s.extract (k + 1) (k + (headN s k).toNat + 1), (k : Int) + headN s k + 2) := by
  unfold ansK; rw [if_neg (fun q => h q.2), if_neg he, if_neg hc, if_neg hl, if_neg hn]

/-- A short text as a number; -1 of what is none. -/
def l1NumV (t : ByteArray) : Int :=
  if (∀ j, j < t.size → figB (chr t j) = true) ∧ t.size ≤ 10 ∧ t.size ≠ 0 ∧ ¬ (1 < t.size ∧ chr t 0 = 48) then numV t t.size else -1

theorem chr_extract {s : ByteArray} {k j : Nat} (hj : j < k) : chr (s.extract 0 k) j = chr s j := by
  unfold chr
  congr 2
  simp [ByteArray.data_extract, List.getD_eq_getElem?_getD, hj]
theorem numV_extract {s : ByteArray} {k : Nat} : ∀ j, j ≤ k → numV (s.extract 0 k) j = numV s j := by
  intro j
  induction j with
  | zero => intro _; rfl
  | succ j ih => intro hj; simp only [numV]; rw [ih (by omega), chr_extract (by omega)]
theorem size_extract0 {s : ByteArray} {k : Nat} (hk : k ≤ s.size) : (s.extract 0 k).size = k := by
  simp [ByteArray.size_extract]; omega
theorem l1NumV_extract {s : ByteArray} {k : Nat} (h : IsK s k) : l1NumV (s.extract 0 k) = headN s k := by
  unfold l1NumV headN
  rw [size_extract0 h.le]
  by_cases hk : k = 0
  · subst hk; simp
  · by_cases h0 : 1 < k ∧ chr s 0 = 48
    · rw [if_neg, if_pos (.inr h0)]
      rintro ⟨_, _, _, h4⟩
      exact h4 ⟨h0.1, by rw [chr_extract (by omega)]; exact h0.2⟩
    · rw [if_pos, if_neg (by omega), numV_extract k (Nat.le_refl _)]
      refine ⟨fun j hj => by rw [chr_extract hj]; exact h.fig j hj, by have := h.five; omega, hk, ?_⟩
      rw [chr_extract (by omega)]; exact h0
end Go.Proofs.Ytjladmfcnajpnaa
