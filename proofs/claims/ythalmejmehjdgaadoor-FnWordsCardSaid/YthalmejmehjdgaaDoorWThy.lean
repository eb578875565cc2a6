/- Words of two texts with a blank between are those of both; a word has itself as its one word. -/
import Derived.Test.YthalmejmehjdgaaDoorWImpl
namespace Go.Proofs.YthalmejmehjdgaaDoor
open Go.RowKit

theorem idx_take : ∀ (t : By) (c : UInt8) (i : Nat), Lib.indexByte t c = i → ∀ r, Lib.indexByte (t.take (i + 1) ++ r) c = i
  | [], c, i, h, r => by
    have : Lib.indexByte [] c = -1 := rfl
    omega
  | b :: t, c, i, h, r => by
    have hge := Lib.indexByte_ge t c
    unfold Lib.indexByte at h
    by_cases hb : (b == c) = true
    · rw [if_pos hb] at h
      obtain rfl : i = 0 := by omega
      show Lib.indexByte (b :: _) c = _
      unfold Lib.indexByte
      rw [if_pos hb]; rfl
    · rw [if_neg hb] at h
      by_cases h1 : (Lib.indexByte t c == -1) = true
      · rw [if_pos h1] at h; omega
      · rw [if_neg h1] at h
        have h1' : ¬ Lib.indexByte t c = -1 := by simpa using h1
        obtain ⟨j, rfl⟩ : ∃ j, i = j + 1 := ⟨i - 1, by omega⟩
        have ih := idx_take t c j (by omega) r
        show Lib.indexByte (b :: (t.take (j + 1) ++ r)) c = _
        unfold Lib.indexByte
        rw [if_neg hb, ih, if_neg (by simp)]
        omega
theorem idx_app (t : By) (c : UInt8) (i : Nat) (h : Lib.indexByte t c = i) (r : By) : Lib.indexByte (t ++ r) c = i := by
  have := idx_take t c i h (t.drop (i + 1) ++ r)
  rwa [← List.append_assoc, List.take_append_drop] at this

theorem takeWhile_app (l m : By) (c : UInt8) (hc : wdB c = false) : (l ++ c :: m).takeWhile wdB = l.takeWhile wdB := by
  induction l with
  | nil => rw [List.nil_append, List.takeWhile_cons, hc]; rfl
  | cons b t ih =>
    rw [List.cons_append, List.takeWhile_cons, List.takeWhile_cons, ih]

/-- The word that a text begins with stays what it is, whatever stands behind a blank behind it all. -/
theorem wordLen_app (r m : By) (c : UInt8) (hc : wdB c = false) (h : wordLen r ≠ 0) : wordLen (r ++ c :: m) = wordLen r := by
  cases r with
  | nil => exact absurd rfl h
  | cons b t =>
    rw [wordLen] at h
    rw [List.cons_append, wordLen, wordLen]
    by_cases h39 : b = 39
    · rw [if_pos h39] at h
      rw [if_pos h39, if_pos h39]
      by_cases hi : Lib.indexByte t 39 = -1
      · rw [if_pos hi] at h; exact absurd rfl h
      · have hge := Lib.indexByte_ge t 39
        obtain ⟨i, hi'⟩ : ∃ i : Nat, Lib.indexByte t 39 = i := ⟨(Lib.indexByte t 39).toNat, by omega⟩
        rw [idx_app t 39 i hi' (c :: m), hi']
    · rw [if_neg h39, if_neg h39]
      by_cases hs : signs.contains b = true
      · rw [if_pos hs, if_pos hs]
      · rw [if_neg hs, if_neg hs, ← List.cons_append, takeWhile_app _ _ _ hc]
theorem takeWhile_idem : ∀ (l : By), (l.takeWhile wdB).takeWhile wdB = l.takeWhile wdB
  | [] => rfl
  | b :: t => by
    rw [List.takeWhile_cons]
    split
    · rename_i h; rw [List.takeWhile_cons, if_pos h, takeWhile_idem t]
    · rfl
/-- A word has itself as its word. -/
theorem wordLen_take (r : By) (h : wordLen r ≠ 0) : wordLen (r.take (wordLen r)) = wordLen r := by
  cases r with
  | nil => exact absurd rfl h
  | cons b t =>
    by_cases h39 : b = 39
    · by_cases hi : Lib.indexByte t 39 = -1
      · rw [wordLen, if_pos h39, if_pos hi] at h; exact absurd rfl h
      · have hge := Lib.indexByte_ge t 39
        obtain ⟨i, hi'⟩ : ∃ i : Nat, Lib.indexByte t 39 = i := ⟨(Lib.indexByte t 39).toNat, by omega⟩
        have hw : wordLen (b :: t) = i + 2 := by rw [wordLen, if_pos h39, if_neg hi, hi']; omega
        have := idx_take t 39 i hi' []
        rw [List.append_nil] at this
        rw [hw]
        show wordLen (b :: t.take (i + 1)) = _
        rw [wordLen, if_pos h39, this, if_neg (by omega)]
        omega
    · by_cases hs : signs.contains b = true
      · have hw : wordLen (b :: t) = 1 := by rw [wordLen, if_neg h39, if_pos hs]
        rw [hw]
        show wordLen [b] = 1
        rw [wordLen, if_neg h39, if_pos hs]
      · have hw : wordLen (b :: t) = ((b :: t).takeWhile wdB).length := by rw [wordLen, if_neg h39, if_neg hs]
        have htk : (b :: t).take (wordLen (b :: t)) = (b :: t).takeWhile wdB := by
          rw [hw]
          exact (List.prefix_iff_eq_take.1 (List.takeWhile_prefix wdB)).symm
        rw [htk]
        have hb : wdB b = true := by
          cases hc : wdB b with
          | true => rfl
          | false => rw [hw, List.takeWhile_cons, hc] at h; exact absurd rfl h
        rw [hw]
        have e : (b :: t).takeWhile wdB = b :: t.takeWhile wdB := by rw [List.takeWhile_cons, if_pos hb]
        rw [e, wordLen, if_neg h39, if_neg hs, ← e]
        congr 1
        exact takeWhile_idem _

theorem trimB_first {l : By} {b : UInt8} {t : By} (h : trimB l = b :: t) : blanks.contains b = false := by
  induction l with
  | nil => cases h
  | cons c u ih =>
    cases hc : blanks.contains c with
    | true => rw [trimB_blank hc] at h; exact ih h
    | false => rw [trimB_self hc] at h; cases h; exact hc
theorem trimB_app_nil (l m : By) (h : trimB l = []) : trimB (l ++ m) = trimB m := by
  induction l with
  | nil => rfl
  | cons c u ih =>
    cases hc : blanks.contains c with
    | true => rw [trimB_blank hc] at h; rw [List.cons_append, trimB_blank hc]; exact ih h
    | false => rw [trimB_self hc] at h; cases h
theorem trimB_app (l m : By) (h : trimB l ≠ []) : trimB (l ++ m) = trimB l ++ m := by
  induction l with
  | nil => exact absurd rfl h
  | cons c u ih =>
    cases hc : blanks.contains c with
    | true => rw [trimB_blank hc] at h ⊢; rw [List.cons_append, trimB_blank hc]; exact ih h
    | false => rw [trimB_self hc, List.cons_append, trimB_self hc]

theorem seqOf_app (l m : By) (c : UInt8) (hc : blanks.contains c = true) (hf : ∀ x ∈ seqOf l, x ≠ []) : seqOf (l ++ c :: m) = seqOf l ++ seqOf m := by
  have hcw : wdB c = false := by
    cases h : wdB c with
    | false => rfl
    | true =>
      have hm : c ∈ blanks := by simpa using hc
      simp only [blanks, List.mem_cons, List.not_mem_nil, or_false] at hm
      rcases hm with rfl | rfl | rfl <;> (revert h; decide)
  fun_induction seqOf l with
  | case1 l h =>
    rw [← seqOf_trim, trimB_app_nil l _ h, seqOf_trim, seqOf_blank hc]; rfl
  | case2 l h h0 => exact absurd rfl (hf [] (by simp))
  | case3 l h h0 ih =>
    have ht : trimB (l ++ c :: m) = trimB l ++ c :: m := trimB_app l _ h
    have hw := wordLen_app (trimB l) m c hcw h0
    have hle := wordLen_le (trimB l)
    rw [seqOf_word (by rw [ht]; simp) (by rw [ht, hw]; exact h0), ht, hw, List.take_append_of_le_length hle, List.drop_append_of_le_length hle, ih (fun x hx => hf x (List.mem_cons_of_mem _ hx))]
    rfl
/-- What is told of a text is words, each with itself as its one word. -/
theorem seqOf_each (l : By) (hf : ∀ x ∈ seqOf l, x ≠ []) : ∀ x ∈ seqOf l, seqOf x = [x] := by
  fun_induction seqOf l with
  | case1 l h => intro x hx; cases hx
  | case2 l h h0 => exact absurd rfl (hf [] (by simp))
  | case3 l h h0 ih =>
    intro x hx
    rcases List.mem_cons.1 hx with rfl | hx
    · have h1 := wordLen_take (trimB l) h0
      have hne := take_ne h0
      have hlen : ((trimB l).take (wordLen (trimB l))).length = wordLen (trimB l) := headW_len (trimB l)
      have htr : trimB ((trimB l).take (wordLen (trimB l))) = (trimB l).take (wordLen (trimB l)) := by
        cases hcs : trimB l with
        | nil => exact absurd hcs h
        | cons b t =>
          rw [hcs] at h0
          obtain ⟨k, hk⟩ : ∃ k, wordLen (b :: t) = k + 1 := ⟨wordLen (b :: t) - 1, by omega⟩
          rw [hk, List.take_succ_cons]
          exact trimB_self (trimB_first hcs)
      rw [seqOf_word (by rw [htr]; exact hne) (by rw [htr, h1]; exact h0), htr, h1, List.take_of_length_le (by rw [hlen]; exact Nat.le_refl _), List.drop_of_length_le (by rw [hlen]; exact Nat.le_refl _), seqOf_nil rfl]
    · exact ih (fun y hy => hf y (List.mem_cons_of_mem _ hy)) x hx
/-- Words with a blank behind each. -/
def spaced : List By → By
  | [] => []
  | x :: r => x ++ 32 :: spaced r
theorem seqOf_spaced : ∀ (ws : List By), (∀ x ∈ ws, x ≠ [] ∧ seqOf x = [x]) → seqOf (spaced ws) = ws
  | [], _ => seqOf_nil rfl
  | x :: r, h => by
    obtain ⟨h1, h2⟩ := h x (by simp)
    rw [spaced, seqOf_app x (spaced r) 32 rfl (by rw [h2]; simpa using h1), h2, seqOf_spaced r (fun y hy => h y (List.mem_cons_of_mem _ hy))]
    rfl
theorem fine_iff (l : By) : fine l = true ↔ ∀ x ∈ seqOf l, x ≠ [] := by
  unfold fine
  rw [List.all_eq_true]
  constructor
  · intro h x hx e; subst e; have := h [] hx; simp at this
  · intro h x hx
    have := h x hx
    cases x with
    | nil => exact absurd rfl this
    | cons => rfl
end Go.Proofs.YthalmejmehjdgaaDoor
