/- A name is one word: the words of a name with a blank ahead and a line's end behind; with a blank behind, or a figure ahead, it is no name. -/
import Derived.Test.YtbdcoiepdlhlkaaDoorName
import Derived.Test.YtbdcoiepdlhlkaaDoorWImpl
namespace Go.Proofs.YtbdcoiepdlhlkaaDoor
open Go.RowKit

theorem data_append (a b : ByteArray) : (a ++ b).data.toList = a.data.toList ++ b.data.toList := by simp
theorem chr_at (s : ByteArray) (k : Nat) : chr s k = ((s.data.toList.getD k 0).toNat : Int) := rfl

theorem name_parts {s : ByteArray} (h : nameB s = true) : 0 < s.size ∧ s.size ≤ 8 ∧ (∀ x ∈ s.data.toList, wdB x = true) := by
  unfold nameB at h
  simp only [Bool.and_eq_true] at h
  obtain ⟨⟨h1, h2⟩, _⟩ := h
  unfold inB at h2
  have h2 := of_decide_eq_true h2
  refine ⟨by omega, by omega, fun x hx => ?_⟩
  obtain ⟨k, hk, rfl⟩ := List.getElem_of_mem hx
  have hk' : k < s.size := by rw [Lib.size_eq]; exact hk
  unfold allB at h1
  have := List.all_eq_true.1 h1 k (List.mem_range.2 hk')
  unfold okAt at this
  rw [chr_at, List.getD_eq_getElem?_getD, List.getElem?_eq_getElem hk] at this
  simp only [Option.getD_some, Bool.or_eq_true, Bool.and_eq_true] at this
  unfold wdB
  rcases this with h | ⟨_, h⟩
  · rw [h]; rfl
  · rw [h, Bool.or_true]

theorem wd_blank (b : UInt8) (h : wdB b = true) : blanks.contains b = false := by
  cases hc : blanks.contains b with
  | false => rfl
  | true =>
    have hm : b ∈ blanks := by simpa using hc
    simp only [blanks, List.mem_cons, List.not_mem_nil, or_false] at hm
    rcases hm with rfl | rfl | rfl <;> (revert h; decide)

theorem takeWhile_all (l r : By) (h : ∀ x ∈ l, wdB x = true) : (l ++ 10 :: r).takeWhile wdB = l := by
  induction l with
  | nil => rfl
  | cons b t ih =>
    rw [List.cons_append, List.takeWhile_cons, if_pos (h b (by simp)), ih (fun x hx => h x (by simp [hx]))]

theorem seq_name {l : By} (h0 : l ≠ []) (h : ∀ x ∈ l, wdB x = true) : seqOf (32 :: (l ++ [10])) = [l] := by
  cases l with
  | nil => exact absurd rfl h0
  | cons b t =>
    have hb := h b (by simp)
    obtain ⟨h1, h2⟩ := wd_class b hb
    have ht : trimB (b :: t ++ [10]) = b :: t ++ [10] := trimB_self (wd_blank b hb)
    have hl : wordLen (b :: t ++ [10]) = (b :: t).length := by
      show wordLen (b :: (t ++ [10])) = _
      rw [wordLen, if_neg h1, if_neg (by rw [h2]; decide)]
      have := takeWhile_all (b :: t) [] h
      rw [← List.cons_append, this]
    rw [seqOf_blank rfl, seqOf_word (by rw [ht]; simp) (by rw [ht, hl]; simp), ht, hl, List.take_left, List.drop_left, seqOf_nil rfl]

theorem words_name {s : ByteArray} (h : nameB s = true) : fine ((⟨#[32]⟩ ++ s ++ ⟨#[10]⟩ : ByteArray).data.toList) = true ∧ wordsOf ((⟨#[32]⟩ ++ s ++ ⟨#[10]⟩ : ByteArray).data.toList) = [s.data.toList] := by
  obtain ⟨h0, _, h1⟩ := name_parts h
  have hne : s.data.toList ≠ [] := by intro e; rw [Lib.size_eq, e] at h0; simp at h0
  have e : (⟨#[32]⟩ ++ s ++ ⟨#[10]⟩ : ByteArray).data.toList = 32 :: (s.data.toList ++ [10]) := by rw [data_append, data_append]; rfl
  have hs := seq_name hne h1
  rw [e]
  have := fine_of (l := 32 :: (s.data.toList ++ [10])) (by rw [hs]; simpa using hne)
  rw [hs] at this
  exact this
theorem blank_behind (s : ByteArray) : nameB (s ++ ⟨#[32]⟩) = false := by
  refine all_false _ s.size (by rw [ByteArray.size_append]; show s.size < s.size + 1; omega) ?_
  unfold okAt
  have : chr (s ++ ⟨#[32]⟩) s.size = 32 := by
    rw [chr_at, data_append, List.getD_eq_getElem?_getD, List.getElem?_append_right (by rw [Lib.size_eq]; exact Nat.le_refl _), ← Lib.size_eq, Nat.sub_self]
    rfl
  rw [this]
  have e1 : letB 32 = false := by decide
  have e2 : figB 32 = false := by decide
  rw [e1, e2]; simp
theorem figure_ahead (s : ByteArray) : nameB (⟨#[49]⟩ ++ s) = false := by
  refine all_false _ 0 (by rw [ByteArray.size_append]; show 0 < 1 + s.size; omega) ?_
  unfold okAt
  have : chr (⟨#[49]⟩ ++ s) 0 = 49 := by
    rw [chr_at, data_append]; rfl
  rw [this]
  have e1 : letB 49 = false := by decide
  rw [e1]; rfl
end Go.Proofs.YtbdcoiepdlhlkaaDoor
