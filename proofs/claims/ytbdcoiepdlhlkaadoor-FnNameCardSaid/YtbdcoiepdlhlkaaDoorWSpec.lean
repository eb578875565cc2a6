/- The word that a text begins with: spec.l4Word. -/
import Derived.Test.YtbdcoiepdlhlkaaDoorWSize
namespace Go.Proofs.YtbdcoiepdlhlkaaDoor
open Go.RowKit

theorem wd_class (b : UInt8) (h : wdB b = true) : b ≠ 39 ∧ signs.contains b = false := by
  refine ⟨fun e => by subst e; revert h; decide, ?_⟩
  cases hc : signs.contains b with
  | false => rfl
  | true =>
    have hm : b ∈ signs := by simpa using hc
    simp only [signs, List.mem_cons, List.not_mem_nil, or_false] at hm
    rcases hm with rfl | rfl | rfl | rfl | rfl | rfl | rfl | rfl | rfl | rfl | rfl | rfl | rfl | rfl | rfl | rfl <;> (revert h; decide)
theorem idx_first : ∀ (l : By) (c : UInt8) (k : Nat), (∀ j, j < k → l[j]? ≠ some c) → l[k]? = some c → Lib.indexByte l c = k
  | [], c, k, _, h => by simp at h
  | b :: l, c, 0, _, h => by
    have : b = c := by simpa using h
    unfold Lib.indexByte
    simp [this]
  | b :: l, c, k + 1, hno, h => by
    have hb : ¬ b = c := fun e => hno 0 (by omega) (by simp [e])
    have ih := idx_first l c k (fun j hj => by have := hno (j + 1) (by omega); simpa using this) (by simpa using h)
    unfold Lib.indexByte
    rw [ih]
    have hbc : (b == c) = false := by simpa using hb
    rw [hbc]
    have : ((k : Int) == -1) = false := by simp
    rw [this]
    simp
theorem idx_none : ∀ (l : By) (c : UInt8), (∀ j, j < l.length → l[j]? ≠ some c) → Lib.indexByte l c = -1
  | [], c, _ => rfl
  | b :: l, c, hno => by
    have hb : ¬ b = c := fun e => hno 0 (by simp) (by simp [e])
    have ih := idx_none l c (fun j hj => by have := hno (j + 1) (by simp; omega); simpa using this)
    unfold Lib.indexByte
    have hbc : (b == c) = false := by simpa using hb
    rw [ih, hbc]; rfl

theorem data_at (s : ByteArray) (k : Nat) (h : k < s.size) : s.data.toList[k]? = some s[k] := by
  obtain ⟨⟨l⟩⟩ := s
  have : k < l.length := h
  simp [ByteArray.getElem_eq_getElem_data, this]
theorem tail_at {s : ByteArray} {b : UInt8} {t : By} (ht : s.data.toList = b :: t) (j : Nat) (h : j + 1 < s.size) : t[j]? = some s[j + 1] := by
  have := data_at s (j + 1) h
  rw [ht] at this
  simpa using this
theorem ne_byte {x : UInt8} {n : Nat} (h : ¬ (x.toNat : Int) = n) : ¬ x = n.toUInt8 ∨ 256 ≤ n := by
  by_cases hn : 256 ≤ n
  · exact .inr hn
  · left; intro e; apply h; rw [e]; simp; omega

/-- The word is of letters and figures. -/
theorem word_let (s : ByteArray) (k : Nat) (hk : k ≤ s.size) (hk0 : 0 < k) (h : (s.data.toList.takeWhile wdB).length = k) : wordLen s.data.toList = k := by
  obtain ⟨t, ht⟩ := data_cons s (by omega)
  have hw : wdB s[0] = true := by
    cases hc : wdB s[0] with
    | true => rfl
    | false => rw [ht, List.takeWhile_cons, hc] at h; simp at h; omega
  obtain ⟨h1, h2⟩ := wd_class _ hw
  rw [ht] at h
  rw [ht, wordLen, if_neg h1, if_neg (by rw [h2]; decide), h]
theorem word_quote (s : ByteArray) (hp : 0 < s.size) (h : (s[0].toNat : Int) = 39) (k : Nat) (h1 : 1 ≤ k) (hno : ∀ j (hj : j < s.size), 1 ≤ j → j < k → ¬ (s[j].toNat : Int) = 39) :
    (∀ hk : k < s.size, (s[k].toNat : Int) = 39 → wordLen s.data.toList = k + 1) ∧ (s.size ≤ k → wordLen s.data.toList = 0) := by
  obtain ⟨t, ht⟩ := data_cons s hp
  have h0 : s[0] = 39 := byte_eq (n := 39) (by decide) h
  have hlen : t.length + 1 = s.size := by rw [Lib.size_eq, ht]; simp
  have hno' : ∀ j, j < k - 1 → t[j]? ≠ some 39 := by
    intro j hj
    by_cases hjl : j + 1 < s.size
    · rw [tail_at ht j hjl]
      intro e
      have e' : s[j + 1] = 39 := by simpa using e
      exact hno (j + 1) hjl (by omega) (by omega) (by rw [e']; rfl)
    · rw [List.getElem?_eq_none (by omega)]; simp
  constructor
  · intro hk h39
    obtain ⟨m, rfl⟩ : ∃ m, k = m + 1 := ⟨k - 1, by omega⟩
    have hf := idx_first t 39 m hno' (by rw [tail_at ht m hk]; exact congrArg some (byte_eq (n := 39) (by decide) h39))
    rw [ht, wordLen, if_pos h0, hf, if_neg (by omega)]
    omega
  · intro hk
    rw [ht, wordLen, if_pos h0, idx_none t 39 (fun j hj => hno' j (by omega)), if_pos rfl]
theorem word_sign (s : ByteArray) (hp : 0 < s.size) (h : ¬ (s[0].toNat : Int) = 39) (i : Nat) (hi : i < 16) (hs : ((bs signs)[i]'(by rw [bs_size]; exact hi)) = s[0]) : wordLen s.data.toList = 1 := by
  obtain ⟨t, ht⟩ := data_cons s hp
  have h0 : ¬ s[0] = 39 := fun e => h (by rw [e]; rfl)
  have hc : signs.contains s[0] = true := by
    rw [← hs]
    have : (bs signs).data.toList[i]? = some ((bs signs)[i]'(by rw [bs_size]; exact hi)) := data_at _ _ _
    rw [data_bs] at this
    have := List.mem_of_getElem? this
    simpa using this
  rw [ht, wordLen, if_neg h0, if_pos hc]
theorem word_none (s : ByteArray) (hp : 0 < s.size) (h : ¬ (s[0].toNat : Int) = 39) (ht0 : (s.data.toList.takeWhile wdB).length = 0) (hs : ∀ i (hi : i < 16), ¬ ((bs signs)[i]'(by rw [bs_size]; exact hi)) = s[0]) : wordLen s.data.toList = 0 := by
  obtain ⟨t, ht⟩ := data_cons s hp
  have h0 : ¬ s[0] = 39 := fun e => h (by rw [e]; rfl)
  have hc : ¬ signs.contains s[0] = true := by
    intro hc
    have hm : s[0] ∈ signs := by simpa using hc
    obtain ⟨i, hi, he⟩ := List.getElem_of_mem hm
    have hi' : i < 16 := hi
    have : (bs signs).data.toList[i]? = some ((bs signs)[i]'(by rw [bs_size]; exact hi')) := data_at _ _ _
    rw [data_bs, List.getElem?_eq_getElem hi, he] at this
    exact hs i hi' (by simpa using this.symm)
  rw [ht] at ht0
  rw [ht, wordLen, if_neg h0, if_neg hc, ht0]
/-- The word that a text begins with. -/
def headW (l : By) : By := l.take (wordLen l)
theorem head_eq (s : ByteArray) (k : Nat) (h : wordLen s.data.toList = k) : s.extract 0 k = bs (headW s.data.toList) := by
  rw [extract_bs, headW, h]; simp

theorem head_nil (s : ByteArray) (h : wordLen s.data.toList = 0) : (⟨#[]⟩ : ByteArray) = bs (headW s.data.toList) := by
  rw [headW, h]; rfl
theorem sign_at {s : ByteArray} {hp : 0 < s.size} (k : Nat) (h : k < 16) (hc : ((bs signs)[k]'(by rw [bs_size]; exact h)) = s[0]) :
    (((ByteArray.mk #[40, 41, 91, 93, 123, 125, 44, 46, 58, 61, 60, 62, 43, 45, 36, 42])[k]'h).toNat : Int) = (s[0].toNat : Int) := by
  rw [← hc]; rfl
theorem sign_not {s : ByteArray} {hp : 0 < s.size} (k : Nat) (h : k < 16) (hc : ¬ ((bs signs)[k]'(by rw [bs_size]; exact h)) = s[0]) :
    ¬ (((ByteArray.mk #[40, 41, 91, 93, 123, 125, 44, 46, 58, 61, 60, 62, 43, 45, 36, 42])[k]'h).toNat : Int) = (s[0].toNat : Int) := by
  intro e
  apply hc
  apply UInt8.toNat_inj.1
  have e' : ((((bs signs)[k]'(by rw [bs_size]; exact h)).toNat : Nat) : Int) = (s[0].toNat : Int) := e
  omega

end Go.Proofs.YtbdcoiepdlhlkaaDoor
