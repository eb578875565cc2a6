/- The word that a text begins with: spec.l4Word. -/
import Derived.Test.YthalmejmehjdgaaDoorWSize
namespace Go.Proofs.YthalmejmehjdgaaDoor
open Go.RowKit

theorem wd_class (b : UInt8) (h : wdB b = true) : b ≠ 39 ∧ signs.contains b = false := by
  refine ⟨fun e => by subst e; revert h; decide, ?_⟩
  cases hc : signs.contains b with
  | false => rfl
  | true =>
    have hm : b ∈ signs := by simpa using hc
    simp only [signs, List.mem_cons, List.not_mem_nil, or_false] at hm
    rcases hm with rfl | rfl | rfl | rfl | rfl | rfl | rfl | rfl | rfl | rfl | rfl | rfl | rfl | rfl | rfl | rfl <;> (revert h; decide)
theorem idx_first : ∀ (l : By) (c : UInt8) (k : Nat), (∀ j, j < k → l[j]? ≠ some c) → l[k]? = some c → Lib.indexByte l c = k
  | [], c, k, _, h => by simp at h
  | b :: l, c, 0, _, h => by
    have : b = c := by simpa using h
    unfold Lib.indexByte
    simp [this]
  | b :: l, c, k + 1, hno, h => by
    have hb : ¬ b = c := fun e => hno 0 (by omega) (by simp [e])
    have ih := idx_first l c k (fun j hj => by have := hno (j + 1) (by omega); simpa using this) (by simpa using h)
    unfold Lib.indexByte
    rw [ih]
    have hbc : (b == c) = false := by simpa using hb
    rw [hbc]
    have : ((k : Int) == -1) = false := by simp
    rw [this]
    simp
theorem idx_none : ∀ (l : By) (c : UInt8), (∀ j, j < l.length → l[j]? ≠ some c) → Lib.indexByte l c = -1
  | [], c, _ => rfl
  | b :: l, c, hno => by
    have hb : ¬ b = c := fun e => hno 0 (by simp) (by simp [e])
    have ih := idx_none l c (fun j hj => by have := hno (j + 1) (by simp; omega); simpa using this)
    unfold Lib.indexByte
    have hbc : (b == c) = false := by simpa using hb
    rw [ih, hbc]; rfl

theorem data_at (s : ByteArray) (k : Nat) (h : k < s.size) : s.data.toList[k]? = some s[k] := by
  obtain ⟨⟨l⟩⟩ := s
  have : k < l.length := h
  simp [ByteArray.getElem_eq_getElem_data, this]
theorem tail_at {s : ByteArray} {b : UInt8} {t : By} (ht : s.data.toList = b :: t) (j : Nat) (h : j + 1 < s.size) : t[j]? = some s[j + 1] := by
  have := data_at s (j + 1) h
  rw [ht] at this
  simpa using this
theorem ne_byte {x : UInt8} {n : Nat} (h : ¬ (x.toNat : Int) = n) : ¬ x = n.toUInt8 ∨ 256 ≤ n := by
  by_cases hn : 256 ≤ n
  · exact .inr hn
  · left; intro e; apply h; rw [e]; simp; omega

/-- The word is of letters and figures. -/
theorem word_let (s : ByteArray) (k : Nat) (hk : k ≤ s.size) (hk0 : 0 < k) (h : (s.data.toList.takeWhile wdB).length = k) : wordLen s.data.toList = k := by
  obtain ⟨t, ht⟩ := data_cons s (by omega)
  have hw : wdB s[0] = true := by
    cases hc : wdB s[0] with
    | true => rfl
    | false => rw [ht, List.takeWhile_cons, hc] at h; simp at h; omega
  obtain ⟨h1, h2⟩ := wd_class _ hw
  rw [ht] at h
  rw [ht, wordLen, if_neg h1, if_neg (by rw [h2]; decide), h]
theorem word_quote (s : ByteArray) (hp : 0 < s.size) (h : (s[0].toNat : Int) = 39) (k : Nat) (h1 : 1 ≤ k) (hno : ∀ j (hj : j < s.size), 1 ≤ j → j < k → ¬ (s[j].toNat : Int) = 39) :
    (∀ hk : k < s.size, (s[k].toNat : Int) = 39 → wordLen s.data.toList = k + 1) ∧ (s.size ≤ k → wordLen s.data.toList = 0) := by
  obtain ⟨t, ht⟩ := data_cons s hp
  have h0 : s[0] = 39 := byte_eq (n := 39) (by decide) h
  have hlen : t.length + 1 = s.size := by rw [Lib.size_eq, ht]; simp
  have hno' : ∀ j, j < k - 1 → t[j]? ≠ some 39 := by
    intro j hj
    by_cases hjl : j + 1 < s.size
    · rw [tail_at ht j hjl]
      intro e
      have e' : s[j + 1] = 39 := by simpa using e
      exact hno (j + 1) hjl (by omega) (by omega) (by rw [e']; rfl)
    · rw [List.getElem?_eq_none (by omega)]; simp
  constructor
  · intro hk h39
    obtain ⟨m, rfl⟩ : ∃ m, k = m + 1 := ⟨k - 1, by omega⟩
    have hf := idx_first t 39 m hno' (by rw [tail_at ht m hk]; exact congrArg some (byte_eq (n := 39) (by decide) h39))
    rw [ht, wordLen, if_pos h0, hf, if_neg (by omega)]
    omega
  · intro hk
    rw [ht, wordLen, if_pos h0, idx_none t 39 (fun j hj => hno' j (by omega)), if_pos rfl]
theorem word_sign (s : ByteArray) (hp : 0 < s.size) (h : ¬ (s[0].toNat : Int) = 39) (i : Nat) (hi : i < 16) (hs : ((bs signs)[i]'(by rw [bs_size]; exact hi)) = s[0]) : wordLen s.data.toList = 1 := by
  obtain ⟨t, ht⟩ := data_cons s hp
  have h0 : ¬ s[0] = 39 := fun e => h (by rw [e]; rfl)
  have hc : signs.contains s[0] = true := by
    rw [← hs]
    have : (bs signs).data.toList[i]? = some ((bs signs)[i]'(by rw [bs_size]; exact hi)) := data_at _ _ _
    rw [data_bs] at this
    have := List.mem_of_getElem? this
    simpa using this
  rw [ht, wordLen, if_neg h0, if_pos hc]
theorem word_none (s : ByteArray) (hp : 0 < s.size) (h : ¬ (s[0].toNat : Int) = 39) (ht0 : (s.data.toList.takeWhile wdB).length = 0) (hs : ∀ i (hi : i < 16), ¬ ((bs signs)[i]'(by rw [bs_size]; exact hi)) = s[0]) : wordLen s.data.toList = 0 := by
  obtain ⟨t, ht⟩ := data_cons s hp
  have h0 : ¬ s[0] = 39 := fun e => h (by rw [e]; rfl)
  have hc : ¬ signs.contains s[0] = true := by
    intro hc
    have hm : s[0] ∈ signs := by simpa using hc
    obtain ⟨i, hi, he⟩ := List.getElem_of_mem hm
    have hi' : i < 16 := hi
    have : (bs signs).data.toList[i]? = some ((bs signs)[i]'(by rw [bs_size]; exact hi')) := data_at _ _ _
    rw [data_bs, List.getElem?_eq_getElem hi, he] at this
    exact hs i hi' (by simpa using this.symm)
  rw [ht] at ht0
  rw [ht, wordLen, if_neg h0, if_neg hc, ht0]
/-- The word that a text begins with. -/
def headW (l : By) : By := l.take (wordLen l)
theorem head_eq (s : ByteArray) (k : Nat) (h : wordLen s.data.toList = k) : s.extract 0 k = bs (headW s.data.toList) := by
  rw [extract_bs, headW, h]; simp

theorem head_nil (s : ByteArray) (h : wordLen s.data.toList = 0) : (⟨#[]⟩ : ByteArray) = bs (headW s.data.toList) := by
  rw [headW, h]; rfl
theorem sign_at {s : ByteArray} {hp : 0 < s.size} (k : Nat) (h : k < 16) (hc : ((bs signs)[k]'(by rw [bs_size]; exact h)) = s[0]) :
    (((ByteArray.mk #[40, 41, 91, 93, 123, 125, 44, 46, 58, 61, 60, 62, 43, 45, 36, 42])[k]'h).toNat : Int) = (s[0].toNat : Int) := by
  rw [← hc]; rfl
theorem sign_not {s : ByteArray} {hp : 0 < s.size} (k : Nat) (h : k < 16) (hc : ¬ ((bs signs)[k]'(by rw [bs_size]; exact h)) = s[0]) :
    ¬ (((ByteArray.mk #[40, 41, 91, 93, 123, 125, 44, 46, 58, 61, 60, 62, 43, 45, 36, 42])[k]'h).toNat : Int) = (s[0].toNat : Int) := by
  intro e
  apply hc
  apply UInt8.toNat_inj.1
  have e' : ((((bs signs)[k]'(by rw [bs_size]; exact h)).toNat : Nat) : Int) = (s[0].toNat : Int) := e
  omega

set_option maxHeartbeats 2000000 in
theorem l4Word_any (s : ByteArray) (w : World) (hs : s.size ≤ maxLen) (hp : 0 < s.size) :
    Calls Tryd.prog 12 #[.string s] w fun e w' => e = .returned (.string (bs (headW s.data.toList))) ∧ Ext w w' := by
  unfold maxLen at hs
  go_enter Tryd.func12, Tryd.ntmps12
  go_wp2
  go_loop [3] (fun i => ∃ k : Nat, k ≤ s.size ∧ i = .int .i64 k ∧ ∀ j (hj : j < s.size), j < k → wdB s[j] = true) (fun i => s.size - (intOf i).toNat)
  case atStart => exact ⟨0, Nat.zero_le _, rfl, fun j _ h => by omega⟩
  case round =>
    obtain ⟨k, hk, rfl, hno⟩ := hrel
    by_cases hgo : ∃ hlt : k < s.size, wdB s[k] = true
    · obtain ⟨hlt, hw⟩ := hgo
      have hno2 : Hid (∀ j (hj : j < s.size), j < k + 1 → wdB s[j] = true) := fun j hj hjk => by
        rcases Nat.lt_succ_iff_lt_or_eq.1 hjk with h | h
        · exact hno j hj h
        · subst h; exact hw
      clear hno
      cases hl : letB (s[k].toNat : Int)
      · have hf : figB (s[k].toNat : Int) = true := by simpa [wdB, hl] using hw
        have hf1 : 48 ≤ (s[k].toNat : Int) := by unfold figB at hf; exact (of_decide_eq_true hf).1
        have hf2 : (s[k].toNat : Int) ≤ 57 := by unfold figB at hf; exact (of_decide_eq_true hf).2
        clear hw
        go_wp2_with (go_at_call 16; refine (l2Letter_any _ _).mono ?_; rintro e w' ⟨rfl, rfl⟩)
        go_round
        case rel => exact ⟨k + 1, by omega, by go_num, hno2.out⟩
        case measure => simp [intOf]; omega
      · clear hw
        go_wp2_with (go_at_call 16; refine (l2Letter_any _ _).mono ?_; rintro e w' ⟨rfl, rfl⟩)
        go_round
        case rel => exact ⟨k + 1, by omega, by go_num, hno2.out⟩
        case measure => simp [intOf]; omega
    · have hlen : (s.data.toList.takeWhile wdB).length = k := by
        refine takeWhile_upto s k hk hno ?_
        by_cases hlt : k < s.size
        · right; exact ⟨hlt, by cases hc : wdB s[k] with | false => rfl | true => exact absurd ⟨hlt, hc⟩ hgo⟩
        · left; omega
      clear hno
      have hcase : ¬ k < s.size ∨ ∃ hlt : k < s.size, letB (s[k].toNat : Int) = false ∧ ((s[k].toNat : Int) < 48 ∨ 57 < (s[k].toNat : Int)) := by
        by_cases hlt : k < s.size
        · right
          have hw : wdB s[k] = false := by cases hc : wdB s[k] with | false => rfl | true => exact absurd ⟨hlt, hc⟩ hgo
          unfold wdB at hw
          simp only [Bool.or_eq_false_iff] at hw
          refine ⟨hlt, hw.1, ?_⟩
          have := hw.2
          unfold figB at this
          have := of_decide_eq_false this
          omega
        · exact .inl hlt
      clear hgo
      by_cases hk0 : 0 < k
      · have hfin : Hid (s.extract 0 k = bs (headW s.data.toList)) := head_eq s k (word_let s k hk hk0 hlen)
        clear hlen
        rcases hcase with h | ⟨hlt, hl, hb | hb⟩
        · go_wp2
          go_ret
          exact ⟨ret_str hfin.out, Ext.refl _⟩
        all_goals
          go_wp2_with (go_at_call 16; refine (l2Letter_any _ _).mono ?_; rintro e w' ⟨rfl, rfl⟩)
          go_ret
          exact ⟨ret_str hfin.out, Ext.refl _⟩
      · obtain rfl : k = 0 := by omega
        obtain ⟨hlt, hl, hb⟩ := hcase.resolve_left (by omega)
        clear hcase hk hk0
        by_cases h39 : (s[0].toNat : Int) = 39
        · have hq := fun k h1 hno => word_quote s hp h39 k h1 hno
          have hb' : (s[0].toNat : Int) < 48 := by omega
          clear hb hlen
          go_wp2_with (go_at_call 16; refine (l2Letter_any _ _).mono ?_; rintro e w' ⟨rfl, rfl⟩)
          go_loop [3] (fun i => ∃ k : Nat, 1 ≤ k ∧ k ≤ s.size ∧ i = .int .i64 k ∧ ∀ j (hj : j < s.size), 1 ≤ j → j < k → ¬ (s[j].toNat : Int) = 39) (fun i => s.size - (intOf i).toNat)
          case atStart => exact ⟨1, by omega, by omega, rfl, fun j _ h1 h2 => by omega⟩
          case round =>
            obtain ⟨k, hk1, hk, rfl, hno⟩ := hrel
            by_cases hltk : k < s.size
            · by_cases hc : (s[k].toNat : Int) = 39
              · have hfin : Hid (s.extract 0 (k + 1) = bs (headW s.data.toList)) := head_eq s (k + 1) ((hq k hk1 hno).1 hltk hc)
                clear hno hq
                go_wp2
                go_ret
                exact ⟨ret_str hfin.out, Ext.refl _⟩
              · have hno2 : Hid (∀ j (hj : j < s.size), 1 ≤ j → j < k + 1 → ¬ (s[j].toNat : Int) = 39) := fun j hj h1 hjk => by
                  rcases Nat.lt_succ_iff_lt_or_eq.1 hjk with h | h
                  · exact hno j hj h1 h
                  · subst h; exact hc
                clear hno hq
                go_wp2
                go_round
                case rel => exact ⟨k + 1, by omega, by omega, by go_num, hno2.out⟩
                case measure => simp [intOf]; omega
            · have hfin : Hid ((⟨#[]⟩ : ByteArray) = bs (headW s.data.toList)) := head_nil s ((hq k hk1 hno).2 (by omega))
              clear hno hq
              go_wp2
              go_ret
              exact ⟨ret_str hfin.out, Ext.refl _⟩
        · have hyes := fun i hi hs => word_sign s hp h39 i hi hs
          have hnone := word_none s hp h39 hlen
          clear hlen
          rcases hb with hb | hb
          all_goals
            go_wp2_with (go_at_call 16; refine (l2Letter_any _ _).mono ?_; rintro e w' ⟨rfl, rfl⟩)
            go_loopw [5] (fun i wr => ∃ k : Nat, k ≤ 16 ∧ i = .int .i64 k ∧ Ext w' wr ∧ ∀ j (hj : j < 16), j < k → ¬ ((bs signs)[j]'(by rw [bs_size]; exact hj)) = s[0]) (fun i _ => 16 - (intOf i).toNat)
            case atStart => exact ⟨0, by omega, rfl, Ext.refl _, fun j _ h => by omega⟩
            case round =>
              obtain ⟨k, hk, rfl, hE, hno⟩ := hrel
              by_cases hltk : k < 16
              · by_cases hc : ((bs signs)[k]'(by rw [bs_size]; exact hltk)) = s[0]
                · have hfin : Hid (s.extract 0 1 = bs (headW s.data.toList)) := head_eq s 1 (hyes k hltk hc)
                  have hc' := sign_at k hltk hc
                  clear hno hyes hnone hc
                  go_wp2_with fail
                  go_region
                  all_goals
                    go_wp2
                    go_ret
                    exact ⟨ret_str hfin.out, hE.drew⟩
                · have hno2 : Hid (∀ j (hj : j < 16), j < k + 1 → ¬ ((bs signs)[j]'(by rw [bs_size]; exact hj)) = s[0]) := fun j hj hjk => by
                    rcases Nat.lt_succ_iff_lt_or_eq.1 hjk with h | h
                    · exact hno j hj h
                    · subst h; exact hc
                  have hc' := sign_not k hltk hc
                  clear hno hyes hnone hc
                  go_wp2_with fail
                  go_region
                  all_goals
                    go_wp2
                    go_roundw
                    case rel => exact ⟨k + 1, by omega, by go_num, hE.drew, hno2.out⟩
                    case measure => simp [intOf]; omega
              · have hfin : Hid ((⟨#[]⟩ : ByteArray) = bs (headW s.data.toList)) := head_nil s (hnone (fun i hi => hno i hi (by omega)))
                clear hno hyes hnone
                go_wp2
                go_ret
                exact ⟨ret_str hfin.out, hE⟩
end Go.Proofs.YthalmejmehjdgaaDoor
