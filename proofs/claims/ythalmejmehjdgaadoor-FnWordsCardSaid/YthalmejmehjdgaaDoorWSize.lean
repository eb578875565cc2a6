/- How long the word is that a text begins with: impl.wordSize; what strings.TrimLeft and strings.IndexByte answer at this program. -/
import Derived.Test.YthalmejmehjdgaaDoorWDef
import Derived.Test.YthalmejmehjdgaaDoorLay
namespace Go.Proofs.YthalmejmehjdgaaDoor
open Go.RowKit

theorem indexByte_at (s : ByteArray) (c : Int) (w : World) :
    Calls Tryd.prog 21 #[.string s, .int .u8 c] w fun e w' => e = .returned (.int .i64 (Lib.indexByte s.data.toList c.toNat.toUInt8)) ∧ w' = w :=
  Any.strings_IndexByte Tryd.lays137 s c w

theorem trimLeft_at (s : ByteArray) (w : World) :
    Calls Tryd.prog 14 #[.string s, .string ⟨#[32, 9, 10]⟩] w fun e w' => e = .returned (.string (bs (trimB s.data.toList))) ∧ Ext w w' :=
  Any.strings_TrimLeft_laid Tryd.lays161 (by kernel_rfl) s ⟨#[32, 9, 10]⟩ w (by decide) (ascii_of_all (by decide))

theorem data_cons (s : ByteArray) (h : 0 < s.size) : ∃ t, s.data.toList = s[0] :: t := by
  obtain ⟨⟨l⟩⟩ := s
  cases l with
  | nil => exact absurd h (by decide)
  | cons b t => exact ⟨t, rfl⟩

theorem byte_nat (x : UInt8) : ((x.toNat : Int)).toNat.toUInt8 = x := by simp
theorem byte_eq {x : UInt8} {n : Nat} (hn : n < 256) (h : (x.toNat : Int) = n) : x = n.toUInt8 := by
  apply UInt8.toNat_inj.1
  have : x.toNat = n := by omega
  rw [this]; simp; omega

theorem idx_contains : ∀ (l : By) (c : UInt8), (0 ≤ Lib.indexByte l c) ↔ l.contains c = true := by
  intro l c
  induction l with
  | nil => simp [Lib.indexByte]
  | cons b l ih =>
    unfold Lib.indexByte
    have hge := Lib.indexByte_ge l c
    by_cases hb : b = c
    · subst hb; simp
    · have hbc : (b == c) = false := by simpa using hb
      have hcb : (c == b) = false := by simpa using fun h : c = b => hb h.symm
      rw [hbc, List.contains_cons, hcb, Bool.false_or, ← ih]
      simp only [Bool.false_eq_true, if_false]
      split
      · rename_i h; have : Lib.indexByte l c = -1 := by simpa using h
        omega
      · rename_i h; have : ¬ Lib.indexByte l c = -1 := by simpa using h
        omega

theorem takeWhile_upto (s : ByteArray) (k : Nat) (hk : k ≤ s.size) (h : ∀ j (hj : j < s.size), j < k → wdB s[j] = true) (hend : k = s.size ∨ ∃ hk : k < s.size, wdB s[k] = false) : (s.data.toList.takeWhile wdB).length = k := by
  obtain ⟨⟨l⟩⟩ := s
  have hsz : (ByteArray.mk l.toArray).size = l.length := by show (l.toArray).size = _; simp
  simp only [hsz] at hk h hend
  show (l.takeWhile wdB).length = k
  have h' : ∀ j (hj : j < l.length), j < k → wdB l[j] = true := fun j hj hjk => by have := h j hj hjk; simpa [ByteArray.getElem_eq_getElem_data] using this
  have hend' : k = l.length ∨ ∃ hk : k < l.length, wdB l[k] = false := by
    rcases hend with e | ⟨hk, e⟩
    · exact .inl e
    · exact .inr ⟨hk, by simpa [ByteArray.getElem_eq_getElem_data] using e⟩
  clear h hend hsz
  induction l generalizing k with
  | nil => simp at hk; subst hk; rfl
  | cons b t ih =>
    cases k with
    | zero =>
      rcases hend' with e | ⟨_, e⟩
      · cases e
      · rw [List.takeWhile_cons]; simp at e; simp [e]
    | succ k =>
      have hb : wdB b = true := by have := h' 0 (by simp) (by omega); simpa using this
      rw [List.takeWhile_cons, hb, if_pos rfl, List.length_cons]
      congr 1
      refine ih k (by simpa using hk) (fun j hj hjk => ?_) ?_
      · have := h' (j + 1) (by simp; omega) (by omega); simpa using this
      · rcases hend' with e | ⟨hk', e⟩
        · left; simpa using e
        · right; exact ⟨by simpa using hk', by simpa using e⟩

theorem len_quote {s : ByteArray} (hp : 0 < s.size) (h : (s[0].toNat : Int) = 39) {r : Int} (hr : Lib.indexByte (s.extract 1 s.size).data.toList (39 : Int).toNat.toUInt8 = r) :
    (r < 0 → wordLen s.data.toList = 0) ∧ (0 ≤ r → (wordLen s.data.toList : Int) = r + 2) := by
  obtain ⟨t, ht⟩ := data_cons s hp
  have h0 : s[0] = 39 := byte_eq (n := 39) (by decide) h
  have hge := Lib.indexByte_ge t 39
  have e39 : (39 : Int).toNat.toUInt8 = 39 := by decide
  rw [Lib.extract_to_end, ht, List.drop_one, List.tail_cons, e39] at hr
  rw [ht, wordLen, if_pos h0, hr]
  constructor
  · intro hr0
    rw [if_pos (by omega)]
  · intro hr0
    rw [if_neg (by omega)]
    omega
theorem len_sign {s : ByteArray} (hp : 0 < s.size) (h : ¬ (s[0].toNat : Int) = 39) {r : Int} (hr : Lib.indexByte signs ((s[0].toNat : Int)).toNat.toUInt8 = r) (h0 : 0 ≤ r) : wordLen s.data.toList = 1 := by
  obtain ⟨t, ht⟩ := data_cons s hp
  have hn : ¬ s[0] = 39 := fun e => h (by rw [e]; rfl)
  rw [byte_nat] at hr
  rw [ht, wordLen, if_neg hn, if_pos ((idx_contains _ _).1 (by rw [hr]; exact h0))]
theorem len_word {s : ByteArray} (hp : 0 < s.size) (h : ¬ (s[0].toNat : Int) = 39) {r : Int} (hr : Lib.indexByte signs ((s[0].toNat : Int)).toNat.toUInt8 = r) (h0 : r < 0) {k : Nat} (hk : (s.data.toList.takeWhile wdB).length = k) : wordLen s.data.toList = k := by
  obtain ⟨t, ht⟩ := data_cons s hp
  have hn : ¬ s[0] = 39 := fun e => h (by rw [e]; rfl)
  rw [byte_nat] at hr
  rw [ht] at hk
  rw [ht, wordLen, if_neg hn, if_neg (fun hc => by have := (idx_contains _ _).2 hc; omega), hk]

set_option maxHeartbeats 1000000 in
theorem wordSize_any (s : ByteArray) (w : World) (hs : s.size ≤ maxLen) (hp : 0 < s.size) :
    Calls Tryd.prog 15 #[.string s] w fun e w' => e = .returned (.int .i64 (wordLen s.data.toList)) ∧ w' = w := by
  unfold maxLen at hs
  by_cases h39 : (s[0].toNat : Int) = 39
  · have hq := fun r hr => len_quote hp h39 (r := r) hr
    have hi := indexByte_at (s.extract 1 s.size) 39 w
    have hlt := indexByte_lt (s.extract 1 s.size).data.toList (39 : Int).toNat.toUInt8
    have hsz : (s.extract 1 s.size).data.toList.length + 1 ≤ s.size := by rw [Lib.extract_to_end, List.length_drop, ← Lib.size_eq]; omega
    generalize hr : Lib.indexByte (s.extract 1 s.size).data.toList (39 : Int).toNat.toUInt8 = r at hi hlt
    have hq := hq r hr
    clear hr
    go_enter Tryd.func15, Tryd.ntmps15
    go_wp2_with (go_at_call 21; refine hi.mono ?_; rintro e w' ⟨rfl, rfl⟩)
    · go_ret
      refine ⟨ret_int ?_, rfl⟩
      rw [hq.2 (by assumption)]
    · go_ret
      refine ⟨ret_int ?_, rfl⟩
      rw [hq.1 (by omega)]; rfl
  · have hi := indexByte_at (bs signs) (s[0].toNat : Int) w
    rw [data_bs] at hi
    generalize hr : Lib.indexByte signs ((s[0].toNat : Int)).toNat.toUInt8 = r at hi
    by_cases h0 : 0 ≤ r
    · have hfin : Hid (wordLen s.data.toList = 1) := len_sign hp h39 hr h0
      go_enter Tryd.func15, Tryd.ntmps15
      go_wp2_with (go_at_call 21; refine hi.mono ?_; rintro e w' ⟨rfl, rfl⟩)
      go_ret
      exact ⟨ret_int (by rw [hfin.out]; rfl), rfl⟩
    · have hfin : Hid (∀ k, (s.data.toList.takeWhile wdB).length = k → wordLen s.data.toList = k) := fun k hk => len_word hp h39 hr (by omega) hk
      have h0' : r < 0 := by omega
      clear hr
      go_enter Tryd.func15, Tryd.ntmps15
      go_wp2_with (go_at_call 21; refine hi.mono ?_; rintro e w' ⟨rfl, rfl⟩)
      go_loop [4] (fun i => ∃ k : Nat, k ≤ s.size ∧ i = .int .i64 k ∧ ∀ j (hj : j < s.size), j < k → wdB s[j] = true) (fun i => s.size - (intOf i).toNat)
      case atStart => exact ⟨0, Nat.zero_le _, rfl, fun j _ h => by omega⟩
      case round =>
        obtain ⟨k, hk, rfl, hno⟩ := hrel
        by_cases hlt : k < s.size
        · cases hl : letB (s[k].toNat : Int)
          · cases hf : figB (s[k].toNat : Int)
            · have hend : Hid (wordLen s.data.toList = k) := hfin.out k (takeWhile_upto s k hk hno (.inr ⟨hlt, by simp [wdB, hl, hf]⟩))
              clear hno
              go_wp2_with (first | (go_at_call 22; refine (isLetter_any _ _).mono ?_; rintro e w' ⟨rfl, rfl⟩) | (go_at_call 23; refine (isFigure_any _ _).mono ?_; rintro e w' ⟨rfl, rfl⟩))
              go_ret
              exact ⟨ret_int (by rw [hend.out]), rfl⟩
            · have hno2 : Hid (∀ j (hj : j < s.size), j < k + 1 → wdB s[j] = true) := fun j hj hjk => by
                rcases Nat.lt_succ_iff_lt_or_eq.1 hjk with h | h
                · exact hno j hj h
                · subst h; simp [wdB, hf]
              clear hno
              go_wp2_with (first | (go_at_call 22; refine (isLetter_any _ _).mono ?_; rintro e w' ⟨rfl, rfl⟩) | (go_at_call 23; refine (isFigure_any _ _).mono ?_; rintro e w' ⟨rfl, rfl⟩))
              go_round
              case rel => exact ⟨k + 1, by omega, by go_num, hno2.out⟩
              case measure => simp [intOf]; omega
          · have hno2 : Hid (∀ j (hj : j < s.size), j < k + 1 → wdB s[j] = true) := fun j hj hjk => by
              rcases Nat.lt_succ_iff_lt_or_eq.1 hjk with h | h
              · exact hno j hj h
              · subst h; simp [wdB, hl]
            clear hno
            go_wp2_with (go_at_call 22; refine (isLetter_any _ _).mono ?_; rintro e w' ⟨rfl, rfl⟩)
            go_round
            case rel => exact ⟨k + 1, by omega, by go_num, hno2.out⟩
            case measure => simp [intOf]; omega
        · have hend : Hid (wordLen s.data.toList = k) := hfin.out k (takeWhile_upto s k hk hno (.inl (by omega)))
          clear hno
          go_wp2
          go_ret
          exact ⟨ret_int (by rw [hend.out]), rfl⟩
end Go.Proofs.YthalmejmehjdgaaDoor
