/- What spec.l2Name, spec.NameOk and impl.NameOk answer: all three the same Bool function of the text. -/
import Derived.Test.YtejahpkpmbnmkaaGreatK
namespace Go.Proofs.YtejahpkpmbnmkaaGreat
open Go.RowKit

def okAt (s : ByteArray) (k : Nat) : Bool := letB (chr s k) || (k != 0 && figB (chr s k))
def allB (s : ByteArray) : Bool := (List.range s.size).all (okAt s)
def nameB (s : ByteArray) : Bool := allB s && inB s.size 1 8 && !keptB s

theorem all_false (s : ByteArray) (k : Nat) (hk : k < s.size) (h : okAt s k = false) : nameB s = false := by
  have : allB s = false := by
    unfold allB
    rw [List.all_eq_false]
    exact ⟨k, List.mem_range.2 hk, by simp [h]⟩
  simp [nameB, this]
theorem all_true (s : ByteArray) (k : Nat) (hk : ¬ k < s.size) (h : ∀ j, j < k → okAt s j = true) : allB s = true := by
  unfold allB
  rw [List.all_eq_true]
  intro j hj
  exact h j (by have := List.mem_range.1 hj; omega)

theorem ok_no (s : ByteArray) (k : Nat) (hk : k < s.size) (hl : letB (s[k].toNat : Int) = false) (h : k = 0 ∨ (s[k].toNat : Int) < 48 ∨ 57 < (s[k].toNat : Int)) : okAt s k = false := by
  unfold okAt
  rw [chr_eq s k hk, hl]
  rcases h with rfl | h
  · rfl
  · have : figB (s[k].toNat : Int) = false := by unfold figB; exact decide_eq_false (by omega)
    rw [this]; simp
theorem ok_let (s : ByteArray) (k : Nat) (hk : k < s.size) (hl : letB (s[k].toNat : Int) = true) : okAt s k = true := by
  unfold okAt
  rw [chr_eq s k hk, hl]; rfl
theorem ok_fig (s : ByteArray) (k : Nat) (hk : k < s.size) (h0 : ¬ k = 0) (h1 : 48 ≤ (s[k].toNat : Int)) (h2 : (s[k].toNat : Int) ≤ 57) : okAt s k = true := by
  unfold okAt
  rw [chr_eq s k hk]
  have : figB (s[k].toNat : Int) = true := by unfold figB; exact decide_eq_true ⟨h1, h2⟩
  rw [this]; simp [h0]
theorem ok_upto {s : ByteArray} {k : Nat} (hno : ∀ j, j < k → okAt s j = true) (h : okAt s k = true) : ∀ j, j < k + 1 → okAt s j = true := by
  intro j hj
  rcases Nat.lt_succ_iff_lt_or_eq.1 hj with h' | h'
  · exact hno j h'
  · subst h'; exact h

set_option maxHeartbeats 1000000 in
theorem l2Name_any (s : ByteArray) (w : World) (hs : s.size ≤ maxLen) : Calls Tryz.prog 31 #[.string s] w fun e w' => e = .returned (.bool (nameB s)) ∧ Ext w w' := by
  unfold maxLen at hs
  go_enter Tryz.func31, Tryz.ntmps31
  go_wp2
  go_loop [3] (fun i => ∃ k : Nat, k ≤ s.size ∧ i = .int .i64 k ∧ ∀ j, j < k → okAt s j = true) (fun i => s.size - (intOf i).toNat)
  case atStart => exact ⟨0, Nat.zero_le _, rfl, fun j h => by omega⟩
  case round =>
    obtain ⟨k, hk, rfl, hno⟩ := hrel
    by_cases hlt : k < s.size
    · cases hl : letB (s[k].toNat : Int)
      · by_cases hbad : k = 0 ∨ (s[k].toNat : Int) < 48 ∨ 57 < (s[k].toNat : Int)
        · have hfin : Hid (nameB s = false) := all_false s k hlt (ok_no s k hlt hl hbad)
          rcases hbad with rfl | hb
          · go_wp2_with (go_at_call 50; refine (l2Letter_any _ _).mono ?_; rintro e w' ⟨rfl, rfl⟩)
            go_ret
            exact ⟨ret_bool hfin.out.symm, Ext.refl _⟩
          · by_cases hk0 : k = 0
            · subst hk0
              go_wp2_with (go_at_call 50; refine (l2Letter_any _ _).mono ?_; rintro e w' ⟨rfl, rfl⟩)
              go_ret
              exact ⟨ret_bool hfin.out.symm, Ext.refl _⟩
            · have hk1 : ((k : Int) == 0) = false := by simp [hk0]
              rcases hb with hb | hb
              all_goals
                go_wp2_with (go_at_call 50; refine (l2Letter_any _ _).mono ?_; rintro e w' ⟨rfl, rfl⟩)
                go_ret
                exact ⟨ret_bool hfin.out.symm, Ext.refl _⟩
        · have hk0 : ¬ k = 0 := by omega
          have hk1 : ((k : Int) == 0) = false := by simp [hk0]
          have hb1 : 48 ≤ (s[k].toNat : Int) := by omega
          have hb2 : (s[k].toNat : Int) ≤ 57 := by omega
          clear hbad
          go_wp2_with (go_at_call 50; refine (l2Letter_any _ _).mono ?_; rintro e w' ⟨rfl, rfl⟩)
          go_round
          case rel => exact ⟨k + 1, by omega, by go_num, ok_upto hno (ok_fig s k hlt hk0 hb1 hb2)⟩
          case measure => simp [intOf]; omega
      · go_wp2_with (go_at_call 50; refine (l2Letter_any _ _).mono ?_; rintro e w' ⟨rfl, rfl⟩)
        go_round
        case rel => exact ⟨k + 1, by omega, by go_num, ok_upto hno (ok_let s k hlt hl)⟩
        case measure => simp [intOf]; omega
    · have hall : Hid (allB s = true) := all_true s k hlt hno
      clear hno
      cases hi : inB s.size 1 8
      · go_wp2_with (go_at_call 17; refine (l1In_any _ _ _ _).mono ?_; rintro e w' ⟨rfl, rfl⟩)
        go_ret
        exact ⟨ret_bool (by simp [nameB, hi]), Ext.refl _⟩
      · go_wp2_with (first | (go_at_call 17; refine (l1In_any _ _ _ _).mono ?_; rintro e w' ⟨rfl, rfl⟩) | (go_at_call 51; refine (l2Kept_any _ _).mono ?_; rintro e w' ⟨rfl, hg⟩))
        go_ret
        exact ⟨ret_bool (by simp [nameB, hi, hall.out]), hg⟩

theorem toList_nil (s : ByteArray) : s.toList = [] ↔ s.size = 0 := by
  rw [ByteArray.toList_eq, List.eq_nil_iff_length_eq_zero]; exact Iff.rfl
theorem no_size (s : ByteArray) (h : s.size = 0 ∨ 8 < s.size) : nameB s = false := by
  have : inB s.size 1 8 = false := by unfold inB; exact decide_eq_false (by omega)
  simp [nameB, this]
theorem ok_bad (s : ByteArray) (k : Nat) (hk : k < s.size) (hl : letB (s[k].toNat : Int) = false) (hf : figB (s[k].toNat : Int) = false) : okAt s k = false := by
  unfold okAt
  rw [chr_eq s k hk, hl, hf]; simp
theorem ok_fig2 (s : ByteArray) (k : Nat) (hk : k < s.size) (h0 : ¬ k = 0) (hf : figB (s[k].toNat : Int) = true) : okAt s k = true := by
  unfold okAt
  rw [chr_eq s k hk, hf]; simp [h0]

set_option maxHeartbeats 1000000 in
theorem implNameOk_any (s : ByteArray) (w : World) (hs : s.size ≤ maxLen) : Calls Tryz.prog 57 #[.string s] w fun e w' => e = .returned (.bool (nameB s)) ∧ w' = w := by
  unfold maxLen at hs
  by_cases hE : s.toList = []
  · have hfin : Hid (nameB s = false) := no_size s (.inl ((toList_nil s).1 hE))
    go_enter Tryz.func57, Tryz.ntmps57
    go_wp2
    go_ret
    exact ⟨ret_bool hfin.out.symm, rfl⟩
  · have hpos : 0 < s.size := by have := mt (toList_nil s).2 hE; omega
    have hE2 : s.toList.isEmpty = false := by simp [hE]
    by_cases h8 : 8 < s.size
    · have hfin : Hid (nameB s = false) := no_size s (.inr h8)
      go_enter Tryz.func57, Tryz.ntmps57
      go_wp2
      go_ret
      exact ⟨ret_bool hfin.out.symm, rfl⟩
    · cases hl0 : letB (s[0].toNat : Int)
      · have hfin : Hid (nameB s = false) := all_false s 0 hpos (ok_no s 0 hpos hl0 (.inl rfl))
        go_enter Tryz.func57, Tryz.ntmps57
        go_wp2_with (go_at_call 69; refine (isLetter_any _ _).mono ?_; rintro e w' ⟨rfl, rfl⟩)
        go_ret
        exact ⟨ret_bool hfin.out.symm, rfl⟩
      · cases hkp : keptB s
        · have hin : inB s.size 1 8 = true := by unfold inB; exact decide_eq_true (by omega)
          go_enter Tryz.func57, Tryz.ntmps57
          go_wp2_with (first | (go_at_call 69; refine (isLetter_any _ _).mono ?_; rintro e w' ⟨rfl, rfl⟩) | (go_at_call 70; refine (isKept_any _ _).mono ?_; rintro e w' ⟨rfl, rfl⟩))
          go_loop [3] (fun i => ∃ k : Nat, k ≤ s.size ∧ i = .int .i64 k ∧ ∀ j, j < k → okAt s j = true) (fun i => s.size - (intOf i).toNat)
          case atStart => exact ⟨0, Nat.zero_le _, rfl, fun j h => by omega⟩
          case round =>
            obtain ⟨k, hk, rfl, hno⟩ := hrel
            by_cases hlt : k < s.size
            · cases hl : letB (s[k].toNat : Int)
              · have hk0 : ¬ k = 0 := by intro h; subst h; rw [hl0] at hl; cases hl
                cases hf : figB (s[k].toNat : Int)
                · have hfin : Hid (nameB s = false) := all_false s k hlt (ok_bad s k hlt hl hf)
                  go_wp2_with (first | (go_at_call 69; refine (isLetter_any _ _).mono ?_; rintro e w' ⟨rfl, rfl⟩) | (go_at_call 71; refine (isFigure_any _ _).mono ?_; rintro e w' ⟨rfl, rfl⟩))
                  go_ret
                  exact ⟨ret_bool hfin.out.symm, rfl⟩
                · go_wp2_with (first | (go_at_call 69; refine (isLetter_any _ _).mono ?_; rintro e w' ⟨rfl, rfl⟩) | (go_at_call 71; refine (isFigure_any _ _).mono ?_; rintro e w' ⟨rfl, rfl⟩))
                  go_round
                  case rel => exact ⟨k + 1, by omega, by go_num, ok_upto hno (ok_fig2 s k hlt hk0 hf)⟩
                  case measure => simp [intOf]; omega
              · go_wp2_with (go_at_call 69; refine (isLetter_any _ _).mono ?_; rintro e w' ⟨rfl, rfl⟩)
                go_round
                case rel => exact ⟨k + 1, by omega, by go_num, ok_upto hno (ok_let s k hlt hl)⟩
                case measure => simp [intOf]; omega
            · have hfin : Hid (nameB s = true) := by show _ = _; simp [nameB, hin, hkp, all_true s k hlt hno]
              clear hno
              go_wp2
              go_ret
              exact ⟨ret_bool hfin.out.symm, rfl⟩
        · have hfin : Hid (nameB s = false) := by show _ = _; simp [nameB, hkp]
          go_enter Tryz.func57, Tryz.ntmps57
          go_wp2_with (first | (go_at_call 69; refine (isLetter_any _ _).mono ?_; rintro e w' ⟨rfl, rfl⟩) | (go_at_call 70; refine (isKept_any _ _).mono ?_; rintro e w' ⟨rfl, rfl⟩))
          go_ret
          exact ⟨ret_bool hfin.out.symm, rfl⟩
end Go.Proofs.YtejahpkpmbnmkaaGreat
