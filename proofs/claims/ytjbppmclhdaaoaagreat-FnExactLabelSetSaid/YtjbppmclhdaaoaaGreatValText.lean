/- What the small functions answer: whether a number lies between two, whether a text may be one. -/
import Derived.Test.YtjbppmclhdaaoaaGreatValMem
import Derived.Test.YtjbppmclhdaaoaaGreatIn1
namespace Go.Proofs.YtjbppmclhdaaoaaGreat
open Go.RowKit Go.Deep

def chrOk (s : ByteArray) (k : Nat) : Bool := decide (32 ≤ chr s k ∧ chr s k ≤ 126 ∧ ¬ chr s k = 39)
def textB (s : ByteArray) : Bool := (List.range s.size).all (chrOk s) && decide (s.size ≤ 16)

theorem text_no (s : ByteArray) (k : Nat) (hk : k < s.size) (h : chrOk s k = false) : textB s = false := by
  have : (List.range s.size).all (chrOk s) = false := by
    rw [List.all_eq_false]
    exact ⟨k, List.mem_range.2 hk, by simp [h]⟩
  simp [textB, this]
theorem chr_no (s : ByteArray) (k : Nat) (hk : k < s.size) (h : (s[k].toNat : Int) < 32 ∨ 126 < (s[k].toNat : Int) ∨ (s[k].toNat : Int) = 39) : chrOk s k = false := by
  unfold chrOk
  rw [chr_eq s k hk]
  exact decide_eq_false (by omega)
theorem chr_yes (s : ByteArray) (k : Nat) (hk : k < s.size) (h1 : 32 ≤ (s[k].toNat : Int)) (h2 : (s[k].toNat : Int) ≤ 126) (h3 : ¬ (s[k].toNat : Int) = 39) : chrOk s k = true := by
  unfold chrOk
  rw [chr_eq s k hk]
  exact decide_eq_true ⟨h1, h2, h3⟩
theorem chr_upto {s : ByteArray} {k : Nat} (hno : ∀ j, j < k → chrOk s j = true) (h : chrOk s k = true) : ∀ j, j < k + 1 → chrOk s j = true := by
  intro j hj
  rcases Nat.lt_succ_iff_lt_or_eq.1 hj with h' | h'
  · exact hno j h'
  · subst h'; exact h
theorem text_end (s : ByteArray) (k : Nat) (hk : ¬ k < s.size) (h : ∀ j, j < k → chrOk s j = true) : decide (s.size ≤ 16) = textB s := by
  have : (List.range s.size).all (chrOk s) = true := by
    rw [List.all_eq_true]
    intro j hj
    exact h j (by have := List.mem_range.1 hj; omega)
  simp [textB, this]

set_option maxHeartbeats 1000000 in
theorem l1Text_any (s : ByteArray) (w : World) (hs : s.size ≤ maxLen) : Calls Tryz.prog 87 #[.string s] w fun e w' => e = .returned (.bool (textB s)) ∧ w' = w := by
  unfold maxLen at hs
  go_enter Tryz.func87, Tryz.ntmps87
  go_wp2
  go_loop [3] (fun i => ∃ k : Nat, k ≤ s.size ∧ i = .int .i64 k ∧ ∀ j, j < k → chrOk s j = true) (fun i => s.size - (intOf i).toNat)
  case atStart => exact ⟨0, Nat.zero_le _, rfl, fun j h => by omega⟩
  case round =>
    obtain ⟨k, hk, rfl, hno⟩ := hrel
    by_cases hlt : k < s.size
    · by_cases hbad : (s[k].toNat : Int) < 32 ∨ 126 < (s[k].toNat : Int) ∨ (s[k].toNat : Int) = 39
      · have hfin : Hid (textB s = false) := text_no s k hlt (chr_no s k hlt hbad)
        rcases hbad with hb | hb | hb
        · go_wp2
          go_ret
          exact ⟨ret_bool hfin.out.symm, rfl⟩
        · go_wp2
          go_ret
          exact ⟨ret_bool hfin.out.symm, rfl⟩
        · have hb2 : ((s[k].toNat : Int) == 39) = true := by rw [hb]; rfl
          have hb3 : ¬ (s[k].toNat : Int) < 32 := by omega
          have hb4 : ¬ 126 < (s[k].toNat : Int) := by omega
          clear hb
          go_wp2
          go_ret
          exact ⟨ret_bool hfin.out.symm, rfl⟩
      · have hb1 : 32 ≤ (s[k].toNat : Int) := by omega
        have hb2 : (s[k].toNat : Int) ≤ 126 := by omega
        have hb3 : ((s[k].toNat : Int) == 39) = false := by simp; omega
        have hok : Hid (chrOk s k = true) := chr_yes s k hlt hb1 hb2 (by omega)
        clear hbad
        go_wp2
        go_round
        case rel => exact ⟨k + 1, by omega, by go_num, chr_upto hno hok.out⟩
        case measure => simp [intOf]; omega
    · have hfin : Hid (decide (s.size ≤ 16) = textB s) := text_end s k hlt hno
      clear hno
      go_wp2
      go_ret
      refine ⟨ret_bool ?_, rfl⟩
      rw [← hfin.out, Bool.eq_iff_iff]; simp; omega

set_option maxHeartbeats 1000000 in
theorem textOk_any (s : ByteArray) (w : World) (hs : s.size ≤ maxLen) : Calls Tryz.prog 101 #[.string s] w fun e w' => e = .returned (.bool (textB s)) ∧ w' = w := by
  unfold maxLen at hs
  by_cases h16 : 16 < s.size
  · have hfin : Hid (textB s = false) := by
      have : decide (s.size ≤ 16) = false := decide_eq_false (by omega)
      show _ = _
      simp [textB, this]
    go_enter Tryz.func101, Tryz.ntmps101
    go_wp2
    go_ret
    exact ⟨ret_bool hfin.out.symm, rfl⟩
  · go_enter Tryz.func101, Tryz.ntmps101
    go_wp2
    go_loop [3] (fun i => ∃ k : Nat, k ≤ s.size ∧ i = .int .i64 k ∧ ∀ j, j < k → chrOk s j = true) (fun i => s.size - (intOf i).toNat)
    case atStart => exact ⟨0, Nat.zero_le _, rfl, fun j h => by omega⟩
    case round =>
      obtain ⟨k, hk, rfl, hno⟩ := hrel
      by_cases hlt : k < s.size
      · by_cases hbad : (s[k].toNat : Int) < 32 ∨ 126 < (s[k].toNat : Int) ∨ (s[k].toNat : Int) = 39
        · have hfin : Hid (textB s = false) := text_no s k hlt (chr_no s k hlt hbad)
          rcases hbad with hb | hb | hb
          · go_wp2
            go_ret
            exact ⟨ret_bool hfin.out.symm, rfl⟩
          · go_wp2
            go_ret
            exact ⟨ret_bool hfin.out.symm, rfl⟩
          · have hb2 : ((s[k].toNat : Int) == 39) = true := by rw [hb]; rfl
            have hb3 : ¬ (s[k].toNat : Int) < 32 := by omega
            have hb4 : ¬ 126 < (s[k].toNat : Int) := by omega
            clear hb
            go_wp2
            go_ret
            exact ⟨ret_bool hfin.out.symm, rfl⟩
        · have hb1 : 32 ≤ (s[k].toNat : Int) := by omega
          have hb2 : (s[k].toNat : Int) ≤ 126 := by omega
          have hb3 : ((s[k].toNat : Int) == 39) = false := by simp; omega
          have hok : Hid (chrOk s k = true) := chr_yes s k hlt hb1 hb2 (by omega)
          clear hbad
          go_wp2
          go_round
          case rel => exact ⟨k + 1, by omega, by go_num, chr_upto hno hok.out⟩
          case measure => simp [intOf]; omega
      · have hfin : Hid (textB s = true) := by
          have h1 := text_end s k hlt hno
          show _ = _
          rw [← h1]; exact decide_eq_true (by omega)
        clear hno
        go_wp2
        go_ret
        exact ⟨ret_bool hfin.out.symm, rfl⟩
end Go.Proofs.YtjbppmclhdaaoaaGreat
