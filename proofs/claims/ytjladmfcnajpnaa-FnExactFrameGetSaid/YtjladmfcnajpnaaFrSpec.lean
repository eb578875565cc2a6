/- What spec.FrameGet answers. -/
import Derived.Test.YtjladmfcnajpnaaFrNum
import Derived.Deep.DeepCutAuto
import Derived.Deep.CutBlock
namespace Go.Proofs.Ytjladmfcnajpnaa
open Go.RowKit

theorem ret_strint {a : ByteArray × Int} {b : ByteArray} {c : Int} (h : a = (b, c)) : Ending.returned (.tuple #[.string b, .int .i64 c]) = .returned (.tuple #[.string a.1, .int .i64 a.2]) := by rw [h]
theorem isK_no {s : ByteArray} {k m : Nat} (h : IsK s m) (hf : Figs s k) (h5 : k ≤ 5) (hl : k ≤ s.size) (hn : k = 5 ∨ k = s.size ∨ figB (chr s k) = false) : m = k := h.unique ⟨h5, hl, hf, hn⟩

set_option maxHeartbeats 2000000 in
theorem specFrameGet_any (s : ByteArray) (m : Nat) (hm : IsK s m) (w : World) (hs : s.size ≤ 1048576) : Calls Try.prog 4 #[.string s] w fun e w' => e = .returned (.tuple #[.string (ansK s m).1, .int .i64 (ansK s m).2]) ∧ w' = w := by
  go_enter Try.func4, Try.ntmps4
  go_upto_block 0 with fail
  go_cut [4] (fun p wc => p = .int .i64 m ∧ wc = w)
  case first =>
    go_wp2_with fail
    go_loop [4] (fun i => ∃ k : Nat, k ≤ s.size ∧ k ≤ 5 ∧ i = .int .i64 k ∧ Figs s k) (fun i => s.size - (intOf i).toNat)
    case atStart => exact ⟨0, Nat.zero_le _, Nat.zero_le _, rfl, fun j h => by omega⟩
    case round =>
      obtain ⟨k, hk, hk5, rfl, hf⟩ := hrel
      by_cases hlt : k < s.size
      · by_cases h5 : k = 5
        · have hfin : Hid (m = k) := isK_no hm hf hk5 hk (.inl h5)
          subst h5
          go_wp2
          go_meet
          case rel => exact ⟨by rw [hfin.out]; rfl, rfl⟩
        · have h5b : k < 5 := by omega
          by_cases h1 : (s[k].toNat : Int) < 48
          · have hfin : Hid (m = k) := isK_no hm hf hk5 hk (.inr (.inr ((figB_no _).2 (by rw [chr_eq s k hlt]; exact .inl h1))))
            go_wp2
            go_meet
            case rel => exact ⟨by rw [hfin.out], rfl⟩
          · by_cases h2 : 57 < (s[k].toNat : Int)
            · have hfin : Hid (m = k) := isK_no hm hf hk5 hk (.inr (.inr ((figB_no _).2 (by rw [chr_eq s k hlt]; exact .inr h2))))
              go_wp2
              go_meet
              case rel => exact ⟨by rw [hfin.out], rfl⟩
            · have hfk : Hid (Figs s (k + 1)) := hf.succ ((figB_iff _).2 (by rw [chr_eq s k hlt]; omega))
              have g1 : 48 ≤ (s[k].toNat : Int) := by omega
              have g2 : (s[k].toNat : Int) ≤ 57 := by omega
              go_wp2
              go_round
              case rel => exact ⟨k + 1, by omega, by omega, by go_num, hfk.out⟩
              case measure => simp [intOf]; omega
      · have hfin : Hid (m = k) := isK_no hm hf hk5 hk (.inr (.inl (by omega)))
        go_wp2
        go_meet
        case rel => exact ⟨by rw [hfin.out], rfl⟩
  case rest =>
    obtain ⟨rfl, rfl⟩ := hcut
    have h5 := hm.five
    have hle := hm.le
    have hex : (s.extract 0 m).size ≤ maxLen := by rw [size_extract0 hle]; unfold maxLen; omega
    have hN : l1NumV (s.extract 0 m) = headN s m := l1NumV_extract hm
    by_cases hm0 : m = 0
    · subst hm0
      have hN0 : l1NumV ByteArray.empty = -1 := by simp [l1NumV]
      clear hN hex
      by_cases he : s.size = 0
      · have hfin : Hid (ansK s 0 = (ByteArray.empty, 0)) := ans_all (fun q => Nat.lt_irrefl _ q.1) he.symm
        go_wp2_with (go_at_call 6; refine (l1Num_any ByteArray.empty _ (by decide)).mono ?_; rintro e w' ⟨rfl, rfl⟩; rw [hN0])
        go_ret2
        exact ⟨ret_strint hfin.out, rfl⟩
      · have hfin : Hid (ansK s 0 = (ByteArray.empty, -1)) := ans_colon (by omega) (.inr rfl)
        have hpos : 0 < s.size := by omega
        by_cases h1 : ((s[0]'hpos).toNat : Int) = 58
        · have hcb : (((s[0]'hpos).toNat : Int) != 58) = false := by simp [h1]
          clear h1
          go_wp2_with (go_at_call 6; refine (l1Num_any ByteArray.empty _ (by decide)).mono ?_; rintro e w' ⟨rfl, rfl⟩; rw [hN0])
          go_ret2
          exact ⟨ret_strint hfin.out, rfl⟩
        · have hcb : (((s[0]'hpos).toNat : Int) != 58) = true := by simp [h1]
          clear h1
          go_wp2_with (go_at_call 6; refine (l1Num_any ByteArray.empty _ (by decide)).mono ?_; rintro e w' ⟨rfl, rfl⟩; rw [hN0])
          go_ret2
          exact ⟨ret_strint hfin.out, rfl⟩
    · by_cases hbig : headN s m < 0 ∨ 6000 < headN s m
      · have hfin : Hid (ansK s m = (ByteArray.empty, -1)) := ans_big (by omega) hbig
        generalize headN s m = n at *
        rcases Classical.em (n < 0) with h1 | h1
        · clear hbig
          go_wp2_with (go_at_call 6; refine (l1Num_any _ _ hex).mono ?_; rintro e w' ⟨rfl, rfl⟩; rw [hN])
          go_ret2
          exact ⟨ret_strint hfin.out, rfl⟩
        · have h2 : 6000 < n := by omega
          clear hbig
          go_wp2_with (go_at_call 6; refine (l1Num_any _ _ hex).mono ?_; rintro e w' ⟨rfl, rfl⟩; rw [hN])
          go_ret2
          exact ⟨ret_strint hfin.out, rfl⟩
      · by_cases he : m = s.size
        · have hfin : Hid (ansK s m = (ByteArray.empty, 0)) := ans_all (fun q => hbig q.2) he
          have h1 : ¬ headN s m < 0 := by omega
          have h2 : ¬ 6000 < headN s m := by omega
          generalize headN s m = n at *
          clear hbig
          have he2 : ((m : Int) == (s.size : Int)) = true := by simp [he]
          clear he
          go_wp2_with (go_at_call 6; refine (l1Num_any _ _ hex).mono ?_; rintro e w' ⟨rfl, rfl⟩; rw [hN])
          go_ret2
          exact ⟨ret_strint hfin.out, rfl⟩
        · have hlt : m < s.size := by omega
          by_cases hc : ((s[m]'hlt).toNat : Int) = 58
          · have hc2 : ¬ (chr s m ≠ 58 ∨ m = 0) := by rw [chr_eq s m hlt]; omega
            have hcb : (((s[m]'hlt).toNat : Int) != 58) = false := by simp [hc]
            obtain ⟨q, hq⟩ : ∃ q : Nat, headN s m = q := ⟨(headN s m).toNat, by omega⟩
            have hq6 : q ≤ 6000 := by omega
            by_cases hl : s.size < m + q + 2
            · have hfin : Hid (ansK s m = (ByteArray.empty, 0)) := ans_less hbig he hc2 (by rw [hq]; exact hl)
              rw [hq] at hN
              clear hbig hq hc
              go_wp2_with (go_at_call 6; refine (l1Num_any _ _ hex).mono ?_; rintro e w' ⟨rfl, rfl⟩; rw [hN])
              go_ret2
              exact ⟨ret_strint hfin.out, rfl⟩
            · have hlt2 : m + q + 1 < s.size := by omega
              have hch : chr s (m + q + 1) = ((s[m + q + 1]'hlt2).toNat : Int) := chr_eq s _ hlt2
              by_cases hn : ((s[m + q + 1]'hlt2).toNat : Int) = 10
              · have hfin : Hid (ansK s m = (s.extract (m + 1) (m + q + 1), (m : Int) + q + 2)) := by
                  have := ans_body hbig he hc2 (by rw [hq]; exact hl) (by rw [hq]; show ¬ chr s (m + q + 1) ≠ 10; rw [hch]; omega)
                  rw [hq] at this
                  exact this
                have hnb : (((s[m + q + 1]'hlt2).toNat : Int) != 10) = false := by simp [hn]
                have hsl : ∀ W : World, (Instr.slice 9 (.string s) (some (.int .i64 ((m : Int) + 1))) (some (.int .i64 ((m : Int) + 1 + (q : Int)))) none).run Try.prog W = .ok (.string (s.extract (m + 1) (m + q + 1))) W := fun W => by
                  rw [run_slice_string W 9 s .i64 .i64 _ _ Try.underlying9 (by omega) (by omega) (by omega)]
                  congr 2
                  congr 1 <;> omega
                rw [hq] at hN
                clear hbig hq hc hch hn
                go_wp2_with (go_at_call 6; refine (l1Num_any _ _ hex).mono ?_; rintro e w' ⟨rfl, rfl⟩; rw [hN])
                go_ret2
                exact ⟨ret_strint hfin.out, rfl⟩
              · have hfin : Hid (ansK s m = (ByteArray.empty, -1)) := ans_end hbig he hc2 (by rw [hq]; exact hl) (by rw [hq]; show chr s (m + q + 1) ≠ 10; rw [hch]; exact hn)
                have hnb : (((s[m + q + 1]'hlt2).toNat : Int) != 10) = true := by simp [hn]
                rw [hq] at hN
                clear hbig hq hc hch hn
                go_wp2_with (go_at_call 6; refine (l1Num_any _ _ hex).mono ?_; rintro e w' ⟨rfl, rfl⟩; rw [hN])
                go_ret2
                exact ⟨ret_strint hfin.out, rfl⟩
          · have hfin : Hid (ansK s m = (ByteArray.empty, -1)) := ans_colon he (.inl (by rw [chr_eq s m hlt]; exact hc))
            have h1 : ¬ headN s m < 0 := by omega
            have h2 : ¬ 6000 < headN s m := by omega
            have hcb : (((s[m]'hlt).toNat : Int) != 58) = true := by simp [hc]
            generalize headN s m = n at *
            clear hbig hc
            go_wp2_with (go_at_call 6; refine (l1Num_any _ _ hex).mono ?_; rintro e w' ⟨rfl, rfl⟩; rw [hN])
            go_ret2
            exact ⟨ret_strint hfin.out, rfl⟩
end Go.Proofs.Ytjladmfcnajpnaa
