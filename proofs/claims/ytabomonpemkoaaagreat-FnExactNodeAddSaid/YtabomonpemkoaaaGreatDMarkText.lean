/- What laws.markText answers: the mark of a number. -/
import Derived.Test.YtabomonpemkoaaaGreatDMark
namespace Go.Proofs.YtabomonpemkoaaaGreat
open Go.RowKit Go.Deep

set_option maxRecDepth 100000 in
set_option maxHeartbeats 1000000 in
theorem markText_mark (k : Int) (w : World) (h0 : 0 ≤ k) (h1 : k ≤ 1000000000) :
    Calls Tryz.prog 36 #[.int .i64 k] w fun e w' => e = .returned (.string (markM k)) ∧ Ext w w' := by
  by_cases hk : k ≤ 0
  · have hfin : Hid (markM k = ⟨#[109, 48]⟩) := by show _ = _; rw [markM, if_pos hk]
    go_enter Tryz.func36, Tryz.ntmps36
    go_wp2
    go_ret
    exact ⟨ret_str hfin.out.symm, Ext.refl _⟩
  · have hfin : Hid (markM k = ⟨#[109]⟩ ++ digM k ⟨#[]⟩) := by show _ = _; rw [markM, if_neg hk]
    go_enter Tryz.func36, Tryz.ntmps36
    go_wp2
    go_loopw [0, 3] (fun n o wr => ∃ (m : Int) (s : ByteArray), n = .int .i64 m ∧ o = .string s ∧ 0 ≤ m ∧ m ≤ 1000000000 ∧ (s.size : Int) + m ≤ 1000000000 ∧ Ext w wr ∧ digM m s = digM k ⟨#[]⟩) (fun n _ _ => (intOf n).toNat)
    case atStart => exact ⟨k, _, rfl, rfl, h0, h1, by show ((0 : Nat) : Int) + k ≤ _; omega, Ext.refl _, rfl⟩
    case round =>
      obtain ⟨m, s, rfl, rfl, hm0, hm1, hsz, hE, hd⟩ := hrel
      by_cases hm : 0 < m
      · have hcv := run_convert_bytes_arg (P := Tryz.prog) (wr.alloc (.cells #[.int .u8 (48 + m % 10)] 5)) 119 5 Tryz.underlying119 Tryz.underlying5 wr.heap.size 0 1 1 [48 + m % 10] rfl (fun i hi => by
          have : i = 0 := by omega
          subst this
          simp) 9 Tryz.underlying9
        have hs1 : (strOfNums [48 + m % 10]).size = 1 := rfl
        have HD : Hid (digM (m / 10) (strOfNums [48 + m % 10] ++ s) = digM k ⟨#[]⟩) := by show _ = _; rw [← hd, digM.eq_1 m, if_pos hm]
        clear hd
        generalize strOfNums [48 + m % 10] = s1 at hcv hs1 HD
        go_wp2
        go_roundw
        case rel => exact ⟨m / 10, s1 ++ s, rfl, rfl, by omega, by omega, by rw [ByteArray.size_append]; omega, hE.alloc _, HD.out⟩
        case measure => simp [intOf]; omega
      · have HD : Hid (s = digM k ⟨#[]⟩) := by show _ = _; rw [← hd, digM, if_neg hm]
        clear hd
        go_wp2
        go_ret
        exact ⟨ret_str (by rw [hfin.out, ← HD.out]), hE⟩
end Go.Proofs.YtabomonpemkoaaaGreat
