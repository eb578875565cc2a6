/- What laws.eqRuleS answers of two slices of the same rules: true. -/
import Derived.Test.YtligliimgemfjaaRulTo
import Derived.BigRegion
import Derived.Deep.RegionWith
namespace Go.Proofs.Ytligliimgemfjaa
open Go.RowKit Go.Deep

set_option maxHeartbeats 400000 in
theorem eqRule_same (x y : ByteArray) (w : World) :
    Calls Try.prog 13 #[.agg #[.string x, .string y], .agg #[.string x, .string y]] w fun e w' => e = .returned (.bool true) ∧ Ext w w' := by
  go_enter Try.func13, Try.ntmps13
  go_wp2
  go_ret
  exact ⟨rfl, ((Ext.refl _).alloc _).alloc _⟩

set_option maxHeartbeats 1000000 in
theorem eqRuleS_same (v u : Value) (xs : List RulT) (w : World) (hv : RulIn w v xs) (hu : RulIn w u xs) :
    Calls Try.prog 8 #[v, u] w fun e w' => e = .returned (.bool true) ∧ Ext w w' := by
  obtain ⟨a, cap, rfl, hm, hin⟩ := hv
  obtain ⟨a2, cap2, rfl, _, hin2⟩ := hu
  unfold maxLen at hm
  go_enter Try.func8, Try.ntmps8
  go_wp2
  go_loopw [5] (fun i wr => ∃ k : Nat, k ≤ xs.length ∧ i = .int .i64 k ∧ Ext w wr) (fun i _ => xs.length - (intOf i).toNat)
  case atStart => exact ⟨0, Nat.zero_le _, rfl, Ext.refl _⟩
  case round =>
    obtain ⟨k, hk, rfl, hE⟩ := hrel
    by_cases hlt : k < xs.length
    · obtain ⟨s1, s2, b, off, rfl, hb, c1, c2⟩ := hin k hlt
      obtain ⟨_, _, b2, off2, rfl, hb2, c3, c4⟩ := hin2 k hlt
      rw [← hE.cell hb] at c1 c2
      rw [← hE.cell hb2] at c3 c4
      go_wp2_with fail
      go_region_with (go_at_call 13; refine (eqRule_same _ _ _).mono ?_; rintro e w' ⟨rfl, hE2⟩)
      all_goals
        go_wp2
        go_roundw
        case rel => exact ⟨k + 1, by omega, by go_num, hE.drew.trans hE2⟩
        case measure => simp [intOf]; omega
    · go_wp2
      go_ret
      exact ⟨rfl, hE⟩
end Go.Proofs.Ytligliimgemfjaa
