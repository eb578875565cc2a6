/- What the laws' functions eq.. answer of two that lie in memory as the same: true. -/
import Derived.Test.YtbapbcdkmhkigaaDEqString
import Derived.BigRegion
import Derived.Deep.RegionWith
namespace Go.Proofs.Ytbapbcdkmhkigaa
open Go.RowKit Go.Deep

set_option maxHeartbeats 2000000 in
theorem eqRule_any (x0 : ByteArray) (x1 : ByteArray) (w : World)   :
    Calls Try.prog 21 #[.agg #[.string x0, .string x1], .agg #[.string x0, .string x1]] w fun e w' => e = .returned (.bool true) ∧ Ext w w' := by
  go_enter Try.func21, Try.ntmps21
  go_wp2
  go_ret
  exact ⟨rfl, (((Ext.refl w).alloc _).alloc _)⟩

set_option maxHeartbeats 2000000 in
theorem eqRuleS_list (len : Nat) (f : Nat → Nat → D) (HRa : ∀ i, i < len → HasRow 7 (f i)) : EqD 9 (.list 2 len f) := by
  intro S S2 u v w hu hv
  obtain ⟨a, cap, rfl, hm⟩ := hu.list_eq
  obtain ⟨a2, cap2, rfl, _⟩ := hv.list_eq
  unfold maxLen at hm
  go_enter Try.func9, Try.ntmps9
  go_wp2
  go_loopw [5] (fun i wr => ∃ k : Nat, k ≤ len ∧ i = .int .i64 k ∧ Ext w wr) (fun i _ => len - (intOf i).toNat)
  case atStart => exact ⟨0, Nat.zero_le _, rfl, Ext.refl _⟩
  case round =>
    obtain ⟨k, hk, rfl, hE⟩ := hrel
    by_cases hlt : k < len
    · obtain ⟨cap3, b, off, C, hsl, _, _, ec, hx⟩ := (hu.ext hE).at hlt
      cases hsl
      obtain ⟨cap4, b4, off4, C4, hsl, _, _, ec4, hx4⟩ := (hv.ext hE).at hlt
      cases hsl
      have HR := HRa k hlt
      obtain ⟨x0, hd0⟩ := (show Has (f k 0) .str from HR 0 (by decide)).str
      have h0 := hx 0 (by decide)
      have e0 := ec 0 (by decide)
      rw [hd0] at h0
      obtain ⟨y0, z0⟩ := h0.str_eq
      rw [y0] at e0
      clear y0
      obtain ⟨x1, hd1⟩ := (show Has (f k 1) .str from HR 1 (by decide)).str
      have h1 := hx 1 (by decide)
      have e1 := ec 1 (by decide)
      rw [hd1] at h1
      obtain ⟨y1, z1⟩ := h1.str_eq
      rw [y1] at e1
      clear y1
      simp only [Nat.add_zero] at e0
      clear hx ec
      have r0 := hx4 0 (by decide)
      have re0 := ec4 0 (by decide)
      rw [hd0] at r0
      have ry0 := r0.str_eq.1
      rw [ry0] at re0
      clear ry0 r0
      have r1 := hx4 1 (by decide)
      have re1 := ec4 1 (by decide)
      rw [hd1] at r1
      have ry1 := r1.str_eq.1
      rw [ry1] at re1
      clear ry1 r1
      simp only [Nat.add_zero] at re0
      clear hx4 ec4 HR
      have hcall := eqRule_any x0 x1 wr.drew 
      go_wp2_with fail
      go_region_with (go_at_call 21; refine hcall.mono ?_; rintro e w' ⟨rfl, hE2⟩)
      all_goals
        go_wp2
        go_roundw
        case rel => exact ⟨k + 1, by omega, by go_num, hE.drew.trans hE2⟩
        case measure => simp [intOf]; omega
    · go_wp2
      go_ret
      exact ⟨rfl, hE⟩

theorem eqRuleS_any (d : D) (H : Has d (.list 7)) : EqD 9 d := by
  obtain ⟨len, f, rfl, HRa⟩ := H.list
  exact eqRuleS_list len f HRa

end Go.Proofs.Ytbapbcdkmhkigaa
