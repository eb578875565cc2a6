/- What the laws' functions asInts and asHas answer. -/
import Derived.Test.YtdmkpekmmpeneaaGreatWithSpec
import Derived.BigRegion
import Derived.Deep.RegionWith
namespace Go.Proofs.YtdmkpekmmpeneaaGreat
open Go.RowKit Go.Deep

set_option maxHeartbeats 2000000 in
theorem asInts_list (len : Nat) (f : Nat → Nat → D) (HRa : ∀ i, i < len → HasRow 1 (f i)) (S S2 : Nat → Prop) (u v : Value) (w : World) (hu : DIn S w (.list 1 len f) u) (hv : DIn S2 w (.list 1 len f) v) :
    Calls Tryz.prog 6 #[u, v] w fun e w' => e = .returned (.bool true) ∧ Ext w w' := by
  obtain ⟨a, cap, rfl, hm⟩ := hu.list_eq
  obtain ⟨a2, cap2, rfl, _⟩ := hv.list_eq
  unfold maxLen at hm
  go_enter Tryz.func6, Tryz.ntmps6
  go_wp2
  go_loopw [5] (fun i wr => ∃ k : Nat, k ≤ len ∧ i = .int .i64 k ∧ Ext w wr) (fun i _ => len - (intOf i).toNat)
  case atStart => exact ⟨0, Nat.zero_le _, rfl, Ext.refl _⟩
  case round =>
    obtain ⟨k, hk, rfl, hE⟩ := hrel
    by_cases hlt : k < len
    · obtain ⟨cap3, b, off, C, hsl, _, _, ec, hx⟩ := (hu.ext hE).at hlt
      cases hsl
      obtain ⟨cap4, b4, off4, C4, hsl, _, _, ec4, hx4⟩ := (hv.ext hE).at hlt
      cases hsl
      have HR := HRa k hlt
      obtain ⟨x0, hd0⟩ := (show Has (f k 0) .int from HR 0 (by decide)).int
      have h0 := hx 0 (by decide)
      have e0 := ec 0 (by decide)
      rw [hd0] at h0
      obtain ⟨y0, z0⟩ := h0.int_eq
      rw [y0] at e0
      clear y0
      simp only [Nat.add_zero, Nat.mul_one] at e0
      clear hx ec
      have r0 := hx4 0 (by decide)
      have re0 := ec4 0 (by decide)
      rw [hd0] at r0
      have ry0 := r0.int_eq.1
      rw [ry0] at re0
      clear ry0 r0
      simp only [Nat.add_zero, Nat.mul_one] at re0
      clear hx4 ec4 HR
      go_wp2_with fail
      go_region
      all_goals
        go_wp2
        go_roundw
        case rel => exact ⟨k + 1, by omega, by go_num, hE.drew⟩
        case measure => simp [intOf]; omega
    · go_wp2
      go_ret
      exact ⟨rfl, hE⟩
/-- Two rows of the same numbers. -/
theorem asInts_any (l : List Int) (S S2 : Nat → Prop) (u v : Value) (w : World) (hu : DIn S w (intsD l) u) (hv : DIn S2 w (intsD l) v) : Calls Tryz.prog 6 #[u, v] w fun e w' => e = .returned (.bool true) ∧ Ext w w' :=
  asInts_list l.length (intsF l) (fun i _ j hj => by
    have : j = 0 := by change j < 1 at hj; omega
    subst this
    rfl) S S2 u v w hu hv

end Go.Proofs.YtdmkpekmmpeneaaGreat
