/- What laws.eqValue answers of two values that lie in memory as the same: true. -/
import Derived.Test.YtdplieoilfhddaaValMem
import Derived.BigRegion
import Derived.Deep.RegionWith
namespace Go.Proofs.Ytdplieoilfhddaa
open Go.RowKit Go.Deep

def EqOk (x : V) : Prop := ∀ (lo : Nat) (u v : Value) (w : World), ValIn lo w x u → ValIn lo w x v →
  Calls Try.prog 8 #[u, v] w fun e w' => e = .returned (.bool true) ∧ Ext w w'
def EqSOk (xs : List V) : Prop := ∀ (lo : Nat) (u v : Value) (w : World), ListIn lo w xs u → ListIn lo w xs v →
  Calls Try.prog 14 #[u, v] w fun e w' => e = .returned (.bool true) ∧ Ext w w'

set_option maxHeartbeats 1000000 in
theorem eqValueS_of (xs : List V) (ih : ∀ i (hi : i < xs.length), EqOk xs[i]) : EqSOk xs := by
  intro lo u v w hu hv
  obtain ⟨a, cap, _, _, _, _, _, _, rfl, hm, _⟩ := id hu
  obtain ⟨a2, cap2, _, _, _, _, _, _, rfl, _⟩ := id hv
  unfold maxLen at hm
  go_enter Try.func14, Try.ntmps14
  go_wp2
  go_loopw [5] (fun i wr => ∃ k : Nat, k ≤ xs.length ∧ i = .int .i64 k ∧ Ext w wr) (fun i _ => xs.length - (intOf i).toNat)
  case atStart => exact ⟨0, Nat.zero_le _, rfl, Ext.refl _⟩
  case round =>
    obtain ⟨k, hk, rfl, hE⟩ := hrel
    by_cases hlt : k < xs.length
    · obtain ⟨cap3, b, off, hsl, _, _, hcs⟩ := (hu.ext hE).at (by omega)
      cases hsl
      obtain ⟨cap4, b2, off2, hsl, _, _, hcs2⟩ := (hv.ext hE).at (by omega)
      cases hsl
      obtain ⟨d0, d1, d2, d3, e0, e1, e2, e3, hx⟩ := hcs k hlt
      obtain ⟨g0, g1, g2, g3, f0, f1, f2, f3, hy⟩ := hcs2 k hlt
      clear hcs hcs2
      have hx' := hx.ext (Ext.refl _).drew
      have hy' := hy.ext (Ext.refl _).drew
      have hcall := ih k hlt lo _ _ _ hx' hy'
      clear ih
      go_wp2_with fail
      go_region_with (go_at_call 8; refine hcall.mono ?_; rintro e w' ⟨rfl, hE2⟩)
      all_goals
        go_wp2
        go_roundw
        case rel => exact ⟨k + 1, by omega, by go_num, hE.drew.trans hE2⟩
        case measure => simp [intOf]; omega
    · go_wp2
      go_ret
      exact ⟨rfl, hE⟩

set_option maxHeartbeats 400000 in
theorem eqValue_any : ∀ x, EqOk x := by
  refine V.ind fun k n t xs ih => ?_
  have hS := eqValueS_of xs ih
  clear ih
  intro lo u v w hu hv
  obtain ⟨a, cap, rfl, _, _, _, _, hL⟩ := hu.open
  obtain ⟨a2, cap2, rfl, _, _, _, _, hL2⟩ := hv.open
  go_enter Try.func8, Try.ntmps8
  go_wp2_with (go_at_call 14; refine (hS lo _ _ _ (hL.ext (((Ext.refl _).alloc _).alloc _)) (hL2.ext (((Ext.refl _).alloc _).alloc _))).mono ?_; rintro e w' ⟨rfl, hE2⟩)
  go_ret
  exact ⟨rfl, (((Ext.refl _).alloc _).alloc _).trans hE2⟩
end Go.Proofs.Ytdplieoilfhddaa
