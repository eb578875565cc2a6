/- What the laws' functions eq.. answer of two that lie in memory as the same: true. -/
import Derived.Test.YtepfppncfeaeiaaDEqString
import Derived.BigRegion
import Derived.Deep.RegionWith
namespace Go.Proofs.Ytepfppncfeaeiaa
open Go.RowKit Go.Deep

set_option maxHeartbeats 2000000 in
theorem eqValue_any (S S2 : Nat → Prop) (x0 : Int) (x1 : Int) (x2 : ByteArray) (d3 : D) (c3 k3 : Value) (w : World) (hS3 : EqD 38 d3) (H3 : Has d3 (.list 2)) (h3 : DIn S w d3 c3) (i3 : DIn S2 w d3 k3) :
    Calls Try.prog 33 #[.agg #[.int .i64 x0, .int .i64 x1, .string x2, c3], .agg #[.int .i64 x0, .int .i64 x1, .string x2, k3]] w fun e w' => e = .returned (.bool true) ∧ Ext w w' := by
  have g3 := fun (W : World) (hW : Ext w W) => h3.ext hW
  have m3 := fun (W : World) (hW : Ext w W) => i3.ext hW
  obtain ⟨a3, cap3, l3, f3, hdd3, hcc3, hl3, _⟩ := list_shape H3 h3
  subst hcc3
  clear hdd3 h3
  obtain ⟨b3, bcap3, bl3, bf3, hdd3, hcc3, hbl3, _⟩ := list_shape H3 i3
  subst hcc3
  clear hdd3 i3
  go_enter Try.func33, Try.ntmps33
  go_wp2_with (first
    | (go_at_call 38; refine (hS3 S S2 _ _ _ (g3 _ (((Ext.refl w).alloc _).alloc _)) (m3 _ (((Ext.refl w).alloc _).alloc _))).mono ?_; rintro e w1 ⟨rfl, E1⟩; have bx1_0 := box2_fst E1 0 _ rfl; have by1_0 := box2_snd E1 0 _ rfl; have bx1_1 := box2_fst E1 1 _ rfl; have by1_1 := box2_snd E1 1 _ rfl; have bx1_2 := box2_fst E1 2 _ rfl; have by1_2 := box2_snd E1 2 _ rfl; have bx1_3 := box2_fst E1 3 _ rfl; have by1_3 := box2_snd E1 3 _ rfl))
  go_ret
  exact ⟨rfl, ((((Ext.refl w).alloc _).alloc _).trans E1)⟩

set_option maxHeartbeats 2000000 in
theorem eqValueS_of (len : Nat) (f : Nat → Nat → D) (HRa : ∀ i, i < len → HasRow 2 (f i)) (hS3 : ∀ i, i < len → EqD 38 (f i 3)) : EqD 38 (.list 4 len f) := by
  intro S S2 u v w hu hv
  obtain ⟨a, cap, rfl, hm⟩ := hu.list_eq
  obtain ⟨a2, cap2, rfl, _⟩ := hv.list_eq
  unfold maxLen at hm
  go_enter Try.func38, Try.ntmps38
  go_wp2
  go_loopw [5] (fun i wr => ∃ k : Nat, k ≤ len ∧ i = .int .i64 k ∧ Ext w wr) (fun i _ => len - (intOf i).toNat)
  case atStart => exact ⟨0, Nat.zero_le _, rfl, Ext.refl _⟩
  case round =>
    obtain ⟨k, hk, rfl, hE⟩ := hrel
    by_cases hlt : k < len
    · obtain ⟨cap3, b, off, C, hsl, _, _, ec, hx⟩ := (hu.ext hE).at hlt
      cases hsl
      obtain ⟨cap4, b4, off4, C4, hsl, _, _, ec4, hx4⟩ := (hv.ext hE).at hlt
      cases hsl
      have HR := HRa k hlt
      have hT3 := hS3 k hlt
      clear hS3
      obtain ⟨x0, hd0⟩ := (show Has (f k 0) .int from HR 0 (by decide)).int
      have h0 := hx 0 (by decide)
      have e0 := ec 0 (by decide)
      rw [hd0] at h0
      obtain ⟨y0, z0⟩ := h0.int_eq
      rw [y0] at e0
      clear y0
      obtain ⟨x1, hd1⟩ := (show Has (f k 1) .int from HR 1 (by decide)).int
      have h1 := hx 1 (by decide)
      have e1 := ec 1 (by decide)
      rw [hd1] at h1
      obtain ⟨y1, z1⟩ := h1.int_eq
      rw [y1] at e1
      clear y1
      obtain ⟨x2, hd2⟩ := (show Has (f k 2) .str from HR 2 (by decide)).str
      have h2 := hx 2 (by decide)
      have e2 := ec 2 (by decide)
      rw [hd2] at h2
      obtain ⟨y2, z2⟩ := h2.str_eq
      rw [y2] at e2
      clear y2
      have H3 : Has (f k 3) (.list 2) := HR 3 (by decide)
      have h3 := hx 3 (by decide)
      have e3 := ec 3 (by decide)
      simp only [Nat.add_zero] at e0
      clear hx ec
      have r0 := hx4 0 (by decide)
      have re0 := ec4 0 (by decide)
      rw [hd0] at r0
      have ry0 := r0.int_eq.1
      rw [ry0] at re0
      clear ry0 r0
      have r1 := hx4 1 (by decide)
      have re1 := ec4 1 (by decide)
      rw [hd1] at r1
      have ry1 := r1.int_eq.1
      rw [ry1] at re1
      clear ry1 r1
      have r2 := hx4 2 (by decide)
      have re2 := ec4 2 (by decide)
      rw [hd2] at r2
      have ry2 := r2.str_eq.1
      rw [ry2] at re2
      clear ry2 r2
      have r3 := hx4 3 (by decide)
      have re3 := ec4 3 (by decide)
      simp only [Nat.add_zero] at re0
      clear hx4 ec4 HR
      have q3 := h3.ext (Ext.refl _).drew
      have p3 := r3.ext (Ext.refl _).drew
      have hcall := eqValue_any S S2 x0 x1 x2 (f k 3) (C 3) (C4 3) _ hT3 H3 q3 p3
      go_wp2_with fail
      go_region_with (go_at_call 33; refine hcall.mono ?_; rintro e w' ⟨rfl, hE2⟩)
      all_goals
        go_wp2
        go_roundw
        case rel => exact ⟨k + 1, by omega, by go_num, hE.drew.trans hE2⟩
        case measure => simp [intOf]; omega
    · clear hS3
      go_wp2
      go_ret
      exact ⟨rfl, hE⟩

theorem eqValueS_any (d : D) (H : Has d (.list 2)) : EqD 38 d := by
  induction d with
  | list n len f ih =>
    obtain ⟨r, h1, rfl, h3⟩ := H
    cases h1
    exact eqValueS_of len f (fun i hi j hj => h3 i hi j hj) (fun i hi => ih i 3 (h3 i hi 3 (by decide)))
  | int _ => cases H
  | bool _ => cases H
  | str _ => cases H

end Go.Proofs.Ytepfppncfeaeiaa
