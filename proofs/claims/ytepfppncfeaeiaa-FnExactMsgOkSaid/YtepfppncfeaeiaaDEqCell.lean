/- What the laws' functions eq.. answer of two that lie in memory as the same: true. -/
import Derived.Test.YtepfppncfeaeiaaDEqProp
import Derived.BigRegion
import Derived.Deep.RegionWith
namespace Go.Proofs.Ytepfppncfeaeiaa
open Go.RowKit Go.Deep

set_option maxHeartbeats 2000000 in
theorem eqCell_any (S S2 : Nat → Prop) (x0 : ByteArray) (x1 : Int) (x2 : Int) (x3 : ByteArray) (d4 : D) (c4 k4 : Value) (w : World)  (H4 : Has d4 (.list 2)) (h4 : DIn S w d4 c4) (i4 : DIn S2 w d4 k4) :
    Calls Try.prog 28 #[.agg #[.string x0, .int .i64 x1, .int .i64 x2, .string x3, c4], .agg #[.string x0, .int .i64 x1, .int .i64 x2, .string x3, k4]] w fun e w' => e = .returned (.bool true) ∧ Ext w w' := by
  have g4 := fun (W : World) (hW : Ext w W) => h4.ext hW
  have m4 := fun (W : World) (hW : Ext w W) => i4.ext hW
  obtain ⟨a4, cap4, l4, f4, hdd4, hcc4, hl4, _⟩ := list_shape H4 h4
  subst hcc4
  clear hdd4 h4
  obtain ⟨b4, bcap4, bl4, bf4, hdd4, hcc4, hbl4, _⟩ := list_shape H4 i4
  subst hcc4
  clear hdd4 i4
  go_enter Try.func28, Try.ntmps28
  go_wp2_with (first
    | (go_at_call 33; refine (eqValue_any S S2 x1 x2 x3 d4 _ _ _ (eqValueS_any d4 H4) H4 (g4 _ (((Ext.refl w).alloc _).alloc _)) (m4 _ (((Ext.refl w).alloc _).alloc _))).mono ?_; rintro e w1 ⟨rfl, E1⟩; have bx1_0 := box2_fst E1 0 _ rfl; have by1_0 := box2_snd E1 0 _ rfl; have bx1_1 := box2_fst E1 1 _ rfl; have by1_1 := box2_snd E1 1 _ rfl; have bx1_2 := box2_fst E1 2 _ rfl; have by1_2 := box2_snd E1 2 _ rfl; have bx1_3 := box2_fst E1 3 _ rfl; have by1_3 := box2_snd E1 3 _ rfl; have bx1_4 := box2_fst E1 4 _ rfl; have by1_4 := box2_snd E1 4 _ rfl))
  go_ret
  exact ⟨rfl, ((((Ext.refl w).alloc _).alloc _).trans E1)⟩

set_option maxHeartbeats 2000000 in
theorem eqCellS_list (len : Nat) (f : Nat → Nat → D) (HRa : ∀ i, i < len → HasRow 3 (f i)) : EqD 17 (.list 5 len f) := by
  intro S S2 u v w hu hv
  obtain ⟨a, cap, rfl, hm⟩ := hu.list_eq
  obtain ⟨a2, cap2, rfl, _⟩ := hv.list_eq
  unfold maxLen at hm
  go_enter Try.func17, Try.ntmps17
  go_wp2
  go_loopw [5] (fun i wr => ∃ k : Nat, k ≤ len ∧ i = .int .i64 k ∧ Ext w wr) (fun i _ => len - (intOf i).toNat)
  case atStart => exact ⟨0, Nat.zero_le _, rfl, Ext.refl _⟩
  case round =>
    obtain ⟨k, hk, rfl, hE⟩ := hrel
    by_cases hlt : k < len
    · obtain ⟨cap3, b, off, C, hsl, _, _, ec, hx⟩ := (hu.ext hE).at hlt
      cases hsl
      obtain ⟨cap4, b4, off4, C4, hsl, _, _, ec4, hx4⟩ := (hv.ext hE).at hlt
      cases hsl
      have HR := HRa k hlt
      obtain ⟨x0, hd0⟩ := (show Has (f k 0) .str from HR 0 (by decide)).str
      have h0 := hx 0 (by decide)
      have e0 := ec 0 (by decide)
      rw [hd0] at h0
      obtain ⟨y0, z0⟩ := h0.str_eq
      rw [y0] at e0
      clear y0
      obtain ⟨x1, hd1⟩ := (show Has (f k 1) .int from HR 1 (by decide)).int
      have h1 := hx 1 (by decide)
      have e1 := ec 1 (by decide)
      rw [hd1] at h1
      obtain ⟨y1, z1⟩ := h1.int_eq
      rw [y1] at e1
      clear y1
      obtain ⟨x2, hd2⟩ := (show Has (f k 2) .int from HR 2 (by decide)).int
      have h2 := hx 2 (by decide)
      have e2 := ec 2 (by decide)
      rw [hd2] at h2
      obtain ⟨y2, z2⟩ := h2.int_eq
      rw [y2] at e2
      clear y2
      obtain ⟨x3, hd3⟩ := (show Has (f k 3) .str from HR 3 (by decide)).str
      have h3 := hx 3 (by decide)
      have e3 := ec 3 (by decide)
      rw [hd3] at h3
      obtain ⟨y3, z3⟩ := h3.str_eq
      rw [y3] at e3
      clear y3
      have H4 : Has (f k 4) (.list 2) := HR 4 (by decide)
      have h4 := hx 4 (by decide)
      have e4 := ec 4 (by decide)
      simp only [Nat.add_zero] at e0
      clear hx ec
      have r0 := hx4 0 (by decide)
      have re0 := ec4 0 (by decide)
      rw [hd0] at r0
      have ry0 := r0.str_eq.1
      rw [ry0] at re0
      clear ry0 r0
      have r1 := hx4 1 (by decide)
      have re1 := ec4 1 (by decide)
      rw [hd1] at r1
      have ry1 := r1.int_eq.1
      rw [ry1] at re1
      clear ry1 r1
      have r2 := hx4 2 (by decide)
      have re2 := ec4 2 (by decide)
      rw [hd2] at r2
      have ry2 := r2.int_eq.1
      rw [ry2] at re2
      clear ry2 r2
      have r3 := hx4 3 (by decide)
      have re3 := ec4 3 (by decide)
      rw [hd3] at r3
      have ry3 := r3.str_eq.1
      rw [ry3] at re3
      clear ry3 r3
      have r4 := hx4 4 (by decide)
      have re4 := ec4 4 (by decide)
      simp only [Nat.add_zero] at re0
      clear hx4 ec4 HR
      have q4 := h4.ext (Ext.refl _).drew
      have p4 := r4.ext (Ext.refl _).drew
      have hcall := eqCell_any S S2 x0 x1 x2 x3 (f k 4) (C 4) (C4 4) _ H4 q4 p4
      go_wp2_with fail
      go_region_with (go_at_call 28; refine hcall.mono ?_; rintro e w' ⟨rfl, hE2⟩)
      all_goals
        go_wp2
        go_roundw
        case rel => exact ⟨k + 1, by omega, by go_num, hE.drew.trans hE2⟩
        case measure => simp [intOf]; omega
    · go_wp2
      go_ret
      exact ⟨rfl, hE⟩

theorem eqCellS_any (d : D) (H : Has d (.list 3)) : EqD 17 d := by
  obtain ⟨len, f, rfl, HRa⟩ := H.list
  exact eqCellS_list len f HRa

end Go.Proofs.Ytepfppncfeaeiaa
