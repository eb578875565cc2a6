/- What the laws' functions eq.. answer of two that lie in memory as the same: true. -/
import Derived.Test.YteijgejpenlgjaaGreatDa
import Derived.BigRegion
import Derived.Deep.RegionWith
namespace Go.Proofs.YteijgejpenlgjaaGreat
open Go.RowKit Go.Deep

def EqD (F : FuncId) (d : D) : Prop := ∀ (S S2 : Nat → Prop) (u v : Value) (w : World), DIn S w d u → DIn S2 w d v →
 Calls Tryz.prog F #[u, v] w fun e w' => e = .returned (.bool true) ∧ Ext w w'
theorem box2_fst {w W : World} {cs cs2 : Array Value} {T T2 : TypeId} (h : Ext ((w.alloc (.cells cs T)).alloc (.cells cs2 T2)) W) (j : Nat) (c : Value) (hc : cs[j]? = some c) : W.cell? ⟨w.heap.size, j, none⟩ = some c :=
 box_cell (((Ext.refl _).alloc _).trans h) j c hc
theorem box2_snd {w W : World} {cs cs2 : Array Value} {T T2 : TypeId} (h : Ext ((w.alloc (.cells cs T)).alloc (.cells cs2 T2)) W) (j : Nat) (c : Value) (hc : cs2[j]? = some c) : W.cell? ⟨w.heap.size + 1, j, none⟩ = some c := by
 have := box_cell h j c hc
 simpa using this

set_option maxHeartbeats 2000000 in
theorem eqStringS_list (len : Nat) (f : Nat → Nat → D) (HRa : ∀ i, i < len → HasRow 0 (f i)) : EqD 92 (.list 1 len f) := by
 intro S S2 u v w hu hv
 obtain ⟨a, cap, rfl, hm⟩ := hu.list_eq
 obtain ⟨a2, cap2, rfl, _⟩ := hv.list_eq
 unfold maxLen at hm
 go_enter Tryz.func92, Tryz.ntmps92
 go_wp2
 go_loopw [5] (fun i wr => ∃ k : Nat, k ≤ len ∧ i = .int .i64 k ∧ Ext w wr) (fun i _ => len - (intOf i).toNat)
 case atStart => exact ⟨0, Nat.zero_le _, rfl, Ext.refl _⟩
 case round =>
  obtain ⟨k, hk, rfl, hE⟩ := hrel
  by_cases hlt : k < len
  ·
   obtain ⟨cap3, b, off, C, hsl, _, _, ec, hx⟩ := (hu.ext hE).at hlt
   cases hsl
   obtain ⟨cap4, b4, off4, C4, hsl, _, _, ec4, hx4⟩ := (hv.ext hE).at hlt
   cases hsl
   have HR := HRa k hlt
   obtain ⟨x0, hd0⟩ := (show Has (f k 0) .str from HR 0 (by decide)).str
   have h0 := hx 0 (by decide)
   have e0 := ec 0 (by decide)
   rw [hd0] at h0
   obtain ⟨y0, z0⟩ := h0.str_eq
   rw [y0] at e0
   clear y0
   simp only [Nat.add_zero, Nat.mul_one] at e0
   clear hx ec
   have r0 := hx4 0 (by decide)
   have re0 := ec4 0 (by decide)
   rw [hd0] at r0
   have ry0 := r0.str_eq.1
   rw [ry0] at re0
   clear ry0 r0
   simp only [Nat.add_zero, Nat.mul_one] at re0
   clear hx4 ec4 HR
   go_wp2_with fail
   go_region
   all_goals
    go_wp2
    go_roundw
    case rel => exact ⟨k + 1, by omega, by go_num, hE.drew⟩
    case measure => simp [intOf]; omega
  ·
   go_wp2
   go_ret
   exact ⟨rfl, hE⟩

theorem eqStringS_any (d : D) (H : Has d (.list 0)) : EqD 92 d := by
 obtain ⟨len, f, rfl, HRa⟩ := H.list
 exact eqStringS_list len f HRa

end Go.Proofs.YteijgejpenlgjaaGreat

/- What the laws' functions eq.. answer of two that lie in memory as the same: true. -/
namespace Go.Proofs.YteijgejpenlgjaaGreat
open Go.RowKit Go.Deep

set_option maxHeartbeats 2000000 in
theorem eqValue_any (S S2 : Nat → Prop) (x0 : Int) (x1 : Int) (x2 : ByteArray) (d3 : D) (c3 k3 : Value) (w : World) (hS3 : EqD 31 d3) (H3 : Has d3 (.list 2)) (h3 : DIn S w d3 c3) (i3 : DIn S2 w d3 k3) :
  Calls Tryz.prog 11 #[.agg #[.int .i64 x0, .int .i64 x1, .string x2, c3], .agg #[.int .i64 x0, .int .i64 x1, .string x2, k3]] w fun e w' => e = .returned (.bool true) ∧ Ext w w' := by
 have g3 := fun (W : World) (hW : Ext w W) => h3.ext hW
 have m3 := fun (W : World) (hW : Ext w W) => i3.ext hW
 obtain ⟨a3, cap3, l3, f3, hdd3, hcc3, hl3, _⟩ := list_shape H3 h3
 subst hcc3
 clear hdd3 h3
 obtain ⟨b3, bcap3, bl3, bf3, hdd3, hcc3, hbl3, _⟩ := list_shape H3 i3
 subst hcc3
 clear hdd3 i3
 go_enter Tryz.func11, Tryz.ntmps11
 go_wp2_with (first
  | (go_at_call 31; refine (hS3 S S2 _ _ _ (g3 _ (((Ext.refl w).alloc _).alloc _)) (m3 _ (((Ext.refl w).alloc _).alloc _))).mono ?_; rintro e w1 ⟨rfl, E1⟩; have bx1_0 := box2_fst E1 0 _ rfl; have by1_0 := box2_snd E1 0 _ rfl; have bx1_1 := box2_fst E1 1 _ rfl; have by1_1 := box2_snd E1 1 _ rfl; have bx1_2 := box2_fst E1 2 _ rfl; have by1_2 := box2_snd E1 2 _ rfl; have bx1_3 := box2_fst E1 3 _ rfl; have by1_3 := box2_snd E1 3 _ rfl))
 go_ret
 exact ⟨rfl, ((((Ext.refl w).alloc _).alloc _).trans E1)⟩

set_option maxHeartbeats 2000000 in
theorem eqValueS_of (len : Nat) (f : Nat → Nat → D) (HRa : ∀ i, i < len → HasRow 2 (f i)) (hS3 : ∀ i, i < len → EqD 31 (f i 3)) : EqD 31 (.list 4 len f) := by
 intro S S2 u v w hu hv
 obtain ⟨a, cap, rfl, hm⟩ := hu.list_eq
 obtain ⟨a2, cap2, rfl, _⟩ := hv.list_eq
 unfold maxLen at hm
 go_enter Tryz.func31, Tryz.ntmps31
 go_wp2
 go_loopw [5] (fun i wr => ∃ k : Nat, k ≤ len ∧ i = .int .i64 k ∧ Ext w wr) (fun i _ => len - (intOf i).toNat)
 case atStart => exact ⟨0, Nat.zero_le _, rfl, Ext.refl _⟩
 case round =>
  obtain ⟨k, hk, rfl, hE⟩ := hrel
  by_cases hlt : k < len
  ·
   obtain ⟨cap3, b, off, C, hsl, _, _, ec, hx⟩ := (hu.ext hE).at hlt
   cases hsl
   obtain ⟨cap4, b4, off4, C4, hsl, _, _, ec4, hx4⟩ := (hv.ext hE).at hlt
   cases hsl
   have HR := HRa k hlt
   have hT3 := hS3 k hlt
   clear hS3
   obtain ⟨x0, hd0⟩ := (show Has (f k 0) .int from HR 0 (by decide)).int
   have h0 := hx 0 (by decide)
   have e0 := ec 0 (by decide)
   rw [hd0] at h0
   obtain ⟨y0, z0⟩ := h0.int_eq
   rw [y0] at e0
   clear y0
   obtain ⟨x1, hd1⟩ := (show Has (f k 1) .int from HR 1 (by decide)).int
   have h1 := hx 1 (by decide)
   have e1 := ec 1 (by decide)
   rw [hd1] at h1
   obtain ⟨y1, z1⟩ := h1.int_eq
   rw [y1] at e1
   clear y1
   obtain ⟨x2, hd2⟩ := (show Has (f k 2) .str from HR 2 (by decide)).str
   have h2 := hx 2 (by decide)
   have e2 := ec 2 (by decide)
   rw [hd2] at h2
   obtain ⟨y2, z2⟩ := h2.str_eq
   rw [y2] at e2
   clear y2
   have H3 : Has (f k 3) (.list 2) := HR 3 (by decide)
   have h3 := hx 3 (by decide)
   have e3 := ec 3 (by decide)
   simp only [Nat.add_zero] at e0
   clear hx ec
   have r0 := hx4 0 (by decide)
   have re0 := ec4 0 (by decide)
   rw [hd0] at r0
   have ry0 := r0.int_eq.1
   rw [ry0] at re0
   clear ry0 r0
   have r1 := hx4 1 (by decide)
   have re1 := ec4 1 (by decide)
   rw [hd1] at r1
   have ry1 := r1.int_eq.1
   rw [ry1] at re1
   clear ry1 r1
   have r2 := hx4 2 (by decide)
   have re2 := ec4 2 (by decide)
   rw [hd2] at r2
   have ry2 := r2.str_eq.1
   rw [ry2] at re2
   clear ry2 r2
   have r3 := hx4 3 (by decide)
   have re3 := ec4 3 (by decide)
   simp only [Nat.add_zero] at re0
   clear hx4 ec4 HR
   have q3 := h3.ext (Ext.refl _).drew
   have p3 := r3.ext (Ext.refl _).drew
   have hcall := eqValue_any S S2 x0 x1 x2 (f k 3) (C 3) (C4 3) _ hT3 H3 q3 p3
   go_wp2_with fail
   go_region_with (go_at_call 11; refine hcall.mono ?_; rintro e w' ⟨rfl, hE2⟩)
   all_goals
    go_wp2
    go_roundw
    case rel => exact ⟨k + 1, by omega, by go_num, hE.drew.trans hE2⟩
    case measure => simp [intOf]; omega
  ·
   clear hS3
   go_wp2
   go_ret
   exact ⟨rfl, hE⟩

theorem eqValueS_any (d : D) (H : Has d (.list 2)) : EqD 31 d := by
 induction d with
 | list n len f ih =>
  obtain ⟨r, h1, rfl, h3⟩ := H
  cases h1
  exact eqValueS_of len f (fun i hi j hj => h3 i hi j hj) (fun i hi => ih i 3 (h3 i hi 3 (by decide)))
 | int _ => cases H
 | bool _ => cases H
 | str _ => cases H

end Go.Proofs.YteijgejpenlgjaaGreat

/- What the laws' functions eq.. answer of two that lie in memory as the same: true. -/
namespace Go.Proofs.YteijgejpenlgjaaGreat
open Go.RowKit Go.Deep

set_option maxHeartbeats 2000000 in
theorem eqProp_any (S S2 : Nat → Prop) (x0 : ByteArray) (x1 : Int) (x2 : Int) (x3 : ByteArray) (d4 : D) (c4 k4 : Value) (w : World)  (H4 : Has d4 (.list 2)) (h4 : DIn S w d4 c4) (i4 : DIn S2 w d4 k4) :
  Calls Tryz.prog 105 #[.agg #[.string x0, .int .i64 x1, .int .i64 x2, .string x3, c4], .agg #[.string x0, .int .i64 x1, .int .i64 x2, .string x3, k4]] w fun e w' => e = .returned (.bool true) ∧ Ext w w' := by
 have g4 := fun (W : World) (hW : Ext w W) => h4.ext hW
 have m4 := fun (W : World) (hW : Ext w W) => i4.ext hW
 obtain ⟨a4, cap4, l4, f4, hdd4, hcc4, hl4, _⟩ := list_shape H4 h4
 subst hcc4
 clear hdd4 h4
 obtain ⟨b4, bcap4, bl4, bf4, hdd4, hcc4, hbl4, _⟩ := list_shape H4 i4
 subst hcc4
 clear hdd4 i4
 go_enter Tryz.func105, Tryz.ntmps105
 go_wp2_with (first
  | (go_at_call 11; refine (eqValue_any S S2 x1 x2 x3 d4 _ _ _ (eqValueS_any d4 H4) H4 (g4 _ (((Ext.refl w).alloc _).alloc _)) (m4 _ (((Ext.refl w).alloc _).alloc _))).mono ?_; rintro e w1 ⟨rfl, E1⟩; have bx1_0 := box2_fst E1 0 _ rfl; have by1_0 := box2_snd E1 0 _ rfl; have bx1_1 := box2_fst E1 1 _ rfl; have by1_1 := box2_snd E1 1 _ rfl; have bx1_2 := box2_fst E1 2 _ rfl; have by1_2 := box2_snd E1 2 _ rfl; have bx1_3 := box2_fst E1 3 _ rfl; have by1_3 := box2_snd E1 3 _ rfl; have bx1_4 := box2_fst E1 4 _ rfl; have by1_4 := box2_snd E1 4 _ rfl))
 go_ret
 exact ⟨rfl, ((((Ext.refl w).alloc _).alloc _).trans E1)⟩

set_option maxHeartbeats 2000000 in
theorem eqPropS_list (len : Nat) (f : Nat → Nat → D) (HRa : ∀ i, i < len → HasRow 3 (f i)) : EqD 93 (.list 5 len f) := by
 intro S S2 u v w hu hv
 obtain ⟨a, cap, rfl, hm⟩ := hu.list_eq
 obtain ⟨a2, cap2, rfl, _⟩ := hv.list_eq
 unfold maxLen at hm
 go_enter Tryz.func93, Tryz.ntmps93
 go_wp2
 go_loopw [5] (fun i wr => ∃ k : Nat, k ≤ len ∧ i = .int .i64 k ∧ Ext w wr) (fun i _ => len - (intOf i).toNat)
 case atStart => exact ⟨0, Nat.zero_le _, rfl, Ext.refl _⟩
 case round =>
  obtain ⟨k, hk, rfl, hE⟩ := hrel
  by_cases hlt : k < len
  ·
   obtain ⟨cap3, b, off, C, hsl, _, _, ec, hx⟩ := (hu.ext hE).at hlt
   cases hsl
   obtain ⟨cap4, b4, off4, C4, hsl, _, _, ec4, hx4⟩ := (hv.ext hE).at hlt
   cases hsl
   have HR := HRa k hlt
   obtain ⟨x0, hd0⟩ := (show Has (f k 0) .str from HR 0 (by decide)).str
   have h0 := hx 0 (by decide)
   have e0 := ec 0 (by decide)
   rw [hd0] at h0
   obtain ⟨y0, z0⟩ := h0.str_eq
   rw [y0] at e0
   clear y0
   obtain ⟨x1, hd1⟩ := (show Has (f k 1) .int from HR 1 (by decide)).int
   have h1 := hx 1 (by decide)
   have e1 := ec 1 (by decide)
   rw [hd1] at h1
   obtain ⟨y1, z1⟩ := h1.int_eq
   rw [y1] at e1
   clear y1
   obtain ⟨x2, hd2⟩ := (show Has (f k 2) .int from HR 2 (by decide)).int
   have h2 := hx 2 (by decide)
   have e2 := ec 2 (by decide)
   rw [hd2] at h2
   obtain ⟨y2, z2⟩ := h2.int_eq
   rw [y2] at e2
   clear y2
   obtain ⟨x3, hd3⟩ := (show Has (f k 3) .str from HR 3 (by decide)).str
   have h3 := hx 3 (by decide)
   have e3 := ec 3 (by decide)
   rw [hd3] at h3
   obtain ⟨y3, z3⟩ := h3.str_eq
   rw [y3] at e3
   clear y3
   have H4 : Has (f k 4) (.list 2) := HR 4 (by decide)
   have h4 := hx 4 (by decide)
   have e4 := ec 4 (by decide)
   simp only [Nat.add_zero] at e0
   clear hx ec
   have r0 := hx4 0 (by decide)
   have re0 := ec4 0 (by decide)
   rw [hd0] at r0
   have ry0 := r0.str_eq.1
   rw [ry0] at re0
   clear ry0 r0
   have r1 := hx4 1 (by decide)
   have re1 := ec4 1 (by decide)
   rw [hd1] at r1
   have ry1 := r1.int_eq.1
   rw [ry1] at re1
   clear ry1 r1
   have r2 := hx4 2 (by decide)
   have re2 := ec4 2 (by decide)
   rw [hd2] at r2
   have ry2 := r2.int_eq.1
   rw [ry2] at re2
   clear ry2 r2
   have r3 := hx4 3 (by decide)
   have re3 := ec4 3 (by decide)
   rw [hd3] at r3
   have ry3 := r3.str_eq.1
   rw [ry3] at re3
   clear ry3 r3
   have r4 := hx4 4 (by decide)
   have re4 := ec4 4 (by decide)
   simp only [Nat.add_zero] at re0
   clear hx4 ec4 HR
   have q4 := h4.ext (Ext.refl _).drew
   have p4 := r4.ext (Ext.refl _).drew
   have hcall := eqProp_any S S2 x0 x1 x2 x3 (f k 4) (C 4) (C4 4) _ H4 q4 p4
   go_wp2_with fail
   go_region_with (go_at_call 105; refine hcall.mono ?_; rintro e w' ⟨rfl, hE2⟩)
   all_goals
    go_wp2
    go_roundw
    case rel => exact ⟨k + 1, by omega, by go_num, hE.drew.trans hE2⟩
    case measure => simp [intOf]; omega
  ·
   go_wp2
   go_ret
   exact ⟨rfl, hE⟩

theorem eqPropS_any (d : D) (H : Has d (.list 3)) : EqD 93 d := by
 obtain ⟨len, f, rfl, HRa⟩ := H.list
 exact eqPropS_list len f HRa

end Go.Proofs.YteijgejpenlgjaaGreat

/- What the laws' functions eq.. answer of two that lie in memory as the same: true. -/
namespace Go.Proofs.YteijgejpenlgjaaGreat
open Go.RowKit Go.Deep

end Go.Proofs.YteijgejpenlgjaaGreat

/- What the laws' functions eq.. answer of two that lie in memory as the same: true. -/
namespace Go.Proofs.YteijgejpenlgjaaGreat
open Go.RowKit Go.Deep

set_option maxHeartbeats 2000000 in
theorem eqNode_any (S S2 : Nat → Prop) (x0 : Int) (d1 : D) (c1 k1 : Value) (d2 : D) (c2 k2 : Value) (w : World)  (H1 : Has d1 (.list 0)) (h1 : DIn S w d1 c1) (i1 : DIn S2 w d1 k1) (H2 : Has d2 (.list 3)) (h2 : DIn S w d2 c2) (i2 : DIn S2 w d2 k2) :
  Calls Tryz.prog 64 #[.agg #[.int .i64 x0, c1, c2], .agg #[.int .i64 x0, k1, k2]] w fun e w' => e = .returned (.bool true) ∧ Ext w w' := by
 have g1 := fun (W : World) (hW : Ext w W) => h1.ext hW
 have m1 := fun (W : World) (hW : Ext w W) => i1.ext hW
 obtain ⟨a1, cap1, l1, f1, hdd1, hcc1, hl1, _⟩ := list_shape H1 h1
 subst hcc1
 clear hdd1 h1
 obtain ⟨b1, bcap1, bl1, bf1, hdd1, hcc1, hbl1, _⟩ := list_shape H1 i1
 subst hcc1
 clear hdd1 i1
 have g2 := fun (W : World) (hW : Ext w W) => h2.ext hW
 have m2 := fun (W : World) (hW : Ext w W) => i2.ext hW
 obtain ⟨a2, cap2, l2, f2, hdd2, hcc2, hl2, _⟩ := list_shape H2 h2
 subst hcc2
 clear hdd2 h2
 obtain ⟨b2, bcap2, bl2, bf2, hdd2, hcc2, hbl2, _⟩ := list_shape H2 i2
 subst hcc2
 clear hdd2 i2
 go_enter Tryz.func64, Tryz.ntmps64
 go_wp2_with (first
  | (go_at_call 92; refine (eqStringS_any d1 H1 S S2 _ _ _ (g1 _ (((Ext.refl w).alloc _).alloc _)) (m1 _ (((Ext.refl w).alloc _).alloc _))).mono ?_; rintro e w1 ⟨rfl, E1⟩; have bx1_0 := box2_fst E1 0 _ rfl; have by1_0 := box2_snd E1 0 _ rfl; have bx1_1 := box2_fst E1 1 _ rfl; have by1_1 := box2_snd E1 1 _ rfl; have bx1_2 := box2_fst E1 2 _ rfl; have by1_2 := box2_snd E1 2 _ rfl)
  | (go_at_call 93; refine (eqPropS_any d2 H2 S S2 _ _ _ (g2 _ ((((Ext.refl w).alloc _).alloc _).trans E1)) (m2 _ ((((Ext.refl w).alloc _).alloc _).trans E1))).mono ?_; rintro e w2 ⟨rfl, E2⟩; have bx2_0 := box2_fst (E1.trans E2) 0 _ rfl; have by2_0 := box2_snd (E1.trans E2) 0 _ rfl; have bx2_1 := box2_fst (E1.trans E2) 1 _ rfl; have by2_1 := box2_snd (E1.trans E2) 1 _ rfl; have bx2_2 := box2_fst (E1.trans E2) 2 _ rfl; have by2_2 := box2_snd (E1.trans E2) 2 _ rfl))
 go_ret
 exact ⟨rfl, (((((Ext.refl w).alloc _).alloc _).trans E1).trans E2)⟩

set_option maxHeartbeats 2000000 in
theorem eqNodeS_list (len : Nat) (f : Nat → Nat → D) (HRa : ∀ i, i < len → HasRow 4 (f i)) : EqD 29 (.list 3 len f) := by
 intro S S2 u v w hu hv
 obtain ⟨a, cap, rfl, hm⟩ := hu.list_eq
 obtain ⟨a2, cap2, rfl, _⟩ := hv.list_eq
 unfold maxLen at hm
 go_enter Tryz.func29, Tryz.ntmps29
 go_wp2
 go_loopw [5] (fun i wr => ∃ k : Nat, k ≤ len ∧ i = .int .i64 k ∧ Ext w wr) (fun i _ => len - (intOf i).toNat)
 case atStart => exact ⟨0, Nat.zero_le _, rfl, Ext.refl _⟩
 case round =>
  obtain ⟨k, hk, rfl, hE⟩ := hrel
  by_cases hlt : k < len
  ·
   obtain ⟨cap3, b, off, C, hsl, _, _, ec, hx⟩ := (hu.ext hE).at hlt
   cases hsl
   obtain ⟨cap4, b4, off4, C4, hsl, _, _, ec4, hx4⟩ := (hv.ext hE).at hlt
   cases hsl
   have HR := HRa k hlt
   obtain ⟨x0, hd0⟩ := (show Has (f k 0) .int from HR 0 (by decide)).int
   have h0 := hx 0 (by decide)
   have e0 := ec 0 (by decide)
   rw [hd0] at h0
   obtain ⟨y0, z0⟩ := h0.int_eq
   rw [y0] at e0
   clear y0
   have H1 : Has (f k 1) (.list 0) := HR 1 (by decide)
   have h1 := hx 1 (by decide)
   have e1 := ec 1 (by decide)
   have H2 : Has (f k 2) (.list 3) := HR 2 (by decide)
   have h2 := hx 2 (by decide)
   have e2 := ec 2 (by decide)
   simp only [Nat.add_zero] at e0
   clear hx ec
   have r0 := hx4 0 (by decide)
   have re0 := ec4 0 (by decide)
   rw [hd0] at r0
   have ry0 := r0.int_eq.1
   rw [ry0] at re0
   clear ry0 r0
   have r1 := hx4 1 (by decide)
   have re1 := ec4 1 (by decide)
   have r2 := hx4 2 (by decide)
   have re2 := ec4 2 (by decide)
   simp only [Nat.add_zero] at re0
   clear hx4 ec4 HR
   have q1 := h1.ext (Ext.refl _).drew
   have p1 := r1.ext (Ext.refl _).drew
   have q2 := h2.ext (Ext.refl _).drew
   have p2 := r2.ext (Ext.refl _).drew
   have hcall := eqNode_any S S2 x0 (f k 1) (C 1) (C4 1) (f k 2) (C 2) (C4 2) _ H1 q1 p1 H2 q2 p2
   go_wp2_with fail
   go_region_with (go_at_call 64; refine hcall.mono ?_; rintro e w' ⟨rfl, hE2⟩)
   all_goals
    go_wp2
    go_roundw
    case rel => exact ⟨k + 1, by omega, by go_num, hE.drew.trans hE2⟩
    case measure => simp [intOf]; omega
  ·
   go_wp2
   go_ret
   exact ⟨rfl, hE⟩

theorem eqNodeS_any (d : D) (H : Has d (.list 4)) : EqD 29 d := by
 obtain ⟨len, f, rfl, HRa⟩ := H.list
 exact eqNodeS_list len f HRa

end Go.Proofs.YteijgejpenlgjaaGreat

/- What the laws' functions eq.. answer of two that lie in memory as the same: true. -/
namespace Go.Proofs.YteijgejpenlgjaaGreat
open Go.RowKit Go.Deep

set_option maxHeartbeats 2000000 in
theorem eqEdge_any (S S2 : Nat → Prop) (x0 : Int) (x1 : ByteArray) (x2 : Int) (x3 : Int) (d4 : D) (c4 k4 : Value) (w : World)  (H4 : Has d4 (.list 3)) (h4 : DIn S w d4 c4) (i4 : DIn S2 w d4 k4) :
  Calls Tryz.prog 65 #[.agg #[.int .i64 x0, .string x1, .int .i64 x2, .int .i64 x3, c4], .agg #[.int .i64 x0, .string x1, .int .i64 x2, .int .i64 x3, k4]] w fun e w' => e = .returned (.bool true) ∧ Ext w w' := by
 have g4 := fun (W : World) (hW : Ext w W) => h4.ext hW
 have m4 := fun (W : World) (hW : Ext w W) => i4.ext hW
 obtain ⟨a4, cap4, l4, f4, hdd4, hcc4, hl4, _⟩ := list_shape H4 h4
 subst hcc4
 clear hdd4 h4
 obtain ⟨b4, bcap4, bl4, bf4, hdd4, hcc4, hbl4, _⟩ := list_shape H4 i4
 subst hcc4
 clear hdd4 i4
 go_enter Tryz.func65, Tryz.ntmps65
 go_wp2_with (first
  | (go_at_call 93; refine (eqPropS_any d4 H4 S S2 _ _ _ (g4 _ (((Ext.refl w).alloc _).alloc _)) (m4 _ (((Ext.refl w).alloc _).alloc _))).mono ?_; rintro e w1 ⟨rfl, E1⟩; have bx1_0 := box2_fst E1 0 _ rfl; have by1_0 := box2_snd E1 0 _ rfl; have bx1_1 := box2_fst E1 1 _ rfl; have by1_1 := box2_snd E1 1 _ rfl; have bx1_2 := box2_fst E1 2 _ rfl; have by1_2 := box2_snd E1 2 _ rfl; have bx1_3 := box2_fst E1 3 _ rfl; have by1_3 := box2_snd E1 3 _ rfl; have bx1_4 := box2_fst E1 4 _ rfl; have by1_4 := box2_snd E1 4 _ rfl))
 go_ret
 exact ⟨rfl, ((((Ext.refl w).alloc _).alloc _).trans E1)⟩

set_option maxHeartbeats 2000000 in
theorem eqEdgeS_list (len : Nat) (f : Nat → Nat → D) (HRa : ∀ i, i < len → HasRow 5 (f i)) : EqD 30 (.list 5 len f) := by
 intro S S2 u v w hu hv
 obtain ⟨a, cap, rfl, hm⟩ := hu.list_eq
 obtain ⟨a2, cap2, rfl, _⟩ := hv.list_eq
 unfold maxLen at hm
 go_enter Tryz.func30, Tryz.ntmps30
 go_wp2
 go_loopw [5] (fun i wr => ∃ k : Nat, k ≤ len ∧ i = .int .i64 k ∧ Ext w wr) (fun i _ => len - (intOf i).toNat)
 case atStart => exact ⟨0, Nat.zero_le _, rfl, Ext.refl _⟩
 case round =>
  obtain ⟨k, hk, rfl, hE⟩ := hrel
  by_cases hlt : k < len
  ·
   obtain ⟨cap3, b, off, C, hsl, _, _, ec, hx⟩ := (hu.ext hE).at hlt
   cases hsl
   obtain ⟨cap4, b4, off4, C4, hsl, _, _, ec4, hx4⟩ := (hv.ext hE).at hlt
   cases hsl
   have HR := HRa k hlt
   obtain ⟨x0, hd0⟩ := (show Has (f k 0) .int from HR 0 (by decide)).int
   have h0 := hx 0 (by decide)
   have e0 := ec 0 (by decide)
   rw [hd0] at h0
   obtain ⟨y0, z0⟩ := h0.int_eq
   rw [y0] at e0
   clear y0
   obtain ⟨x1, hd1⟩ := (show Has (f k 1) .str from HR 1 (by decide)).str
   have h1 := hx 1 (by decide)
   have e1 := ec 1 (by decide)
   rw [hd1] at h1
   obtain ⟨y1, z1⟩ := h1.str_eq
   rw [y1] at e1
   clear y1
   obtain ⟨x2, hd2⟩ := (show Has (f k 2) .int from HR 2 (by decide)).int
   have h2 := hx 2 (by decide)
   have e2 := ec 2 (by decide)
   rw [hd2] at h2
   obtain ⟨y2, z2⟩ := h2.int_eq
   rw [y2] at e2
   clear y2
   obtain ⟨x3, hd3⟩ := (show Has (f k 3) .int from HR 3 (by decide)).int
   have h3 := hx 3 (by decide)
   have e3 := ec 3 (by decide)
   rw [hd3] at h3
   obtain ⟨y3, z3⟩ := h3.int_eq
   rw [y3] at e3
   clear y3
   have H4 : Has (f k 4) (.list 3) := HR 4 (by decide)
   have h4 := hx 4 (by decide)
   have e4 := ec 4 (by decide)
   simp only [Nat.add_zero] at e0
   clear hx ec
   have r0 := hx4 0 (by decide)
   have re0 := ec4 0 (by decide)
   rw [hd0] at r0
   have ry0 := r0.int_eq.1
   rw [ry0] at re0
   clear ry0 r0
   have r1 := hx4 1 (by decide)
   have re1 := ec4 1 (by decide)
   rw [hd1] at r1
   have ry1 := r1.str_eq.1
   rw [ry1] at re1
   clear ry1 r1
   have r2 := hx4 2 (by decide)
   have re2 := ec4 2 (by decide)
   rw [hd2] at r2
   have ry2 := r2.int_eq.1
   rw [ry2] at re2
   clear ry2 r2
   have r3 := hx4 3 (by decide)
   have re3 := ec4 3 (by decide)
   rw [hd3] at r3
   have ry3 := r3.int_eq.1
   rw [ry3] at re3
   clear ry3 r3
   have r4 := hx4 4 (by decide)
   have re4 := ec4 4 (by decide)
   simp only [Nat.add_zero] at re0
   clear hx4 ec4 HR
   have q4 := h4.ext (Ext.refl _).drew
   have p4 := r4.ext (Ext.refl _).drew
   have hcall := eqEdge_any S S2 x0 x1 x2 x3 (f k 4) (C 4) (C4 4) _ H4 q4 p4
   go_wp2_with fail
   go_region_with (go_at_call 65; refine hcall.mono ?_; rintro e w' ⟨rfl, hE2⟩)
   all_goals
    go_wp2
    go_roundw
    case rel => exact ⟨k + 1, by omega, by go_num, hE.drew.trans hE2⟩
    case measure => simp [intOf]; omega
  ·
   go_wp2
   go_ret
   exact ⟨rfl, hE⟩

theorem eqEdgeS_any (d : D) (H : Has d (.list 5)) : EqD 30 d := by
 obtain ⟨len, f, rfl, HRa⟩ := H.list
 exact eqEdgeS_list len f HRa

end Go.Proofs.YteijgejpenlgjaaGreat

/- What the laws' functions eq.. answer of two that lie in memory as the same: true. -/
namespace Go.Proofs.YteijgejpenlgjaaGreat
open Go.RowKit Go.Deep

set_option maxHeartbeats 2000000 in
theorem eqGraph_any (S S2 : Nat → Prop) (d0 : D) (c0 k0 : Value) (d1 : D) (c1 k1 : Value) (x2 : Int) (x3 : Int) (w : World)  (H0 : Has d0 (.list 4)) (h0 : DIn S w d0 c0) (i0 : DIn S2 w d0 k0) (H1 : Has d1 (.list 5)) (h1 : DIn S w d1 c1) (i1 : DIn S2 w d1 k1) :
  Calls Tryz.prog 10 #[.agg #[c0, c1, .int .i64 x2, .int .i64 x3], .agg #[k0, k1, .int .i64 x2, .int .i64 x3]] w fun e w' => e = .returned (.bool true) ∧ Ext w w' := by
 have g0 := fun (W : World) (hW : Ext w W) => h0.ext hW
 have m0 := fun (W : World) (hW : Ext w W) => i0.ext hW
 obtain ⟨a0, cap0, l0, f0, hdd0, hcc0, hl0, _⟩ := list_shape H0 h0
 subst hcc0
 clear hdd0 h0
 obtain ⟨b0, bcap0, bl0, bf0, hdd0, hcc0, hbl0, _⟩ := list_shape H0 i0
 subst hcc0
 clear hdd0 i0
 have g1 := fun (W : World) (hW : Ext w W) => h1.ext hW
 have m1 := fun (W : World) (hW : Ext w W) => i1.ext hW
 obtain ⟨a1, cap1, l1, f1, hdd1, hcc1, hl1, _⟩ := list_shape H1 h1
 subst hcc1
 clear hdd1 h1
 obtain ⟨b1, bcap1, bl1, bf1, hdd1, hcc1, hbl1, _⟩ := list_shape H1 i1
 subst hcc1
 clear hdd1 i1
 go_enter Tryz.func10, Tryz.ntmps10
 go_wp2_with (first
  | (go_at_call 29; refine (eqNodeS_any d0 H0 S S2 _ _ _ (g0 _ (((Ext.refl w).alloc _).alloc _)) (m0 _ (((Ext.refl w).alloc _).alloc _))).mono ?_; rintro e w1 ⟨rfl, E1⟩; have bx1_0 := box2_fst E1 0 _ rfl; have by1_0 := box2_snd E1 0 _ rfl; have bx1_1 := box2_fst E1 1 _ rfl; have by1_1 := box2_snd E1 1 _ rfl; have bx1_2 := box2_fst E1 2 _ rfl; have by1_2 := box2_snd E1 2 _ rfl; have bx1_3 := box2_fst E1 3 _ rfl; have by1_3 := box2_snd E1 3 _ rfl)
  | (go_at_call 30; refine (eqEdgeS_any d1 H1 S S2 _ _ _ (g1 _ ((((Ext.refl w).alloc _).alloc _).trans E1)) (m1 _ ((((Ext.refl w).alloc _).alloc _).trans E1))).mono ?_; rintro e w2 ⟨rfl, E2⟩; have bx2_0 := box2_fst (E1.trans E2) 0 _ rfl; have by2_0 := box2_snd (E1.trans E2) 0 _ rfl; have bx2_1 := box2_fst (E1.trans E2) 1 _ rfl; have by2_1 := box2_snd (E1.trans E2) 1 _ rfl; have bx2_2 := box2_fst (E1.trans E2) 2 _ rfl; have by2_2 := box2_snd (E1.trans E2) 2 _ rfl; have bx2_3 := box2_fst (E1.trans E2) 3 _ rfl; have by2_3 := box2_snd (E1.trans E2) 3 _ rfl))
 go_ret
 exact ⟨rfl, (((((Ext.refl w).alloc _).alloc _).trans E1).trans E2)⟩

end Go.Proofs.YteijgejpenlgjaaGreat
