/- What spec.NodesWith answers. -/
import Derived.Test.YtpmcilgfijhhlaaGreatWithSpec2
import Derived.Test.YtpmcilgfijhhlaaGreatGSpec4
namespace Go.Proofs.YtpmcilgfijhhlaaGreat
open Go.RowKit Go.Deep

set_option maxRecDepth 100000 in
set_option maxHeartbeats 1000000 in
theorem specNodesWith_any (S : Nat → Prop) (d0 d1 : D) (c0 c1 : Value) (x2 x3 : Int) (s : ByteArray) (w : World) (H0 : Has d0 (.list 4)) (h0 : DIn S w d0 c0) (H1 : Has d1 (.list 5)) (h1 : DIn S w d1 c1) :
    Calls Tryz.prog 5 #[.agg #[c0, c1, .int .i64 x2, .int .i64 x3], .string s] w fun e w' => ∃ a l c, e = .returned (.slice a l c) ∧ DIn (New w.heap.size w'.heap.size) w' (intsD (if graphB d0 d1 x2 x3 then withIds d0.at! s d0.len! else [])) (.slice a l c) ∧ Ext w w' := by
  have hok := fun (W : World) (hW : Ext w W) => specGraphOk_any S d0 d1 c0 c1 x2 x3 W H0 (h0.ext hW) H1 (h1.ext hW)
  have hwith := fun (W : World) (hW : Ext w W) (hc1 : ∃ a l c, c1 = .slice a l c) (hl : d0.len! ≤ 12) => l2With_any S d0 c0 c1 x2 x3 s W H0 (h0.ext hW) hc1 hl
  have hlim : graphB d0 d1 x2 x3 = true → d0.len! ≤ 12 := fun h => by
    simp only [graphB, Bool.and_eq_true, decide_eq_true_eq] at h
    exact h.2.1.1.1
  obtain ⟨a0, cap0, l0, f0, hD0, rfl, _, _⟩ := list_shape H0 h0
  obtain ⟨a1, cap1, l1, f1, hD1, rfl, _, _⟩ := list_shape H1 h1
  clear hD0 hD1
  have HL : Hid _ := hlim
  clear hlim
  generalize graphB d0 d1 x2 x3 = gb at *
  go_enter Tryz.func5, Tryz.ntmps5
  cases gb
  · go_wp2_with (go_at_call 15; refine (hok _ ((Ext.refl _).alloc _)).mono ?_; rintro e w1 ⟨rfl, hE1⟩)
    go_ret
    have hE2 : Ext w w1 := ((Ext.refl _).alloc _).trans hE1
    exact ⟨_, _, _, rfl, ⟨_, _, 0, 0, rfl, Nat.zero_le _, fun h => by simp at h, fun i hi => by simp at hi⟩, hE2.alloc _⟩
  · go_wp2_with fail
    refine (hok _ ((Ext.refl _).alloc _)).mono ?_
    rintro e w1 ⟨rfl, hE1⟩
    have hE2 : Ext w w1 := ((Ext.refl _).alloc _).trans hE1
    have p0 := box_cell hE1 0 _ rfl
    have p1 := box_cell hE1 1 _ rfl
    have p2 := box_cell hE1 2 _ rfl
    have p3 := box_cell hE1 3 _ rfl
    go_wp2_with fail
    refine (hwith _ hE2 ⟨_, _, _, rfl⟩ (by first | exact HL.out rfl | exact HL.out trivial)).mono ?_
    rintro e w2 ⟨a, l, c, rfl, hD, hE3⟩
    have hD' : Hid _ := hD.mono (fun x (hx : New w1.heap.size w2.heap.size x) => (show New w.heap.size w2.heap.size x from ⟨Nat.le_trans hE2.le hx.1, hx.2⟩))
    clear hD
    go_wp2
    go_ret
    exact ⟨_, _, _, rfl, hD'.out, hE2.trans hE3⟩
end Go.Proofs.YtpmcilgfijhhlaaGreat
