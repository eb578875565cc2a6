/- What the laws' functions to.. hand back: a copy in new memory of its own. -/
import Derived.Test.YtnnohigijfkdkaaDToEdge
namespace Go.Proofs.Ytnnohigijfkdkaa
open Go.RowKit Go.Deep

set_option maxHeartbeats 4000000 in
theorem toGraph_any (S : Nat → Prop) (d0 : D) (c0 : Value) (d1 : D) (c1 : Value) (x2 : Int) (x3 : Int) (w : World)  (H0 : Has d0 (.list 4)) (h0 : DIn S w d0 c0) (s0 : SmallD d0) (H1 : Has d1 (.list 5)) (h1 : DIn S w d1 c1) (s1 : SmallD d1) :
    Calls Try.prog 6 #[.agg #[c0, c1, .int .i64 x2, .int .i64 x3]] w fun e w' => ∃ u0 u1, ∃ Q0 Q1 : Nat → Prop, e = .returned (.agg #[u0, u1, .int .i64 x2, .int .i64 x3]) ∧ (DIn Q0 w' d0 u0 ∧ Own w' d0 Q0 u0 ∧ ∀ x, Q0 x → w.heap.size ≤ x ∧ x < w'.heap.size) ∧ (DIn Q1 w' d1 u1 ∧ Own w' d1 Q1 u1 ∧ ∀ x, Q1 x → w.heap.size ≤ x ∧ x < w'.heap.size) ∧ (∀ x, Q0 x → ¬ Q1 x) ∧ Ext w w' := by
  have g0 := fun (W : World) (hW : Ext w W) => h0.ext hW
  obtain ⟨a0, cap0, l0, f0, hdd0, hcc0, hl0, _⟩ := list_shape H0 h0
  subst hcc0
  clear hdd0 h0
  have g1 := fun (W : World) (hW : Ext w W) => h1.ext hW
  obtain ⟨a1, cap1, l1, f1, hdd1, hcc1, hl1, _⟩ := list_shape H1 h1
  subst hcc1
  clear hdd1 h1
  go_enter Try.func6, Try.ntmps6
  go_wp2_with fail
  refine (toNodeS_any d0 H0 S _ _ (g0 _ ((((Ext.refl _).alloc _).alloc _).alloc _)) s0).mono ?_
  rintro e w1 ⟨u0, rfl, hu0, ho0, E1⟩
  obtain ⟨hc1, hf1⟩ := bcell E1
  have hz1 : w.heap.size + 1 + 1 < w1.heap.size := by have := E1.le; simp at this; omega
  have F1 : Ext w w1 := ((((Ext.refl _).alloc _).alloc _).alloc _).trans E1
  simp only [World.size_alloc] at hc1 hf1 hu0 ho0
  have hy1 : w.heap.size + 1 < w1.heap.size := by omega
  have hx1 : w.heap.size < w1.heap.size := by omega
  obtain ⟨b0, bc0, bl0, bf0, _, hcc, _, _⟩ := list_shape H0 hu0
  subst hcc
  go_wp2_with fail
  have X2 : Ext w (w1.setCell ⟨w.heap.size + 1 + 1, 0, none⟩ (.slice b0 bl0 bc0)) := (F1.setCell (by dsimp only; omega) _)
  refine (toEdgeS_any d1 H1 S _ _ (g1 _ X2) s1).mono ?_
  rintro e w2 ⟨u1, rfl, hu1, ho1, E2⟩
  obtain ⟨hc2, hf2⟩ := bcell E2
  have hl2_ : w1.heap.size ≤ w2.heap.size := by have := E2.le; simp at this; omega
  have hz2 : w.heap.size + 1 + 1 < w2.heap.size := by omega
  have F2 : Ext w w2 := X2.trans E2
  simp only [World.size_setCell] at hc2 hf2 hu1 ho1
  have hy2 : w.heap.size + 1 < w2.heap.size := by omega
  have hx2 : w.heap.size < w2.heap.size := by omega
  obtain ⟨b1, bc1, bl1, bf1, _, hcc, _, _⟩ := list_shape H1 hu1
  subst hcc
  go_wp2
  refine bodyPost_ret (v := .agg #[.slice b0 bl0 bc0, .slice b1 bl1 bc1, .int .i64 x2, .int .i64 x3]) (by simp [results, Try.results6, go_sem, hc2, hc1, hy1]) rfl ⟨_, _, New (w.heap.size + 1 + 1 + 1) w1.heap.size, New w1.heap.size w2.heap.size, rfl, ⟨?_, ?_, ?_⟩, ⟨?_, ?_, ?_⟩, ?_, ?_⟩
  all_goals try simp only [World.size_setCell]
  · exact DIn.keep (lo := w.heap.size + 1 + 1 + 1) hu0 (fun x hx => by simp only [New] at hx; omega) (Keep.set (Keep.set (Keep.set (Keep.set (Keep.set (Keep.set (Keep.set (Keep.ext (Keep.set (Keep.refl _ _) (by dsimp only; omega) _) E2) (by dsimp only; omega) _) (by dsimp only; omega) _) (by dsimp only; omega) _) (by dsimp only; omega) _) (by dsimp only; omega) _) (by dsimp only; omega) _) (by dsimp only; omega) _)
  · exact Own.keep (lo := w.heap.size + 1 + 1 + 1) ho0 (fun x hx => by simp only [New] at hx; omega) (Keep.set (Keep.set (Keep.set (Keep.set (Keep.set (Keep.set (Keep.set (Keep.ext (Keep.set (Keep.refl _ _) (by dsimp only; omega) _) E2) (by dsimp only; omega) _) (by dsimp only; omega) _) (by dsimp only; omega) _) (by dsimp only; omega) _) (by dsimp only; omega) _) (by dsimp only; omega) _) (by dsimp only; omega) _)
  · intro x hx; simp only [New] at hx; omega
  · exact DIn.keep (lo := w.heap.size + 1 + 1 + 1) hu1 (fun x hx => by simp only [New] at hx; omega) (Keep.set (Keep.set (Keep.set (Keep.set (Keep.set (Keep.set (Keep.set (Keep.refl _ _) (by dsimp only; omega) _) (by dsimp only; omega) _) (by dsimp only; omega) _) (by dsimp only; omega) _) (by dsimp only; omega) _) (by dsimp only; omega) _) (by dsimp only; omega) _)
  · exact Own.keep (lo := w.heap.size + 1 + 1 + 1) ho1 (fun x hx => by simp only [New] at hx; omega) (Keep.set (Keep.set (Keep.set (Keep.set (Keep.set (Keep.set (Keep.set (Keep.refl _ _) (by dsimp only; omega) _) (by dsimp only; omega) _) (by dsimp only; omega) _) (by dsimp only; omega) _) (by dsimp only; omega) _) (by dsimp only; omega) _) (by dsimp only; omega) _)
  · intro x hx; simp only [New] at hx; omega
  · intro x hx hx2; simp only [New] at hx; simp only [New] at hx2; omega
  · exact (Ext.setCell (Ext.setCell (Ext.setCell (Ext.setCell (Ext.setCell (Ext.setCell (Ext.setCell F2 (by dsimp only; omega) _) (by dsimp only; omega) _) (by dsimp only; omega) _) (by dsimp only; omega) _) (by dsimp only; omega) _) (by dsimp only; omega) _) (by dsimp only; omega) _)

end Go.Proofs.Ytnnohigijfkdkaa
