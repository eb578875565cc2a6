/- What the laws' functions to.. hand back: a copy in new memory of its own. -/
import Derived.Test.YtajepcddoijgoaaDToValue
namespace Go.Proofs.Ytajepcddoijgoaa
open Go.RowKit Go.Deep

set_option maxHeartbeats 4000000 in
theorem toReply_any (S : Nat → Prop) (x0 : Int) (d1 : D) (c1 : Value) (d2 : D) (c2 : Value) (x3 : Int) (x4 : Bool) (w : World)  (H1 : Has d1 (.list 0)) (h1 : DIn S w d1 c1) (s1 : SmallD d1) (H2 : Has d2 (.list 2)) (h2 : DIn S w d2 c2) (s2 : SmallD d2) :
    Calls Try.prog 6 #[.agg #[.int .i64 x0, c1, c2, .int .i64 x3, .bool x4]] w fun e w' => ∃ u1 u2, ∃ Q1 Q2 : Nat → Prop, e = .returned (.agg #[.int .i64 x0, u1, u2, .int .i64 x3, .bool x4]) ∧ (DIn Q1 w' d1 u1 ∧ Own w' d1 Q1 u1 ∧ ∀ x, Q1 x → w.heap.size ≤ x ∧ x < w'.heap.size) ∧ (DIn Q2 w' d2 u2 ∧ Own w' d2 Q2 u2 ∧ ∀ x, Q2 x → w.heap.size ≤ x ∧ x < w'.heap.size) ∧ (∀ x, Q1 x → ¬ Q2 x) ∧ Ext w w' := by
  have g1 := fun (W : World) (hW : Ext w W) => h1.ext hW
  obtain ⟨a1, cap1, l1, f1, hdd1, hcc1, hl1, _⟩ := list_shape H1 h1
  subst hcc1
  clear hdd1 h1
  have g2 := fun (W : World) (hW : Ext w W) => h2.ext hW
  obtain ⟨a2, cap2, l2, f2, hdd2, hcc2, hl2, _⟩ := list_shape H2 h2
  subst hcc2
  clear hdd2 h2
  go_enter Try.func6, Try.ntmps6
  go_wp2_with fail
  refine (toStringS_any d1 H1 S _ _ (g1 _ ((((Ext.refl _).alloc _).alloc _).alloc _)) s1).mono ?_
  rintro e w1 ⟨u1, rfl, hu1, ho1, E1⟩
  obtain ⟨hc1, hf1⟩ := bcell E1
  have hz1 : w.heap.size + 1 + 1 < w1.heap.size := by have := E1.le; simp at this; omega
  have F1 : Ext w w1 := ((((Ext.refl _).alloc _).alloc _).alloc _).trans E1
  simp only [World.size_alloc] at hc1 hf1 hu1 ho1
  have hy1 : w.heap.size + 1 < w1.heap.size := by omega
  have hx1 : w.heap.size < w1.heap.size := by omega
  obtain ⟨b1, bc1, bl1, bf1, _, hcc, _, _⟩ := list_shape H1 hu1
  subst hcc
  go_wp2_with fail
  have X2 : Ext w (w1.setCell ⟨w.heap.size + 1 + 1, 1, none⟩ (.slice b1 bl1 bc1)) := (F1.setCell (by dsimp only; omega) _)
  refine (toValueS_any d2 H2 S _ _ (g2 _ X2) s2).mono ?_
  rintro e w2 ⟨u2, rfl, hu2, ho2, E2⟩
  obtain ⟨hc2, hf2⟩ := bcell E2
  have hl2_ : w1.heap.size ≤ w2.heap.size := by have := E2.le; simp at this; omega
  have hz2 : w.heap.size + 1 + 1 < w2.heap.size := by omega
  have F2 : Ext w w2 := X2.trans E2
  simp only [World.size_setCell] at hc2 hf2 hu2 ho2
  have hy2 : w.heap.size + 1 < w2.heap.size := by omega
  have hx2 : w.heap.size < w2.heap.size := by omega
  obtain ⟨b2, bc2, bl2, bf2, _, hcc, _, _⟩ := list_shape H2 hu2
  subst hcc
  go_wp2
  refine bodyPost_ret (v := .agg #[.int .i64 x0, .slice b1 bl1 bc1, .slice b2 bl2 bc2, .int .i64 x3, .bool x4]) (by simp [results, Try.results6, go_sem, hc2, hc1, hy1]) rfl ⟨_, _, New (w.heap.size + 1 + 1 + 1) w1.heap.size, New w1.heap.size w2.heap.size, rfl, ⟨?_, ?_, ?_⟩, ⟨?_, ?_, ?_⟩, ?_, ?_⟩
  all_goals try simp only [World.size_setCell]
  · exact DIn.keep (lo := w.heap.size + 1 + 1 + 1) hu1 (fun x hx => by simp only [New] at hx; omega) (Keep.set (Keep.set (Keep.set (Keep.set (Keep.set (Keep.set (Keep.set (Keep.set (Keep.ext (Keep.set (Keep.refl _ _) (by dsimp only; omega) _) E2) (by dsimp only; omega) _) (by dsimp only; omega) _) (by dsimp only; omega) _) (by dsimp only; omega) _) (by dsimp only; omega) _) (by dsimp only; omega) _) (by dsimp only; omega) _) (by dsimp only; omega) _)
  · exact Own.keep (lo := w.heap.size + 1 + 1 + 1) ho1 (fun x hx => by simp only [New] at hx; omega) (Keep.set (Keep.set (Keep.set (Keep.set (Keep.set (Keep.set (Keep.set (Keep.set (Keep.ext (Keep.set (Keep.refl _ _) (by dsimp only; omega) _) E2) (by dsimp only; omega) _) (by dsimp only; omega) _) (by dsimp only; omega) _) (by dsimp only; omega) _) (by dsimp only; omega) _) (by dsimp only; omega) _) (by dsimp only; omega) _) (by dsimp only; omega) _)
  · intro x hx; simp only [New] at hx; omega
  · exact DIn.keep (lo := w.heap.size + 1 + 1 + 1) hu2 (fun x hx => by simp only [New] at hx; omega) (Keep.set (Keep.set (Keep.set (Keep.set (Keep.set (Keep.set (Keep.set (Keep.set (Keep.refl _ _) (by dsimp only; omega) _) (by dsimp only; omega) _) (by dsimp only; omega) _) (by dsimp only; omega) _) (by dsimp only; omega) _) (by dsimp only; omega) _) (by dsimp only; omega) _) (by dsimp only; omega) _)
  · exact Own.keep (lo := w.heap.size + 1 + 1 + 1) ho2 (fun x hx => by simp only [New] at hx; omega) (Keep.set (Keep.set (Keep.set (Keep.set (Keep.set (Keep.set (Keep.set (Keep.set (Keep.refl _ _) (by dsimp only; omega) _) (by dsimp only; omega) _) (by dsimp only; omega) _) (by dsimp only; omega) _) (by dsimp only; omega) _) (by dsimp only; omega) _) (by dsimp only; omega) _) (by dsimp only; omega) _)
  · intro x hx; simp only [New] at hx; omega
  · intro x hx hx2; simp only [New] at hx; simp only [New] at hx2; omega
  · exact (Ext.setCell (Ext.setCell (Ext.setCell (Ext.setCell (Ext.setCell (Ext.setCell (Ext.setCell (Ext.setCell F2 (by dsimp only; omega) _) (by dsimp only; omega) _) (by dsimp only; omega) _) (by dsimp only; omega) _) (by dsimp only; omega) _) (by dsimp only; omega) _) (by dsimp only; omega) _) (by dsimp only; omega) _)

end Go.Proofs.Ytajepcddoijgoaa
