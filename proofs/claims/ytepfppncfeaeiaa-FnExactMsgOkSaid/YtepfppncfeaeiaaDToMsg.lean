/- What the laws' functions to.. hand back: a copy in new memory of its own. -/
import Derived.Test.YtepfppncfeaeiaaDToCell
namespace Go.Proofs.Ytepfppncfeaeiaa
open Go.RowKit Go.Deep

set_option maxHeartbeats 4000000 in
theorem toMsg_any (S : Nat → Prop) (x0 : Int) (x1 : ByteArray) (d2 : D) (c2 : Value) (x3 : Int) (w : World)  (H2 : Has d2 (.list 3)) (h2 : DIn S w d2 c2) (s2 : SmallD d2) :
    Calls Try.prog 6 #[.agg #[.int .i64 x0, .string x1, c2, .int .i64 x3]] w fun e w' => ∃ u2, ∃ Q2 : Nat → Prop, e = .returned (.agg #[.int .i64 x0, .string x1, u2, .int .i64 x3]) ∧ (DIn Q2 w' d2 u2 ∧ Own w' d2 Q2 u2 ∧ ∀ x, Q2 x → w.heap.size ≤ x ∧ x < w'.heap.size) ∧ Ext w w' := by
  have g2 := fun (W : World) (hW : Ext w W) => h2.ext hW
  obtain ⟨a2, cap2, l2, f2, hdd2, hcc2, hl2, _⟩ := list_shape H2 h2
  subst hcc2
  clear hdd2 h2
  go_enter Try.func6, Try.ntmps6
  go_wp2_with fail
  refine (toCellS_any d2 H2 S _ _ (g2 _ ((((Ext.refl _).alloc _).alloc _).alloc _)) s2).mono ?_
  rintro e w1 ⟨u2, rfl, hu2, ho2, E1⟩
  obtain ⟨hc1, hf1⟩ := bcell E1
  have hz1 : w.heap.size + 1 + 1 < w1.heap.size := by have := E1.le; simp at this; omega
  have F1 : Ext w w1 := ((((Ext.refl _).alloc _).alloc _).alloc _).trans E1
  simp only [World.size_alloc] at hc1 hf1 hu2 ho2
  have hy1 : w.heap.size + 1 < w1.heap.size := by omega
  have hx1 : w.heap.size < w1.heap.size := by omega
  obtain ⟨b2, bc2, bl2, bf2, _, hcc, _, _⟩ := list_shape H2 hu2
  subst hcc
  go_wp2
  refine bodyPost_ret (v := .agg #[.int .i64 x0, .string x1, .slice b2 bl2 bc2, .int .i64 x3]) (by simp [results, Try.results6, go_sem, hc1]) rfl ⟨_, New (w.heap.size + 1 + 1 + 1) w1.heap.size, rfl, ⟨?_, ?_, ?_⟩, ?_⟩
  all_goals try simp only [World.size_setCell]
  · exact DIn.keep (lo := w.heap.size + 1 + 1 + 1) hu2 (fun x hx => by simp only [New] at hx; omega) (Keep.set (Keep.set (Keep.set (Keep.set (Keep.set (Keep.set (Keep.refl _ _) (by dsimp only; omega) _) (by dsimp only; omega) _) (by dsimp only; omega) _) (by dsimp only; omega) _) (by dsimp only; omega) _) (by dsimp only; omega) _)
  · exact Own.keep (lo := w.heap.size + 1 + 1 + 1) ho2 (fun x hx => by simp only [New] at hx; omega) (Keep.set (Keep.set (Keep.set (Keep.set (Keep.set (Keep.set (Keep.refl _ _) (by dsimp only; omega) _) (by dsimp only; omega) _) (by dsimp only; omega) _) (by dsimp only; omega) _) (by dsimp only; omega) _) (by dsimp only; omega) _)
  · intro x hx; simp only [New] at hx; omega
  · exact (Ext.setCell (Ext.setCell (Ext.setCell (Ext.setCell (Ext.setCell (Ext.setCell F1 (by dsimp only; omega) _) (by dsimp only; omega) _) (by dsimp only; omega) _) (by dsimp only; omega) _) (by dsimp only; omega) _) (by dsimp only; omega) _)

end Go.Proofs.Ytepfppncfeaeiaa
