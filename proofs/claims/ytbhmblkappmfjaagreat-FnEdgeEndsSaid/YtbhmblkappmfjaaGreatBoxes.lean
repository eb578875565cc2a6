/- Boxes of four cells: that they stay, that they are new. -/
import Derived.Test.YtbhmblkappmfjaaGreatValMem
namespace Go.Proofs.YtbhmblkappmfjaaGreat
open Go.RowKit Go.Deep

structure BoxAt (W : World) (p : Nat) (c0 c1 c2 c3 : Value) : Prop where
  lt : p < W.heap.size
  h0 : W.cell? ⟨p, 0, none⟩ = some c0
  h1 : W.cell? ⟨p, 1, none⟩ = some c1
  h2 : W.cell? ⟨p, 2, none⟩ = some c2
  h3 : W.cell? ⟨p, 3, none⟩ = some c3
theorem BoxAt.new (w : World) (c0 c1 c2 c3 : Value) (T : TypeId) : BoxAt (w.alloc (.cells #[c0, c1, c2, c3] T)) w.heap.size c0 c1 c2 c3 := by
  obtain ⟨a, b, c, d, e⟩ := box4 (Ext.refl (w.alloc (.cells #[c0, c1, c2, c3] T)))
  exact ⟨e, a, b, c, d⟩
theorem BoxAt.block {W W' : World} {p : Nat} {c0 c1 c2 c3 : Value} (h : BoxAt W p c0 c1 c2 c3) (hz : W.heap.size ≤ W'.heap.size) (e : W'.heap[p]? = W.heap[p]?) : BoxAt W' p c0 c1 c2 c3 := by
  have hc : ∀ o, W'.cell? ⟨p, o, none⟩ = W.cell? ⟨p, o, none⟩ := fun o => World.cell?_of_block e
  exact ⟨by have := h.lt; omega, by rw [hc]; exact h.h0, by rw [hc]; exact h.h1, by rw [hc]; exact h.h2, by rw [hc]; exact h.h3⟩
theorem BoxAt.ext {W W' : World} {p : Nat} {c0 c1 c2 c3 : Value} (h : BoxAt W p c0 c1 c2 c3) (e : Ext W W') : BoxAt W' p c0 c1 c2 c3 := h.block e.le (Below.block e p h.lt)

/-- Block p is new since BW, has four empty cells, none of them frozen. -/
structure NewBox (BW W : World) (p : Nat) : Prop where
  lo : BW.heap.size ≤ p
  box : BoxAt W p (.int .i64 0) (.int .i64 0) (.string ⟨#[]⟩) (.slice none 0 0)
  frozen : ∀ o, W.frozen? ⟨p, o, none⟩ = false
theorem NewBox.ext {BW W W' : World} {p : Nat} (h : NewBox BW W p) (e : Ext W W') : NewBox BW W' p :=
  ⟨h.lo, h.box.ext e, fun o => by rw [Below.frozen e (p := ⟨p, o, none⟩) h.box.lt]; exact h.frozen o⟩
theorem NewBox.mk' {BW W W' : World} {T : TypeId} (h : Ext BW W) (e : Ext (W.alloc (.cells #[.int .i64 0, .int .i64 0, .string ⟨#[]⟩, .slice none 0 0] T)) W') : NewBox BW W' W.heap.size := by
  have h1 : NewBox BW (W.alloc (.cells #[.int .i64 0, .int .i64 0, .string ⟨#[]⟩, .slice none 0 0] T)) W.heap.size := ⟨h.le, BoxAt.new _ _ _ _ _ _, fun o => by rw [frozen?_alloc_cells]; simp [World.frozen?]⟩
  exact h1.ext e
theorem BoxAt.store {BW W : World} {p : Nat} (h : NewBox BW W p) (hX : Ext BW W) (c0 c1 c2 c3 : Value) :
    Ext BW ((((W.setCell ⟨p, 0, none⟩ c0).setCell ⟨p, 1, none⟩ c1).setCell ⟨p, 2, none⟩ c2).setCell ⟨p, 3, none⟩ c3) ∧ BoxAt ((((W.setCell ⟨p, 0, none⟩ c0).setCell ⟨p, 1, none⟩ c1).setCell ⟨p, 2, none⟩ c2).setCell ⟨p, 3, none⟩ c3) p c0 c1 c2 c3 := by
  have hlo := h.lo
  obtain ⟨_, ⟨lt, z0, z1, z2, z3⟩, _⟩ := h
  refine ⟨(((hX.setCell hlo _).setCell hlo _).setCell hlo _).setCell hlo _, by simpa using lt, ?_, ?_, ?_, ?_⟩
  all_goals simp [go_sem, z0, z1, z2, z3]
end Go.Proofs.YtbhmblkappmfjaaGreat
