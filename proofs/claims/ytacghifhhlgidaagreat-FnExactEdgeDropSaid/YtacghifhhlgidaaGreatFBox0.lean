/- Boxes of four cells that may be written (FBox, without the texts of drawn values). -/
import Derived.Test.YtacghifhhlgidaaGreatBoxes
import Derived.Deep.AppendLies
namespace Go.Proofs.YtacghifhhlgidaaGreat
open Go.RowKit Go.Deep

structure FBox (W : World) (p : Nat) (c0 c1 c2 c3 : Value) : Prop where
  box : BoxAt W p c0 c1 c2 c3
  fz : ∀ o, W.frozen? ⟨p, o, none⟩ = false
theorem FBox.new (w : World) (c0 c1 c2 c3 : Value) (T : TypeId) : FBox (w.alloc (.cells #[c0, c1, c2, c3] T)) w.heap.size c0 c1 c2 c3 := ⟨BoxAt.new _ _ _ _ _ _, fun o => by rw [frozen?_alloc_cells]; simp [World.frozen?]⟩
theorem FBox.block {W W' : World} {p : Nat} {c0 c1 c2 c3 : Value} (h : FBox W p c0 c1 c2 c3) (hz : W.heap.size ≤ W'.heap.size) (e : W'.heap[p]? = W.heap[p]?) : FBox W' p c0 c1 c2 c3 :=
  ⟨h.box.block hz e, fun o => by rw [World.frozen?_of_block (a := ⟨p, o, none⟩) e]; exact h.fz o⟩
theorem FBox.only {W W' : World} {p lo hi : Nat} {c0 c1 c2 c3 : Value} (h : FBox W p c0 c1 c2 c3) (e : Only lo hi W W') (ho : p < lo ∨ hi ≤ p) : FBox W' p c0 c1 c2 c3 := h.block e.size (e.block p h.box.lt ho)
theorem FBox.ext {W W' : World} {p : Nat} {c0 c1 c2 c3 : Value} (h : FBox W p c0 c1 c2 c3) (e : Ext W W') : FBox W' p c0 c1 c2 c3 := h.block e.le (Below.block e p h.box.lt)
theorem FBox.far {W : World} {p : Nat} {c0 c1 c2 c3 : Value} (h : FBox W p c0 c1 c2 c3) {q : Addr} (hq : q.block ≠ p) (u : Value) : FBox (W.setCell q u) p c0 c1 c2 c3 := h.block (by simp) (Below.heap_setCell _ _ _ _ (fun e => hq e.symm))
theorem FBox.grown {W W' : World} {p : Nat} {row : Option Nat} {c0 c1 c2 c3 : Value} (h : FBox W p c0 c1 c2 c3) (e : W.grownBy W' row) (hr : row ≠ some p) : FBox W' p c0 c1 c2 c3 := h.block e.size (e.block p h.box.lt (fun e2 => hr e2.symm))
theorem FBox.set3 {W : World} {p : Nat} {c0 c1 c2 c3 : Value} (h : FBox W p c0 c1 c2 c3) (u : Value) : FBox (W.setCell ⟨p, 3, none⟩ u) p c0 c1 c2 u := by
  obtain ⟨⟨lt, h0, h1, h2, h3⟩, hf⟩ := h
  exact ⟨⟨by simpa using lt, by simp [go_sem, h0], by simp [go_sem, h1], by simp [go_sem, h2], by simp [go_sem, h3]⟩, fun o => by simp [go_sem, hf]⟩
theorem FBox.set2 {W : World} {p : Nat} {c0 c1 c2 c3 : Value} (h : FBox W p c0 c1 c2 c3) (u : Value) : FBox (W.setCell ⟨p, 2, none⟩ u) p c0 c1 u c3 := by
  obtain ⟨⟨lt, h0, h1, h2, h3⟩, hf⟩ := h
  exact ⟨⟨by simpa using lt, by simp [go_sem, h0], by simp [go_sem, h1], by simp [go_sem, h2], by simp [go_sem, h3]⟩, fun o => by simp [go_sem, hf]⟩
theorem FBox.set1 {W : World} {p : Nat} {c0 c1 c2 c3 : Value} (h : FBox W p c0 c1 c2 c3) (u : Value) : FBox (W.setCell ⟨p, 1, none⟩ u) p c0 u c2 c3 := by
  obtain ⟨⟨lt, h0, h1, h2, h3⟩, hf⟩ := h
  exact ⟨⟨by simpa using lt, by simp [go_sem, h0], by simp [go_sem, h1], by simp [go_sem, h2], by simp [go_sem, h3]⟩, fun o => by simp [go_sem, hf]⟩
theorem FBox.set0 {W : World} {p : Nat} {c0 c1 c2 c3 : Value} (h : FBox W p c0 c1 c2 c3) (u : Value) : FBox (W.setCell ⟨p, 0, none⟩ u) p u c1 c2 c3 := by
  obtain ⟨⟨lt, h0, h1, h2, h3⟩, hf⟩ := h
  exact ⟨⟨by simpa using lt, by simp [go_sem, h0], by simp [go_sem, h1], by simp [go_sem, h2], by simp [go_sem, h3]⟩, fun o => by simp [go_sem, hf]⟩
theorem FBox.set4 {W : World} {p : Nat} {c0 c1 c2 c3 : Value} (h : FBox W p c0 c1 c2 c3) (d0 d1 d2 d3 : Value) : FBox ((((W.setCell ⟨p, 0, none⟩ d0).setCell ⟨p, 1, none⟩ d1).setCell ⟨p, 2, none⟩ d2).setCell ⟨p, 3, none⟩ d3) p d0 d1 d2 d3 := (((h.set0 d0).set1 d1).set2 d2).set3 d3

end Go.Proofs.YtacghifhhlgidaaGreat
