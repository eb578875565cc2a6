/- Boxes of four cells that may be written (FBox, without the texts of drawn values). -/
import Derived.Test.YtbhmblkappmfjaaGreatBoxes
import Derived.Deep.AppendLies
import Derived.Test.YtbhmblkappmfjaaGreatDr
import Derived.Test.YtbhmblkappmfjaaGreatValS
namespace Go.Proofs.YtbhmblkappmfjaaGreat
open Go.RowKit Go.Deep

structure FBox (W : World) (p : Nat) (c0 c1 c2 c3 : Value) : Prop where
  box : BoxAt W p c0 c1 c2 c3
  fz : ∀ o, W.frozen? ⟨p, o, none⟩ = false
theorem FBox.new (w : World) (c0 c1 c2 c3 : Value) (T : TypeId) : FBox (w.alloc (.cells #[c0, c1, c2, c3] T)) w.heap.size c0 c1 c2 c3 := ⟨BoxAt.new _ _ _ _ _ _, fun o => by rw [frozen?_alloc_cells]; simp [World.frozen?]⟩
theorem FBox.block {W W' : World} {p : Nat} {c0 c1 c2 c3 : Value} (h : FBox W p c0 c1 c2 c3) (hz : W.heap.size ≤ W'.heap.size) (e : W'.heap[p]? = W.heap[p]?) : FBox W' p c0 c1 c2 c3 :=
  ⟨h.box.block hz e, fun o => by rw [World.frozen?_of_block (a := ⟨p, o, none⟩) e]; exact h.fz o⟩
theorem FBox.only {W W' : World} {p lo hi : Nat} {c0 c1 c2 c3 : Value} (h : FBox W p c0 c1 c2 c3) (e : Only lo hi W W') (ho : p < lo ∨ hi ≤ p) : FBox W' p c0 c1 c2 c3 := h.block e.size (e.block p h.box.lt ho)
theorem FBox.ext {W W' : World} {p : Nat} {c0 c1 c2 c3 : Value} (h : FBox W p c0 c1 c2 c3) (e : Ext W W') : FBox W' p c0 c1 c2 c3 := h.block e.le (Below.block e p h.box.lt)
theorem FBox.far {W : World} {p : Nat} {c0 c1 c2 c3 : Value} (h : FBox W p c0 c1 c2 c3) {q : Addr} (hq : q.block ≠ p) (u : Value) : FBox (W.setCell q u) p c0 c1 c2 c3 := h.block (by simp) (Below.heap_setCell _ _ _ _ (fun e => hq e.symm))
theorem FBox.grown {W W' : World} {p : Nat} {row : Option Nat} {c0 c1 c2 c3 : Value} (h : FBox W p c0 c1 c2 c3) (e : W.grownBy W' row) (hr : row ≠ some p) : FBox W' p c0 c1 c2 c3 := h.block e.size (e.block p h.box.lt (fun e2 => hr e2.symm))
theorem FBox.set3 {W : World} {p : Nat} {c0 c1 c2 c3 : Value} (h : FBox W p c0 c1 c2 c3) (u : Value) : FBox (W.setCell ⟨p, 3, none⟩ u) p c0 c1 c2 u := by
  obtain ⟨⟨lt, h0, h1, h2, h3⟩, hf⟩ := h
  exact ⟨⟨by simpa using lt, by simp [go_sem, h0], by simp [go_sem, h1], by simp [go_sem, h2], by simp [go_sem, h3]⟩, fun o => by simp [go_sem, hf]⟩
theorem FBox.set2 {W : World} {p : Nat} {c0 c1 c2 c3 : Value} (h : FBox W p c0 c1 c2 c3) (u : Value) : FBox (W.setCell ⟨p, 2, none⟩ u) p c0 c1 u c3 := by
  obtain ⟨⟨lt, h0, h1, h2, h3⟩, hf⟩ := h
  exact ⟨⟨by simpa using lt, by simp [go_sem, h0], by simp [go_sem, h1], by simp [go_sem, h2], by simp [go_sem, h3]⟩, fun o => by simp [go_sem, hf]⟩
theorem FBox.set1 {W : World} {p : Nat} {c0 c1 c2 c3 : Value} (h : FBox W p c0 c1 c2 c3) (u : Value) : FBox (W.setCell ⟨p, 1, none⟩ u) p c0 u c2 c3 := by
  obtain ⟨⟨lt, h0, h1, h2, h3⟩, hf⟩ := h
  exact ⟨⟨by simpa using lt, by simp [go_sem, h0], by simp [go_sem, h1], by simp [go_sem, h2], by simp [go_sem, h3]⟩, fun o => by simp [go_sem, hf]⟩
theorem FBox.set0 {W : World} {p : Nat} {c0 c1 c2 c3 : Value} (h : FBox W p c0 c1 c2 c3) (u : Value) : FBox (W.setCell ⟨p, 0, none⟩ u) p u c1 c2 c3 := by
  obtain ⟨⟨lt, h0, h1, h2, h3⟩, hf⟩ := h
  exact ⟨⟨by simpa using lt, by simp [go_sem, h0], by simp [go_sem, h1], by simp [go_sem, h2], by simp [go_sem, h3]⟩, fun o => by simp [go_sem, hf]⟩
theorem FBox.set4 {W : World} {p : Nat} {c0 c1 c2 c3 : Value} (h : FBox W p c0 c1 c2 c3) (d0 d1 d2 d3 : Value) : FBox ((((W.setCell ⟨p, 0, none⟩ d0).setCell ⟨p, 1, none⟩ d1).setCell ⟨p, 2, none⟩ d2).setCell ⟨p, 3, none⟩ d3) p d0 d1 d2 d3 := (((h.set0 d0).set1 d1).set2 d2).set3 d3

end Go.Proofs.YtbhmblkappmfjaaGreat

/- Boxes of four cells that may be written; values with other kinds, numbers and texts; lists of one. -/
namespace Go.Proofs.YtbhmblkappmfjaaGreat
open Go.RowKit Go.Deep

theorem ValS.re {S : Nat → Prop} {w : World} {x : V} {k n k' n' : Int} {t t' : ByteArray} {u : Value} (h : ValS S w x (.agg #[.int .i64 k, .int .i64 n, .string t, u])) (hk : (Lit.int .i64 k').wf = true) (hn : (Lit.int .i64 n').wf = true) (ht : t'.size ≤ maxLen) :
    ValS S w (.mk k' n' t' x.list) (.agg #[.int .i64 k', .int .i64 n', .string t', u]) := by
  cases h with
  | mk _ _ _ l a cap b off c0 c1 c2 c3 _ _ _ hl ha hc hv => exact .mk k' n' t' l a cap b off c0 c1 c2 c3 hk hn ht hl ha hc hv
theorem ValS.wf {S : Nat → Prop} {w : World} {x : V} {k n : Int} {t : ByteArray} {u : Value} (h : ValS S w x (.agg #[.int .i64 k, .int .i64 n, .string t, u])) : (Lit.int .i64 k).wf = true ∧ (Lit.int .i64 n).wf = true ∧ t.size ≤ maxLen := by
  cases h with
  | mk _ _ _ l a cap b off c0 c1 c2 c3 hk hn ht hl ha hc hv => exact ⟨hk, hn, ht⟩
/-- A value with one list of one value, in a block of its own. -/
theorem ValS.one {S : Nat → Prop} {w : World} {x : V} {d0 d1 d2 d3 : Value} {k n : Int} {t : ByteArray} {g cap : Nat} (hx : ValS S w x (.agg #[d0, d1, d2, d3])) (hk : (Lit.int .i64 k).wf = true) (hn : (Lit.int .i64 n).wf = true) (ht : t.size ≤ maxLen) (hS : S g) (hb : BoxAt w g d0 d1 d2 d3) (hf : ∀ o, w.frozen? ⟨g, o, none⟩ = false) :
    ValS S w (.mk k n t [x]) (.agg #[.int .i64 k, .int .i64 n, .string t, .slice (some ⟨g, 0, none⟩) 1 cap]) := by
  refine .mk k n t [x] _ cap g 0 (fun _ => d0) (fun _ => d1) (fun _ => d2) (fun _ => d3) hk hn ht (by simp) (fun _ => ⟨rfl, hS, hb.lt, hf⟩) (fun i hi => ?_) (fun i hi => ?_)
  · have : i = 0 := by simpa using hi
    subst this
    exact ⟨hb.h0, hb.h1, hb.h2, hb.h3⟩
  · have : i = 0 := by simpa using hi
    subst this
    exact hx
end Go.Proofs.YtbhmblkappmfjaaGreat
