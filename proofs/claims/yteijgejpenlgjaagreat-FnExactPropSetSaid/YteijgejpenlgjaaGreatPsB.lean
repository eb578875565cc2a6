/- A value in a box of its own; how many marks the answer of PropGet takes. -/
import Derived.Test.YteijgejpenlgjaaGreatPgDef
import Derived.Test.YteijgejpenlgjaaGreatDMs
namespace Go.Proofs.YteijgejpenlgjaaGreat
open Go.RowKit Go.Deep

/-- A box of four cells. -/
def FG (W : World) (b : Nat) (cs : List Value) : Prop := ∀ j c, cs[j]? = some c → W.cell? ⟨b, j, none⟩ = some c
theorem FG.of {W W' : World} {b : Nat} {cs : List Value} (h : FG W b cs) (e : W'.heap[b]? = W.heap[b]?) : FG W' b cs := fun j c hc => by rw [World.cell?_of_block e]; exact h j c hc
theorem FG.ext {W W' : World} {b : Nat} {cs : List Value} (h : FG W b cs) (e : Ext W W') (hb : b < W.heap.size) : FG W' b cs := h.of (Below.block e _ hb)
theorem FG.only {W W' : World} {b : Nat} {cs : List Value} {S : Nat → Prop} (h : FG W b cs) (e : OnlyS S W W') (hb : b < W.heap.size) (hs : ¬ S b) : FG W' b cs := h.of (e.block _ hb hs)
theorem FG.new (W : World) (cs : Array Value) (T : TypeId) : FG (W.alloc (.cells cs T)) W.heap.size cs.toList := fun j c hc => box_cell (Ext.refl _) j c (by simpa using hc)

/-- A value's four cells in a box of its own, its list in memory of its own. -/
structure BoxV (base : Nat) (A : VD) (w : World) (R : Nat) (u : Value) (Q : Nat → Prop) : Prop where
 box : FG w R [.int .i64 A.k, .int .i64 A.n, .string A.t, u]
 lt : R < w.heap.size
 ge : base ≤ R
 din : DIn Q w A.l u
 own : Own w A.l Q u
 bnd : ∀ x, Q x → base ≤ x ∧ x < w.heap.size
 nq : ¬ Q R
theorem BoxV.ext {base : Nat} {A : VD} {w w' : World} {R : Nat} {u : Value} {Q : Nat → Prop} (h : BoxV base A w R u Q) (e : Ext w w') : BoxV base A w' R u Q :=
 ⟨h.box.ext e h.lt, Nat.lt_of_lt_of_le h.lt e.le, h.ge, h.din.ext e, h.own.ext e, fun x hx => ⟨(h.bnd x hx).1, Nat.lt_of_lt_of_le (h.bnd x hx).2 e.le⟩, h.nq⟩
theorem BoxV.only {base : Nat} {A : VD} {w w' : World} {R : Nat} {u : Value} {Q S : Nat → Prop} (h : BoxV base A w R u Q) (e : OnlyS S w w') (hR : ¬ S R) (hQ : ∀ x, Q x → ¬ S x) : BoxV base A w' R u Q :=
 ⟨h.box.only e h.lt hR, Nat.lt_of_lt_of_le h.lt e.size, h.ge, h.din.only e hQ, h.own.only e hQ, fun x hx => ⟨(h.bnd x hx).1, Nat.lt_of_lt_of_le (h.bnd x hx).2 e.size⟩, h.nq⟩
theorem BoxV.low {base base' : Nat} {A : VD} {w : World} {R : Nat} {u : Value} {Q : Nat → Prop} (h : BoxV base A w R u Q) (e : base' ≤ base) : BoxV base' A w R u Q :=
 ⟨h.box, h.lt, Nat.le_trans e h.ge, h.din, h.own, fun x hx => ⟨Nat.le_trans e (h.bnd x hx).1, (h.bnd x hx).2⟩, h.nq⟩
end Go.Proofs.YteijgejpenlgjaaGreat

/- A graph's four cells in a box of its own; what PropSet answers, as a shape. -/
namespace Go.Proofs.YteijgejpenlgjaaGreat
open Go.RowKit Go.Deep

inductive GPost (e0 e1 : D) (y2 y3 : Int) (yb : Bool) (w : World) : Ending → World → Prop
 | mk (u0 u1 : Value) (Q : Nat → Prop) (w' : World) (h0 : DIn Q w' e0 u0) (h1 : DIn Q w' e1 u1) (hQ : ∀ x, Q x → w.heap.size ≤ x ∧ x < w'.heap.size) (hE : Ext w w') : GPost e0 e1 y2 y3 yb w (.returned (.tuple #[.agg #[u0, u1, .int .i64 y2, .int .i64 y3], .bool yb])) w'

/-- A graph's four cells in a box of its own, its rows in other memory of its own. -/
structure BoxG (base : Nat) (e0 e1 : D) (y2 y3 : Int) (w : World) (R : Nat) (u0 u1 : Value) (Q : Nat → Prop) : Prop where
 box : FG w R [u0, u1, .int .i64 y2, .int .i64 y3]
 lt : R < w.heap.size
 ge : base ≤ R
 d0 : DIn Q w e0 u0
 d1 : DIn Q w e1 u1
 bnd : ∀ x, Q x → base ≤ x ∧ x < w.heap.size
theorem BoxG.ext {base : Nat} {e0 e1 : D} {y2 y3 : Int} {w w' : World} {R : Nat} {u0 u1 : Value} {Q : Nat → Prop} (h : BoxG base e0 e1 y2 y3 w R u0 u1 Q) (e : Ext w w') : BoxG base e0 e1 y2 y3 w' R u0 u1 Q :=
 ⟨h.box.ext e h.lt, Nat.lt_of_lt_of_le h.lt e.le, h.ge, h.d0.ext e, h.d1.ext e, fun x hx => ⟨(h.bnd x hx).1, Nat.lt_of_lt_of_le (h.bnd x hx).2 e.le⟩⟩
theorem BoxG.only {base : Nat} {e0 e1 : D} {y2 y3 : Int} {w w' : World} {R : Nat} {u0 u1 : Value} {Q S : Nat → Prop} (h : BoxG base e0 e1 y2 y3 w R u0 u1 Q) (e : OnlyS S w w') (hR : ¬ S R) (hQ : ∀ x, Q x → ¬ S x) : BoxG base e0 e1 y2 y3 w' R u0 u1 Q :=
 ⟨h.box.only e h.lt hR, Nat.lt_of_lt_of_le h.lt e.size, h.ge, h.d0.only e hQ, h.d1.only e hQ, fun x hx => ⟨(h.bnd x hx).1, Nat.lt_of_lt_of_le (h.bnd x hx).2 e.size⟩⟩
theorem boxG_store {base : Nat} {e0 e1 : D} {y2 y3 : Int} {W : World} {R : Nat} {u0 u1 z0 z1 z2 z3 : Value} {Q : Nat → Prop} (z : FG W R [z0, z1, z2, z3]) (lt : R < W.heap.size) (ge : base ≤ R) (h0 : DIn Q W e0 u0) (h1 : DIn Q W e1 u1) (hq : ∀ x, Q x → base ≤ x ∧ x < W.heap.size) (nq : ¬ Q R) :
  BoxG base e0 e1 y2 y3 ((((W.setCell ⟨R, 0, none⟩ u0).setCell ⟨R, 1, none⟩ u1).setCell ⟨R, 2, none⟩ (.int .i64 y2)).setCell ⟨R, 3, none⟩ (.int .i64 y3)) R u0 u1 Q := by
 have y0 := z 0 _ rfl
 have y1 := z 1 _ rfl
 have y2 := z 2 _ rfl
 have y3 := z 3 _ rfl
 have nb : ∀ {i j : Nat}, i ≠ j → (⟨R, i, none⟩ : Addr) ≠ ⟨R, j, none⟩ := fun h e => h (by cases e; rfl)
 refine ⟨fun j c hc => ?_, by simpa using lt, ge, (((h0.setCell nq _).setCell nq _).setCell nq _).setCell nq _, (((h1.setCell nq _).setCell nq _).setCell nq _).setCell nq _, fun x hx => ⟨(hq x hx).1, by simpa using (hq x hx).2⟩⟩
 have hj : j = 0 ∨ j = 1 ∨ j = 2 ∨ j = 3 := by
  rcases Nat.lt_or_ge j 4 with h | h
  ·
   omega
  ·
   rw [List.getElem?_eq_none (by simpa using h)] at hc; cases hc
 have o := fun (W : World) (i j : Nat) (v : Value) (h : i ≠ j) => World.cell?_setCell_other W (a := ⟨R, i, none⟩) (b := ⟨R, j, none⟩) v (nb h)
 rcases hj with rfl | rfl | rfl | rfl
 ·
  cases hc
  rw [o _ 3 0 _ (by decide), o _ 2 0 _ (by decide), o _ 1 0 _ (by decide)]
  exact World.cell?_setCell_same _ _ _ y0
 ·
  cases hc
  rw [o _ 3 1 _ (by decide), o _ 2 1 _ (by decide)]
  exact World.cell?_setCell_same _ _ _ (by rw [o _ 0 1 _ (by decide)]; exact y1)
 ·
  cases hc
  rw [o _ 3 2 _ (by decide)]
  exact World.cell?_setCell_same _ _ _ (by rw [o _ 1 2 _ (by decide), o _ 0 2 _ (by decide)]; exact y2)
 ·
  cases hc
  exact World.cell?_setCell_same _ _ _ (by rw [o _ 2 3 _ (by decide), o _ 1 3 _ (by decide), o _ 0 3 _ (by decide)]; exact y3)
end Go.Proofs.YteijgejpenlgjaaGreat
