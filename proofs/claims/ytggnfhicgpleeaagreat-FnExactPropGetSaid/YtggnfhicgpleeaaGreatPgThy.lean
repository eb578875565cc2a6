/- A value in a box of its own; how many marks the answer of PropGet takes. -/
import Derived.Test.YtggnfhicgpleeaaGreatPgDef
import Derived.Test.YtggnfhicgpleeaaGreatDMs
namespace Go.Proofs.YtggnfhicgpleeaaGreat
open Go.RowKit Go.Deep

theorem sumN_at {g : Nat → Nat} {m i : Nat} (hi : i < m) : g i ≤ sumN g m := by
  induction m with
  | zero => omega
  | succ m ih =>
    simp only [sumN]
    by_cases e : i = m
    · subst e; omega
    · have := ih (by omega); omega
theorem cntD_sub {n len : Nat} {f : Nat → Nat → D} {i j : Nat} (hi : i < len) (hj : j < n) : cntD (f i j) ≤ cntD (.list n len f) :=
  Nat.le_trans (sumN_at (g := fun j => cntD (f i j)) hj) (sumN_at (g := fun i => sumN (fun j => cntD (f i j)) n) hi)
theorem noL_cnt : cntD noL = 0 := rfl
theorem noL_small : SmallD noL := ⟨by decide, by decide, fun i hi => by omega⟩
theorem propIn_cnt {d : D} (H : Has d (.list 3)) (s : ByteArray) : cntD (propIn d s).l ≤ cntD d := by
  unfold propIn
  cases h : findO (fun j => (d.at! j 0).str!.toList == s.toList) d.len! with
  | none => show cntD noL ≤ _; rw [noL_cnt]; omega
  | some j =>
    obtain ⟨len, f, rfl, HR⟩ := H.list
    exact cntD_sub (f := f) (findO_lt h).1 (show 4 < (rowsOf 3).length by decide)
theorem propsAt_cnt {d0 d1 : D} (H0 : Has d0 (.list 4)) (H1 : Has d1 (.list 5)) {k n : Int} {d : D} (h : propsAt d0 d1 k n = some d) : cntD d ≤ cntD d0 + cntD d1 := by
  obtain ⟨len0, f0, rfl, HR0⟩ := H0.list
  obtain ⟨len1, f1, rfl, HR1⟩ := H1.list
  unfold propsAt at h
  split at h
  · rw [Option.map_eq_some_iff] at h
    obtain ⟨i, hi, rfl⟩ := h
    exact Nat.le_trans (cntD_sub (f := f0) (findO_lt hi).1 (show 2 < (rowsOf 4).length by decide)) (Nat.le_add_right _ _)
  · split at h
    · rw [Option.map_eq_some_iff] at h
      obtain ⟨i, hi, rfl⟩ := h
      exact Nat.le_trans (cntD_sub (f := f1) (findO_lt hi).1 (show 4 < (rowsOf 5).length by decide)) (Nat.le_add_left _ _)
    · cases h
theorem getAns_cnt {d0 d1 : D} (H0 : Has d0 (.list 4)) (H1 : Has d1 (.list 5)) (gb : Bool) (k n : Int) (s : ByteArray) : cntD (getAns gb d0 d1 k n s).l ≤ cntD d0 + cntD d1 := by
  unfold getAns
  split
  · unfold propAns
    cases h : propsAt d0 d1 k n with
    | none => show cntD noL ≤ _; rw [noL_cnt]; omega
    | some d => exact Nat.le_trans (propIn_cnt (propsAt_has H0 H1 h) s) (propsAt_cnt H0 H1 h)
  · show cntD noL ≤ _; rw [noL_cnt]; omega
theorem getAns_small {d0 d1 : D} (H0 : Has d0 (.list 4)) (H1 : Has d1 (.list 5)) (s0 : SmallD d0) (s1 : SmallD d1) (gb : Bool) (k n : Int) (s : ByteArray) : SmallD (getAns gb d0 d1 k n s).l := by
  unfold getAns
  split
  · unfold propAns
    cases h : propsAt d0 d1 k n with
    | none => exact noL_small
    | some d => exact propIn_small (propsAt_has H0 H1 h) (propsAt_small H0 H1 s0 s1 h) s
  · exact noL_small

/-- A box of four cells. -/
def FG (W : World) (b : Nat) (cs : List Value) : Prop := ∀ j c, cs[j]? = some c → W.cell? ⟨b, j, none⟩ = some c
theorem FG.of {W W' : World} {b : Nat} {cs : List Value} (h : FG W b cs) (e : W'.heap[b]? = W.heap[b]?) : FG W' b cs := fun j c hc => by rw [World.cell?_of_block e]; exact h j c hc
theorem FG.ext {W W' : World} {b : Nat} {cs : List Value} (h : FG W b cs) (e : Ext W W') (hb : b < W.heap.size) : FG W' b cs := h.of (Below.block e _ hb)
theorem FG.only {W W' : World} {b : Nat} {cs : List Value} {S : Nat → Prop} (h : FG W b cs) (e : OnlyS S W W') (hb : b < W.heap.size) (hs : ¬ S b) : FG W' b cs := h.of (e.block _ hb hs)
theorem FG.new (W : World) (cs : Array Value) (T : TypeId) : FG (W.alloc (.cells cs T)) W.heap.size cs.toList := fun j c hc => box_cell (Ext.refl _) j c (by simpa using hc)

/-- A value's four cells in a box of its own, its list in memory of its own. -/
structure BoxV (base : Nat) (A : VD) (w : World) (R : Nat) (u : Value) (Q : Nat → Prop) : Prop where
  box : FG w R [.int .i64 A.k, .int .i64 A.n, .string A.t, u]
  lt : R < w.heap.size
  ge : base ≤ R
  din : DIn Q w A.l u
  own : Own w A.l Q u
  bnd : ∀ x, Q x → base ≤ x ∧ x < w.heap.size
  nq : ¬ Q R
theorem BoxV.ext {base : Nat} {A : VD} {w w' : World} {R : Nat} {u : Value} {Q : Nat → Prop} (h : BoxV base A w R u Q) (e : Ext w w') : BoxV base A w' R u Q :=
  ⟨h.box.ext e h.lt, Nat.lt_of_lt_of_le h.lt e.le, h.ge, h.din.ext e, h.own.ext e, fun x hx => ⟨(h.bnd x hx).1, Nat.lt_of_lt_of_le (h.bnd x hx).2 e.le⟩, h.nq⟩
theorem BoxV.only {base : Nat} {A : VD} {w w' : World} {R : Nat} {u : Value} {Q S : Nat → Prop} (h : BoxV base A w R u Q) (e : OnlyS S w w') (hR : ¬ S R) (hQ : ∀ x, Q x → ¬ S x) : BoxV base A w' R u Q :=
  ⟨h.box.only e h.lt hR, Nat.lt_of_lt_of_le h.lt e.size, h.ge, h.din.only e hQ, h.own.only e hQ, fun x hx => ⟨(h.bnd x hx).1, Nat.lt_of_lt_of_le (h.bnd x hx).2 e.size⟩, h.nq⟩
theorem BoxV.low {base base' : Nat} {A : VD} {w : World} {R : Nat} {u : Value} {Q : Nat → Prop} (h : BoxV base A w R u Q) (e : base' ≤ base) : BoxV base' A w R u Q :=
  ⟨h.box, h.lt, Nat.le_trans e h.ge, h.din, h.own, fun x hx => ⟨Nat.le_trans e (h.bnd x hx).1, (h.bnd x hx).2⟩, h.nq⟩
theorem boxV_new {base : Nat} {k n : Int} {t : ByteArray} {l : D} {W : World} {u : Value} {Q : Nat → Prop} {T : TypeId} (hb : base ≤ W.heap.size) (hd : DIn Q W l u) (ho : Own W l Q u) (hq : ∀ x, Q x → base ≤ x ∧ x < W.heap.size) :
    BoxV base ⟨k, n, t, l⟩ (W.alloc (.cells #[.int .i64 k, .int .i64 n, .string t, u] T)) W.heap.size u Q :=
  have hE : Ext W (W.alloc (.cells #[.int .i64 k, .int .i64 n, .string t, u] T)) := (Ext.refl _).alloc _
  ⟨FG.new W _ T, by simp, hb, hd.ext hE, ho.ext hE, fun x hx => ⟨(hq x hx).1, Nat.lt_of_lt_of_le (hq x hx).2 hE.le⟩, fun h => by have := (hq _ h).2; omega⟩
theorem boxV_store {base : Nat} {A : VD} {W : World} {R : Nat} {u z0 z1 z2 z3 : Value} {Q : Nat → Prop} (z : FG W R [z0, z1, z2, z3]) (lt : R < W.heap.size) (ge : base ≤ R) (hd : DIn Q W A.l u) (ho : Own W A.l Q u) (hq : ∀ x, Q x → base ≤ x ∧ x < W.heap.size) (nq : ¬ Q R) :
    BoxV base A ((((W.setCell ⟨R, 0, none⟩ (.int .i64 A.k)).setCell ⟨R, 1, none⟩ (.int .i64 A.n)).setCell ⟨R, 2, none⟩ (.string A.t)).setCell ⟨R, 3, none⟩ u) R u Q := by
  have y0 := z 0 _ rfl
  have y1 := z 1 _ rfl
  have y2 := z 2 _ rfl
  have y3 := z 3 _ rfl
  have nb : ∀ {i j : Nat}, i ≠ j → (⟨R, i, none⟩ : Addr) ≠ ⟨R, j, none⟩ := fun h e => h (by cases e; rfl)
  refine ⟨fun j c hc => ?_, by simpa using lt, ge, (((hd.setCell nq _).setCell nq _).setCell nq _).setCell nq _, (((ho.setCell nq _).setCell nq _).setCell nq _).setCell nq _, fun x hx => ⟨(hq x hx).1, by simpa using (hq x hx).2⟩, nq⟩
  have hj : j = 0 ∨ j = 1 ∨ j = 2 ∨ j = 3 := by
    rcases Nat.lt_or_ge j 4 with h | h
    · omega
    · rw [List.getElem?_eq_none (by simpa using h)] at hc; cases hc
  have o := fun (W : World) (i j : Nat) (v : Value) (h : i ≠ j) => World.cell?_setCell_other W (a := ⟨R, i, none⟩) (b := ⟨R, j, none⟩) v (nb h)
  rcases hj with rfl | rfl | rfl | rfl
  · cases hc
    rw [o _ 3 0 _ (by decide), o _ 2 0 _ (by decide), o _ 1 0 _ (by decide)]
    exact World.cell?_setCell_same _ _ _ y0
  · cases hc
    rw [o _ 3 1 _ (by decide), o _ 2 1 _ (by decide)]
    exact World.cell?_setCell_same _ _ _ (by rw [o _ 0 1 _ (by decide)]; exact y1)
  · cases hc
    rw [o _ 3 2 _ (by decide)]
    exact World.cell?_setCell_same _ _ _ (by rw [o _ 1 2 _ (by decide), o _ 0 2 _ (by decide)]; exact y2)
  · cases hc
    exact World.cell?_setCell_same _ _ _ (by rw [o _ 2 3 _ (by decide), o _ 1 3 _ (by decide), o _ 0 3 _ (by decide)]; exact y3)
end Go.Proofs.YtggnfhicgpleeaaGreat
