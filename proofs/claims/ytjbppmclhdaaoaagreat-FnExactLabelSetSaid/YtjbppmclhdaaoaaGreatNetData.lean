/- What stands in a net's maps of rows: data in memory of their own. -/
import Derived.Test.YtjbppmclhdaaoaaGreatNetMem
import Derived.Test.YtjbppmclhdaaoaaGreatDOwn
import Derived.Test.YtjbppmclhdaaoaaGreatDAcc
namespace Go.Proofs.YtjbppmclhdaaoaaGreat
open Go.RowKit Go.Deep

/-- The first k rows of f stand under their numbers, leaf c of row i in the memory P i c of its own, from block base on, apart from the net's own blocks. -/
def RowsP (w : World) (N : NetD) (base hi : Nat) (j : MI) (n : Nat) (f : Nat → Nat → D) (k : Nat) (P : Nat → Nat → Nat → Prop) : Prop :=
  hi ≤ w.heap.size ∧ (∀ i, i < k → ∃ C : Nat → Value, N.val j (f i 0).int! = .agg ((List.range n).map C).toArray ∧ ∀ c, c < n → DIn (P i c) w (f i c) (C c) ∧ Own w (f i c) (P i c) (C c) ∧ ∀ x, P i c x → base ≤ x ∧ x < hi ∧ ¬ NetR N x) ∧
  (∀ i c i' c', i < k → c < n → i' < k → c' < n → ¬ (i = i' ∧ c = c') → ∀ x, P i c x → ¬ P i' c' x)
def RowsD (w : World) (N : NetD) (base hi : Nat) (j : MI) (n : Nat) (f : Nat → Nat → D) (k : Nat) : Prop := ∃ P, RowsP w N base hi j n f k P

theorem RowsD.nil (w : World) (N : NetD) (base : Nat) (j : MI) (n : Nat) (f : Nat → Nat → D) : RowsD w N base w.heap.size j n f 0 :=
  ⟨fun _ _ _ => False, Nat.le_refl _, fun i hi => by omega, fun i _ _ _ hi => by omega⟩
theorem RowsD.low {w : World} {N : NetD} {base base' hi : Nat} {j : MI} {n : Nat} {f : Nat → Nat → D} {k : Nat} (h : RowsD w N base hi j n f k) (e : base' ≤ base) : RowsD w N base' hi j n f k := by
  obtain ⟨P, hw, h1, h2⟩ := h
  refine ⟨P, hw, fun i hi => ?_, h2⟩
  obtain ⟨C, hv, hc⟩ := h1 i hi
  exact ⟨C, hv, fun c hc' => ⟨(hc c hc').1, (hc c hc').2.1, fun x hx => ⟨Nat.le_trans e ((hc c hc').2.2 x hx).1, ((hc c hc').2.2 x hx).2⟩⟩⟩
/-- The net has gone on: what stood there stands. -/
theorem RowsP.step {w w' : World} {N N' : NetD} {base hi : Nat} {j : MI} {n : Nat} {f : Nat → Nat → D} {k : Nat} {P : Nat → Nat → Nat → Prop} (h : RowsP w N base hi j n f k P) (st : NStep w N w' N') (hv : ∀ i, i < k → N'.val j (f i 0).int! = N.val j (f i 0).int!) : RowsP w' N' base hi j n f k P := by
  obtain ⟨hw, h1, h2⟩ := h
  refine ⟨Nat.le_trans hw st.chg.size, fun i hi => ?_, h2⟩
  obtain ⟨C, hv1, hc⟩ := h1 i hi
  refine ⟨C, (hv i hi).trans hv1, fun c hc' => ?_⟩
  obtain ⟨a1, a2, a3⟩ := hc c hc'
  have key : ∀ x, P i c x → x < w.heap.size → w'.heap[x]? = w.heap[x]? := fun x hx hl => st.chg.block x hl (a3 x hx).2.2
  refine ⟨a1.carry st.chg.size key, a2.carry st.chg.size key, fun x hx => ⟨(a3 x hx).1, (a3 x hx).2.1, fun hn => ?_⟩⟩
  rcases st.own x hn with h3 | h3
  · exact (a3 x hx).2.2 h3
  · have := (a3 x hx).2.1; omega
theorem RowsD.step {w w' : World} {N N' : NetD} {base hi : Nat} {j : MI} {n : Nat} {f : Nat → Nat → D} {k : Nat} (h : RowsD w N base hi j n f k) (st : NStep w N w' N') (hv : ∀ i, i < k → N'.val j (f i 0).int! = N.val j (f i 0).int!) : RowsD w' N' base hi j n f k := by
  obtain ⟨P, h⟩ := h
  exact ⟨P, h.step st hv⟩
theorem RowsD.ext {w w' : World} {N : NetD} {base hi : Nat} {j : MI} {n : Nat} {f : Nat → Nat → D} {k : Nat} (h : RowsD w N base hi j n f k) (e : Ext w w') : RowsD w' N base hi j n f k := h.step (NStep.ext N e) (fun _ _ => rfl)
/-- One row more. -/
theorem RowsD.push {w w' : World} {N N' : NetD} {base hi : Nat} {j : MI} {n : Nat} {f : Nat → Nat → D} {k : Nat} (h : RowsD w N base hi j n f k) (st : NStep w N w' N') (hv : ∀ i, i < k → N'.val j (f i 0).int! = N.val j (f i 0).int!) (hb : base ≤ w.heap.size)
    (C : Nat → Value) (hval : N'.val j (f k 0).int! = .agg ((List.range n).map C).toArray) (Q : Nat → Nat → Prop)
    (hq : ∀ c, c < n → DIn (Q c) w' (f k c) (C c) ∧ Own w' (f k c) (Q c) (C c) ∧ ∀ x, Q c x → w.heap.size ≤ x ∧ x < w'.heap.size ∧ ¬ NetR N' x) (hdq : ∀ c c', c < n → c' < n → c ≠ c' → ∀ x, Q c x → ¬ Q c' x) : RowsD w' N' base w'.heap.size j n f (k + 1) := by
  obtain ⟨P, h⟩ := h
  have hlow : ∀ i, i < k → ∀ c, c < n → ∀ x, P i c x → x < w.heap.size := fun i hi c hc x hx => by
    obtain ⟨_, _, hc0⟩ := h.2.1 i hi
    exact Nat.lt_of_lt_of_le ((hc0 c hc).2.2 x hx).2.1 h.1
  obtain ⟨hw, h1, h2⟩ := h.step st hv
  refine ⟨fun i c => if i = k then Q c else P i c, Nat.le_refl _, fun i hi => ?_, fun i c i' c' hi hc hi' hc' hne x hx => ?_⟩
  · by_cases hik : i = k
    · subst hik
      refine ⟨C, hval, fun c hc => ?_⟩
      dsimp only
      rw [if_pos rfl]
      exact ⟨(hq c hc).1, (hq c hc).2.1, fun x hx => ⟨Nat.le_trans hb ((hq c hc).2.2 x hx).1, ((hq c hc).2.2 x hx).2⟩⟩
    · obtain ⟨C', hv', hc'⟩ := h1 i (by omega)
      refine ⟨C', hv', fun c hc => ?_⟩
      dsimp only
      rw [if_neg hik]
      exact ⟨(hc' c hc).1, (hc' c hc).2.1, fun x hx => ⟨((hc' c hc).2.2 x hx).1, Nat.lt_of_lt_of_le ((hc' c hc).2.2 x hx).2.1 hw, ((hc' c hc).2.2 x hx).2.2⟩⟩
  · dsimp only at hx ⊢
    by_cases e1 : i = k <;> by_cases e2 : i' = k
    · rw [if_pos e1] at hx
      rw [if_pos e2]
      exact hdq c c' hc hc' (fun h => hne ⟨by omega, h⟩) x hx
    · rw [if_pos e1] at hx
      rw [if_neg e2]
      intro hx2
      have := hlow i' (by omega) c' hc' x hx2
      have := ((hq c hc).2.2 x hx).1
      omega
    · rw [if_neg e1] at hx
      rw [if_pos e2]
      intro hx2
      have := hlow i (by omega) c hc x hx
      have := ((hq c' hc').2.2 x hx2).1
      omega
    · rw [if_neg e1] at hx
      rw [if_neg e2]
      exact h2 i c i' c' (by omega) hc (by omega) hc' hne x hx
end Go.Proofs.YtjbppmclhdaaoaaGreat
