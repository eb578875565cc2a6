/- A list that is made of a net's rows: its own block is new, its leaves lie where the net's rows do. -/
import Derived.Test.YtjbppmclhdaaoaaGreatNetData
namespace Go.Proofs.YtjbppmclhdaaoaaGreat
open Go.RowKit Go.Deep

/-- The cells of the first k rows. -/
def rowCells (n : Nat) (C : Nat → Nat → Value) : Nat → List Value
  | 0 => []
  | k + 1 => rowCells n C k ++ (List.range n).map (C k)
theorem rowCells_len (n : Nat) (C : Nat → Nat → Value) (k : Nat) : (rowCells n C k).length = k * n := by
  induction k with
  | zero => simp [rowCells]
  | succ k ih => simp [rowCells, ih, Nat.add_mul]
theorem rowCells_get (n : Nat) (C : Nat → Nat → Value) (k : Nat) : ∀ i, i < k → ∀ c, c < n → (rowCells n C k)[i * n + c]? = some (C i c) := by
  induction k with
  | zero => intro i hi; omega
  | succ k ih =>
    intro i hi c hc
    have hlen := rowCells_len n C k
    by_cases hik : i = k
    · subst hik
      rw [rowCells, List.getElem?_append_right (by omega), show i * n + c - (rowCells n C i).length = c by omega, List.getElem?_map, List.getElem?_range hc]
      rfl
    · have hlt := at_lt (show i < k by omega) hc
      rw [rowCells, List.getElem?_append_left (by omega)]
      exact ih i (by omega) c hc
theorem rows_end {w : World} {b0 n len : Nat} {S : Nat → Prop} {T : TypeId} {u : Value} {f : Nat → Nat → D} {C : Nat → Nat → Value} {P : Nat → Nat → Nat → Prop} (hown : w.ownsRow b0 T n u len (rowCells n C len))
    (hC : ∀ i, i < len → ∀ c, c < n → DIn (P i c) w (f i c) (C i c) ∧ Own w (f i c) (P i c) (C i c) ∧ ∀ x, P i c x → S x)
    (hd : ∀ i c i' c', i < len → c < n → i' < len → c' < n → ¬ (i = i' ∧ c = c') → ∀ x, P i c x → ¬ P i' c' x) (hhi : ∀ x, S x → x < b0) (hl : len ≤ maxLen) :
    DIn (fun x => S x ∨ b0 ≤ x ∧ x < w.heap.size) w (.list n len f) u ∧ Own w (.list n len f) (fun x => S x ∨ b0 ≤ x ∧ x < w.heap.size) u := by
  rcases hown.2 with ⟨rfl, rfl⟩ | ⟨g, cap, cur, rfl, hb, hg, _⟩
  · exact ⟨⟨none, 0, 0, 0, rfl, Nat.zero_le _, fun h => by omega, fun i hi => by omega⟩, ⟨none, 0, 0, 0, fun _ _ _ => False, rfl, fun h => by omega, fun i _ hi => by omega, fun i _ _ _ hi => by omega, fun i hi => by omega⟩⟩
  · have hglt : g < w.heap.size := lt_of_block hg
    have hfz : ∀ o, w.frozen? ⟨g, o, none⟩ = false := fun o => by simp [World.frozen?, hg]
    have hcell : ∀ i, i < len → ∀ c, c < n → w.cell? ⟨g, 0 + i * n + c, none⟩ = some (C i c) := by
      intro i hi c hc
      have := hown.cells (g := g) rfl (i * n + c) (C i c) (rowCells_get n C len i hi c hc)
      rw [Go.WideShapes.add_plain] at this
      rw [Nat.add_assoc]
      exact this
    constructor
    · refine ⟨_, cap, g, 0, rfl, hl, fun _ => ⟨rfl, .inr ⟨hb, hglt⟩, hglt⟩, fun i hi c hc => ⟨C i c, hcell i hi c hc, (hC i hi c hc).1.mono (fun x hx => .inl ((hC i hi c hc).2.2 x hx))⟩⟩
    · refine ⟨_, cap, g, 0, P, rfl, fun _ => ⟨rfl, .inr ⟨hb, hglt⟩, hglt, hfz⟩, fun i c hi hc x hx => ⟨.inl ((hC i hi c hc).2.2 x hx), fun e => ?_⟩, hd, fun i hi c hc => ⟨C i c, hcell i hi c hc, (hC i hi c hc).2.1⟩⟩
      have := hhi x ((hC i hi c hc).2.2 x hx)
      omega
/-- What stands under the numbers of a net, its leaves in blocks of S. -/
def RowsQ (w : World) (N : NetD) (S : Nat → Prop) (j : MI) (n : Nat) (f : Nat → Nat → D) (k : Nat) (P : Nat → Nat → Nat → Prop) : Prop :=
  (∀ x, S x → x < w.heap.size) ∧ (∀ i, i < k → ∃ C : Nat → Value, N.val j (f i 0).int! = .agg ((List.range n).map C).toArray ∧ ∀ c, c < n → DIn (P i c) w (f i c) (C c) ∧ Own w (f i c) (P i c) (C c) ∧ ∀ x, P i c x → S x ∧ ¬ NetR N x) ∧
  (∀ i c i' c', i < k → c < n → i' < k → c' < n → ¬ (i = i' ∧ c = c') → ∀ x, P i c x → ¬ P i' c' x)
def RowsS (w : World) (N : NetD) (S : Nat → Prop) (j : MI) (n : Nat) (f : Nat → Nat → D) (k : Nat) : Prop := ∃ P, RowsQ w N S j n f k P
theorem RowsD.toS {w : World} {N : NetD} {base hi : Nat} {j : MI} {n : Nat} {f : Nat → Nat → D} {k : Nat} (h : RowsD w N base hi j n f k) : RowsS w N (fun x => base ≤ x ∧ x < hi) j n f k := by
  obtain ⟨P, hw, h1, h2⟩ := h
  refine ⟨P, fun x hx => Nat.lt_of_lt_of_le hx.2 hw, fun i hi => ?_, h2⟩
  obtain ⟨C, hv, hc⟩ := h1 i hi
  exact ⟨C, hv, fun c hc' => ⟨(hc c hc').1, (hc c hc').2.1, fun x hx => ⟨⟨((hc c hc').2.2 x hx).1, ((hc c hc').2.2 x hx).2.1⟩, ((hc c hc').2.2 x hx).2.2⟩⟩⟩
theorem RowsQ.step {w w' : World} {N N' : NetD} {S : Nat → Prop} {j : MI} {n : Nat} {f : Nat → Nat → D} {k : Nat} {P : Nat → Nat → Nat → Prop} (h : RowsQ w N S j n f k P) (st : NStep w N w' N') (hv : ∀ i, i < k → N'.val j (f i 0).int! = N.val j (f i 0).int!) : RowsQ w' N' S j n f k P := by
  obtain ⟨hw, h1, h2⟩ := h
  refine ⟨fun x hx => Nat.lt_of_lt_of_le (hw x hx) st.chg.size, fun i hi => ?_, h2⟩
  obtain ⟨C, hv1, hc⟩ := h1 i hi
  refine ⟨C, (hv i hi).trans hv1, fun c hc' => ?_⟩
  obtain ⟨a1, a2, a3⟩ := hc c hc'
  have key : ∀ x, P i c x → x < w.heap.size → w'.heap[x]? = w.heap[x]? := fun x hx hl => st.chg.block x hl (a3 x hx).2
  refine ⟨a1.carry st.chg.size key, a2.carry st.chg.size key, fun x hx => ⟨(a3 x hx).1, fun hn => ?_⟩⟩
  rcases st.own x hn with h3 | h3
  · exact (a3 x hx).2 h3
  · have := hw x (a3 x hx).1; omega
theorem RowsS.step {w w' : World} {N N' : NetD} {S : Nat → Prop} {j : MI} {n : Nat} {f : Nat → Nat → D} {k : Nat} (h : RowsS w N S j n f k) (st : NStep w N w' N') (hv : ∀ i, i < k → N'.val j (f i 0).int! = N.val j (f i 0).int!) : RowsS w' N' S j n f k := by
  obtain ⟨P, h⟩ := h
  exact ⟨P, h.step st hv⟩
theorem RowsS.ext {w w' : World} {N : NetD} {S : Nat → Prop} {j : MI} {n : Nat} {f : Nat → Nat → D} {k : Nat} (h : RowsS w N S j n f k) (e : Ext w w') : RowsS w' N S j n f k := h.step (NStep.ext N e) (fun _ _ => rfl)
/-- One row more, its leaves in new blocks. -/
theorem RowsS.push {w w' : World} {N N' : NetD} {S S' : Nat → Prop} {j : MI} {n : Nat} {f : Nat → Nat → D} {k : Nat} (h : RowsS w N S j n f k) (st : NStep w N w' N') (hv : ∀ i, i < k → N'.val j (f i 0).int! = N.val j (f i 0).int!) (hS : ∀ x, S x → S' x) (hS' : ∀ x, S' x → x < w'.heap.size)
    (C : Nat → Value) (hval : N'.val j (f k 0).int! = .agg ((List.range n).map C).toArray) (Q : Nat → Nat → Prop)
    (hq : ∀ c, c < n → DIn (Q c) w' (f k c) (C c) ∧ Own w' (f k c) (Q c) (C c) ∧ ∀ x, Q c x → w.heap.size ≤ x ∧ S' x ∧ ¬ NetR N' x) (hdq : ∀ c c', c < n → c' < n → c ≠ c' → ∀ x, Q c x → ¬ Q c' x) : RowsS w' N' S' j n f (k + 1) := by
  obtain ⟨P, h⟩ := h
  have hlow : ∀ i, i < k → ∀ c, c < n → ∀ x, P i c x → x < w.heap.size := fun i hi c hc x hx => by
    obtain ⟨_, _, hc0⟩ := h.2.1 i hi
    exact h.1 x ((hc0 c hc).2.2 x hx).1
  obtain ⟨hw, h1, h2⟩ := h.step st hv
  refine ⟨fun i c => if i = k then Q c else P i c, hS', fun i hi => ?_, fun i c i' c' hi hc hi' hc' hne x hx => ?_⟩
  · by_cases hik : i = k
    · subst hik
      refine ⟨C, hval, fun c hc => ?_⟩
      dsimp only
      rw [if_pos rfl]
      exact ⟨(hq c hc).1, (hq c hc).2.1, fun x hx => ⟨((hq c hc).2.2 x hx).2.1, ((hq c hc).2.2 x hx).2.2⟩⟩
    · obtain ⟨C', hv', hc'⟩ := h1 i (by omega)
      refine ⟨C', hv', fun c hc => ?_⟩
      dsimp only
      rw [if_neg hik]
      exact ⟨(hc' c hc).1, (hc' c hc).2.1, fun x hx => ⟨hS x ((hc' c hc).2.2 x hx).1, ((hc' c hc).2.2 x hx).2⟩⟩
  · dsimp only at hx ⊢
    by_cases e1 : i = k <;> by_cases e2 : i' = k
    · rw [if_pos e1] at hx
      rw [if_pos e2]
      exact hdq c c' hc hc' (fun h => hne ⟨by omega, h⟩) x hx
    · rw [if_pos e1] at hx
      rw [if_neg e2]
      intro hx2
      have := hlow i' (by omega) c' hc' x hx2
      have := ((hq c hc).2.2 x hx).1
      omega
    · rw [if_neg e1] at hx
      rw [if_pos e2]
      intro hx2
      have := hlow i (by omega) c hc x hx
      have := ((hq c' hc').2.2 x hx2).1
      omega
    · rw [if_neg e1] at hx
      rw [if_neg e2]
      exact h2 i c i' c' (by omega) hc (by omega) hc' hne x hx
/-- The rows are told of one list alone: another list that agrees on them will do. -/
theorem RowsS.congr {w : World} {N : NetD} {S : Nat → Prop} {j : MI} {n : Nat} {f g : Nat → Nat → D} {k : Nat} (h : RowsS w N S j n f k) (e : ∀ i, i < k → g i = f i) : RowsS w N S j n g k := by
  obtain ⟨P, h0, h1, h2⟩ := h
  exact ⟨P, h0, fun i hi => by rw [e i hi]; exact h1 i hi, h2⟩
/-- The cells, chosen. -/
theorem RowsQ.cells {w : World} {N : NetD} {S : Nat → Prop} {j : MI} {n : Nat} {f : Nat → Nat → D} {k : Nat} {P : Nat → Nat → Nat → Prop} (h : RowsQ w N S j n f k P) : ∃ C : Nat → Nat → Value, ∀ i, i < k → N.val j (f i 0).int! = .agg ((List.range n).map (C i)).toArray ∧ ∀ c, c < n → DIn (P i c) w (f i c) (C i c) ∧ Own w (f i c) (P i c) (C i c) ∧ ∀ x, P i c x → S x ∧ ¬ NetR N x := by
  refine ⟨fun i => if hi : i < k then Classical.choose (h.2.1 i hi) else fun _ => undef, fun i hi' => ?_⟩
  dsimp only
  rw [dif_pos hi']
  exact Classical.choose_spec (h.2.1 i hi')
end Go.Proofs.YtjbppmclhdaaoaaGreat
