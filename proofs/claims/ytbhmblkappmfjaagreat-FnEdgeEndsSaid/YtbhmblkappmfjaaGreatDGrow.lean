/- A row that grows by append: its elements' leaves in memory of their own. -/
import Derived.Test.YtbhmblkappmfjaaGreatDa
import Derived.Maps.AppendAt
namespace Go.Proofs.YtbhmblkappmfjaaGreat
open Go.RowKit Go.Deep

/-- The slice u owns a row of k elements of n cells each, which read as f; each leaf in memory of its own, from block base on. -/
def GSt (w : World) (base : Nat) (T : TypeId) (n : Nat) (f : Nat → Nat → D) (k : Nat) (u : Value) (cs : List Value) : Prop :=
  w.ownsRow base T n u k cs ∧ ∃ P : Nat → Nat → Nat → Prop,
    (∀ i, i < k → ∀ j, j < n → ∃ c, cs[i * n + j]? = some c ∧ DIn (P i j) w (f i j) c ∧ Own w (f i j) (P i j) c ∧ ∀ x, P i j x → base ≤ x ∧ x < w.heap.size ∧ u.ownBlock ≠ some x) ∧
    (∀ i j i' j', i < k → j < n → i' < k → j' < n → ¬ (i = i' ∧ j = j') → ∀ x, P i j x → ¬ P i' j' x)

theorem GSt.row {w : World} {base : Nat} {T : TypeId} {n : Nat} {f : Nat → Nat → D} {k : Nat} {u : Value} {cs : List Value} (h : GSt w base T n f k u cs) : w.ownsRow base T n u k cs := h.1
theorem GSt.nil (w : World) (base : Nat) (T : TypeId) (n : Nat) (f : Nat → Nat → D) : GSt w base T n f 0 (.slice none 0 0) [] :=
  ⟨World.ownsRow_nil _ _ _ _, fun _ _ _ => False, fun i hi => by omega, fun i _ _ _ hi => by omega⟩
theorem GSt.ext {w w' : World} {base : Nat} {T : TypeId} {n : Nat} {f : Nat → Nat → D} {k : Nat} {u : Value} {cs : List Value} (h : GSt w base T n f k u cs) (e : Ext w w') : GSt w' base T n f k u cs := by
  obtain ⟨hr, P, hl, hd⟩ := h
  refine ⟨hr.kept e.grown (by cases h : u.ownBlock <;> simp), P, fun i hi j hj => ?_, hd⟩
  obtain ⟨c, h1, h2, h3, h4⟩ := hl i hi j hj
  exact ⟨c, h1, h2.ext e, h3.ext e, fun x hx => ⟨(h4 x hx).1, Nat.lt_of_lt_of_le (h4 x hx).2.1 e.le, (h4 x hx).2.2⟩⟩
theorem GSt.push {w0 w1 w3 : World} {base : Nat} {T : TypeId} {n : Nat} {f : Nat → Nat → D} {k : Nat} {u v' : Value} {cs : List Value} (h : GSt w0 base T n f k u cs) (e : Ext w0 w1) (hbase : base ≤ w0.heap.size) (us : List Value) (hu : us.length = n) (Q : Nat → Nat → Prop)
    (hq : ∀ j, j < n → DIn (Q j) w1 (f k j) (us.getD j undef) ∧ Own w1 (f k j) (Q j) (us.getD j undef) ∧ ∀ x, Q j x → w0.heap.size ≤ x ∧ x < w1.heap.size)
    (hdq : ∀ j j', j < n → j' < n → j ≠ j' → ∀ x, Q j x → ¬ Q j' x)
    (hown : w3.ownsRow base T n v' (k + 1) (cs ++ us)) (hg : w1.grownBy w3 u.ownBlock) (hloc : v'.ownBlock = u.ownBlock ∨ v'.ownBlock = some w1.heap.size) : GSt w3 base T n f (k + 1) v' (cs ++ us) := by
  obtain ⟨hr, P, hl, hd⟩ := h
  have hlen : cs.length = k * n := hr.1
  have hult : ∀ x, u.ownBlock = some x → x < w0.heap.size := fun x hx => (hr.lt x hx).2
  have hsz := hg.size
  have carD : ∀ {S : Nat → Prop} {d : D} {v : Value}, (∀ x, S x → u.ownBlock ≠ some x) → DIn S w1 d v → DIn S w3 d v := fun hS h => h.carry hsz (fun b hb hlt => hg.block b hlt (fun e => hS b hb e.symm))
  have carO : ∀ {S : Nat → Prop} {d : D} {v : Value}, (∀ x, S x → u.ownBlock ≠ some x) → Own w1 d S v → Own w3 d S v := fun hS h => h.carry hsz (fun b hb hlt => hg.block b hlt (fun e => hS b hb e.symm))
  have away : ∀ x, x < w1.heap.size → u.ownBlock ≠ some x → v'.ownBlock ≠ some x := by
    intro x hx hne
    rcases hloc with e | e
    · rw [e]; exact hne
    · rw [e]; intro e2; cases e2; omega
  refine ⟨hown, fun i j => if i = k then Q j else P i j, fun i hi j hj => ?_, fun i j i' j' hi hj hi' hj' hne x hx => ?_⟩
  · by_cases hik : i = k
    · subst hik
      obtain ⟨q1, q2, q3⟩ := hq j hj
      have hS : ∀ x, Q j x → u.ownBlock ≠ some x := fun x hx e2 => by have := hult x e2; have := (q3 x hx).1; omega
      refine ⟨us.getD j undef, ?_, ?_, ?_, ?_⟩
      · rw [List.getElem?_append_right (by omega), show i * n + j - cs.length = j by omega, List.getD_eq_getElem?_getD, List.getElem?_eq_getElem (by omega)]; rfl
      · dsimp only; rw [if_pos rfl]; exact carD hS q1
      · dsimp only; rw [if_pos rfl]; exact carO hS q2
      · dsimp only; rw [if_pos rfl]; exact fun x hx => ⟨Nat.le_trans hbase (q3 x hx).1, Nat.lt_of_lt_of_le (q3 x hx).2 hsz, away x (q3 x hx).2 (hS x hx)⟩
    · have hi2 : i < k := by omega
      obtain ⟨c, h1, h2, h3, h4⟩ := hl i hi2 j hj
      have hlt := at_lt hi2 hj
      refine ⟨c, by rw [List.getElem?_append_left (by omega)]; exact h1, ?_, ?_, ?_⟩
      · dsimp only; rw [if_neg hik]; exact carD (fun x hx => (h4 x hx).2.2) (h2.ext e)
      · dsimp only; rw [if_neg hik]; exact carO (fun x hx => (h4 x hx).2.2) (h3.ext e)
      · dsimp only; rw [if_neg hik]; exact fun x hx => ⟨(h4 x hx).1, Nat.lt_of_lt_of_le (Nat.lt_of_lt_of_le (h4 x hx).2.1 e.le) hsz, away x (Nat.lt_of_lt_of_le (h4 x hx).2.1 e.le) (h4 x hx).2.2⟩
  · dsimp only at hx ⊢
    by_cases h1 : i = k <;> by_cases h2 : i' = k
    · rw [if_pos h1] at hx
      rw [if_pos h2]
      exact hdq j j' hj hj' (fun h => hne ⟨by omega, h⟩) x hx
    · rw [if_pos h1] at hx
      rw [if_neg h2]
      intro hx2
      obtain ⟨_, _, _, _, h4⟩ := hl i' (by omega) j' hj'
      have := (h4 x hx2).2.1
      have := ((hq j hj).2.2 x hx).1
      omega
    · rw [if_neg h1] at hx
      rw [if_pos h2]
      intro hx2
      obtain ⟨_, _, _, _, h4⟩ := hl i (by omega) j hj
      have := (h4 x hx).2.1
      have := ((hq j' hj').2.2 x hx2).1
      omega
    · rw [if_neg h1] at hx
      rw [if_neg h2]
      exact hd i j i' j' (by omega) hj (by omega) hj' hne x hx
theorem GSt.end {w : World} {base : Nat} {T : TypeId} {n : Nat} {f : Nat → Nat → D} {k : Nat} {u : Value} {cs : List Value} (h : GSt w base T n f k u cs) (hk : k ≤ maxLen) :
    DIn (New base w.heap.size) w (.list n k f) u ∧ Own w (.list n k f) (New base w.heap.size) u := by
  obtain ⟨hr, P, hl, hd⟩ := h
  rcases hr.2 with ⟨rfl, rfl⟩ | ⟨g, cap, cur, rfl, hb, hg, _⟩
  · exact ⟨⟨none, 0, 0, 0, rfl, Nat.zero_le _, fun h => by omega, fun i hi => by omega⟩, ⟨none, 0, 0, 0, fun _ _ _ => False, rfl, fun h => by omega, fun i _ hi => by omega, fun i _ _ _ hi => by omega, fun i hi => by omega⟩⟩
  · have hglt : g < w.heap.size := lt_of_block hg
    have hfz : ∀ o, w.frozen? ⟨g, o, none⟩ = false := fun o => by simp [World.frozen?, hg]
    have hcell : ∀ (o : Nat) (c : Value), cs[o]? = some c → w.cell? ⟨g, 0 + o, none⟩ = some c := by
      intro o c hc
      have := hr.cells (g := g) rfl o c hc
      rw [Go.WideShapes.add_plain] at this
      exact this
    constructor
    · refine ⟨_, cap, g, 0, rfl, hk, fun _ => ⟨rfl, ⟨hb, hglt⟩, hglt⟩, fun i hi j hj => ?_⟩
      obtain ⟨c, h1, h2, h3, h4⟩ := hl i hi j hj
      exact ⟨c, by rw [Nat.add_assoc]; exact hcell _ _ h1, h2.mono (fun x hx => ⟨(h4 x hx).1, (h4 x hx).2.1⟩)⟩
    · refine ⟨_, cap, g, 0, P, rfl, fun _ => ⟨rfl, ⟨hb, hglt⟩, hglt, hfz⟩, fun i j hi hj x hx => ?_, hd, fun i hi j hj => ?_⟩
      · obtain ⟨_, _, _, _, h4⟩ := hl i hi j hj
        exact ⟨⟨(h4 x hx).1, (h4 x hx).2.1⟩, fun e => (h4 x hx).2.2 (by rw [e]; rfl)⟩
      · obtain ⟨c, h1, h2, h3, h4⟩ := hl i hi j hj
        exact ⟨c, by rw [Nat.add_assoc]; exact hcell _ _ h1, h3⟩
theorem GSt.shape {w : World} {base : Nat} {T : TypeId} {n : Nat} {f : Nat → Nat → D} {k : Nat} {u : Value} {cs : List Value} (h : GSt w base T n f k u cs) : ∃ a cap, u = .slice a k cap := by
  rcases h.1.2 with ⟨rfl, rfl⟩ | ⟨g, cap, cur, rfl, _⟩
  · exact ⟨_, _, rfl⟩
  · exact ⟨_, _, rfl⟩
theorem GSt.cap {w : World} {base : Nat} {T : TypeId} {n : Nat} {f : Nat → Nat → D} {k : Nat} {a : Option Addr} {c : Nat} {cs : List Value} (h : GSt w base T n f k (.slice a k c) cs) : k ≤ c := by
  rcases h.1.2 with ⟨e, _⟩ | ⟨g, cap, cur, e, _, _, hn, _⟩
  · injection e with _ e1 e2; omega
  · injection e with _ _ e2; omega
theorem GSt.grew {w w1 w3 : World} {T : TypeId} {n : Nat} {f : Nat → Nat → D} {k : Nat} {u : Value} {cs : List Value} {w0 : World} (h : GSt w0 w.heap.size T n f k u cs) (e : Ext w w1) (hg : w1.grownBy w3 u.ownBlock) : Ext w w3 :=
  Below.grown e hg e.le (fun j hj => (h.row.lt j hj).1)
end Go.Proofs.YtbhmblkappmfjaaGreat
