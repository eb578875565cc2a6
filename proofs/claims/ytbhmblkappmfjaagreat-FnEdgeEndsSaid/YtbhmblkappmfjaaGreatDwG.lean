/- Rows of a graph that is drawn. -/
import Derived.Test.YtbhmblkappmfjaaGreatDwx
import Derived.Test.YtbhmblkappmfjaaGreatFb
import Derived.Test.YtbhmblkappmfjaaGreatL2Add
import Derived.Test.YtbhmblkappmfjaaGreatEaAdd
import Derived.Test.YtbhmblkappmfjaaGreatEdSp
import Derived.Test.YtbhmblkappmfjaaGreatTk
import Derived.Test.YtbhmblkappmfjaaGreatDwProps
import Derived.Test.YtbhmblkappmfjaaGreatLate
import Derived.Deep.LoopGhost
import Derived.Deep.DeepCutAuto
namespace Go.Proofs.YtbhmblkappmfjaaGreat
open Go.RowKit Go.Deep

/-- A row of nodes (n = 3, r = 4) or edges (n = 5, r = 5) that grows, in blocks from lo on. -/
structure DRow (lo : Nat) (T : TypeId) (n r : Nat) (W : World) (S : Nat → Prop) (f : Nat → Nat → D) (len : Nat) (u : Value) (cs : List Value) : Prop where
  row : GRow W S lo T n f len u cs
  low : ∀ x, S x → lo ≤ x
  has : ∀ i, i < len → HasRow r (f i)
  sm : ∀ i, i < len → ∀ j, j < n → SmallL (f i j)
theorem DRow.empty (lo : Nat) (T : TypeId) (n r : Nat) (W : World) : DRow lo T n r W (fun _ => False) (fun _ _ => .int 0) 0 (.slice none 0 0) [] :=
  ⟨⟨World.ownsRow_nil _ _ _ _, (fun _ h => nomatch h), (fun _ (h : False) => h.elim), (fun _ _ _ => False), (fun _ hi => absurd hi (Nat.not_lt_zero _)), (fun _ _ _ _ hi => absurd hi (Nat.not_lt_zero _))⟩, (fun _ (h : False) => h.elim), (fun _ hi => absurd hi (Nat.not_lt_zero _)), (fun _ hi => absurd hi (Nat.not_lt_zero _))⟩
theorem DRow.chg {lo : Nat} {T : TypeId} {n r : Nat} {W W' : World} {S C : Nat → Prop} {f : Nat → Nat → D} {len : Nat} {u : Value} {cs : List Value} (h : DRow lo T n r W S f len u cs) (c : Chg C W W') (hC : ∀ x, S x → ¬ C x) : DRow lo T n r W' S f len u cs := ⟨h.row.chg c hC, h.low, h.has, h.sm⟩
theorem Only.toChg {R : Nat} {W W' : World} (c : Only R (R + 1) W W') : Chg (fun x => x = R) W W' :=
  ⟨c.os, c.tape, c.output, c.size, fun b hb hne => c.block b hb (by rcases Nat.lt_trichotomy b R with h | h | h; exact .inl h; exact absurd h hne; exact .inr h)⟩
theorem DRow.only {lo : Nat} {T : TypeId} {n r R : Nat} {W W' : World} {S : Nat → Prop} {f : Nat → Nat → D} {len : Nat} {u : Value} {cs : List Value} (h : DRow lo T n r W S f len u cs) (c : Only R (R + 1) W W') (hR : R < lo) : DRow lo T n r W' S f len u cs :=
  h.chg c.toChg (fun x hx e => by have := h.low x hx; omega)
theorem DRow.ext {lo : Nat} {T : TypeId} {n r : Nat} {W W' : World} {S : Nat → Prop} {f : Nat → Nat → D} {len : Nat} {u : Value} {cs : List Value} (h : DRow lo T n r W S f len u cs) (e : Ext W W') : DRow lo T n r W' S f len u cs := ⟨h.row.ext e, h.low, h.has, h.sm⟩
theorem DRow.din {lo : Nat} {T : TypeId} {n r : Nat} {W : World} {S : Nat → Prop} {f : Nat → Nat → D} {len : Nat} {u : Value} {cs : List Value} (h : DRow lo T n r W S f len u cs) (hn : n = (rowsOf r).length) (hn2 : n ≤ 24) (hl : len ≤ 1000) : Has (.list n len f) (.list r) ∧ DIn S W (.list n len f) u ∧ SmallL (.list n len f) :=
  ⟨⟨r, rfl, hn, fun i hi j hj => h.has i hi j (by omega)⟩, (h.row.end (by unfold maxLen; omega)).1, hn2, by omega, h.sm⟩
theorem DRow.lt {lo : Nat} {T : TypeId} {n r : Nat} {W : World} {S : Nat → Prop} {f : Nat → Nat → D} {len : Nat} {u : Value} {cs : List Value} (h : DRow lo T n r W S f len u cs) : ∀ x, S x → x < W.heap.size := h.row.2.2.1
/-- Only the reader, and what is new. -/
theorem Only.chgNew {R : Nat} {w W W' : World} {C : Nat → Prop} (h : Only R (R + 1) w W) (c : Chg C W W') (hC : ∀ x, C x → w.heap.size ≤ x) : Only R (R + 1) w W' :=
  ⟨c.os.trans h.os, c.tape.trans h.tape, c.output.trans h.output, Nat.le_trans h.size c.size, fun b hb ho => (c.block b (Nat.lt_of_lt_of_le hb h.size) (fun hx => by have := hC b hx; omega)).trans (h.block b hb ho)⟩
theorem RdAt.chg {R q : Nat} {W W' : World} {C : Nat → Prop} (h : RdAt W R q) (c : Chg C W W') (hC : ∀ x, C x → R < x) : RdAt W' R q :=
  h.carry c.size (fun b hb => c.block b (Nat.lt_of_le_of_lt hb h.lt) (fun hx => by have := hC b hx; omega))
theorem FBox.chg {W W' : World} {p : Nat} {c0 c1 c2 c3 : Value} {C : Nat → Prop} (h : FBox W p c0 c1 c2 c3) (c : Chg C W W') (hC : ¬ C p) : FBox W' p c0 c1 c2 c3 := h.block c.size (c.block p h.box.lt hC)
/-- A box's four cells, told apart. -/
theorem FBox.four {W : World} {p : Nat} {c0 c1 c2 c3 : Value} (h : FBox W p c0 c1 c2 c3) : (W.cell? ⟨p, 0, none⟩ = some c0 ∧ W.cell? ⟨p, 1, none⟩ = some c1 ∧ W.cell? ⟨p, 2, none⟩ = some c2 ∧ W.cell? ⟨p, 3, none⟩ = some c3) ∧ (W.frozen? ⟨p, 0, none⟩ = false ∧ W.frozen? ⟨p, 1, none⟩ = false ∧ W.frozen? ⟨p, 2, none⟩ = false ∧ W.frozen? ⟨p, 3, none⟩ = false) := by
  obtain ⟨⟨_, h0, h1, h2, h3⟩, hf⟩ := h
  exact ⟨⟨h0, h1, h2, h3⟩, hf 0, hf 1, hf 2, hf 3⟩
/-- A box's four cells are written. -/
theorem FBox.put {W : World} {p : Nat} {c0 c1 c2 c3 : Value} (h : FBox W p c0 c1 c2 c3) (d0 d1 d2 d3 : Value) :
    FBox ((((W.setCell ⟨p, 0, none⟩ d0).setCell ⟨p, 1, none⟩ d1).setCell ⟨p, 2, none⟩ d2).setCell ⟨p, 3, none⟩ d3) p d0 d1 d2 d3 ∧ Chg (fun x => x = p) W ((((W.setCell ⟨p, 0, none⟩ d0).setCell ⟨p, 1, none⟩ d1).setCell ⟨p, 2, none⟩ d2).setCell ⟨p, 3, none⟩ d3) ∧ ((((W.setCell ⟨p, 0, none⟩ d0).setCell ⟨p, 1, none⟩ d1).setCell ⟨p, 2, none⟩ d2).setCell ⟨p, 3, none⟩ d3).heap.size = W.heap.size :=
  ⟨h.set4 d0 d1 d2 d3, ((((Chg.refl (fun x => x = p) W).setCell (p := ⟨p, 0, none⟩) rfl d0).setCell (p := ⟨p, 1, none⟩) rfl d1).setCell (p := ⟨p, 2, none⟩) rfl d2).setCell (p := ⟨p, 3, none⟩) rfl d3, by simp⟩

theorem ownsRow_low {W : World} {b b' : Nat} {T : TypeId} {n k : Nat} {u : Value} {cs : List Value} (h : W.ownsRow b T n u k cs) (hb : b' ≤ b) : W.ownsRow b' T n u k cs := by
  refine ⟨h.1, ?_⟩
  rcases h.2 with h2 | ⟨g, cap, cur, e, hg, h3⟩
  · exact .inl h2
  · exact .inr ⟨g, cap, cur, e, Nat.le_trans hb hg, h3⟩
/-- A row of its own without one of its elements, in a new block. -/
theorem DRow.drop {lo B : Nat} {T : TypeId} {n r : Nat} {W W' : World} {S : Nat → Prop} {f : Nat → Nat → D} {len k bb off ck : Nat} {u u' : Value} {cs : List Value} {C : Nat → Nat → Value} (h : DRow lo T n r W S f len u cs) (hE : Ext W W') (hk : k < len) (hown : W'.ownsRow B T n u' (len - 1) (rowCells n (dropC C k) (len - 1))) (hB : W.heap.size ≤ B) (hlo : lo ≤ W.heap.size) (hu : u = .slice (some ⟨bb, off, none⟩) len ck)
    (hC : ∀ i, i < len → ∀ c, c < n → W.cell? ⟨bb, off + i * n + c, none⟩ = some (C i c)) : DRow lo T n r W' (fun x => S x ∨ u'.ownBlock = some x) (dropF f k) (len - 1) u' (rowCells n (dropC C k) (len - 1)) := by
  obtain ⟨⟨hr, hub, hs, P, hl, hd⟩, low, has, sm⟩ := h
  have hcs : ∀ i, i < len → ∀ c, c < n → cs[i * n + c]? = some (C i c) := by
    intro i hi c hc
    obtain ⟨v, h1, _⟩ := hl i hi c hc
    rcases hr.2 with ⟨e, e2⟩ | ⟨g, cap, cur, e, _, _, _⟩
    · omega
    · rw [hu] at e
      cases e
      have := hr.cells (g := bb) (by rw [hu]; rfl) _ _ h1
      rw [Go.WideShapes.add_plain] at this
      have h2 := hC i hi c hc
      rw [Nat.zero_add] at this
      rw [Nat.zero_add] at h2
      rw [h2] at this
      rw [h1, ← Option.some.inj this]
  obtain ⟨s, hsd⟩ : ∃ s : Nat → Nat, s = fun i => if i < k then i else i + 1 := ⟨_, rfl⟩
  have hsl : ∀ i, i < len - 1 → s i < len := fun i hi => by rw [hsd]; dsimp only; split <;> omega
  have hsf : ∀ i, dropF f k i = f (s i) := fun i => by rw [hsd]; unfold dropF; dsimp only; split <;> rfl
  have hsc : ∀ i, dropC C k i = C (s i) := fun i => by rw [hsd]; unfold dropC; dsimp only; split <;> rfl
  have hinj : ∀ i i', s i = s i' → i = i' := fun i i' e => by rw [hsd] at e; dsimp only at e; split at e <;> split at e <;> omega
  refine ⟨⟨ownsRow_low hown (by omega), fun x hx => .inr hx, fun x hx => ?_, fun i j => P (s i) j, fun i hi j hj => ?_, fun i j i' j' hi hj hi' hj' hne => ?_⟩, fun x hx => ?_, fun i hi => ?_, fun i hi j hj => ?_⟩
  · rcases hx with hx | hx
    · exact Nat.lt_of_lt_of_le (hs x hx) hE.le
    · exact (hown.lt x hx).2
  · obtain ⟨v, h1, h2, h3, h4⟩ := hl (s i) (hsl i hi) j hj
    rw [hcs _ (hsl i hi) j hj] at h1
    cases h1
    refine ⟨C (s i) j, by rw [rowCells_get n _ _ i hi j hj, hsc], by rw [hsf]; exact h2.ext hE, by rw [hsf]; exact h3.ext hE, fun x hx => ⟨.inl (h4 x hx).1, fun e => ?_⟩⟩
    have := (hown.lt x e).1
    have := hs x (h4 x hx).1
    omega
  · exact hd (s i) j (s i') j' (hsl i hi) hj (hsl i' hi') hj' (fun e => hne ⟨hinj _ _ e.1, e.2⟩)
  · rcases hx with hx | hx
    · exact low x hx
    · have := (hown.lt x hx).1; omega
  · rw [hsf]; exact has _ (hsl i hi)
  · rw [hsf]; exact sm _ (hsl i hi) j hj

theorem edL_small {d : D} {a : Option Nat} (H : Has d (.list 5)) (ha : ∀ k, a = some k → k < d.len!) (h : SmallL d) : SmallL (edL d a) := by
  cases a with
  | none => exact h
  | some k =>
    obtain ⟨len, f, rfl, HR⟩ := H.list
    have hk : k < len := ha k rfl
    obtain ⟨h1, h2, h3⟩ := h
    refine ⟨by decide, by show len - 1 ≤ _; omega, fun i hi j hj => ?_⟩
    change i < len - 1 at hi
    show SmallL (dropF f k i j)
    unfold dropF
    split
    · exact h3 i (by omega) j hj
    · exact h3 (i + 1) (by omega) j hj
theorem dropIds_small {d : D} (H : Has d (.list 5)) (hi : incD d) (h : SmallL d) (l : List Int) : SmallL (dropIds d l) := by
  have key : ∀ m : List Int, SmallL (dropIds d m.reverse) := by
    intro m
    induction m with
    | nil => exact h
    | cons a m ih =>
      rw [List.reverse_cons, dropIds_snoc]
      exact edL_small (left_of H hi m.reverse).has (fun k hk => (edK_some hk).1) ih
  simpa using key l.reverse
theorem ids_inc {n len : Nat} {f : Nat → Nat → D} (h : ∀ i, i < len → f i 0 = .int i) : incD (.list n len f) := by
  intro i j hij hj
  change j < len at hj
  show (f i 0).int! < (f j 0).int!
  rw [h i (by omega), h j hj]
  show (i : Int) < (j : Int)
  omega
theorem ids_edK {n len m : Nat} {f : Nat → Nat → D} (h : ∀ i, i < len → f i 0 = .int i) (hm : m < len) : ∃ k, edK (.list n len f) (m : Int) = some k := by
  cases e : edK (.list n len f) (m : Int) with
  | some k => exact ⟨k, rfl⟩
  | none =>
    have := edK_none e m hm
    exact absurd (by show (f m 0).int! = _; rw [h m hm]; rfl) this
/-- A node with these labels and props. -/
theorem addF_ok {f : Nat → Nat → D} {len : Nat} {x : Int} {dL dP : D} (hf : ∀ i, i < len → HasRow 4 (f i)) (hs : ∀ i, i < len → ∀ j, j < 3 → SmallL (f i j)) (HL : Has dL (.list 0)) (sL : SmallL dL) (HP : Has dP (.list 3)) (sP : SmallL dP) :
    (∀ i, i < len + 1 → HasRow 4 (addF f len x dL dP i)) ∧ ∀ i, i < len + 1 → ∀ j, j < 3 → SmallL (addF f len x dL dP i j) := by
  constructor
  · intro i hi
    by_cases h : i = len
    · subst h
      intro j hj
      have hj' : j = 0 ∨ j = 1 ∨ j = 2 := by change j < 3 at hj; omega
      rcases hj' with rfl | rfl | rfl
      · rw [addF_at0]; exact rfl
      · rw [addF_at1]; exact HL
      · rw [addF_at2]; exact HP
    · rw [addF_lt f len x dL dP (show i < len by omega)]; exact hf i (by omega)
  · intro i hi j hj
    by_cases h : i = len
    · subst h
      have hj' : j = 0 ∨ j = 1 ∨ j = 2 := by omega
      rcases hj' with rfl | rfl | rfl
      · rw [addF_at0]; trivial
      · rw [addF_at1]; exact sL
      · rw [addF_at2]; exact sP
    · rw [addF_lt f len x dL dP (show i < len by omega)]; exact hs i (by omega) j hj
theorem addFE_ok {f : Nat → Nat → D} {len : Nat} {x : Int} {kind : ByteArray} {fr dst : Int} {dP : D} (hf : ∀ i, i < len → HasRow 5 (f i)) (hs : ∀ i, i < len → ∀ j, j < 5 → SmallL (f i j)) (HP : Has dP (.list 3)) (sP : SmallL dP) :
    (∀ i, i < len + 1 → HasRow 5 (addFE f len x kind fr dst dP i)) ∧ ∀ i, i < len + 1 → ∀ j, j < 5 → SmallL (addFE f len x kind fr dst dP i j) := by
  constructor
  · intro i hi
    by_cases h : i = len
    · subst h
      intro j hj
      have hj' : j = 0 ∨ j = 1 ∨ j = 2 ∨ j = 3 ∨ j = 4 := by change j < 5 at hj; omega
      rcases hj' with rfl | rfl | rfl | rfl | rfl
      · rw [addFE_at0]; exact rfl
      · rw [addFE_at1]; exact rfl
      · rw [addFE_at2]; exact rfl
      · rw [addFE_at3]; exact rfl
      · rw [addFE_at4]; exact HP
    · rw [addFE_lt f len x kind fr dst dP (show i < len by omega)]; exact hf i (by omega)
  · intro i hi j hj
    by_cases h : i = len
    · subst h
      have hj' : j = 0 ∨ j = 1 ∨ j = 2 ∨ j = 3 ∨ j = 4 := by omega
      rcases hj' with rfl | rfl | rfl | rfl | rfl
      · rw [addFE_at0]; trivial
      · rw [addFE_at1]; trivial
      · rw [addFE_at2]; trivial
      · rw [addFE_at3]; trivial
      · rw [addFE_at4]; exact sP
    · rw [addFE_lt f len x kind fr dst dP (show i < len by omega)]; exact hs i (by omega) j hj
end Go.Proofs.YtbhmblkappmfjaaGreat

/- What spec.l11Graph draws: a graph that steps made. -/
namespace Go.Proofs.YtbhmblkappmfjaaGreat
open Go.RowKit Go.Deep

def noE : D := .list 5 0 (fun _ _ => .int 0)
theorem noE_ok (S : Nat → Prop) (W : World) : Has noE (.list 5) ∧ DIn S W noE (.slice none 0 0) ∧ SmallL noE :=
  ⟨⟨5, rfl, rfl, fun i hi => by omega⟩, ⟨none, 0, 0, 0, rfl, Nat.zero_le _, fun h => by omega, fun i hi => by omega⟩, by decide, by decide, fun i hi => by omega⟩
def grPost (R p : Nat) (w : World) (e : Ending) (w' : World) : Prop := ∃ (d0 d1 : D) (u0 u1 : Value) (x2 x3 : Int) (p' : Nat), e = .returned (.agg #[u0, u1, .int .i64 x2, .int .i64 x3]) ∧ (Has d0 (.list 4) ∧ DIn (fun b => w.heap.size ≤ b) w' d0 u0 ∧ SmallL d0) ∧ (Has d1 (.list 5) ∧ DIn (fun b => w.heap.size ≤ b) w' d1 u1 ∧ SmallL d1 ∧ d1.len! ≤ 16) ∧ (0 ≤ x2 ∧ x2 ≤ 100 ∧ 0 ≤ x3 ∧ x3 ≤ 100) ∧ RdAt w' R p' ∧ p' ≤ p + 450 ∧ Only R (R + 1) w w'
theorem gr_close {R p q : Nat} {w W : World} {S0 S1 : Nat → Prop} {d0 d1 : D} {u0 u1 : Value} {x2 x3 : Int} (hRl : R < w.heap.size) (hR : RdAt W R q) (hq : q ≤ p + 450) (hO : Only R (R + 1) w W) (H0 : Has d0 (.list 4)) (h0 : DIn S0 W d0 u0) (s0 : SmallL d0) (l0 : ∀ x, S0 x → w.heap.size + 1 ≤ x) (H1 : Has d1 (.list 5)) (h1 : DIn S1 W d1 u1) (s1 : SmallL d1) (l1 : ∀ x, S1 x → w.heap.size + 1 ≤ x) (n1 : d1.len! ≤ 16) (hx : 0 ≤ x2 ∧ x2 ≤ 100 ∧ 0 ≤ x3 ∧ x3 ≤ 100) (c0 c1 c2 c3 : Value) :
    grPost R p w (.returned (.agg #[u0, u1, .int .i64 x2, .int .i64 x3])) ((((W.setCell ⟨w.heap.size, 0, none⟩ c0).setCell ⟨w.heap.size, 1, none⟩ c1).setCell ⟨w.heap.size, 2, none⟩ c2).setCell ⟨w.heap.size, 3, none⟩ c3) := by
  obtain ⟨f1, f2⟩ := draw_close hR hO hRl (Nat.le_refl _) c0 c1 c2 c3
  have key : ∀ {S : Nat → Prop} {d : D} {v : Value}, (∀ x, S x → w.heap.size + 1 ≤ x) → DIn S W d v → DIn (fun b => w.heap.size ≤ b) ((((W.setCell ⟨w.heap.size, 0, none⟩ c0).setCell ⟨w.heap.size, 1, none⟩ c1).setCell ⟨w.heap.size, 2, none⟩ c2).setCell ⟨w.heap.size, 3, none⟩ c3) d v := fun hl h => by
    have hn : ∀ x, x = w.heap.size → ¬ _ := fun x e hx => by have := hl x hx; omega
    exact ((((h.setCell (hn _ rfl) _).setCell (hn _ rfl) _).setCell (hn _ rfl) _).setCell (hn _ rfl) _).mono (fun x hx => by have := hl x hx; omega)
  exact ⟨d0, d1, u0, u1, x2, x3, q, rfl, ⟨H0, key l0 h0, s0⟩, ⟨H1, key l1 h1, s1, n1⟩, hx, f1, hq, f2⟩

/-- The graph under way: its nodes may still grow, its edges stand. -/
def grSt (R p rb : Nat) (w : World) (len : Nat) (W : World) : Prop := ∃ (f : Nat → Nat → D) (u0 : Value) (cs : List Value) (S0 S1 : Nat → Prop) (d1 : D) (u1 : Value) (x2 x3 : Int) (q : Nat), FBox W (rb + 1) u0 u1 (.int .i64 x2) (.int .i64 x3) ∧ FBox W rb (.slice none 0 0) (.slice none 0 0) (.int .i64 0) (.int .i64 0) ∧ DRow (rb + 2) 34 3 4 W S0 f len u0 cs ∧ len ≤ 12 ∧ (Has d1 (.list 5) ∧ DIn S1 W d1 u1 ∧ SmallL d1 ∧ d1.len! ≤ 16) ∧ (∀ x, S1 x → ¬ S0 x ∧ rb + 2 ≤ x ∧ x < W.heap.size) ∧ (0 ≤ x2 ∧ x2 ≤ len + 6 ∧ 0 ≤ x3 ∧ x3 ≤ 16) ∧ RdAt W R q ∧ q ≤ p + 371 ∧ Only R (R + 1) w W ∧ rb + 2 ≤ W.heap.size
def oneP : D := .list 1 1 (fun _ _ => .str ⟨#[80]⟩)
def noP : D := .list 5 0 (fun _ _ => .int 0)
theorem oneP_ok : Has oneP (.list 0) ∧ SmallL oneP ∧ labelsB oneP = true := by
  refine ⟨⟨0, rfl, rfl, fun i hi j hj => ?_⟩, ⟨by decide, by decide, fun i hi j hj => trivial⟩, by kernel_rfl⟩
  have : j = 0 := by omega
  subst this
  rfl
theorem noP_ok : Has noP (.list 3) ∧ SmallL noP ∧ propsB noP = true := ⟨⟨3, rfl, rfl, fun i hi => by omega⟩, ⟨by decide, by decide, fun i hi => by omega⟩, by kernel_rfl⟩
theorem oneP_in (W : World) : DIn anyB (W.alloc (.cells #[.string ⟨#[80]⟩] 9)) oneP (.slice (some ⟨W.heap.size, 0, none⟩) 1 1) := by
  refine ⟨_, 1, W.heap.size, 0, rfl, by decide, fun _ => ⟨rfl, trivial, by simp⟩, fun i hi j hj => ⟨.string ⟨#[80]⟩, ?_, rfl, by decide⟩⟩
  have hi' : i = 0 := by omega
  have hj' : j = 0 := by omega
  subst hi' hj'
  exact box_cell (Ext.refl _) 0 _ rfl
theorem noP_in (W : World) (a : Option Addr) : DIn anyB W noP (.slice a 0 0) := ⟨a, 0, 0, 0, rfl, Nat.zero_le _, fun h => by omega, fun i hi => by omega⟩

set_option maxRecDepth 100000 in
set_option maxHeartbeats 16000000 in
theorem l11Graph_any (R p : Nat) (w : World) (h : RdAt w R p) (hp : p + 500 ≤ 1000000) : Calls Tryz.prog 18 #[.pointer (some ⟨R, 0, none⟩)] w (grPost R p w) := by
  have hRl := h.lt
  have hE1 : Ext w ((w.alloc (.cells #[.slice none 0 0, .slice none 0 0, .int .i64 0, .int .i64 0] 26)).alloc (.cells #[.slice none 0 0, .slice none 0 0, .int .i64 0, .int .i64 0] 26)) := ((Ext.refl _).alloc _).alloc _
  have hO : Only R (R + 1) w ((w.alloc (.cells #[.slice none 0 0, .slice none 0 0, .int .i64 0, .int .i64 0] 26)).alloc (.cells #[.slice none 0 0, .slice none 0 0, .int .i64 0, .int .i64 0] 26)) := ((Only.refl _ _ _).alloc _).alloc _
  have hbr : FBox ((w.alloc (.cells #[.slice none 0 0, .slice none 0 0, .int .i64 0, .int .i64 0] 26)).alloc (.cells #[.slice none 0 0, .slice none 0 0, .int .i64 0, .int .i64 0] 26)) w.heap.size (.slice none 0 0) (.slice none 0 0) (.int .i64 0) (.int .i64 0) := (FBox.new w _ _ _ _ _).ext ((Ext.refl _).alloc _)
  have hbg : FBox ((w.alloc (.cells #[.slice none 0 0, .slice none 0 0, .int .i64 0, .int .i64 0] 26)).alloc (.cells #[.slice none 0 0, .slice none 0 0, .int .i64 0, .int .i64 0] 26)) (w.heap.size + 1) (.slice none 0 0) (.slice none 0 0) (.int .i64 0) (.int .i64 0) := by
    have hq := FBox.new (w.alloc (.cells #[.slice none 0 0, .slice none 0 0, .int .i64 0, .int .i64 0] 26)) (.slice none 0 0) (.slice none 0 0) (.int .i64 0) (.int .i64 0) 26
    rw [World.size_alloc] at hq
    exact hq
  have hz : w.heap.size + 2 ≤ ((w.alloc (.cells #[.slice none 0 0, .slice none 0 0, .int .i64 0, .int .i64 0] 26)).alloc (.cells #[.slice none 0 0, .slice none 0 0, .int .i64 0, .int .i64 0] 26)).heap.size := by simp
  have hR := h.ext hE1
  obtain ⟨rb, hrb⟩ : ∃ rb, rb = w.heap.size := ⟨_, rfl⟩
  have hrb1 := Nat.le_of_eq hrb
  have hrb2 := Nat.le_of_eq hrb.symm
  clear hE1 h
  go_enter Tryz.func18, Tryz.ntmps18
  go_wp2_with fail
  rw [← hrb] at hbr hbg hz ⊢
  clear hrb
  generalize (w.alloc (.cells #[.slice none 0 0, .slice none 0 0, .int .i64 0, .int .i64 0] 26)).alloc (.cells #[.slice none 0 0, .slice none 0 0, .int .i64 0, .int .i64 0] 26) = w1 at *
  refine (pick_any R p 7 w1 hR (by omega) (by omega) (by omega)).mono ?_
  rintro e w2 ⟨m, rfl, hm, hR2, hx2⟩
  have hbg2 := hbg.only hx2 (.inr (by omega))
  have hbr2 := hbr.only hx2 (.inr (by omega))
  have hO2 := hO.trans hx2
  have hz2 := hx2.size
  clear hbg hbr hO hR hx2
  go_wp2_with fail
  go_loopw [4] (fun nv wr => ∃ (n len : Nat) (f : Nat → Nat → D) (u0 : Value) (cs : List Value) (S0 : Nat → Prop) (q : Nat), nv = .int .i64 n ∧ n + len ≤ 6 ∧ FBox wr (rb + 1) u0 (.slice none 0 0) (.int .i64 len) (.int .i64 0) ∧ FBox wr rb (.slice none 0 0) (.slice none 0 0) (.int .i64 0) (.int .i64 0) ∧ DRow (rb + 2) 34 3 4 wr S0 f len u0 cs ∧ (∀ i, i < len → f i 0 = .int i) ∧ RdAt wr R q ∧ q + 30 * n ≤ p + 181 ∧ Only R (R + 1) w wr ∧ rb + 2 ≤ wr.heap.size) (fun nv _ => (intOf nv).toNat)
  case atStart => exact ⟨m, 0, _, _, [], _, p + 1, rfl, by omega, hbg2, hbr2, DRow.empty _ _ _ _ _, fun i hi => absurd hi (Nat.not_lt_zero _), hR2, by omega, hO2, by omega⟩
  case round =>
    clear hbg2 hbr2 hR2 hO2 hz2 hm
    obtain ⟨n, len, f, u0, cs, S0, q, rfl, hnl, hbg, hbr, hN, hid, hR, hq, hO, hz⟩ := hrel
    obtain ⟨ua, ucap, rfl⟩ := hN.row.shape
    by_cases hn : 0 < n
    · obtain ⟨⟨b0, b1, b2, b3⟩, _⟩ := hbg.four
      have HK : Hid (∀ W : World, W.heap[rb + 1]? = wr.heap[rb + 1]? → W.cell? ⟨rb + 1, 0, none⟩ = some (.slice ua len ucap) ∧ W.cell? ⟨rb + 1, 1, none⟩ = some (.slice none 0 0) ∧ W.cell? ⟨rb + 1, 2, none⟩ = some (.int .i64 len) ∧ W.cell? ⟨rb + 1, 3, none⟩ = some (.int .i64 0)) := fun W e => by
        rw [World.cell?_of_block (a := ⟨rb + 1, 0, none⟩) e, World.cell?_of_block (a := ⟨rb + 1, 1, none⟩) e, World.cell?_of_block (a := ⟨rb + 1, 2, none⟩) e, World.cell?_of_block (a := ⟨rb + 1, 3, none⟩) e]
        exact ⟨b0, b1, b2, b3⟩
      clear b0 b1 b2 b3
      have hRd := hR.ext (Ext.refl _).drew
      have hNd := hN.ext (Ext.refl _).drew
      have hbd : wr.drew.heap[rb + 1]? = wr.heap[rb + 1]? := rfl
      have hOd : Only R (R + 1) wr wr.drew := Only.of_ext (Ext.refl _).drew
      go_wp2_with fail
      refine late_start (S := (fun W => W.cell? ⟨rb + 1, 0, none⟩ = some (.slice ua len ucap) ∧ W.cell? ⟨rb + 1, 1, none⟩ = some (.slice none 0 0) ∧ W.cell? ⟨rb + 1, 2, none⟩ = some (.int .i64 len) ∧ W.cell? ⟨rb + 1, 3, none⟩ = some (.int .i64 0))) 9 (by kernel_rfl) (HK.out _ hbd) (fun hHeld => ?_)
      refine tkE 0 ⟨some 14, .load 26 (.tmp 3), 26, _, #[], none⟩ ?_ hHeld ?yyA0 ?rrA0
      case yyA0 => (intro w hSw; (try dsimp only at hSw); go_simp; try with_reducible rfl)
      try simp only [Act.put, putA, putB, putC]
      refine tkP 1 ⟨some 15, .move (.tmp 0), 37, _, #[], none⟩ ?_ hHeld ?yyA1 ?rrA1
      case yyA1 => (intro w hSw; (try dsimp only at hSw); go_simp; try with_reducible rfl)
      try simp only [Act.put, putA, putB, putC]
      refine tkP 3 ⟨some 17, .move (.tmp 0), 37, _, #[], none⟩ ?_ hHeld ?yyA3 ?rrA3
      case yyA3 => (intro w hSw; (try dsimp only at hSw); go_simp; try with_reducible rfl)
      try simp only [Act.put, putA, putB, putC]
      generalize wr.drew = w5 at *
      refine late_ready (rs := [2]) (by kernel_rfl) (by simp) ?_
      refine LateAll.cons (o := ⟨some 16, .call { callee := .value (.func 36), args := #[.tmp 15], argTypes := #[37] }, 31, _, #[⟨1, .data⟩], none⟩) rfl (fun K hK => ?_) (LateAll.nil)
      go_simp
      refine (l11Labels_any R q w5 hRd (by omega)).mono ?_
      rintro e w6 ⟨uL, kL, csL, rfl, hL, hkL, hR6, hx6⟩
      have hz5 := hOd.size
      have hO56 := hOd.trans hx6
      have hz6 := hx6.size
      have hb6 := hO56.block (rb + 1) (by omega) (.inr (by omega))
      obtain ⟨dL, HL, hDL, sL, _⟩ := hL.end rfl (by decide) (by omega)
      clear hL
      go_wp2_with fail
      refine hK.out _ _ (HK.out _ hb6) (fun hHeld => ?_)
      clear hK K
      try simp only [Act.put, putA, putB, putC]
      refine late_ready (rs := [4]) (by kernel_rfl) (by simp) ?_
      refine LateAll.cons (o := ⟨some 18, .call { callee := .value (.func 37), args := #[.tmp 17], argTypes := #[37] }, 32, _, #[⟨3, .data⟩, ⟨2, .chain⟩], none⟩) rfl (fun K hK => ?_) (LateAll.nil)
      go_simp
      refine (l11Props_any R (q + 2) w6 hR6 (by omega)).mono ?_
      rintro e w7 ⟨uP, kP, csP, q', rfl, hP, hkP, hR7, hq', hx7⟩
      have hO57 := hO56.trans hx7
      have hz7 := hx7.size
      have hb7 := hO57.block (rb + 1) (by omega) (.inr (by omega))
      obtain ⟨dP, HP, hDP, sP, _⟩ := hP.end rfl (by decide) (by omega)
      have hDL7 := hDL.onlyR hx7 (fun b hb => .inr (by omega))
      have hN7 := hN.only hO57 (by omega)
      clear hP hDL
      go_wp2_with fail
      refine hK.out _ _ (HK.out _ hb7) (fun hHeld => ?_)
      clear hK K
      try simp only [Act.put, putA, putB, putC]
      refine late_ready (rs := [5]) (by kernel_rfl) (by simp) ?_
      refine LateAll.cons (o := ⟨some 19, .call { callee := .value (.func 35), args := #[.tmp 14, .tmp 16, .tmp 18], argTypes := #[26, 31, 32] }, 81, _, #[⟨0, .data⟩, ⟨2, .data⟩, ⟨4, .data⟩, ⟨4, .chain⟩], none⟩) rfl (fun K hK => ?_) (LateAll.nil)
      go_simp
      refine (l2AddNode_g anyB S0 (fun _ => False) (rb + 2) len f noE dL dP (.slice ua len ucap) (.slice none 0 0) uL uP cs len 0 w7 hN7.row (noE_ok anyB w7).1 (noE_ok _ _).2.1 (by omega) (by omega) (by omega) (by omega) HL hDL7.any sL HP hDP.any sP).mono ?_
      rintro e w8 ⟨u0', x2', rfl, hgood, hbad, hC8⟩
      have hz8 := hC8.size
      have hn8 : ∀ x, S0 x → rb + 2 ≤ x := hN7.low
      have hb8 := (hC8.block (rb + 1) (by omega) (fun hx => by rcases hx with hx | hx; (have := hn8 _ hx; omega); omega)).trans hb7
      have haddN : ∃ (len' : Nat) (f' : Nat → Nat → D) (cs' : List Value) (S' : Nat → Prop), len' ≤ len + 1 ∧ x2' = (len' : Int) ∧ DRow (rb + 2) 34 3 4 w8 S' f' len' u0' cs' ∧ (∀ i, i < len' → f' i 0 = .int i) ∧ ∀ x, S' x → S0 x ∨ w7.heap.size ≤ x := by
        cases hb : addB dL dP len (len : Int)
        · obtain ⟨rfl, rfl, hG⟩ := hbad hb
          exact ⟨len, f, cs, S0, by omega, rfl, ⟨hG, hN7.low, hN7.has, hN7.sm⟩, hid, fun x hx => .inl hx⟩
        · obtain ⟨rfl, S', ⟨cs', hG⟩, hS'⟩ := hgood hb
          obtain ⟨k1, k2⟩ := addF_ok (x := (len : Int)) hN7.has hN7.sm HL sL HP sP
          refine ⟨len + 1, _, cs', S', Nat.le_refl _, by omega, ⟨hG, fun x hx => ?_, k1, k2⟩, fun i hi => ?_, hS'⟩
          · rcases hS' x hx with h | h
            · exact hN7.low x h
            · omega
          · by_cases e : i = len
            · subst e; rw [addF_at0]
            · rw [addF_lt _ _ _ _ _ (show i < len by omega)]; exact hid i (by omega)
      obtain ⟨len', f', cs', S', hlen', rfl, hN8, hid8, _⟩ := haddN
      obtain ⟨ua', ucap', rfl⟩ := hN8.row.shape
      clear hgood hbad
      go_wp2_with fail
      refine hK.out _ _ (HK.out _ hb8) (fun hHeld => ?_)
      clear hK K
      try simp only [Act.put, putA, putB, putC]
      refine tkP 6 ⟨some 13, .move (.tmp 19), 81, _, #[⟨5, .data⟩], none⟩ ?_ hHeld ?yyA6 ?rrA6
      case yyA6 => (intro w hSw; (try dsimp only at hSw); go_simp; try with_reducible rfl)
      try simp only [Act.put, putA, putB, putC]
      refine tkP 7 ⟨some 20, .extract (.tmp 13) 0, 26, _, #[⟨6, .data⟩], none⟩ ?_ hHeld ?yyA7 ?rrA7
      case yyA7 => (intro w hSw; (try dsimp only at hSw); go_simp; try with_reducible rfl)
      try simp only [Act.put, putA, putB, putC]
      refine tkP 8 ⟨some 21, .extract (.tmp 13) 1, 4, _, #[⟨6, .data⟩, ⟨9, .gcOnly .lateStores⟩], none⟩ ?_ hHeld ?yyA8 ?rrA8
      case yyA8 => (intro w hSw; (try dsimp only at hSw); go_simp; try with_reducible rfl)
      try simp only [Act.put, putA, putB, putC]
      refine late_ready (rs := [9]) (by kernel_rfl) (by simp) ?_
      refine LateAll.last (o := ⟨none, .store 26 (.tmp 3) (.tmp 20), 0, _, #[⟨7, .data⟩, ⟨5, .chain⟩, ⟨0, .phase⟩, ⟨1, .phase⟩, ⟨2, .phase⟩, ⟨3, .phase⟩, ⟨4, .phase⟩, ⟨5, .phase⟩, ⟨6, .phase⟩, ⟨7, .phase⟩, ⟨8, .textOnly .lateStores⟩], none⟩) rfl (fun K hK => ?_)
      have hbg8 : FBox w8 (rb + 1) _ _ _ _ := hbg.block (by omega) hb8
      obtain ⟨⟨y0, y1, y2, y3⟩, z0, z1, z2, z3⟩ := hbg8.four
      obtain ⟨hbg9, hC9, hz9⟩ := hbg8.put (.slice ua' len' ucap') (.slice none 0 0) (.int .i64 len') (.int .i64 0)
      have hO8 := (hO.trans hO57).chgNew hC8 (fun x hx => by rcases hx with hx | hx; (have := hn8 _ hx; omega); omega)
      have hO9 := hO8.chgNew hC9 (fun x hx => by omega)
      have hR9 := (hR7.chg hC8 (fun x hx => by rcases hx with hx | hx; (have := hn8 _ hx; omega); omega)).chg hC9 (fun x hx => by omega)
      have hbr9 := ((hbr.only hO57 (.inr (by omega))).chg hC8 (fun hx => by rcases hx with hx | hx; (have := hn8 _ hx; omega); omega)).chg hC9 (by omega)
      have hN9 := hN8.chg hC9 (fun x hx e => by have := hN8.low x hx; omega)
      clear hN8 hN7 hNd hN hb8 hb7 hb6 hC8 hC9 hbg hbg8 hbr hR7 hR6 hRd hR hO57 hO56 hOd hx6 hx7 hO8 hO hDP hDL7 hid HK hHeld
      go_simp
      clear y0 y1 y2 y3 z0 z1 z2 z3
      refine hK.out _ _ ?_
      clear hK K
      try simp only [Act.put, putA, putB, putC]
      refine late_done (by kernel_rfl) ?_ _
      go_wp2
      go_roundw
      case rel => exact ⟨n - 1, len', f', _, cs', S', q', by go_num, by omega, hbg9, hbr9, hN9, hid8, hR9, by omega, hO9, by omega⟩
      case measure => simp [intOf]; omega
    · have hn0 : n = 0 := by omega
      subst hn0
      go_wp2_with fail
      refine (pick_any R q 7 wr hR (by omega) (by omega) (by omega)).mono ?_
      rintro e w2 ⟨m2, rfl, hm2, hR2, hx2⟩
      have hbg2 := hbg.only hx2 (.inr (by omega))
      have hbr2 := hbr.only hx2 (.inr (by omega))
      have hO2 := hO.trans hx2
      have hz2 := hx2.size
      have hN2 := hN.only hx2 (by omega)
      have hlen6 : len ≤ 6 := by omega
      have hq2 : q + 1 ≤ p + 182 := by omega
      clear hbg hbr hN hO hR hx2 hnl hq
      go_wp2_with fail
      go_loopw [5] (fun nv wr => ∃ (n e : Nat) (f1 : Nat → Nat → D) (u1 : Value) (ds : List Value) (S1 : Nat → Prop) (q : Nat), nv = .int .i64 n ∧ n + e ≤ 6 ∧ FBox wr (rb + 1) (.slice ua len ucap) u1 (.int .i64 len) (.int .i64 e) ∧ FBox wr rb (.slice none 0 0) (.slice none 0 0) (.int .i64 0) (.int .i64 0) ∧ DRow (rb + 2) 34 3 4 wr S0 f len (.slice ua len ucap) cs ∧ DRow (rb + 2) 46 5 5 wr S1 f1 e u1 ds ∧ (∀ x, S1 x → ¬ S0 x) ∧ (∀ i, i < e → f1 i 0 = .int i) ∧ RdAt wr R q ∧ q + 31 * n ≤ p + 368 ∧ Only R (R + 1) w wr ∧ rb + 2 ≤ wr.heap.size) (fun nv _ => (intOf nv).toNat)
      case atStart => exact ⟨m2, 0, _, _, [], _, q + 1, rfl, by omega, hbg2, hbr2, hN2, DRow.empty _ _ _ _ _, (fun x (h : False) => h.elim), fun i hi => absurd hi (Nat.not_lt_zero _), hR2, by omega, hO2, by omega⟩
      case round =>
        clear hbg2 hbr2 hR2 hO2 hz2 hm2 hN2 hz hq2
        obtain ⟨n, e, f1, u1, ds, S1, q, rfl, hne, hbg, hbr, hN, hE, hdj, hid1, hR, hq, hO, hz⟩ := hrel
        obtain ⟨va, vcap, rfl⟩ := hE.row.shape
        obtain ⟨bt, hbt⟩ : ∃ bt, bt = (decide (0 < n) && decide (0 < len)) := ⟨_, rfl⟩
        go_upto_region 7 with fail
        go_cut [31] (fun s wc => s = .bool bt ∧ wc = wr)
        case first =>
          obtain ⟨⟨b0, b1, b2, b3⟩, _⟩ := hbg.four
          by_cases hn : 0 < n
          · by_cases hl : 0 < len
            · have hbt' : bt = true := by rw [hbt]; simp [hn, hl]
              clear hbt
              subst hbt'
              go_wp2_with fail
              go_meet
              exact ⟨rfl, rfl⟩
            · have hbt' : bt = false := by rw [hbt]; simp [hl]
              clear hbt
              subst hbt'
              go_wp2_with fail
              go_meet
              exact ⟨rfl, rfl⟩
          · have hbt' : bt = false := by rw [hbt]; simp [hn]
            clear hbt
            subst hbt'
            go_wp2_with fail
            go_meet
            exact ⟨rfl, rfl⟩
        case rest =>
          obtain ⟨rfl, hwc⟩ := hcut
          have hwc' := hwc.symm
          subst hwc'
          clear hwc
          cases bt
          case' true =>
            obtain ⟨hn, hl⟩ : 0 < n ∧ 0 < len := by simpa using hbt.symm
            clear hbt
            obtain ⟨⟨b0, b1, b2, b3⟩, _⟩ := hbg.four
            have HK : Hid (∀ W : World, W.heap[rb + 1]? = wr.heap[rb + 1]? → W.cell? ⟨rb + 1, 0, none⟩ = some (.slice ua len ucap) ∧ W.cell? ⟨rb + 1, 1, none⟩ = some (.slice va e vcap) ∧ W.cell? ⟨rb + 1, 2, none⟩ = some (.int .i64 len) ∧ W.cell? ⟨rb + 1, 3, none⟩ = some (.int .i64 e)) := fun W e => by
              rw [World.cell?_of_block (a := ⟨rb + 1, 0, none⟩) e, World.cell?_of_block (a := ⟨rb + 1, 1, none⟩) e, World.cell?_of_block (a := ⟨rb + 1, 2, none⟩) e, World.cell?_of_block (a := ⟨rb + 1, 3, none⟩) e]
              exact ⟨b0, b1, b2, b3⟩
            clear b0 b1 b2 b3
            have hRd := hR.ext (Ext.refl _).drew
            have hbd : wr.drew.heap[rb + 1]? = wr.heap[rb + 1]? := rfl
            have hOd : Only R (R + 1) wr wr.drew := Only.of_ext (Ext.refl _).drew
            have hmem : ∀ s : ByteArray, s ∈ [⟨#[75]⟩, ⟨#[75]⟩, (⟨#[76]⟩ : ByteArray)] → s.size ≤ 1000 := by
              intro s hs
              simp only [List.mem_cons, List.not_mem_nil, or_false] at hs
              rcases hs with rfl | rfl | rfl <;> decide
            go_wp2_with fail
            refine late_start (S := (fun W => W.cell? ⟨rb + 1, 0, none⟩ = some (.slice ua len ucap) ∧ W.cell? ⟨rb + 1, 1, none⟩ = some (.slice va e vcap) ∧ W.cell? ⟨rb + 1, 2, none⟩ = some (.int .i64 len) ∧ W.cell? ⟨rb + 1, 3, none⟩ = some (.int .i64 e))) 20 (by kernel_rfl) (HK.out _ hbd) (fun hHeld => ?_)
            refine tkE 0 ⟨some 35, .load 26 (.tmp 3), 26, _, #[], none⟩ ?_ hHeld ?yyB0 ?rrB0
            case yyB0 => (intro w hSw; (try dsimp only at hSw); go_simp; try with_reducible rfl)
            try simp only [Act.put, putA, putB, putC]
            refine tkP 1 ⟨some 36, .move (.tmp 0), 37, _, #[], none⟩ ?_ hHeld ?yyB1 ?rrB1
            case yyB1 => (intro w hSw; (try dsimp only at hSw); go_simp; try with_reducible rfl)
            try simp only [Act.put, putA, putB, putC]
            refine tkP 4 ⟨some 39, .move (.tmp 0), 37, _, #[], none⟩ ?_ hHeld ?yyB4 ?rrB4
            case yyB4 => (intro w hSw; (try dsimp only at hSw); go_simp; try with_reducible rfl)
            try simp only [Act.put, putA, putB, putC]
            refine tkE 5 ⟨some 40, .fieldAddr 26 (.tmp 3) 0, 0, _, #[], none⟩ ?_ hHeld ?yyB5 ?rrB5
            case yyB5 => (intro w hSw; (try dsimp only at hSw); go_simp; try with_reducible rfl)
            try simp only [Act.put, putA, putB, putC]
            refine tkE 6 ⟨some 41, .load 23 (.tmp 40), 23, _, #[⟨5, .data⟩], none⟩ ?_ hHeld ?yyB6 ?rrB6
            case yyB6 => (intro w hSw; (try dsimp only at hSw); go_simp; try with_reducible rfl)
            try simp only [Act.put, putA, putB, putC]
            refine tkE 7 ⟨some 42, .call { callee := .builtin .len, args := #[.tmp 41], argTypes := #[23] }, 3, _, #[⟨6, .data⟩], none⟩ ?_ hHeld ?yyB7 ?rrB7
            case yyB7 => (intro w hSw; (try dsimp only at hSw); go_simp; try with_reducible rfl)
            try simp only [Act.put, putA, putB, putC]
            refine tkP 9 ⟨some 44, .move (.tmp 0), 37, _, #[], none⟩ ?_ hHeld ?yyB9 ?rrB9
            case yyB9 => (intro w hSw; (try dsimp only at hSw); go_simp; try with_reducible rfl)
            try simp only [Act.put, putA, putB, putC]
            refine tkE 10 ⟨some 45, .fieldAddr 26 (.tmp 3) 0, 0, _, #[], none⟩ ?_ hHeld ?yyB10 ?rrB10
            case yyB10 => (intro w hSw; (try dsimp only at hSw); go_simp; try with_reducible rfl)
            try simp only [Act.put, putA, putB, putC]
            refine tkE 11 ⟨some 46, .load 23 (.tmp 45), 23, _, #[⟨10, .data⟩], none⟩ ?_ hHeld ?yyB11 ?rrB11
            case yyB11 => (intro w hSw; (try dsimp only at hSw); go_simp; try with_reducible rfl)
            try simp only [Act.put, putA, putB, putC]
            refine tkE 12 ⟨some 47, .call { callee := .builtin .len, args := #[.tmp 46], argTypes := #[23] }, 3, _, #[⟨11, .data⟩], none⟩ ?_ hHeld ?yyB12 ?rrB12
            case yyB12 => (intro w hSw; (try dsimp only at hSw); go_simp; try with_reducible rfl)
            try simp only [Act.put, putA, putB, putC]
            refine tkP 14 ⟨some 49, .move (.tmp 0), 37, _, #[], none⟩ ?_ hHeld ?yyB14 ?rrB14
            case yyB14 => (intro w hSw; (try dsimp only at hSw); go_simp; try with_reducible rfl)
            try simp only [Act.put, putA, putB, putC]
            generalize wr.drew = w5 at *
            have hz5 := hOd.size
            refine late_ready (rs := [2]) (by kernel_rfl) (by simp) ?_
            refine LateAll.cons (o := ⟨some 37, .buildSlice 31 3 #[(0, .const (.string { data := #[75] })), (1, .const (.string { data := #[75] })), (2, .const (.string { data := #[76] }))], 31, _, #[], none⟩) rfl (fun K hK => ?_) (LateAll.nil)
            go_simp
            refine hK.out _ _ (HK.out _ ((Below.block ((Ext.refl w5).alloc _) (rb + 1) (by omega)).trans hbd)) (fun hHeld => ?_)
            clear hK K
            try simp only [Act.put, putA, putB, putC]
            refine late_ready (rs := [3]) (by kernel_rfl) (by simp) ?_
            refine LateAll.cons (o := ⟨some 38, .call { callee := .value (.func 39), args := #[.tmp 36, .tmp 37], argTypes := #[37, 31] }, 9, _, #[⟨1, .data⟩, ⟨2, .data⟩], none⟩) rfl (fun K hK => ?_) (LateAll.nil)
            go_simp
            refine (ofList_any R q 3 [⟨#[75]⟩, ⟨#[75]⟩, ⟨#[76]⟩] #[.string ⟨#[75]⟩, .string ⟨#[75]⟩, .string ⟨#[76]⟩] 9 w5 hRd (by omega) rfl rfl (by omega) (by omega)).mono ?_
            rintro e6 w6 ⟨s, hs, rfl, hR6, hx6⟩
            have hss := hmem s hs
            have hO56 := hOd.trans hx6
            have hz6 := hx6.size
            have hb6 := hO56.block (rb + 1) (by omega) (.inr (by omega))
            clear hs hmem
            go_wp2_with fail
            refine hK.out _ _ (HK.out _ hb6) (fun hHeld => ?_)
            clear hK K
            try simp only [Act.put, putA, putB, putC]
            refine late_ready (rs := [8]) (by kernel_rfl) (by simp) ?_
            refine LateAll.cons (o := ⟨some 43, .call { callee := .value (.func 19), args := #[.tmp 39, .tmp 42], argTypes := #[37, 3] }, 3, _, #[⟨4, .data⟩, ⟨7, .data⟩, ⟨3, .chain⟩], none⟩) rfl (fun K hK => ?_) (LateAll.nil)
            go_simp
            refine (pick_any R (q + 1) len w6 hR6 (by omega) (by omega) (by omega)).mono ?_
            rintro e7 w7 ⟨fr, rfl, hfr, hR7, hx7⟩
            have hO57 := hO56.trans hx7
            have hz7 := hx7.size
            have hb7 := hO57.block (rb + 1) (by omega) (.inr (by omega))
            go_wp2_with fail
            refine hK.out _ _ (HK.out _ hb7) (fun hHeld => ?_)
            clear hK K
            try simp only [Act.put, putA, putB, putC]
            refine late_ready (rs := [13]) (by kernel_rfl) (by simp) ?_
            refine LateAll.cons (o := ⟨some 48, .call { callee := .value (.func 19), args := #[.tmp 44, .tmp 47], argTypes := #[37, 3] }, 3, _, #[⟨9, .data⟩, ⟨12, .data⟩, ⟨8, .chain⟩], none⟩) rfl (fun K hK => ?_) (LateAll.nil)
            go_simp
            refine (pick_any R (q + 1 + 1) len w7 hR7 (by omega) (by omega) (by omega)).mono ?_
            rintro e8 w8 ⟨dst, rfl, hdst, hR8, hx8⟩
            have hO58 := hO57.trans hx8
            have hz8 := hx8.size
            have hb8 := hO58.block (rb + 1) (by omega) (.inr (by omega))
            go_wp2_with fail
            refine hK.out _ _ (HK.out _ hb8) (fun hHeld => ?_)
            clear hK K
            try simp only [Act.put, putA, putB, putC]
            refine late_ready (rs := [15]) (by kernel_rfl) (by simp) ?_
            refine LateAll.cons (o := ⟨some 50, .call { callee := .value (.func 37), args := #[.tmp 49], argTypes := #[37] }, 32, _, #[⟨14, .data⟩, ⟨13, .chain⟩], none⟩) rfl (fun K hK => ?_) (LateAll.nil)
            go_simp
            refine (l11Props_any R (q + 1 + 1 + 1) w8 hR8 (by omega)).mono ?_
            rintro e9 w9 ⟨uP, kP, csP, q', rfl, hP, hkP, hR9, hq', hx9⟩
            have hO59 := hO58.trans hx9
            have hz9 := hx9.size
            have hb9 := hO59.block (rb + 1) (by omega) (.inr (by omega))
            obtain ⟨dP, HP, hDP, sP, _⟩ := hP.end rfl (by decide) (by omega)
            have hN9 := hN.only hO59 (by omega)
            have hE9 := hE.only hO59 (by omega)
            obtain ⟨HN, hDN, _⟩ := hN9.din rfl (by decide) (by omega)
            clear hP
            go_wp2_with fail
            refine hK.out _ _ (HK.out _ hb9) (fun hHeld => ?_)
            clear hK K
            try simp only [Act.put, putA, putB, putC]
            refine late_ready (rs := [16]) (by kernel_rfl) (by simp) ?_
            refine LateAll.cons (o := ⟨some 51, .call { callee := .value (.func 38), args := #[.tmp 35, .tmp 38, .tmp 43, .tmp 48, .tmp 50], argTypes := #[26, 9, 3, 3, 32] }, 81, _, #[⟨0, .data⟩, ⟨3, .data⟩, ⟨8, .data⟩, ⟨13, .data⟩, ⟨15, .data⟩, ⟨15, .chain⟩], none⟩) rfl (fun K hK => ?_) (LateAll.nil)
            go_simp
            have zfr : (Lit.int .i64 (fr : Int)).wf = true := by simp [Lit.wf, IntKind.min, IntKind.max, IntKind.signed, IntKind.bits]; omega
            have zds : (Lit.int .i64 (dst : Int)).wf = true := by simp [Lit.wf, IntKind.min, IntKind.max, IntKind.signed, IntKind.bits]; omega
            refine (l2AddEdge_g anyB S0 S1 (rb + 2) e f1 (.list 3 len f) dP s fr dst (.slice ua len ucap) (.slice va e vcap) uP ds len e w9 hE9.row HN hDN (by omega) (by omega) (by omega) (by omega) (by unfold maxLen; omega) zfr zds HP hDP.any sP).mono ?_
            rintro e10 w10 ⟨u1', x3', rfl, hgood, hbad, hC10⟩
            have hz10 := hC10.size
            have hn10 : ∀ x, S1 x → rb + 2 ≤ x := hE9.low
            have hb10 := (hC10.block (rb + 1) (by omega) (fun hx => by rcases hx with hx | hx; (have := hn10 _ hx; omega); omega)).trans hb9
            have haddE : ∃ (e' : Nat) (g' : Nat → Nat → D) (ds' : List Value) (S' : Nat → Prop), e' ≤ e + 1 ∧ x3' = (e' : Int) ∧ DRow (rb + 2) 46 5 5 w10 S' g' e' u1' ds' ∧ (∀ i, i < e' → g' i 0 = .int i) ∧ ∀ x, S' x → S1 x ∨ w9.heap.size ≤ x := by
              cases hb : addEB s dP (.list 3 len f) fr dst e (e : Int)
              · obtain ⟨rfl, rfl, hG⟩ := hbad hb
                exact ⟨e, f1, ds, S1, by omega, rfl, ⟨hG, hE9.low, hE9.has, hE9.sm⟩, hid1, fun x hx => .inl hx⟩
              · obtain ⟨rfl, S', ⟨ds', hG⟩, hS'⟩ := hgood hb
                obtain ⟨k1, k2⟩ := addFE_ok (x := (e : Int)) (kind := s) (fr := fr) (dst := dst) hE9.has hE9.sm HP sP
                refine ⟨e + 1, _, ds', S', Nat.le_refl _, by omega, ⟨hG, fun x hx => ?_, k1, k2⟩, fun i hi => ?_, hS'⟩
                · rcases hS' x hx with h | h
                  · exact hE9.low x h
                  · omega
                · by_cases e2 : i = e
                  · subst e2; rw [addFE_at0]
                  · rw [addFE_lt _ _ _ _ _ _ _ (show i < e by omega)]; exact hid1 i (by omega)
            obtain ⟨e', g', ds', S1', he', rfl, hE10, hid10, hS10⟩ := haddE
            obtain ⟨va', vcap', rfl⟩ := hE10.row.shape
            clear hgood hbad
            go_wp2_with fail
            refine hK.out _ _ (HK.out _ hb10) (fun hHeld => ?_)
            clear hK K
            try simp only [Act.put, putA, putB, putC]
            refine tkP 17 ⟨some 34, .move (.tmp 51), 81, _, #[⟨16, .data⟩], none⟩ ?_ hHeld ?yyB17 ?rrB17
            case yyB17 => (intro w hSw; (try dsimp only at hSw); go_simp; try with_reducible rfl)
            try simp only [Act.put, putA, putB, putC]
            refine tkP 18 ⟨some 52, .extract (.tmp 34) 0, 26, _, #[⟨17, .data⟩], none⟩ ?_ hHeld ?yyB18 ?rrB18
            case yyB18 => (intro w hSw; (try dsimp only at hSw); go_simp; try with_reducible rfl)
            try simp only [Act.put, putA, putB, putC]
            refine tkP 19 ⟨some 53, .extract (.tmp 34) 1, 4, _, #[⟨17, .data⟩, ⟨20, .gcOnly .lateStores⟩], none⟩ ?_ hHeld ?yyB19 ?rrB19
            case yyB19 => (intro w hSw; (try dsimp only at hSw); go_simp; try with_reducible rfl)
            try simp only [Act.put, putA, putB, putC]
            refine late_ready (rs := [20]) (by kernel_rfl) (by simp) ?_
            refine LateAll.last (o := ⟨none, .store 26 (.tmp 3) (.tmp 52), 0, _, #[⟨18, .data⟩, ⟨16, .chain⟩, ⟨0, .phase⟩, ⟨1, .phase⟩, ⟨2, .phase⟩, ⟨3, .phase⟩, ⟨4, .phase⟩, ⟨5, .phase⟩, ⟨6, .phase⟩, ⟨7, .phase⟩, ⟨8, .phase⟩, ⟨9, .phase⟩, ⟨10, .phase⟩, ⟨11, .phase⟩, ⟨12, .phase⟩, ⟨13, .phase⟩, ⟨14, .phase⟩, ⟨15, .phase⟩, ⟨16, .phase⟩, ⟨17, .phase⟩, ⟨18, .phase⟩, ⟨19, .textOnly .lateStores⟩], none⟩) rfl (fun K hK => ?_)
            have hbg10 : FBox w10 (rb + 1) _ _ _ _ := hbg.block (by omega) hb10
            obtain ⟨⟨y0, y1, y2, y3⟩, z0, z1, z2, z3⟩ := hbg10.four
            obtain ⟨hbg11, hC11, hz11⟩ := hbg10.put (.slice ua len ucap) (.slice va' e' vcap') (.int .i64 len) (.int .i64 e')
            have hO10 := (hO.trans hO59).chgNew hC10 (fun x hx => by rcases hx with hx | hx; (have := hn10 _ hx; omega); omega)
            have hO11 := hO10.chgNew hC11 (fun x hx => by omega)
            have hR11 := (hR9.chg hC10 (fun x hx => by rcases hx with hx | hx; (have := hn10 _ hx; omega); omega)).chg hC11 (fun x hx => by omega)
            have hbr11 := ((hbr.only hO59 (.inr (by omega))).chg hC10 (fun hx => by rcases hx with hx | hx; (have := hn10 _ hx; omega); omega)).chg hC11 (by omega)
            have hE11 := hE10.chg hC11 (fun x hx e2 => by have := hE10.low x hx; omega)
            have hdj11 : ∀ x, S1' x → ¬ S0 x := fun x hx h => by
              rcases hS10 x hx with h2 | h2
              · exact hdj x h2 h
              · have := hN9.lt x h; omega
            have hN11 := (hN9.chg hC10 (fun x hx h => by rcases h with h | h; (exact hdj x h hx); (have := hN9.lt x hx; omega))).chg hC11 (fun x hx e2 => by have := hN9.low x hx; omega)
            clear hE10 hE9 hN9 hN hE hb10 hb9 hb8 hb7 hb6 hC10 hC11 hbg hbg10 hbr hR9 hR8 hR7 hR6 hRd hR hO59 hO58 hO57 hO56 hOd hx6 hx7 hx8 hx9 hO10 hO hDP hid1 HK hHeld hDN HN
            go_simp
            clear y0 y1 y2 y3 z0 z1 z2 z3
            refine hK.out _ _ ?_
            clear hK K
            try simp only [Act.put, putA, putB, putC]
            refine late_done (by kernel_rfl) ?_ _
            go_wp2
            go_roundw
            case rel => exact ⟨n - 1, e', g', _, ds', S1', q', by go_num, by omega, hbg11, hbr11, hN11, hE11, hdj11, hid10, hR11, by omega, hO11, by omega⟩
            case measure => simp [intOf]; omega
          case' false =>
            clear hbt
            go_upto_region 10 with fail
            go_cut [62] (fun s wc => ∃ (b : Bool) (q' : Nat), s = .bool b ∧ (b = true → 0 < len) ∧ RdAt wc R q' ∧ q' ≤ q + 1 ∧ Only R (R + 1) wr wc)
            case first =>
              obtain ⟨⟨b0, b1, b2, b3⟩, _⟩ := hbg.four
              by_cases hl : 0 < len
              · go_wp2_with fail
                refine (pick_any R q 5 wr hR (by omega) (by omega) (by omega)).mono ?_
                rintro e5 w5 ⟨m3, rfl, hm3, hR5, hx5⟩
                cases hm : ((m3 : Int) == 0)
                · go_wp2_with fail
                  go_meet
                  exact ⟨false, q + 1, rfl, (fun h => nomatch h), hR5, by omega, hx5⟩
                · go_wp2_with fail
                  go_meet
                  exact ⟨true, q + 1, rfl, (fun _ => hl), hR5, by omega, hx5⟩
              · go_wp2_with fail
                go_meet
                exact ⟨false, q, rfl, (fun h => nomatch h), hR, by omega, Only.refl _ _ _⟩
            case rest =>
              obtain ⟨bt2, q2, rfl, hbl, hR6, hq2, hx6⟩ := hcut
              obtain ⟨w6, rfl⟩ : ∃ w6, w6 = wc := ⟨_, rfl⟩
              have hz6 := hx6.size
              have hbg6 := hbg.only hx6 (.inr (by omega))
              have hbr6 := hbr.only hx6 (.inr (by omega))
              have hN6 := hN.only hx6 (by omega)
              have hE6 := hE.only hx6 (by omega)
              have hO6 := hO.trans hx6
              clear hbg hbr hN hE hO hR hx6
              go_upto_if 62 with fail
              go_cut [3] (fun s wc => s = .pointer (some ⟨rb + 1, 0, none⟩) ∧ ∃ len, grSt R p rb w len wc)
              case first =>
                obtain ⟨HE, hDE, sE⟩ := hE6.din rfl (by decide) (by omega)
                cases bt2
                case' false =>
                  go_wp2_with fail
                  go_meet
                  exact ⟨rfl, len, f, _, cs, S0, S1, _, _, len, e, q2, hbg6, hbr6, hN6, by omega, ⟨HE, hDE, sE, show e ≤ 16 by omega⟩, fun x hx => ⟨hdj x hx, hE6.low x hx, hE6.lt x hx⟩, ⟨by omega, by omega, by omega, by omega⟩, hR6, by omega, hO6, by omega⟩
                case' true =>
                  have hl := hbl rfl
                  obtain ⟨⟨b0, b1, b2, b3⟩, _⟩ := hbg6.four
                  have HK : Hid (∀ W : World, W.heap[rb + 1]? = w6.heap[rb + 1]? → W.cell? ⟨rb + 1, 0, none⟩ = some (.slice ua len ucap) ∧ W.cell? ⟨rb + 1, 1, none⟩ = some (.slice va e vcap) ∧ W.cell? ⟨rb + 1, 2, none⟩ = some (.int .i64 len) ∧ W.cell? ⟨rb + 1, 3, none⟩ = some (.int .i64 e)) := fun W e => by
                    rw [World.cell?_of_block (a := ⟨rb + 1, 0, none⟩) e, World.cell?_of_block (a := ⟨rb + 1, 1, none⟩) e, World.cell?_of_block (a := ⟨rb + 1, 2, none⟩) e, World.cell?_of_block (a := ⟨rb + 1, 3, none⟩) e]
                    exact ⟨b0, b1, b2, b3⟩
                  clear b0 b1 b2 b3
                  have hRd := hR6.ext (Ext.refl _).drew
                  have hbd : w6.drew.heap[rb + 1]? = w6.heap[rb + 1]? := rfl
                  have hOd : Only R (R + 1) w6 w6.drew := Only.of_ext (Ext.refl _).drew
                  go_wp2_with fail
                  refine late_start (S := (fun W => W.cell? ⟨rb + 1, 0, none⟩ = some (.slice ua len ucap) ∧ W.cell? ⟨rb + 1, 1, none⟩ = some (.slice va e vcap) ∧ W.cell? ⟨rb + 1, 2, none⟩ = some (.int .i64 len) ∧ W.cell? ⟨rb + 1, 3, none⟩ = some (.int .i64 e))) 10 (by kernel_rfl) (HK.out _ hbd) (fun hHeld => ?_)
                  refine tkE 0 ⟨some 64, .load 26 (.tmp 3), 26, _, #[], none⟩ ?_ hHeld ?yyC0 ?rrC0
                  case yyC0 => (intro w hSw; (try dsimp only at hSw); go_simp; try with_reducible rfl)
                  try simp only [Act.put, putA, putB, putC]
                  refine tkP 1 ⟨some 65, .move (.tmp 0), 37, _, #[], none⟩ ?_ hHeld ?yyC1 ?rrC1
                  case yyC1 => (intro w hSw; (try dsimp only at hSw); go_simp; try with_reducible rfl)
                  try simp only [Act.put, putA, putB, putC]
                  refine tkE 2 ⟨some 66, .fieldAddr 26 (.tmp 3) 0, 0, _, #[], none⟩ ?_ hHeld ?yyC2 ?rrC2
                  case yyC2 => (intro w hSw; (try dsimp only at hSw); go_simp; try with_reducible rfl)
                  try simp only [Act.put, putA, putB, putC]
                  refine tkE 3 ⟨some 67, .load 23 (.tmp 66), 23, _, #[⟨2, .data⟩], none⟩ ?_ hHeld ?yyC3 ?rrC3
                  case yyC3 => (intro w hSw; (try dsimp only at hSw); go_simp; try with_reducible rfl)
                  try simp only [Act.put, putA, putB, putC]
                  refine tkE 4 ⟨some 68, .call { callee := .builtin .len, args := #[.tmp 67], argTypes := #[23] }, 3, _, #[⟨3, .data⟩], none⟩ ?_ hHeld ?yyC4 ?rrC4
                  case yyC4 => (intro w hSw; (try dsimp only at hSw); go_simp; try with_reducible rfl)
                  try simp only [Act.put, putA, putB, putC]
                  generalize w6.drew = w7 at *
                  have hz7 := hOd.size
                  refine late_ready (rs := [5]) (by kernel_rfl) (by simp) ?_
                  refine LateAll.cons (o := ⟨some 69, .call { callee := .value (.func 19), args := #[.tmp 65, .tmp 68], argTypes := #[37, 3] }, 3, _, #[⟨1, .data⟩, ⟨4, .data⟩], none⟩) rfl (fun K hK => ?_) (LateAll.nil)
                  go_simp
                  refine (pick_any R q2 len w7 hRd (by omega) (by omega) (by omega)).mono ?_
                  rintro e8 w8 ⟨m, rfl, hm, hR8, hx8⟩
                  have hO68 := hOd.trans hx8
                  have hz8 := hx8.size
                  have hb8 := hO68.block (rb + 1) (by omega) (.inr (by omega))
                  have hN8 := hN6.only hO68 (by omega)
                  have hE8 := hE6.only hO68 (by omega)
                  obtain ⟨HN, hDN, _⟩ := hN8.din rfl (by decide) (by omega)
                  obtain ⟨_, hDE8, _⟩ := hE8.din rfl (by decide) (by omega)
                  obtain ⟨k, hk⟩ := ids_edK (n := 3) hid hm
                  have hin1 : incD (.list 5 e f1) := ids_inc hid1
                  go_wp2_with fail
                  refine hK.out _ _ (HK.out _ hb8) (fun hHeld => ?_)
                  clear hK K
                  try simp only [Act.put, putA, putB, putC]
                  refine late_ready (rs := [6]) (by kernel_rfl) (by simp) ?_
                  refine LateAll.cons (o := ⟨some 70, .call { callee := .value (.func 40), args := #[.tmp 64, .tmp 69, .const (.bool true)], argTypes := #[26, 3, 4] }, 81, _, #[⟨0, .data⟩, ⟨5, .data⟩, ⟨5, .chain⟩], none⟩) rfl (fun K hK => ?_) (LateAll.nil)
                  go_simp
                  refine (l2DropNode_row S1 S0 (.list 3 len f) (.list 5 e f1) m true k (.slice ua len ucap) (.slice va e vcap) len e w8 HN hDN HE hDE8 (fun x hx => hE8.lt x hx) hk (ids_inc hid) (show len ≤ 12 by omega) hin1 (show e ≤ 16 by omega) (.inl rfl)).mono ?_
                  rintro e9 w9 ⟨u0', u1', rfl, ⟨B, bb, off, ck, C, ⟨hB1, hB2⟩, hD1, hown, hsl, hCC⟩, hE9⟩
                  have hz9 := hE9.le
                  have hkl : k < len := (edK_some hk).1
                  have hN9 := hN8.drop hE9 hkl hown hB1 (by omega) hsl (fun i hi c hc => (hCC i hi c hc).1)
                  have hHD := (left_of HE hin1 (ndIds (.list 5 e f1) m)).has
                  have hsD := dropIds_small HE hin1 sE (ndIds (.list 5 e f1) m)
                  have hnD : (dropIds (.list 5 e f1) (ndIds (.list 5 e f1) m)).len! ≤ 16 := Nat.le_trans (left_of HE hin1 (ndIds (.list 5 e f1) m)).len (show e ≤ 16 by omega)
                  have hown1 : ∀ x, u0'.ownBlock = some x → B ≤ x := fun x hx => (hown.lt x hx).1
                  have hNl := hN8.lt
                  have hEl := hE8.lt
                  have hElow := hE8.low
                  have hb9 := (Below.block hE9 (rb + 1) (by omega)).trans hb8
                  generalize dropIds (.list 5 e f1) (ndIds (.list 5 e f1) m) = d1' at *
                  obtain ⟨ua', ucap', rfl⟩ := hN9.row.shape
                  obtain ⟨va', vcap', vl', _, _, rfl, _, _⟩ := list_shape hHD hD1
                  go_wp2_with fail
                  refine hK.out _ _ (HK.out _ hb9) (fun hHeld => ?_)
                  clear hK K
                  try simp only [Act.put, putA, putB, putC]
                  refine tkP 7 ⟨some 63, .move (.tmp 70), 81, _, #[⟨6, .data⟩], none⟩ ?_ hHeld ?yyC7 ?rrC7
                  case yyC7 => (intro w hSw; (try dsimp only at hSw); go_simp; try with_reducible rfl)
                  try simp only [Act.put, putA, putB, putC]
                  refine tkP 8 ⟨some 71, .extract (.tmp 63) 0, 26, _, #[⟨7, .data⟩], none⟩ ?_ hHeld ?yyC8 ?rrC8
                  case yyC8 => (intro w hSw; (try dsimp only at hSw); go_simp; try with_reducible rfl)
                  try simp only [Act.put, putA, putB, putC]
                  refine tkP 9 ⟨some 72, .extract (.tmp 63) 1, 4, _, #[⟨7, .data⟩, ⟨10, .gcOnly .lateStores⟩], none⟩ ?_ hHeld ?yyC9 ?rrC9
                  case yyC9 => (intro w hSw; (try dsimp only at hSw); go_simp; try with_reducible rfl)
                  try simp only [Act.put, putA, putB, putC]
                  refine late_ready (rs := [10]) (by kernel_rfl) (by simp) ?_
                  refine LateAll.last (o := ⟨none, .store 26 (.tmp 3) (.tmp 71), 0, _, #[⟨8, .data⟩, ⟨6, .chain⟩, ⟨0, .phase⟩, ⟨1, .phase⟩, ⟨2, .phase⟩, ⟨3, .phase⟩, ⟨4, .phase⟩, ⟨5, .phase⟩, ⟨6, .phase⟩, ⟨7, .phase⟩, ⟨8, .phase⟩, ⟨9, .textOnly .lateStores⟩], none⟩) rfl (fun K hK => ?_)
                  have hbg9 : FBox w9 (rb + 1) _ _ _ _ := hbg6.block (by omega) hb9
                  obtain ⟨⟨y0, y1, y2, y3⟩, z0, z1, z2, z3⟩ := hbg9.four
                  obtain ⟨hbgA, hCA, hzA⟩ := hbg9.put (.slice ua' (len - 1) ucap') (.slice va' vl' vcap') (.int .i64 len) (.int .i64 e)
                  have hOA := ((hO6.trans hO68).trans (Only.of_ext hE9)).chgNew hCA (fun x hx => by omega)
                  have hRA := (hR8.ext hE9).chg hCA (fun x hx => by omega)
                  have hbrA := ((hbr6.only hO68 (.inr (by omega))).ext hE9).chg hCA (by omega)
                  have hNA := hN9.chg hCA (fun x hx e2 => by have := hN9.low x hx; omega)
                  have hDA : DIn (fun x => S1 x ∨ w8.heap.size ≤ x ∧ x < B) _ d1' _ := hD1.carry hCA.size (fun b hb hl => hCA.block b hl (fun e2 => by rcases hb with h | h; (have := hElow b h; omega); omega))
                  have hSA : ∀ x, (S1 x ∨ w8.heap.size ≤ x ∧ x < B) → ¬ (S0 x ∨ (Value.slice ua' (len - 1) ucap').ownBlock = some x) ∧ rb + 2 ≤ x ∧ x < w9.heap.size := by
                    intro x hx
                    rcases hx with hx | hx
                    · refine ⟨fun h => ?_, hElow x hx, by have := hEl x hx; omega⟩
                      rcases h with h | h
                      · exact hdj x hx h
                      · have := hown1 x h; have := hEl x hx; omega
                    · refine ⟨fun h => ?_, by omega, by omega⟩
                      rcases h with h | h
                      · have := hNl x h; omega
                      · have := hown1 x h; omega
                  clear hN9 hN8 hN6 hE8 hE6 hb9 hb8 hCA hbg9 hbg6 hbr6 hR8 hRd hR6 hO68 hOd hx8 hO6 HK hHeld hDN HN hDE8 hD1 hown hCC hDE
                  go_simp
                  clear y0 y1 y2 y3 z0 z1 z2 z3
                  refine hK.out _ _ ?_
                  clear hK K
                  try simp only [Act.put, putA, putB, putC]
                  refine late_done (by kernel_rfl) ?_ _
                  go_wp2
                  go_meet
                  exact ⟨rfl, len - 1, _, _, _, _, _, d1', _, len, e, q2 + 1, hbgA, hbrA, hNA, by omega, ⟨hHD, hDA, hsD, hnD⟩, fun x hx => by rw [hzA]; exact hSA x hx, ⟨by omega, by omega, by omega, by omega⟩, hRA, by omega, hOA, by omega⟩
              case rest =>
                clear hbg6 hbr6 hN6 hE6 hO6 hR6 hid hid1 hdj hbl
                obtain ⟨rfl, len, hst⟩ := hcut
                obtain ⟨w10, rfl⟩ : ∃ w10, w10 = wc := ⟨_, rfl⟩
                obtain ⟨f, u0, cs, S0, S1, d1, u1, x2, x3, q, hbg, hbr, hN, hlen, ⟨HD, hD, sD, hnD⟩, hS1, ⟨hx0, hx1, hx2, hx3⟩, hR, hq, hO, hz⟩ := hst
                go_wp2_with fail
                refine (pick_any R q 30 w10 hR (by omega) (by omega) (by omega)).mono ?_
                rintro e11 w11 ⟨m4, rfl, hm4, hR11, hx11⟩
                have hz11 := hx11.size
                have hst : grSt R p rb w len w11 ∨ True := .inr trivial
                replace hbg := hbg.only hx11 (.inr (by omega))
                replace hbr := hbr.only hx11 (.inr (by omega))
                replace hN := hN.only hx11 (by omega)
                replace hO := hO.trans hx11
                replace hD := hD.onlyR hx11 (fun b hb => .inr (by have := hS1 b hb; omega))
                replace hS1 : ∀ x, S1 x → ¬ S0 x ∧ rb + 2 ≤ x ∧ x < w11.heap.size := fun x hx => ⟨(hS1 x hx).1, (hS1 x hx).2.1, by have := (hS1 x hx).2.2; omega⟩
                replace hz : rb + 2 ≤ w11.heap.size := by omega
                clear hst hx11 hR
                have hR := hR11
                clear hR11
                have hq' : q + 1 ≤ p + 372 := by omega
                cases hm5 : ((m4 : Int) == 0)
                case' false =>
                  have hrbe : rb = w.heap.size := by omega
                  subst hrbe
                  obtain ⟨HN, hDN, sN⟩ := hN.din rfl (by decide) (by omega)
                  obtain ⟨⟨b0, b1, b2, b3⟩, _⟩ := hbg.four
                  obtain ⟨⟨y0, y1, y2, y3⟩, z0, z1, z2, z3⟩ := hbr.four
                  obtain ⟨na, ncap, rfl⟩ := hN.row.shape
                  obtain ⟨ea, ecap, el, _, _, rfl, _, _⟩ := list_shape HD hD
                  have hlowN := hN.low
                  have hcl := gr_close (p := p) hRl hR (by omega) hO HN hDN sN (fun x hx => by have := hlowN x hx; omega) HD hD sD (fun x hx => by have := hS1 x hx; omega) hnD (x2 := x2) (x3 := x3) ⟨by omega, by omega, by omega, by omega⟩
                  clear hN hDN hD hR hO hbg hbr hz
                  go_wp2
                  refine bodyPost_ret (v := .agg #[.slice na len ncap, .slice ea el ecap, .int .i64 x2, .int .i64 x3]) (by simp [results, Tryz.results18, go_sem, y0, y1, y2, y3]) rfl (hcl _ _ _ _)
                case' true =>
                  go_wp2_with fail
                  go_loopg [79] (13 - len) (fun k s wr => ∃ len, k = 13 - len ∧ grSt R (p + 1) rb w len wr)
                  case atStart => exact ⟨len, rfl, f, u0, cs, S0, S1, d1, u1, x2, x3, q + 1, hbg, hbr, hN, hlen, ⟨HD, hD, sD, hnD⟩, hS1, ⟨hx0, hx1, hx2, hx3⟩, hR, by omega, hO, hz⟩
                  case round =>
                    clear hbg hbr hN HD hD sD hnD hS1 hx0 hx1 hx2 hx3 hR hq hO hz hlen hq'
                    obtain ⟨len, rfl, f, u0, cs, S0, S1, d1, u1, x2, x3, q, hbg, hbr, hN, hlen, ⟨HD, hD, sD, hnD⟩, hS1, ⟨hx0, hx1, hx2, hx3⟩, hR, hq, hO, hz⟩ := hrel
                    by_cases hl12 : len < 12
                    · obtain ⟨⟨b0, b1, b2, b3⟩, _⟩ := hbg.four
                      obtain ⟨ua, ucap, rfl⟩ := hN.row.shape
                      obtain ⟨ea, ecap, el, _, _, rfl, _, _⟩ := list_shape HD hD
                      have hEA : Ext wr ((wr.alloc (.cells #[.string ⟨#[80]⟩] 9)).alloc (.cells #[] 75)) := ((Ext.refl _).alloc _).alloc _
                      have hP := (oneP_in wr).ext ((Ext.refl _).alloc (.cells #[] 75))
                      have hzA : ((wr.alloc (.cells #[.string ⟨#[80]⟩] 9)).alloc (.cells #[] 75)).heap.size = wr.heap.size + 2 := by simp
                      have hlt12 : addB oneP noP len x2 = true := by
                        unfold addB
                        rw [oneP_ok.2.2, noP_ok.2.2]
                        simp
                        omega
                      go_wp2_with fail
                      refine (l2AddNode_g anyB S0 S1 (rb + 2) len f d1 oneP noP (.slice ua len ucap) (.slice ea el ecap) _ _ cs x2 x3 _ (hN.row.ext hEA) HD (hD.ext hEA) (by omega) (by omega) hx0 (by omega) oneP_ok.1 hP oneP_ok.2.1 noP_ok.1 (noP_in _ _) noP_ok.2.1).mono ?_
                      rintro e12 w12 ⟨u0', x2', rfl, hgood, _, hC12⟩
                      obtain ⟨rfl, S0', ⟨cs', hG⟩, hS'⟩ := hgood hlt12
                      obtain ⟨k1, k2⟩ := addF_ok (x := x2) hN.has hN.sm oneP_ok.1 oneP_ok.2.1 noP_ok.1 noP_ok.2.1
                      have hlow := hN.low
                      have hltN := hN.lt
                      have hN12 : DRow (rb + 2) 34 3 4 w12 S0' _ (len + 1) u0' cs' := ⟨hG, fun x hx => by rcases hS' x hx with h | h; (exact hlow x h); omega, k1, k2⟩
                      obtain ⟨ua', ucap', rfl⟩ := hN12.row.shape
                      have hz12 := hC12.size
                      have hCn : ∀ x, (S0 x ∨ ((wr.alloc (.cells #[.string ⟨#[80]⟩] 9)).alloc (.cells #[] 75)).heap.size ≤ x) → rb + 2 ≤ x := fun x hx => by rcases hx with hx | hx; (exact hlow x hx); omega
                      have hbg12 := (hbg.ext hEA).chg hC12 (fun hx => by have := hCn _ hx; omega)
                      have hbr12 := (hbr.ext hEA).chg hC12 (fun hx => by have := hCn _ hx; omega)
                      have hR12 := (hR.ext hEA).chg hC12 (fun x hx => by have := hCn _ hx; omega)
                      have hO12 := (hO.trans (Only.of_ext hEA)).chgNew hC12 (fun x hx => by have := hCn _ hx; omega)
                      have hD12 : DIn S1 w12 d1 _ := (hD.ext hEA).carry hC12.size (fun b hb hlt => hC12.block b hlt (fun hx => by have h1 := hS1 b hb; rcases hx with hx | hx; (exact h1.1 hx); omega))
                      obtain ⟨⟨y0, y1, y2, y3⟩, z0, z1, z2, z3⟩ := hbg12.four
                      obtain ⟨hbg13, hC13, hz13⟩ := hbg12.put (.slice ua' (len + 1) ucap') (.slice ea el ecap) (.int .i64 (x2 + 1)) (.int .i64 x3)
                      have hbr13 := hbr12.chg hC13 (by omega)
                      have hN13 := hN12.chg hC13 (fun x hx e2 => by have := hN12.low x hx; omega)
                      have hR13 := hR12.chg hC13 (fun x hx => by omega)
                      have hO13 := hO12.chgNew hC13 (fun x hx => by omega)
                      have hD13 : DIn S1 _ d1 _ := hD12.carry hC13.size (fun b hb hlt => hC13.block b hlt (fun e2 => by have h1 := hS1 b hb; omega))
                      have hS13 : ∀ x, S1 x → ¬ S0' x ∧ rb + 2 ≤ x ∧ x < w12.heap.size := fun x hx => ⟨fun h => by
                        have h1 := hS1 x hx
                        rcases hS' x h with h2 | h2
                        · exact h1.1 h2
                        · omega, (hS1 x hx).2.1, by have h1 := hS1 x hx; omega⟩
                      clear hbg hbr hN hR hO hD hG hgood hC12 hbg12 hbr12 hN12 hR12 hO12 hD12 hC13 hP b0 b1 b2 b3 hEA hCn
                      go_wp2
                      go_roundg (13 - (len + 1))
                      case measure => omega
                      case rel => exact ⟨len + 1, rfl, _, _, cs', S0', S1, d1, _, x2 + 1, x3, q, hbg13, hbr13, hN13, by omega, ⟨HD, hD13, sD, hnD⟩, fun x hx => by rw [hz13]; exact hS13 x hx, ⟨by omega, by omega, by omega, by omega⟩, hR13, hq, hO13, by omega⟩
                    · have hrbe : rb = w.heap.size := by omega
                      subst hrbe
                      obtain ⟨HN, hDN, sN⟩ := hN.din rfl (by decide) (by omega)
                      obtain ⟨⟨b0, b1, b2, b3⟩, _⟩ := hbg.four
                      obtain ⟨⟨y0, y1, y2, y3⟩, z0, z1, z2, z3⟩ := hbr.four
                      obtain ⟨na, ncap, rfl⟩ := hN.row.shape
                      obtain ⟨ea, ecap, el, _, _, rfl, _, _⟩ := list_shape HD hD
                      have hlowN := hN.low
                      have hcl := gr_close (p := p) hRl hR (by omega) hO HN hDN sN (fun x hx => by have := hlowN x hx; omega) HD hD sD (fun x hx => by have := hS1 x hx; omega) hnD (x2 := x2) (x3 := x3) ⟨by omega, by omega, by omega, by omega⟩
                      clear hN hDN hD hR hO hbg hbr hz
                      go_wp2
                      refine bodyPost_ret (v := .agg #[.slice na len ncap, .slice ea el ecap, .int .i64 x2, .int .i64 x3]) (by simp [results, Tryz.results18, go_sem, y0, y1, y2, y3]) rfl (hcl _ _ _ _)
end Go.Proofs.YtbhmblkappmfjaaGreat

/- What spec.l11AnyGraph draws: any graph at all. -/
namespace Go.Proofs.YtbhmblkappmfjaaGreat
open Go.RowKit Go.Deep

/-- A row of cells in a block that its elements' leaves are not in. -/
structure Sep (w : World) (S : Nat → Prop) (g n len : Nat) (f : Nat → Nat → D) : Prop where
  own : S g
  lt : g < w.heap.size
  fz : ∀ o, w.frozen? ⟨g, o, none⟩ = false
  at' : ∀ i, i < len → ∀ j, j < n → ∃ c, w.cell? ⟨g, i * n + j, none⟩ = some c ∧ DIn (fun x => S x ∧ x ≠ g) w (f i j) c
theorem GRow.sep {w : World} {S : Nat → Prop} {base : Nat} {T : TypeId} {n : Nat} {f : Nat → Nat → D} {k : Nat} {u : Value} {cs : List Value} (h : GRow w S base T n f k u cs) (hk : 0 < k) : ∃ g cap, u = .slice (some ⟨g, 0, none⟩) k cap ∧ Sep w S g n k f := by
  obtain ⟨hr, hu, hs, P, hl, hd⟩ := h
  rcases hr.2 with ⟨rfl, rfl⟩ | ⟨g, cap, cur, rfl, hb, hg, _⟩
  · omega
  · refine ⟨g, cap, rfl, hu g rfl, lt_of_block hg, fun o => by simp [World.frozen?, hg], fun i hi j hj => ?_⟩
    obtain ⟨c, h1, h2, h3, h4⟩ := hl i hi j hj
    have := hr.cells (g := g) rfl _ _ h1
    rw [Go.WideShapes.add_plain, Nat.zero_add] at this
    exact ⟨c, this, h2.mono (fun x hx => ⟨(h4 x hx).1, fun e => (h4 x hx).2 (by rw [e]; rfl)⟩)⟩
theorem Sep.only {w w' : World} {S : Nat → Prop} {g n len R : Nat} {f : Nat → Nat → D} (h : Sep w S g n len f) (e : Only R (R + 1) w w') (hS : ∀ x, S x → R < x) : Sep w' S g n len f := by
  have hb : w'.heap[g]? = w.heap[g]? := e.block g h.lt (.inr (hS g h.own))
  refine ⟨h.own, Nat.lt_of_lt_of_le h.lt e.size, fun o => by rw [World.frozen?_of_block (a := ⟨g, o, none⟩) hb]; exact h.fz o, fun i hi j hj => ?_⟩
  obtain ⟨c, h1, h2⟩ := h.at' i hi j hj
  exact ⟨c, by rw [World.cell?_of_block (a := ⟨g, i * n + j, none⟩) hb]; exact h1, h2.onlyR e (fun b hb => .inr (hS b hb.1))⟩
def setV (f : Nat → Nat → D) (i0 j0 : Nat) (v : D) : Nat → Nat → D := fun i j => if i = i0 ∧ j = j0 then v else f i j
theorem Sep.set {w : World} {S Q : Nat → Prop} {g n len i0 j0 : Nat} {f : Nat → Nat → D} {v : D} {c : Value} (h : Sep w S g n len f) (hj0 : j0 < n) (hv : DIn Q w v c) (hQ : ∀ x, Q x → S x ∧ x ≠ g) : Sep (w.setCell ⟨g, i0 * n + j0, none⟩ c) S g n len (setV f i0 j0 v) := by
  refine ⟨h.own, by simpa using h.lt, fun o => by rw [World.frozen?_setCell]; exact h.fz o, fun i hi j hj => ?_⟩
  obtain ⟨c1, h1, h2⟩ := h.at' i hi j hj
  unfold setV
  by_cases e : i = i0 ∧ j = j0
  · rw [if_pos e]
    obtain ⟨rfl, rfl⟩ := e
    exact ⟨c, World.cell?_setCell_same _ _ _ h1, (hv.mono hQ).setCell (fun hx => hx.2 rfl) _⟩
  · rw [if_neg e]
    refine ⟨c1, ?_, h2.setCell (fun hx => hx.2 rfl) _⟩
    rw [World.cell?_setCell_other _ _ _ _ (fun e2 => e ?_)]
    · exact h1
    · have e3 : i * n + j = i0 * n + j0 := (congrArg Addr.off e2).symm
      have h4 : i = i0 := by
        rcases Nat.lt_trichotomy i i0 with h | h | h
        · have : (i + 1) * n ≤ i0 * n := Nat.mul_le_mul_right n h
          rw [Nat.add_mul] at this; omega
        · exact h
        · have : (i0 + 1) * n ≤ i * n := Nat.mul_le_mul_right n h
          rw [Nat.add_mul] at this; omega
      subst h4
      exact ⟨rfl, by omega⟩
theorem Sep.din {w : World} {S : Nat → Prop} {g n len cap : Nat} {f : Nat → Nat → D} (h : Sep w S g n len f) (hl : len ≤ maxLen) : DIn S w (.list n len f) (.slice (some ⟨g, 0, none⟩) len cap) := by
  refine ⟨_, cap, g, 0, rfl, hl, fun _ => ⟨rfl, h.own, h.lt⟩, fun i hi j hj => ?_⟩
  obtain ⟨c, h1, h2⟩ := h.at' i hi j hj
  exact ⟨c, by rw [Nat.zero_add]; exact h1, h2.mono (fun x hx => hx.1)⟩

/-- A graph was drawn. -/
def anyPost (R p N : Nat) (w : World) (e : Ending) (w' : World) : Prop := ∃ (d0 d1 : D) (u0 u1 : Value) (x2 x3 : Int) (p' : Nat), e = .returned (.agg #[u0, u1, .int .i64 x2, .int .i64 x3]) ∧ (Has d0 (.list 4) ∧ DIn (fun b => w.heap.size ≤ b) w' d0 u0 ∧ SmallL d0) ∧ (Has d1 (.list 5) ∧ DIn (fun b => w.heap.size ≤ b) w' d1 u1 ∧ SmallL d1) ∧ ((Lit.int .i64 x2).wf = true ∧ (Lit.int .i64 x3).wf = true) ∧ RdAt w' R p' ∧ p' ≤ p + N ∧ Only R (R + 1) w w'
theorem drawn_close {R p N q : Nat} {w W : World} {S0 S1 : Nat → Prop} {d0 d1 : D} {u0 u1 : Value} {x2 x3 : Int} (hRl : R < w.heap.size) (hR : RdAt W R q) (hq : q ≤ p + N) (hO : Only R (R + 1) w W) (H0 : Has d0 (.list 4)) (h0 : DIn S0 W d0 u0) (s0 : SmallL d0) (l0 : ∀ x, S0 x → w.heap.size + 1 ≤ x) (H1 : Has d1 (.list 5)) (h1 : DIn S1 W d1 u1) (s1 : SmallL d1) (l1 : ∀ x, S1 x → w.heap.size + 1 ≤ x) (hx : (Lit.int .i64 x2).wf = true ∧ (Lit.int .i64 x3).wf = true) (c0 c1 c2 c3 : Value) :
    anyPost R p N w (.returned (.agg #[u0, u1, .int .i64 x2, .int .i64 x3])) ((((W.setCell ⟨w.heap.size, 0, none⟩ c0).setCell ⟨w.heap.size, 1, none⟩ c1).setCell ⟨w.heap.size, 2, none⟩ c2).setCell ⟨w.heap.size, 3, none⟩ c3) := by
  obtain ⟨f1, f2⟩ := draw_close hR hO hRl (Nat.le_refl _) c0 c1 c2 c3
  have key : ∀ {S : Nat → Prop} {d : D} {v : Value}, (∀ x, S x → w.heap.size + 1 ≤ x) → DIn S W d v → DIn (fun b => w.heap.size ≤ b) ((((W.setCell ⟨w.heap.size, 0, none⟩ c0).setCell ⟨w.heap.size, 1, none⟩ c1).setCell ⟨w.heap.size, 2, none⟩ c2).setCell ⟨w.heap.size, 3, none⟩ c3) d v := fun hl h => by
    have hn : ∀ x, x = w.heap.size → ¬ _ := fun x e hx => by have := hl x hx; omega
    exact ((((h.setCell (hn _ rfl) _).setCell (hn _ rfl) _).setCell (hn _ rfl) _).setCell (hn _ rfl) _).mono (fun x hx => by have := hl x hx; omega)
  exact ⟨d0, d1, u0, u1, x2, x3, q, rfl, ⟨H0, key l0 h0, s0⟩, ⟨H1, key l1 h1, s1⟩, hx, f1, hq, f2⟩
theorem wf_of {x : Int} (h : -1000 ≤ x ∧ x ≤ 1000000000) : (Lit.int .i64 x).wf = true := by simp [Lit.wf, IntKind.min, IntKind.max, IntKind.signed, IntKind.bits]; omega
theorem has_row {d : D} {r : Nat} (H : Has d (.list r)) : ∀ i, i < d.len! → HasRow r (d.at! i) := by
  obtain ⟨len, f, rfl, h⟩ := H.list
  exact h
theorem small_at {d : D} {r : Nat} (H : Has d (.list r)) (h : SmallL d) : d.len! ≤ 1048576 ∧ ∀ i, i < d.len! → ∀ j, j < (rowsOf r).length → SmallL (d.at! i j) := by
  obtain ⟨len, f, rfl, _⟩ := H.list
  exact h.2

theorem noP_inS (S : Nat → Prop) (W : World) : DIn S W noP (.slice none 0 0) ∧ Own W noP S (.slice none 0 0) :=
  ⟨⟨none, 0, 0, 0, rfl, Nat.zero_le _, fun h => by omega, fun i hi => by omega⟩, ⟨none, 0, 0, 0, fun _ _ _ => False, rfl, fun h => by omega, fun i _ hi => by omega, fun i _ _ _ hi => by omega, fun i hi => by omega⟩⟩
theorem Sep.mono {w : World} {S S' : Nat → Prop} {g n len : Nat} {f : Nat → Nat → D} (h : Sep w S g n len f) (hS : ∀ x, S x → S' x) : Sep w S' g n len f :=
  ⟨hS _ h.own, h.lt, h.fz, fun i hi j hj => (h.at' i hi j hj).imp fun _ k => ⟨k.1, k.2.mono (fun x hx => ⟨hS x hx.1, hx.2⟩)⟩⟩
/-- A node with other labels and props. -/
theorem setV_ok {f : Nat → Nat → D} {len j0 : Nat} {v : D} {r : Nat} (hr : ((rowsOf 4).getD j0 .int) = .list r) (hf : ∀ i, i < len → HasRow 4 (f i)) (hs : ∀ i, i < len → ∀ j, j < 3 → SmallL (f i j)) (Hv : Has v (.list r)) (sv : SmallL v) :
    (∀ i, i < len → HasRow 4 (setV f 0 j0 v i)) ∧ ∀ i, i < len → ∀ j, j < 3 → SmallL (setV f 0 j0 v i j) := by
  constructor
  · intro i hi j hj
    unfold setV
    by_cases e : i = 0 ∧ j = j0
    · rw [if_pos e, e.2, hr]; exact Hv
    · rw [if_neg e]; exact hf i hi j hj
  · intro i hi j hj
    unfold setV
    by_cases e : i = 0 ∧ j = j0
    · rw [if_pos e]; exact sv
    · rw [if_neg e]; exact hs i hi j hj

set_option maxRecDepth 100000 in
set_option maxHeartbeats 16000000 in
theorem l11AnyGraph_any (R p : Nat) (w : World) (h : RdAt w R p) (hp : p + 800 ≤ 1000000) : Calls Tryz.prog 8 #[.pointer (some ⟨R, 0, none⟩)] w (anyPost R p 600 w) := by
  have hRl := h.lt
  have hE1 : Ext w (w.alloc (.cells #[.slice none 0 0, .slice none 0 0, .int .i64 0, .int .i64 0] 26)) := (Ext.refl _).alloc _
  have hO : Only R (R + 1) w (w.alloc (.cells #[.slice none 0 0, .slice none 0 0, .int .i64 0, .int .i64 0] 26)) := (Only.refl _ _ _).alloc _
  have hbr : FBox (w.alloc (.cells #[.slice none 0 0, .slice none 0 0, .int .i64 0, .int .i64 0] 26)) w.heap.size (.slice none 0 0) (.slice none 0 0) (.int .i64 0) (.int .i64 0) := FBox.new w _ _ _ _ _
  have hz1 : (w.alloc (.cells #[.slice none 0 0, .slice none 0 0, .int .i64 0, .int .i64 0] 26)).heap.size = w.heap.size + 1 := by simp
  have hR := h.ext hE1
  obtain ⟨rb, hrb⟩ : ∃ rb, rb = w.heap.size := ⟨_, rfl⟩
  have hrb1 := Nat.le_of_eq hrb
  have hrb2 := Nat.le_of_eq hrb.symm
  clear hE1 h
  go_enter Tryz.func8, Tryz.ntmps8
  go_wp2_with fail
  rw [← hrb] at hbr hz1 ⊢
  clear hrb
  generalize w.alloc (.cells #[.slice none 0 0, .slice none 0 0, .int .i64 0, .int .i64 0] 26) = w1 at *
  have hz1a := Nat.le_of_eq hz1
  have hz1b := Nat.le_of_eq hz1.symm
  clear hz1
  refine (l11Graph_any R p w1 hR (by omega)).mono ?_
  rintro e w2 ⟨d0, d1, c0, c1, x2, x3, q, rfl, ⟨HD0, hD0, sD0⟩, ⟨HD1, hD1, sD1, hn16⟩, ⟨hx0, hx1, hx2, hx3⟩, hR2, hq2, hy2⟩
  have hO2 := hO.trans hy2
  have hbr2 := hbr.only hy2 (.inr (by omega))
  have hz2 := hy2.size
  obtain ⟨ca, ccap, cl, _, _, rfl, _, _⟩ := list_shape HD0 hD0
  obtain ⟨da, dcap, dl, _, _, rfl, _, _⟩ := list_shape HD1 hD1
  clear hO hbr hR hy2
  go_wp2_with fail
  refine (l2Copy_both (fun b => w1.heap.size ≤ b) d0 d1 _ _ x2 x3 w2 HD0 hD0 sD0 HD1 hD1 sD1).mono ?_
  rintro e w3 ⟨u0, u1, cs, ds, k0, k1, S0, S1, rfl, hk0, _, hN, hk1, hE, hS0, hS1, hE3⟩
  have hz3 := hE3.le
  have hO3 := hO2.trans (Only.of_ext hE3)
  have hbr3 := hbr2.ext hE3
  have hR3 := hR2.ext hE3
  clear hD0 hD1 hO2 hbr2 hR2
  obtain ⟨ua, ucap, rfl⟩ := hN.shape
  obtain ⟨va, vcap, rfl⟩ := hE.shape
  obtain ⟨hL0, hf0⟩ := small_at HD0 sD0
  obtain ⟨hL1, hf1⟩ := small_at HD1 sD1
  have hh0 := has_row HD0
  have hh1 := has_row HD1
  have hbg : FBox (w3.alloc (.cells #[.slice ua d0.len! ucap, .slice va d1.len! vcap, .int .i64 x2, .int .i64 x3] 26)) w3.heap.size _ _ _ _ := FBox.new w3 _ _ _ _ _
  have hE4 : Ext w3 (w3.alloc (.cells #[.slice ua d0.len! ucap, .slice va d1.len! vcap, .int .i64 x2, .int .i64 x3] 26)) := (Ext.refl _).alloc _
  have hz4 : (w3.alloc (.cells #[.slice ua d0.len! ucap, .slice va d1.len! vcap, .int .i64 x2, .int .i64 x3] 26)).heap.size = w3.heap.size + 1 := by simp
  obtain ⟨g, hg⟩ : ∃ g, g = w3.heap.size := ⟨_, rfl⟩
  have hg1 := Nat.le_of_eq hg
  have hg2 := Nat.le_of_eq hg.symm
  have hSn0 := hN.2.2.1
  have zx2 := wf_of (x := x2) ⟨by omega, by omega⟩
  have zx3 := wf_of (x := x3) ⟨by omega, by omega⟩
  generalize hln0 : d0.len! = n0 at *
  generalize hln1 : d1.len! = n1 at *
  generalize d0.at! = f0 at *
  generalize d1.at! = f1 at *
  clear HD0 HD1 sD0 sD1 hln0 hln1
  go_wp2_with fail
  rw [← hg] at hbg hz4 ⊢
  clear hg
  have hO4 := hO3.trans (Only.of_ext hE4)
  have hbr4 := hbr3.ext hE4
  have hR4 := hR3.ext hE4
  have hN4 := hN.ext hE4
  have hE5 := hE.ext hE4
  have hz4a := Nat.le_of_eq hz4
  have hz4b := Nat.le_of_eq hz4.symm
  clear hO3 hbr3 hR3 hN hE hE3 hE4 hz4
  generalize w3.alloc (.cells #[.slice ua n0 ucap, .slice va n1 vcap, .int .i64 x2, .int .i64 x3] 26) = w4 at *
  have hl0 : ∀ x, S0 x → rb + 1 ≤ x ∧ x < g := fun x hx => ⟨by have := hS0 x hx; omega, by have := hSn0 x hx; omega⟩
  have hl1 : ∀ x, S1 x → rb + 1 ≤ x ∧ x < g ∧ ¬ S0 x := fun x hx => ⟨by have := (hS1 x hx).1; omega, by have := (hS1 x hx).2.1; omega, (hS1 x hx).2.2⟩
  clear hS0 hS1 hSn0
  refine (pick_any R q 16 w4 hR4 (by omega) (by omega) (by omega)).mono ?_
  rintro e w5 ⟨m, rfl, hm, hR, hx5⟩
  have hz5 := hx5.size
  have hO := hO4.trans hx5
  replace hbg := hbg.only hx5 (.inr (by omega))
  have hbr := hbr4.only hx5 (.inr (by omega))
  have hN := hN4.chg hx5.toChg (fun x hx e => by have := hl0 x hx; omega)
  have hE := hE5.chg hx5.toChg (fun x hx e => by have := hl1 x hx; omega)
  clear hO4 hbr4 hR4 hN4 hE5 hx5
  have hne1 : ¬ rb = g := by omega
  have hne2 : ¬ g = rb := by omega
  have hmx : n0 ≤ maxLen ∧ n1 ≤ maxLen := by unfold maxLen; omega
  have HD0 : Has (.list 3 n0 f0) (.list 4) := ⟨4, rfl, rfl, hh0⟩
  have sD0 : SmallL (.list 3 n0 f0) := ⟨by decide, hL0, hf0⟩
  have HD1 : Has (.list 5 n1 f1) (.list 5) := ⟨5, rfl, rfl, hh1⟩
  have sD1 : SmallL (.list 5 n1 f1) := ⟨by decide, hL1, hf1⟩
  cases hm0 : ((m : Int) == 0)
  case' true =>
    have hmem : ∀ s : Int, s ∈ [0, -1, 1000000000, 3] → -1000 ≤ s ∧ s ≤ 1000000000 := by
      intro s hs
      simp only [List.mem_cons, List.not_mem_nil, or_false] at hs
      omega
    go_wp2_with fail
    refine (oneList_any R (q + 1) 4 [0, -1, 1000000000, 3] #[.int .i64 0, .int .i64 (-1), .int .i64 1000000000, .int .i64 3] 3 w5 hR (by omega) rfl rfl (by omega) (by omega)).mono ?_
    rintro e w6 ⟨s, hs, rfl, hR6, hx6⟩
    have zs := wf_of (hmem s hs)
    have hz6 := hx6.size
    have hrbe : rb = w.heap.size := by omega
    subst hrbe
    have hbg6 := hbg.only hx6 (.inr (by omega))
    have hbr6 := hbr.only hx6 (.inr (by omega))
    have hD0 := (hN.end hmx.1).1.onlyR hx6 (fun b hb => .inr (by have := hl0 b hb; omega))
    have hD1 := (hE.end hmx.2).1.onlyR hx6 (fun b hb => .inr (by have := hl1 b hb; omega))
    have hD0' := hD0.setCell (p := ⟨g, 2, none⟩) (fun (hx : S0 g) => by have := hl0 g hx; omega) (.int .i64 s)
    have hD1' := hD1.setCell (p := ⟨g, 2, none⟩) (fun (hx : S1 g) => by have := hl1 g hx; omega) (.int .i64 s)
    have hR' := hR6.setFar (q := ⟨g, 2, none⟩) (by dsimp only; omega) (.int .i64 s)
    have hO' := (hO.trans hx6).setNew (p := ⟨g, 2, none⟩) (by dsimp only; omega) (.int .i64 s)
    have hcl := drawn_close (p := p) (N := 600) hRl hR' (by omega) hO' HD0 hD0' sD0 (fun x hx => by have := hl0 x hx; omega) HD1 hD1' sD1 (fun x hx => by have := hl1 x hx; omega) (x2 := s) (x3 := x3) ⟨zs, zx3⟩
    obtain ⟨⟨b0, b1, b2, b3⟩, a0, a1, a2, a3⟩ := hbg6.four
    obtain ⟨⟨y0, y1, y2, y3⟩, z0, z1, z2, z3⟩ := hbr6.four
    clear hD0 hD1 hD0' hD1' hR' hO' hR6 hR hO hx6 hbg hbg6 hbr hbr6 hN hE hmem hs
    go_wp2
    refine bodyPost_ret (v := .agg #[.slice ua n0 ucap, .slice va n1 vcap, .int .i64 s, .int .i64 x3]) (by simp [results, Tryz.results8, go_sem, y0, y1, y2, y3]) rfl (hcl _ _ _ _)
  case' false =>
    cases hm1 : ((m : Int) == 1)
    case' true =>
      obtain ⟨i1, hi1, hz10, hz11, hz12⟩ := info_parts Tryz.infoEc
      obtain ⟨⟨b0, b1, b2, b3⟩, _⟩ := hbg.four
      have HK : Hid (∀ W : World, W.heap[g]? = w5.heap[g]? → W.cell? ⟨g, 1, none⟩ = some (.slice va n1 vcap) ∧ W.cell? ⟨g, 3, none⟩ = some (.int .i64 x3)) := fun W e => by
        rw [World.cell?_of_block (a := ⟨g, 1, none⟩) e, World.cell?_of_block (a := ⟨g, 3, none⟩) e]
        exact ⟨b1, b3⟩
      clear b0 b1 b2 b3
      have hRd := hR.ext (Ext.refl _).drew
      have hbd : w5.drew.heap[g]? = w5.heap[g]? := rfl
      have hOd : Only R (R + 1) w5 w5.drew := Only.of_ext (Ext.refl _).drew
      have hub := hE.2.1
      go_wp2_with fail
      refine late_start (S := (fun W => W.cell? ⟨g, 1, none⟩ = some (.slice va n1 vcap) ∧ W.cell? ⟨g, 3, none⟩ = some (.int .i64 x3))) 15 (by kernel_rfl) (HK.out _ hbd) (fun hHeld => ?_)
      refine tkE 0 ⟨some 17, .fieldAddr 26 (.tmp 3) 1, 0, _, #[], none⟩ ?_ hHeld ?yyA0 ?rrA0
      case yyA0 => (intro w hSw; (try dsimp only at hSw); go_simp; try with_reducible rfl)
      try simp only [Act.put, putA, putB, putC]
      refine tkE 1 ⟨some 18, .load 24 (.tmp 17), 24, _, #[⟨0, .data⟩], none⟩ ?_ hHeld ?yyA1 ?rrA1
      case yyA1 => (intro w hSw; (try dsimp only at hSw); go_simp; try with_reducible rfl)
      try simp only [Act.put, putA, putB, putC]
      refine tkE 2 ⟨some 19, .fieldAddr 26 (.tmp 3) 3, 0, _, #[], none⟩ ?_ hHeld ?yyA2 ?rrA2
      case yyA2 => (intro w hSw; (try dsimp only at hSw); go_simp; try with_reducible rfl)
      try simp only [Act.put, putA, putB, putC]
      refine tkE 3 ⟨some 20, .load 3 (.tmp 19), 3, _, #[⟨2, .data⟩], none⟩ ?_ hHeld ?yyA3 ?rrA3
      case yyA3 => (intro w hSw; (try dsimp only at hSw); go_simp; try with_reducible rfl)
      try simp only [Act.put, putA, putB, putC]
      refine tkP 4 ⟨some 21, .move (.tmp 0), 37, _, #[], none⟩ ?_ hHeld ?yyA4 ?rrA4
      case yyA4 => (intro w hSw; (try dsimp only at hSw); go_simp; try with_reducible rfl)
      try simp only [Act.put, putA, putB, putC]
      refine tkP 7 ⟨some 24, .move (.tmp 0), 37, _, #[], none⟩ ?_ hHeld ?yyA7 ?rrA7
      case yyA7 => (intro w hSw; (try dsimp only at hSw); go_simp; try with_reducible rfl)
      try simp only [Act.put, putA, putB, putC]
      refine tkP 9 ⟨some 26, .move (.tmp 0), 37, _, #[], none⟩ ?_ hHeld ?yyA9 ?rrA9
      case yyA9 => (intro w hSw; (try dsimp only at hSw); go_simp; try with_reducible rfl)
      try simp only [Act.put, putA, putB, putC]
      generalize w5.drew = w6 at *
      have hz6 := hOd.size
      refine late_ready (rs := [5]) (by kernel_rfl) (by simp) ?_
      refine LateAll.cons (o := ⟨some 22, .call { callee := .value (.func 19), args := #[.tmp 21, .const (.int .i64 2)], argTypes := #[37, 3] }, 3, _, #[⟨4, .data⟩], none⟩) rfl (fun K hK => ?_) (LateAll.nil)
      go_simp
      refine (pick_any R (q + 1) 2 w6 hRd (by omega) (by omega) (by omega)).mono ?_
      rintro e7 w7 ⟨a, rfl, ha, hR7, hx7⟩
      have hO57 := hOd.trans hx7
      have hz7 := hx7.size
      have hb7 := hO57.block g (by omega) (.inr (by omega))
      have hwr : IntKind.i64.wrap (x3 - (a : Int)) = x3 - (a : Int) := wrap_i64 (by omega) (by omega)
      go_wp2_with fail
      refine hK.out _ _ (HK.out _ hb7) (fun hHeld => ?_)
      clear hK K
      try simp only [Act.put, putA, putB, putC]
      refine tkE 6 ⟨some 23, .binOp .sub 3 (.tmp 20) (.tmp 22) 3, 3, _, #[⟨3, .data⟩, ⟨5, .data⟩], none⟩ ?_ hHeld ?yyA6 ?rrA6
      case yyA6 => (intro w hSw; (try dsimp only at hSw); go_simp; try with_reducible rfl)
      try simp only [Act.put, putA, putB, putC]
      refine late_ready (rs := [8]) (by kernel_rfl) (by simp) ?_
      refine LateAll.cons (o := ⟨some 25, .call { callee := .value (.func 19), args := #[.tmp 24, .const (.int .i64 4)], argTypes := #[37, 3] }, 3, _, #[⟨7, .data⟩, ⟨5, .chain⟩], none⟩) rfl (fun K hK => ?_) (LateAll.nil)
      go_simp
      refine (pick_any R (q + 1 + 1) 4 w7 hR7 (by omega) (by omega) (by omega)).mono ?_
      rintro e8 w8' ⟨fr, rfl, hfr, hR8', hx8'⟩
      have hO58' := hO57.trans hx8'
      have hz8' := hx8'.size
      have hb8' := hO58'.block g (by omega) (.inr (by omega))
      go_wp2_with fail
      refine hK.out _ _ (HK.out _ hb8') (fun hHeld => ?_)
      clear hK K
      try simp only [Act.put, putA, putB, putC]
      refine late_ready (rs := [10]) (by kernel_rfl) (by simp) ?_
      refine LateAll.cons (o := ⟨some 27, .call { callee := .value (.func 19), args := #[.tmp 26, .const (.int .i64 9)], argTypes := #[37, 3] }, 3, _, #[⟨9, .data⟩, ⟨8, .chain⟩], none⟩) rfl (fun K hK => ?_) (LateAll.nil)
      go_simp
      refine (pick_any R (q + 1 + 1 + 1) 9 w8' hR8' (by omega) (by omega) (by omega)).mono ?_
      rintro e9 w8 ⟨dst, rfl, hdst, hR8, hx8⟩
      have hO58 := hO58'.trans hx8
      have hz8 := hx8.size
      have hb8 := hO58.block g (by omega) (.inr (by omega))
      have hE8 := hE.chg hO58.toChg (fun x hx e => by have := hl1 x hx; omega)
      have hN8 := hN.chg hO58.toChg (fun x hx e => by have := hl0 x hx; omega)
      go_wp2_with fail
      refine hK.out _ _ (HK.out _ hb8) (fun hHeld => ?_)
      clear hK K
      try simp only [Act.put, putA, putB, putC]
      refine tkE 11 ⟨some 28, .build 46 #[(0, .tmp 23), (1, .const (.string { data := #[75] })), (2, .tmp 25), (3, .tmp 27)], 46, _, #[⟨6, .data⟩, ⟨8, .data⟩, ⟨10, .data⟩], none⟩ ?_ hHeld ?yyA11 ?rrA11
      case yyA11 => (intro w hSw; (try dsimp only at hSw); go_simp; try with_reducible rfl)
      try simp only [Act.put, putA, putB, putC]
      refine late_ready (rs := [12]) (by kernel_rfl) (by simp) ?_
      refine LateAll.cons (o := ⟨some 29, .buildSlice 24 1 #[(0, .tmp 28)], 24, _, #[⟨11, .data⟩], none⟩) rfl (fun K hK => ?_) (LateAll.nil)
      go_simp
      refine hK.out _ _ (HK.out _ ((Below.block ((Ext.refl w8).alloc _) g (by omega)).trans hb8)) (fun hHeld => ?_)
      clear hK K
      try simp only [Act.put, putA, putB, putC]
      refine late_ready (rs := [13]) (by kernel_rfl) (by simp) ?_
      refine LateAll.cons (o := ⟨some 30, .call { callee := .builtin .append, args := #[.tmp 18, .tmp 29], argTypes := #[24, 24] }, 24, _, #[⟨1, .data⟩, ⟨12, .data⟩, ⟨10, .chain⟩], none⟩) rfl (fun K hK => ?_) (LateAll.nil)
      have zid : (Lit.int .i64 (x3 - (a : Int))).wf = true := wf_of ⟨by omega, by omega⟩
      have zfr := wf_of (x := (fr : Int)) ⟨by omega, by omega⟩
      have zds := wf_of (x := (dst : Int)) ⟨by omega, by omega⟩
      refine step_append_lies _ (by rfl) _ _ _ (by rfl) k1 46 i1 _ 5 64 Tryz.underlying24 hi1 hz10 hz11 hz12 rfl (by omega) (.slice va n1 vcap) n1 ds (by rfl) (hE8.1.alloc _) ⟨w8.heap.size, 0, none⟩ 1 1 [.int .i64 (x3 - (a : Int)), .string ⟨#[75]⟩, .int .i64 fr, .int .i64 dst, .slice none 0 0] (by rfl) (by rfl) (World.news_of_block (cs := #[.int .i64 (x3 - (a : Int)), .string ⟨#[75]⟩, .int .i64 fr, .int .i64 dst, .slice none 0 0]) (t := 46) (fr := (0, 0)) (heap_alloc_new w8 _)) (by simp [Value.oneCell']) (by omega) (by unfold maxLen; omega) (by omega) (by simp; omega) (w8.heap.size + 1) (by simp) ?_
      intro g1 gcap w9 hown9 hgrow9 hat9 hlt9
      have hA : Ext w8 (w8.alloc (.cells #[.int .i64 (x3 - (a : Int)), .string ⟨#[75]⟩, .int .i64 fr, .int .i64 dst, .slice none 0 0] 46)) := (Ext.refl _).alloc _
      have hz9 := hgrow9.size
      rw [World.size_alloc] at hz9
      have hC9 : Chg (fun x => (Value.slice va n1 vcap).ownBlock = some x) w8 w9 := (Chg.of_ext hA).grown hgrow9 (fun b hb => hb)
      have hoS : ∀ x, (Value.slice va n1 vcap).ownBlock = some x → rb + 1 ≤ x ∧ x < g ∧ ¬ S0 x := fun x hx => hl1 x (hub x hx)
      have hb9 := (hC9.block g (by omega) (fun hx => by have := hoS g hx; omega)).trans hb8
      have hpush := hE8.congr (g := addFE f1 n1 (x3 - (a : Int)) ⟨#[75]⟩ fr dst noP) (fun i hi => addFE_lt f1 n1 _ _ _ _ _ hi)
      have hrow9 : GRow w9 (fun x => S1 x ∨ w8.heap.size ≤ x ∧ x < w9.heap.size) k1 46 5 (addFE f1 n1 (x3 - (a : Int)) ⟨#[75]⟩ fr dst noP) (n1 + 1) (.slice (some ⟨g1, 0, none⟩) (n1 + 1) gcap) (ds ++ [.int .i64 (x3 - (a : Int)), .string ⟨#[75]⟩, .int .i64 fr, .int .i64 dst, .slice none 0 0]) := by
        refine GRow.push hpush hA [.int .i64 (x3 - (a : Int)), .string ⟨#[75]⟩, .int .i64 fr, .int .i64 dst, .slice none 0 0] rfl (fun _ _ => False) (fun j hj => ?_) (fun j j' hj hj' hne x hx hx' => hx) (fun x hx => .inl hx) (fun x hx => ?_) (fun e => .inr ⟨by simp, ?_⟩) hown9 hgrow9 ?_
        · have hc4 : j = 0 ∨ j = 1 ∨ j = 2 ∨ j = 3 ∨ j = 4 := by omega
          rcases hc4 with rfl | rfl | rfl | rfl | rfl
          · rw [addFE_at0]; exact ⟨⟨rfl, zid⟩, trivial, fun x hx => hx.elim⟩
          · rw [addFE_at1]; exact ⟨⟨rfl, by decide⟩, trivial, fun x hx => hx.elim⟩
          · rw [addFE_at2]; exact ⟨⟨rfl, zfr⟩, trivial, fun x hx => hx.elim⟩
          · rw [addFE_at3]; exact ⟨⟨rfl, zds⟩, trivial, fun x hx => hx.elim⟩
          · rw [addFE_at4]; exact ⟨(noP_inS _ _).1, (noP_inS _ _).2, fun x hx => hx.elim⟩
        · rcases hx with hx | hx
          · have := hE8.2.2.1 x hx; omega
          · exact hx.2
        · have := hown9.lt _ (show (Value.slice (some ⟨g1, 0, none⟩) (n1 + 1) gcap).ownBlock = some g1 from rfl)
          have e2 : g1 = (w8.alloc (.cells #[.int .i64 (x3 - (a : Int)), .string ⟨#[75]⟩, .int .i64 fr, .int .i64 dst, .slice none 0 0] 46)).heap.size := Option.some.inj e
          omega
        · exact lies_loc hat9 (by simp)
      obtain ⟨k2, k3⟩ := addFE_ok (x := x3 - (a : Int)) (kind := ⟨#[75]⟩) (fr := (fr : Int)) (dst := (dst : Int)) hh1 hf1 noP_ok.1 noP_ok.2.1
      replace HD1 : Has (.list 5 (n1 + 1) (addFE f1 n1 (x3 - (a : Int)) ⟨#[75]⟩ fr dst noP)) (.list 5) := ⟨5, rfl, rfl, k2⟩
      have sD1 : SmallL (.list 5 (n1 + 1) (addFE f1 n1 (x3 - (a : Int)) ⟨#[75]⟩ fr dst noP)) := ⟨by decide, by omega, k3⟩
      have hD1 := (hrow9.end (by unfold maxLen; omega)).1
      have hD0 := (hN8.chg hC9 (fun x hx h => (hoS x h).2.2 hx)).end hmx.1
      replace hD0 := hD0.1
      replace hR := hR8.chg hC9 (fun x hx => by have := hoS x hx; omega)
      replace hO := (hO.trans hO58).chgNew hC9 (fun x hx => by have := hoS x hx; omega)
      replace hbr := (hbr.only hO58 (.inr (by omega))).chg hC9 (fun hx => by have := hoS _ hx; omega)
      replace hbg : FBox w9 g _ _ _ _ := hbg.block (by omega) hb9
      refine hK.out _ _ (HK.out _ hb9) (fun hHeld => ?_)
      clear hK K
      try simp only [Act.put, putA, putB, putC]
      refine tkE 14 ⟨some 31, .fieldAddr 26 (.tmp 3) 1, 0, _, #[⟨0, .phase⟩, ⟨1, .phase⟩, ⟨2, .phase⟩, ⟨3, .phase⟩, ⟨4, .phase⟩, ⟨5, .phase⟩, ⟨6, .phase⟩, ⟨7, .phase⟩, ⟨8, .phase⟩, ⟨9, .phase⟩, ⟨10, .phase⟩, ⟨11, .phase⟩, ⟨12, .phase⟩, ⟨13, .phase⟩], none⟩ ?_ hHeld ?yyA14 ?rrA14
      case yyA14 => (intro w hSw; (try dsimp only at hSw); go_simp; try with_reducible rfl)
      try simp only [Act.put, putA, putB, putC]
      obtain ⟨⟨y0, y1, y2, y3⟩, y4, y5, y6, y7⟩ := hbg.four
      refine late_ready (rs := [15]) (by kernel_rfl) (by simp) ?_
      refine LateAll.last (o := ⟨none, .store 24 (.tmp 31) (.tmp 30), 0, _, #[⟨14, .data⟩, ⟨13, .data⟩, ⟨13, .chain⟩, ⟨0, .phase⟩, ⟨1, .phase⟩, ⟨2, .phase⟩, ⟨3, .phase⟩, ⟨4, .phase⟩, ⟨5, .phase⟩, ⟨6, .phase⟩, ⟨7, .phase⟩, ⟨8, .phase⟩, ⟨9, .phase⟩, ⟨10, .phase⟩, ⟨11, .phase⟩, ⟨12, .phase⟩, ⟨13, .phase⟩], none⟩) rfl (fun K hK => ?_)
      clear hpush hrow9 hE8 hN8 hN hE hR8 hR8' hR7 hRd hO58 hO58' hO57 hOd hx7 hx8 hx8' hC9 hown9 hgrow9 hat9 HK hHeld
      go_simp
      clear y0 y1 y2 y3 y4 y5 y6 y7
      refine hK.out _ _ ?_
      clear hK K
      try simp only [Act.put, putA, putB, putC]
      refine late_done (by kernel_rfl) ?_ _
      have hl1' : ∀ x, (S1 x ∨ w8.heap.size ≤ x ∧ x < w9.heap.size) → rb + 1 ≤ x ∧ x ≠ g := fun x hx => by
        rcases hx with hx | hx
        · have := hl1 x hx; exact ⟨by omega, by omega⟩
        · exact ⟨by omega, by omega⟩
      replace hD0 := hD0.setCell (p := ⟨g, 1, none⟩) (fun (hx : S0 g) => by have := hl0 g hx; omega) (.slice (some ⟨g1, 0, none⟩) (n1 + 1) gcap)
      replace hD1 := hD1.setCell (p := ⟨g, 1, none⟩) (fun hx => (hl1' g hx).2 rfl) (.slice (some ⟨g1, 0, none⟩) (n1 + 1) gcap)
      replace hR := hR.setFar (q := ⟨g, 1, none⟩) (by dsimp only; omega) (.slice (some ⟨g1, 0, none⟩) (n1 + 1) gcap)
      replace hO := hO.setNew (p := ⟨g, 1, none⟩) (by dsimp only; omega) (.slice (some ⟨g1, 0, none⟩) (n1 + 1) gcap)
      replace hbr := hbr.far (q := ⟨g, 1, none⟩) (fun e => by have e2 : g = rb := e; omega) (.slice (some ⟨g1, 0, none⟩) (n1 + 1) gcap)
      replace hbg := hbg.set1 (.slice (some ⟨g1, 0, none⟩) (n1 + 1) gcap)
      generalize w9.setCell ⟨g, 1, none⟩ (.slice (some ⟨g1, 0, none⟩) (n1 + 1) gcap) = w10 at *
      have hrbe : rb = w.heap.size := by omega
      subst hrbe
      obtain ⟨⟨b0, b1, b2, b3⟩, _⟩ := hbg.four
      obtain ⟨⟨y0, y1, y2, y3⟩, z0, z1, z2, z3⟩ := hbr.four
      have hcl := drawn_close (p := p) (N := 600) hRl hR (by omega) hO HD0 hD0 sD0 (fun x hx => by have := hl0 x hx; omega) HD1 hD1 sD1 (fun x hx => by have := hl1' x hx; omega) (x2 := x2) (x3 := x3) ⟨zx2, zx3⟩
      clear hD0 hD1 hR hO hbg hbr
      go_wp2
      refine bodyPost_ret (v := .agg #[.slice ua n0 ucap, .slice (some ⟨g1, 0, none⟩) (n1 + 1) gcap, .int .i64 x2, .int .i64 x3]) (by simp [results, Tryz.results8, go_sem, y0, y1, y2, y3]) rfl (hcl _ _ _ _)
    case' false =>
      cases hm2 : ((m : Int) == 2)
      case' false =>
        have hD0 := (hN.end hmx.1).1
        have hD1 := (hE.end hmx.2).1
        clear hN hE
        have hrbe : rb = w.heap.size := by omega
        subst hrbe
        obtain ⟨⟨b0, b1, b2, b3⟩, _⟩ := hbg.four
        obtain ⟨⟨y0, y1, y2, y3⟩, z0, z1, z2, z3⟩ := hbr.four
        have hcl := drawn_close (p := p) (N := 600) hRl hR (by omega) hO HD0 hD0 sD0 (fun x hx => by have := hl0 x hx; omega) HD1 hD1 sD1 (fun x hx => by have := hl1 x hx; omega) (x2 := x2) (x3 := x3) ⟨zx2, zx3⟩
        clear hD0 hD1 hR hO hbg hbr
        go_wp2
        refine bodyPost_ret (v := .agg #[.slice ua n0 ucap, .slice va n1 vcap, .int .i64 x2, .int .i64 x3]) (by simp [results, Tryz.results8, go_sem, y0, y1, y2, y3]) rfl (hcl _ _ _ _)
      case' true =>
        by_cases hn0 : 0 < n0
        · obtain ⟨g0, cap0, hu, hsep0⟩ := hN.sep hn0
          cases hu
          have hD1 := (hE.end hmx.2).1
          have hg0S := hsep0.own
          have hg0l := hl0 g0 hg0S
          have hg0ne : g0 ≠ g := by omega
          have hsep := hsep0.mono (S' := fun x => S0 x ∨ w5.heap.size ≤ x) (fun x hx => .inl hx)
          have hlS : ∀ x, (S0 x ∨ w5.heap.size ≤ x) → rb + 1 ≤ x := fun x hx => by rcases hx with hx | hx; (have := hl0 x hx; omega); omega
          have hn0i : (0 : Int) < (n0 : Int) := by omega
          clear hsep0 hN hE HD0 sD0
          obtain ⟨⟨b0, b1, b2, b3⟩, _⟩ := hbg.four
          go_upto_region 9 with fail
          clear b0 b1 b2 b3
          have hRd := hR.ext (Ext.refl _).drew
          have hbd : w5.drew.heap[g]? = w5.heap[g]? := rfl
          have hOd : Only R (R + 1) w5 w5.drew := Only.of_ext (Ext.refl _).drew
          obtain ⟨⟨b0, b1, b2, b3⟩, _⟩ := hbg.four
          have HK : Hid (∀ W : World, W.heap[g]? = w5.heap[g]? → W.cell? ⟨g, 0, none⟩ = some (.slice (some ⟨g0, 0, none⟩) n0 ucap)) := fun W e => by
            rw [World.cell?_of_block (a := ⟨g, 0, none⟩) e]
            exact b0
          clear b0 b1 b2 b3
          go_wp2_with fail
          refine wp_region_held_drew (S := (fun W => W.cell? ⟨g, 0, none⟩ = some (.slice (some ⟨g0, 0, none⟩) n0 ucap))) (by kernel_rfl) (HK.out _ hbd) (fun hHeld => ?_)
          refine tkL 0 ⟨some 38, .fieldAddr 26 (.tmp 3) 0, 0, _, #[], none⟩ ?_ hHeld ?yyP0 ?rrP0
          case yyP0 => (intro w hSw; (try dsimp only at hSw); go_simp; try with_reducible rfl)
          try simp only [Act.put, putA, putB, putC]
          refine tkL 1 ⟨some 39, .load 23 (.tmp 38), 23, _, #[⟨0, .data⟩], none⟩ ?_ hHeld ?yyP1 ?rrP1
          case yyP1 => (intro w hSw; (try dsimp only at hSw); go_simp; try with_reducible rfl)
          try simp only [Act.put, putA, putB, putC]
          refine tkL 2 ⟨some 40, .move (.tmp 0), 37, _, #[], none⟩ ?_ hHeld ?yyP2 ?rrP2
          case yyP2 => (intro w hSw; (try dsimp only at hSw); go_simp; try with_reducible rfl)
          try simp only [Act.put, putA, putB, putC]
          generalize w5.drew = wdP at *
          have hzdP := hOd.size
          refine wpAnyH_ready (rs := [3]) (by kernel_rfl) (by simp) ?_
          refine AllReadyH.cons (o := ⟨some 41, .call { callee := .value (.func 21), args := #[.tmp 40], argTypes := #[37] }, 32, _, #[⟨2, .data⟩], none⟩) rfl (fun K hK => ?_) (AllReadyH.nil)
          go_simp
          refine (l11AnyProps_any R (q + 1) wdP hRd (by omega)).mono ?_
          rintro e7 weP ⟨uv, kv, csv, qv, rfl, hrowv, hkv, hR7, hqv, hx7⟩
          obtain ⟨paP, pcapP, rfl⟩ := hrowv.shape
          have hO5 := hOd.trans hx7
          have hzeP := hx7.size
          have hb7 := hO5.block g (by omega) (.inr (by omega))
          obtain ⟨dP, HP, hDv, dPs, _⟩ := hrowv.end rfl (by decide) (by omega)
          replace hsep := hsep.only hO5 (fun x hx => by have := hlS x hx; omega)
          obtain ⟨cc, hcc, _⟩ := hsep.at' 0 hn0 2 (by decide)
          have hfz := hsep.fz 2
          have hcc' : weP.cell? ⟨g0, 2, none⟩ = some cc := by simpa using hcc
          go_wp2_with fail
          refine hK.out _ _ (HK.out _ hb7) (fun hHeld => ?_)
          clear hK K
          try simp only [Act.put, putA, putB, putC]
          refine tkL 4 ⟨some 42, .indexAddr 23 (.tmp 39) (.const (.int .i64 0)), 0, _, #[⟨1, .data⟩, ⟨0, .phase⟩, ⟨1, .phase⟩, ⟨2, .phase⟩, ⟨3, .phase⟩], none⟩ ?_ hHeld ?yyP4 ?rrP4
          case yyP4 => (intro w hSw; (try dsimp only at hSw); go_simp; try with_reducible rfl)
          try simp only [Act.put, putA, putB, putC]
          refine tkL 5 ⟨some 43, .fieldAddr 34 (.tmp 42) 2, 0, _, #[⟨4, .data⟩, ⟨0, .phase⟩, ⟨1, .phase⟩, ⟨2, .phase⟩, ⟨3, .phase⟩], none⟩ ?_ hHeld ?yyP5 ?rrP5
          case yyP5 => (intro w hSw; (try dsimp only at hSw); go_simp; try with_reducible rfl)
          try simp only [Act.put, putA, putB, putC]
          refine wpAnyH_ready (rs := [6]) (by kernel_rfl) (by simp) ?_
          refine AllReadyH.cons (o := ⟨none, .store 32 (.tmp 43) (.tmp 41), 0, _, #[⟨5, .data⟩, ⟨3, .data⟩, ⟨3, .chain⟩, ⟨0, .phase⟩, ⟨1, .phase⟩, ⟨2, .phase⟩, ⟨3, .phase⟩], none⟩) rfl (fun K hK => ?_) (AllReadyH.nil)
          go_simp
          have hsep2 : Sep (weP.setCell ⟨g0, 2, none⟩ (.slice paP kv pcapP)) (fun x => S0 x ∨ w5.heap.size ≤ x) g0 3 n0 (setV f0 0 2 dP) := by
            have h := hsep.set (i0 := 0) (j0 := 2) (c := (.slice paP kv pcapP)) (by decide) hDv (fun x hx => ⟨.inr (by omega), by omega⟩)
            exact h
          replace hD1 := (hD1.onlyR hO5 (fun b hb => .inr (by have := hl1 b hb; omega))).setCell (p := ⟨g0, 2, none⟩) (fun (hx : S1 g0) => (hl1 g0 hx).2.2 hg0S) (.slice paP kv pcapP)
          have hR9 := hR7.setFar (q := ⟨g0, 2, none⟩) (by dsimp only; omega) (.slice paP kv pcapP)
          replace hO := (hO.trans hO5).setNew (p := ⟨g0, 2, none⟩) (by dsimp only; omega) (.slice paP kv pcapP)
          replace hbr := (hbr.only hO5 (.inr (by omega))).far (q := ⟨g0, 2, none⟩) (fun e => by have e2 : g0 = rb := e; omega) (.slice paP kv pcapP)
          replace hbg := (hbg.only hO5 (.inr (by omega))).far (q := ⟨g0, 2, none⟩) (fun e => by have e2 : g0 = g := e; omega) (.slice paP kv pcapP)
          have hb8 : (weP.setCell ⟨g0, 2, none⟩ (.slice paP kv pcapP)).cell? ⟨g, 0, none⟩ = some (.slice (some ⟨g0, 0, none⟩) n0 ucap) := by
            rw [World.cell?_setCell_other _ _ _ _ (fun e => hg0ne (congrArg Addr.block e))]
            exact HK.out _ hb7
          have hz9P : (weP.setCell ⟨g0, 2, none⟩ (.slice paP kv pcapP)).heap.size = weP.heap.size := by simp
          refine hK.out _ _ hb8 (fun hHeld => ?_)
          clear hK K
          try simp only [Act.put, putA, putB, putC]
          refine wpAnyH_done (by kernel_rfl) ?_ _
          clear hHeld HK hsep hcc hcc' hfz hb7 hb8 hO5 hOd hx7 hR7 hRd hrowv hDv hR
          have hR := hR9
          have hsep := hsep2
          clear hR9 hsep2
          generalize weP.setCell ⟨g0, 2, none⟩ (.slice paP kv pcapP) = wfP at *
          have hz9Pa := Nat.le_of_eq hz9P
          have hz9Pb := Nat.le_of_eq hz9P.symm
          clear hz9P
          have hRd := hR.ext (Ext.refl _).drew
          have hbd : wfP.drew.heap[g]? = wfP.heap[g]? := rfl
          have hOd : Only R (R + 1) wfP wfP.drew := Only.of_ext (Ext.refl _).drew
          obtain ⟨⟨b0, b1, b2, b3⟩, _⟩ := hbg.four
          have HK : Hid (∀ W : World, W.heap[g]? = wfP.heap[g]? → W.cell? ⟨g, 0, none⟩ = some (.slice (some ⟨g0, 0, none⟩) n0 ucap)) := fun W e => by
            rw [World.cell?_of_block (a := ⟨g, 0, none⟩) e]
            exact b0
          clear b0 b1 b2 b3
          go_wp2_with fail
          refine wp_region_held_drew (S := (fun W => W.cell? ⟨g, 0, none⟩ = some (.slice (some ⟨g0, 0, none⟩) n0 ucap))) (by kernel_rfl) (HK.out _ hbd) (fun hHeld => ?_)
          refine tkL 0 ⟨some 44, .fieldAddr 26 (.tmp 3) 0, 0, _, #[], none⟩ ?_ hHeld ?yyL0 ?rrL0
          case yyL0 => (intro w hSw; (try dsimp only at hSw); go_simp; try with_reducible rfl)
          try simp only [Act.put, putA, putB, putC]
          refine tkL 1 ⟨some 45, .load 23 (.tmp 44), 23, _, #[⟨0, .data⟩], none⟩ ?_ hHeld ?yyL1 ?rrL1
          case yyL1 => (intro w hSw; (try dsimp only at hSw); go_simp; try with_reducible rfl)
          try simp only [Act.put, putA, putB, putC]
          refine tkL 2 ⟨some 46, .move (.tmp 0), 37, _, #[], none⟩ ?_ hHeld ?yyL2 ?rrL2
          case yyL2 => (intro w hSw; (try dsimp only at hSw); go_simp; try with_reducible rfl)
          try simp only [Act.put, putA, putB, putC]
          generalize wfP.drew = wdL at *
          have hzdL := hOd.size
          refine wpAnyH_ready (rs := [3]) (by kernel_rfl) (by simp) ?_
          refine AllReadyH.cons (o := ⟨some 47, .call { callee := .value (.func 22), args := #[.tmp 46], argTypes := #[37] }, 31, _, #[⟨2, .data⟩], none⟩) rfl (fun K hK => ?_) (AllReadyH.nil)
          go_simp
          refine (l11AnyLabels_any R qv wdL hRd (by omega)).mono ?_
          rintro e7 weL ⟨uw, kw, csw, qw, rfl, hrowv, hkw, hR7, hqw, hx7⟩
          obtain ⟨paL, pcapL, rfl⟩ := hrowv.shape
          have hO5 := hOd.trans hx7
          have hzeL := hx7.size
          have hb7 := hO5.block g (by omega) (.inr (by omega))
          obtain ⟨dL, HL, hDv, dLs, _⟩ := hrowv.end rfl (by decide) (by omega)
          replace hsep := hsep.only hO5 (fun x hx => by have := hlS x hx; omega)
          obtain ⟨cc, hcc, _⟩ := hsep.at' 0 hn0 1 (by decide)
          have hfz := hsep.fz 1
          have hcc' : weL.cell? ⟨g0, 1, none⟩ = some cc := by simpa using hcc
          go_wp2_with fail
          refine hK.out _ _ (HK.out _ hb7) (fun hHeld => ?_)
          clear hK K
          try simp only [Act.put, putA, putB, putC]
          refine tkL 4 ⟨some 48, .indexAddr 23 (.tmp 45) (.const (.int .i64 0)), 0, _, #[⟨1, .data⟩, ⟨0, .phase⟩, ⟨1, .phase⟩, ⟨2, .phase⟩, ⟨3, .phase⟩], none⟩ ?_ hHeld ?yyL4 ?rrL4
          case yyL4 => (intro w hSw; (try dsimp only at hSw); go_simp; try with_reducible rfl)
          try simp only [Act.put, putA, putB, putC]
          refine tkL 5 ⟨some 49, .fieldAddr 34 (.tmp 48) 1, 0, _, #[⟨4, .data⟩, ⟨0, .phase⟩, ⟨1, .phase⟩, ⟨2, .phase⟩, ⟨3, .phase⟩], none⟩ ?_ hHeld ?yyL5 ?rrL5
          case yyL5 => (intro w hSw; (try dsimp only at hSw); go_simp; try with_reducible rfl)
          try simp only [Act.put, putA, putB, putC]
          refine wpAnyH_ready (rs := [6]) (by kernel_rfl) (by simp) ?_
          refine AllReadyH.cons (o := ⟨none, .store 31 (.tmp 49) (.tmp 47), 0, _, #[⟨5, .data⟩, ⟨3, .data⟩, ⟨3, .chain⟩, ⟨0, .phase⟩, ⟨1, .phase⟩, ⟨2, .phase⟩, ⟨3, .phase⟩], none⟩) rfl (fun K hK => ?_) (AllReadyH.nil)
          go_simp
          have hsep2 : Sep (weL.setCell ⟨g0, 1, none⟩ (.slice paL kw pcapL)) (fun x => S0 x ∨ w5.heap.size ≤ x) g0 3 n0 (setV (setV f0 0 2 dP) 0 1 dL) := by
            have h := hsep.set (i0 := 0) (j0 := 1) (c := (.slice paL kw pcapL)) (by decide) hDv (fun x hx => ⟨.inr (by omega), by omega⟩)
            exact h
          replace hD1 := (hD1.onlyR hO5 (fun b hb => .inr (by have := hl1 b hb; omega))).setCell (p := ⟨g0, 1, none⟩) (fun (hx : S1 g0) => (hl1 g0 hx).2.2 hg0S) (.slice paL kw pcapL)
          have hR9 := hR7.setFar (q := ⟨g0, 1, none⟩) (by dsimp only; omega) (.slice paL kw pcapL)
          replace hO := (hO.trans hO5).setNew (p := ⟨g0, 1, none⟩) (by dsimp only; omega) (.slice paL kw pcapL)
          replace hbr := (hbr.only hO5 (.inr (by omega))).far (q := ⟨g0, 1, none⟩) (fun e => by have e2 : g0 = rb := e; omega) (.slice paL kw pcapL)
          replace hbg := (hbg.only hO5 (.inr (by omega))).far (q := ⟨g0, 1, none⟩) (fun e => by have e2 : g0 = g := e; omega) (.slice paL kw pcapL)
          have hb8 : (weL.setCell ⟨g0, 1, none⟩ (.slice paL kw pcapL)).cell? ⟨g, 0, none⟩ = some (.slice (some ⟨g0, 0, none⟩) n0 ucap) := by
            rw [World.cell?_setCell_other _ _ _ _ (fun e => hg0ne (congrArg Addr.block e))]
            exact HK.out _ hb7
          have hz9L : (weL.setCell ⟨g0, 1, none⟩ (.slice paL kw pcapL)).heap.size = weL.heap.size := by simp
          refine hK.out _ _ hb8 (fun hHeld => ?_)
          clear hK K
          try simp only [Act.put, putA, putB, putC]
          refine wpAnyH_done (by kernel_rfl) ?_ _
          clear hHeld HK hsep hcc hcc' hfz hb7 hb8 hO5 hOd hx7 hR7 hRd hrowv hDv hR
          have hR := hR9
          have hsep := hsep2
          clear hR9 hsep2
          generalize weL.setCell ⟨g0, 1, none⟩ (.slice paL kw pcapL) = wfL at *
          have hz9La := Nat.le_of_eq hz9L
          have hz9Lb := Nat.le_of_eq hz9L.symm
          clear hz9L
          obtain ⟨k2, k3⟩ := setV_ok (j0 := 2) (r := 3) rfl hh0 hf0 HP dPs
          obtain ⟨k4, k5⟩ := setV_ok (j0 := 1) (r := 0) rfl k2 k3 HL dLs
          have HD0 : Has (.list 3 n0 _) (.list 4) := ⟨4, rfl, rfl, k4⟩
          have sD0 : SmallL (.list 3 n0 _) := ⟨by decide, hL0, k5⟩
          have hD0 : DIn _ wfL _ (.slice (some ⟨g0, 0, none⟩) n0 ucap) := hsep.din hmx.1
          clear hsep
          have hrbe : rb = w.heap.size := by omega
          subst hrbe
          obtain ⟨⟨b0, b1, b2, b3⟩, _⟩ := hbg.four
          obtain ⟨⟨y0, y1, y2, y3⟩, z0, z1, z2, z3⟩ := hbr.four
          have hcl := drawn_close (p := p) (N := 600) hRl hR (by omega) hO HD0 hD0 sD0 (fun x hx => by have := hlS x hx; omega) HD1 hD1 sD1 (fun x hx => by have := hl1 x hx; omega) (x2 := x2) (x3 := x3) ⟨zx2, zx3⟩
          clear hD0 hD1 hR hO hbg hbr
          go_wp2
          refine bodyPost_ret (v := .agg #[.slice (some ⟨g0, 0, none⟩) n0 ucap, .slice va n1 vcap, .int .i64 x2, .int .i64 x3]) (by simp [results, Tryz.results8, go_sem, y0, y1, y2, y3]) rfl (hcl _ _ _ _)
        · have hD0 := (hN.end hmx.1).1
          have hD1 := (hE.end hmx.2).1
          have hn0' : n0 = 0 := by omega
          clear hN hE
          subst hn0'
          have hrbe : rb = w.heap.size := by omega
          subst hrbe
          obtain ⟨⟨b0, b1, b2, b3⟩, _⟩ := hbg.four
          obtain ⟨⟨y0, y1, y2, y3⟩, z0, z1, z2, z3⟩ := hbr.four
          have hcl := drawn_close (p := p) (N := 600) hRl hR (by omega) hO HD0 hD0 sD0 (fun x hx => by have := hl0 x hx; omega) HD1 hD1 sD1 (fun x hx => by have := hl1 x hx; omega) (x2 := x2) (x3 := x3) ⟨zx2, zx3⟩
          clear hD0 hD1 hR hO hbg hbr
          go_wp2
          refine bodyPost_ret (v := .agg #[.slice ua 0 ucap, .slice va n1 vcap, .int .i64 x2, .int .i64 x3]) (by simp [results, Tryz.results8, go_sem, y0, y1, y2, y3]) rfl (hcl _ _ _ _)
end Go.Proofs.YtbhmblkappmfjaaGreat

/- What spec.DrawGraphOk draws: a graph. -/
namespace Go.Proofs.YtbhmblkappmfjaaGreat
open Go.RowKit Go.Deep

set_option maxRecDepth 100000 in
set_option maxHeartbeats 4000000 in
theorem drawGraphOk_any (a : Option Addr) (n cap : Nat) (w : World) (h : CodeIn w a n cap) :
    Calls Tryz.prog 4 #[.slice a n cap] w fun e w' => ∃ (d0 d1 : D) (u0 u1 : Value) (x2 x3 : Int), e = .returned (.agg #[u0, u1, .int .i64 x2, .int .i64 x3]) ∧ (Has d0 (.list 4) ∧ DIn anyB w' d0 u0) ∧ (Has d1 (.list 5) ∧ DIn anyB w' d1 u1) ∧ Ext w w' := by
  have hE1 : Ext w (w.alloc (.cells #[.slice none 0 0, .slice none 0 0, .int .i64 0, .int .i64 0] 26)) := (Ext.refl _).alloc _
  have hb := FBox.new w (.slice none 0 0) (.slice none 0 0) (.int .i64 0) (.int .i64 0) 26
  have hz1 : (w.alloc (.cells #[.slice none 0 0, .slice none 0 0, .int .i64 0, .int .i64 0] 26)).heap.size = w.heap.size + 1 := by simp
  have hop := l1Open_any a n cap _ (h.ext hE1)
  go_enter Tryz.func4, Tryz.ntmps4
  go_wp2_with fail
  generalize w.alloc (.cells #[.slice none 0 0, .slice none 0 0, .int .i64 0, .int .i64 0] 26) = w1 at *
  refine hop.mono ?_
  rintro e w2 ⟨rfl, hR, hE2, hz2⟩
  obtain ⟨R, hRe⟩ : ∃ R, R = w1.heap.size := ⟨_, rfl⟩
  have hz1a := Nat.le_of_eq hz1
  have hz1b := Nat.le_of_eq hz1.symm
  have hz2a := Nat.le_of_eq hz2
  have hz2b := Nat.le_of_eq hz2.symm
  rw [← hRe] at hR ⊢
  have hRa := Nat.le_of_eq hRe
  have hRb := Nat.le_of_eq hRe.symm
  have hEw := hE1.trans hE2
  replace hb := hb.ext hE2
  clear hop hRe hz1 hz2 hE1 hE2 h
  go_wp2_with fail
  refine (l11AnyGraph_any R 0 w2 hR (by omega)).mono ?_
  rintro e w3 ⟨d0, d1, u0, u1, x2, x3, q, rfl, ⟨HD0, hD0, _⟩, ⟨HD1, hD1, _⟩, _, hR3, hq, hO3⟩
  have hz3 := hO3.size
  have hb3 := hb.only hO3 (.inl (by omega))
  have hE3 : Ext w w3 := Chg.toExt hEw hO3.toChg (fun x hx => by omega)
  clear hb hR hO3
  obtain ⟨ua, ucap, ul, _, hq_, rfl, _, _⟩ := list_shape HD0 hD0
  clear hq_
  obtain ⟨va, vcap, vl, _, hq_, rfl, _, _⟩ := list_shape HD1 hD1
  clear hq_
  obtain ⟨⟨y0, y1, y2, y3⟩, z0, z1, z2, z3⟩ := hb3.four
  obtain ⟨_, hC, hzC⟩ := hb3.put (.slice ua ul ucap) (.slice va vl vcap) (.int .i64 x2) (.int .i64 x3)
  have hEC : Ext w _ := Chg.toExt hE3 hC (fun x hx => by omega)
  have hD05 := hD0.carry hC.size (fun b hb hlt => hC.block b hlt (by omega))
  have hD15 := hD1.carry hC.size (fun b hb hlt => hC.block b hlt (by omega))
  clear hC hzC hb3 hE3 hD0 hD1
  go_wp2
  refine bodyPost_ret (v := .agg #[.slice ua ul ucap, .slice va vl vcap, .int .i64 x2, .int .i64 x3]) (by simp [results, Tryz.results4, go_sem, y0, y1, y2, y3]) rfl ?_
  exact ⟨d0, d1, _, _, x2, x3, rfl, ⟨HD0, hD05.any⟩, ⟨HD1, hD15.any⟩, hEC⟩
end Go.Proofs.YtbhmblkappmfjaaGreat
