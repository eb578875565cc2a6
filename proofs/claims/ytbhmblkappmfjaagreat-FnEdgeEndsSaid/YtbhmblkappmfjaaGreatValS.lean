/- Values in memory in blocks of a given kind; rows of values that grow by append; boxes and readers behind what turns other blocks. -/
import Derived.Test.YtbhmblkappmfjaaGreatBoxes
import Derived.Test.YtbhmblkappmfjaaGreatDr
import Derived.Deep.AppendLies
namespace Go.Proofs.YtbhmblkappmfjaaGreat
open Go.RowKit Go.Deep

/-- The value v lies in w as x; all blocks that it goes through are of S. -/
inductive ValS (S : Nat → Prop) (w : World) : V → Value → Prop
  | mk (kind num : Int) (text : ByteArray) (l : List V) (a : Option Addr) (cap b off : Nat) (c0 c1 c2 c3 : Nat → Value)
    (hk : (Lit.int .i64 kind).wf = true) (hn : (Lit.int .i64 num).wf = true) (ht : text.size ≤ maxLen) (hl : l.length ≤ 1048576)
    (ha : 0 < l.length → a = some ⟨b, off, none⟩ ∧ S b ∧ b < w.heap.size ∧ ∀ o, w.frozen? ⟨b, o, none⟩ = false)
    (hc : ∀ i, i < l.length → w.cell? ⟨b, off + i * 4, none⟩ = some (c0 i) ∧ w.cell? ⟨b, off + i * 4 + 1, none⟩ = some (c1 i) ∧ w.cell? ⟨b, off + i * 4 + 2, none⟩ = some (c2 i) ∧ w.cell? ⟨b, off + i * 4 + 3, none⟩ = some (c3 i))
    (hv : ∀ i (hi : i < l.length), ValS S w l[i] (.agg #[c0 i, c1 i, c2 i, c3 i])) :
    ValS S w (.mk kind num text l) (.agg #[.int .i64 kind, .int .i64 num, .string text, .slice a l.length cap])

theorem ValS.carry {S S' : Nat → Prop} {w w' : World} (hs : w.heap.size ≤ w'.heap.size) (hS : ∀ b, S b → b < w.heap.size → S' b) (hb : ∀ b, S b → b < w.heap.size → w'.heap[b]? = w.heap[b]?) {x : V} {v : Value} (h : ValS S w x v) : ValS S' w' x v := by
  induction h with
  | mk kind num text l a cap b off c0 c1 c2 c3 hk hn ht hl ha hc hv ih =>
    refine .mk kind num text l a cap b off c0 c1 c2 c3 hk hn ht hl (fun h0 => ⟨(ha h0).1, hS b (ha h0).2.1 (ha h0).2.2.1, Nat.lt_of_lt_of_le (ha h0).2.2.1 hs, fun o => by rw [World.frozen?_of_block (a := ⟨b, o, none⟩) (hb b (ha h0).2.1 (ha h0).2.2.1)]; exact (ha h0).2.2.2 o⟩) (fun i hi => ?_) ih
    have h0 := ha (by omega)
    have e : ∀ o, w'.cell? ⟨b, o, none⟩ = w.cell? ⟨b, o, none⟩ := fun o => World.cell?_of_block (hb b h0.2.1 h0.2.2.1)
    simp only [e]
    exact hc i hi
theorem ValS.mono {S S' : Nat → Prop} {w : World} (hS : ∀ b, S b → b < w.heap.size → S' b) {x : V} {v : Value} (h : ValS S w x v) : ValS S' w x v := h.carry (Nat.le_refl _) hS (fun _ _ _ => rfl)
theorem ValS.ext {S : Nat → Prop} {w w' : World} {x : V} {v : Value} (h : ValS S w x v) (e : Ext w w') : ValS S w' x v := h.carry e.le (fun _ h _ => h) (fun b _ h2 => Below.block e b h2)
theorem ValS.small {S : Nat → Prop} {w : World} {x : V} {v : Value} (h : ValS S w x v) : Small x := by
  induction h with
  | mk kind num text l a cap b off c0 c1 c2 c3 hk hn ht hl ha hc hv ih => exact .mk kind num text l hl ih
theorem ValS.shape {S : Nat → Prop} {w : World} {x : V} {v : Value} (h : ValS S w x v) : ∃ kk nn tt aa ll cc, v = .agg #[.int .i64 kk, .int .i64 nn, .string tt, .slice aa ll cc] := by
  cases h with
  | mk _ _ _ _ a cap b off c0 c1 c2 c3 hk hn ht hl ha hc hv => exact ⟨_, _, _, _, _, _, rfl⟩
theorem ValS.flat (S : Nat → Prop) (w : World) (k n : Int) (t : ByteArray) (hk : (Lit.int .i64 k).wf = true) (hn : (Lit.int .i64 n).wf = true) (ht : t.size ≤ maxLen) : ValS S w (.mk k n t []) (.agg #[.int .i64 k, .int .i64 n, .string t, .slice none 0 0]) :=
  .mk k n t [] none 0 0 0 (fun _ => undef) (fun _ => undef) (fun _ => undef) (fun _ => undef) hk hn ht (by simp) (fun h => absurd h (by simp)) (fun i hi => absurd hi (by simp)) (fun i hi => absurd hi (by simp))

/-- The slice u owns its row: the values of l, each in blocks from base on other than the row's own. -/
def RowS (base : Nat) (w : World) (l : List V) (u : Value) (cs : List Value) : Prop :=
  w.ownsRow base 73 4 u l.length cs ∧ ∀ j (hj : j < l.length), ∃ c0 c1 c2 c3, cs[j * 4]? = some c0 ∧ cs[j * 4 + 1]? = some c1 ∧ cs[j * 4 + 2]? = some c2 ∧ cs[j * 4 + 3]? = some c3 ∧ ValS (fun b => base ≤ b ∧ u.ownBlock ≠ some b) w l[j] (.agg #[c0, c1, c2, c3])
theorem RowS.nil (base : Nat) (w : World) : RowS base w [] (.slice none 0 0) [] := ⟨World.ownsRow_nil _ _ _ _, fun j hj => absurd hj (by simp)⟩
theorem ownsRow_carry {base : Nat} {w w' : World} {T : TypeId} {sz : Nat} {u : Value} {n : Nat} {cs : List Value} (h : w.ownsRow base T sz u n cs) (hb : ∀ b, base ≤ b → b < w.heap.size → w'.heap[b]? = w.heap[b]?) : w'.ownsRow base T sz u n cs := by
  refine ⟨h.1, ?_⟩
  rcases h.2 with h0 | ⟨g, cap, cur, h1, h2, h3, h4⟩
  · exact .inl h0
  · exact .inr ⟨g, cap, cur, h1, h2, by rw [hb g h2 (lt_of_block h3)]; exact h3, h4⟩
theorem RowS.carry {base : Nat} {w w' : World} {l : List V} {u : Value} {cs : List Value} (h : RowS base w l u cs) (hz : w.heap.size ≤ w'.heap.size) (hb : ∀ b, base ≤ b → b < w.heap.size → w'.heap[b]? = w.heap[b]?) : RowS base w' l u cs := by
  refine ⟨ownsRow_carry h.1 hb, fun j hj => ?_⟩
  obtain ⟨c0, c1, c2, c3, g0, g1, g2, g3, hv⟩ := h.2 j hj
  exact ⟨c0, c1, c2, c3, g0, g1, g2, g3, hv.carry hz (fun _ h _ => h) (fun b h1 h2 => hb b h1.1 h2)⟩
theorem RowS.only {base lo hi : Nat} {w w' : World} {l : List V} {u : Value} {cs : List Value} (h : RowS base w l u cs) (e : Only lo hi w w') (ho : hi ≤ base) : RowS base w' l u cs := h.carry e.size (fun b h1 h2 => e.block b h2 (.inr (Nat.le_trans ho h1)))
theorem RowS.ext {base : Nat} {w w' : World} {l : List V} {u : Value} {cs : List Value} (h : RowS base w l u cs) (e : Ext w w') : RowS base w' l u cs := h.carry e.le (fun b _ h2 => Below.block e b h2)
theorem RowS.shape {base : Nat} {w : World} {l : List V} {u : Value} {cs : List Value} (h : RowS base w l u cs) : ∃ a cap, u = .slice a l.length cap := by
  rcases h.1.2 with ⟨h0, h1⟩ | ⟨g, cap, cur, h1, h2⟩
  · exact ⟨none, 0, by rw [h0, h1]⟩
  · exact ⟨_, _, h1⟩
/-- A row with one value more. -/
theorem RowS.push {base : Nat} {w w' : World} {l : List V} {u v' : Value} {cs : List Value} {x : V} {d0 d1 d2 d3 : Value} (h : RowS base w l u cs) (hx : ValS (fun b => base ≤ b ∧ u.ownBlock ≠ some b) w x (.agg #[d0, d1, d2, d3]))
    (hown : w'.ownsRow base 73 4 v' (l.length + 1) (cs ++ [d0, d1, d2, d3])) (hg : w.grownBy w' u.ownBlock) (hat : v'.ownBlock = u.ownBlock ∨ v'.ownBlock = some w.heap.size) : RowS base w' (l ++ [x]) v' (cs ++ [d0, d1, d2, d3]) := by
  have hlen : cs.length = l.length * 4 := h.1.1
  have key : ∀ (y : V) (e : Value), ValS (fun b => base ≤ b ∧ u.ownBlock ≠ some b) w y e → ValS (fun b => base ≤ b ∧ v'.ownBlock ≠ some b) w' y e := by
    intro y e hy
    refine hy.carry hg.size (fun b hb hlt => ⟨hb.1, ?_⟩) (fun b hb hlt => hg.block b hlt (fun e => hb.2 e.symm))
    rcases hat with e | e
    · rw [e]; exact hb.2
    · rw [e]; intro e2; cases e2; omega
  refine ⟨by simpa using hown, fun j hj => ?_⟩
  by_cases hjl : j < l.length
  · obtain ⟨c0, c1, c2, c3, g0, g1, g2, g3, hv⟩ := h.2 j hjl
    refine ⟨c0, c1, c2, c3, ?_, ?_, ?_, ?_, ?_⟩
    · rw [List.getElem?_append_left (by omega)]; exact g0
    · rw [List.getElem?_append_left (by omega)]; exact g1
    · rw [List.getElem?_append_left (by omega)]; exact g2
    · rw [List.getElem?_append_left (by omega)]; exact g3
    · rw [List.getElem_append_left hjl]; exact key _ _ hv
  · have hje : j = l.length := by simp at hj; omega
    subst hje
    refine ⟨d0, d1, d2, d3, ?_, ?_, ?_, ?_, ?_⟩
    · rw [List.getElem?_append_right (by omega), show l.length * 4 - cs.length = 0 by omega]; rfl
    · rw [List.getElem?_append_right (by omega), show l.length * 4 + 1 - cs.length = 1 by omega]; rfl
    · rw [List.getElem?_append_right (by omega), show l.length * 4 + 2 - cs.length = 2 by omega]; rfl
    · rw [List.getElem?_append_right (by omega), show l.length * 4 + 3 - cs.length = 3 by omega]; rfl
    · rw [List.getElem_append_right (Nat.le_refl _)]; simpa using key _ _ hx
theorem ValS.of_row {base : Nat} {w : World} {l : List V} {u : Value} {cs : List Value} {kind num : Int} {text : ByteArray} (hk : (Lit.int .i64 kind).wf = true) (hn : (Lit.int .i64 num).wf = true) (ht : text.size ≤ maxLen) (hlen : l.length ≤ 1048576) (h : RowS base w l u cs) :
    ValS (fun b => base ≤ b) w (.mk kind num text l) (.agg #[.int .i64 kind, .int .i64 num, .string text, u]) := by
  rcases h.1.2 with ⟨h0, h1⟩ | ⟨g, cap, cur, h1, h2, h3, _⟩
  · have : l = [] := List.length_eq_zero_iff.1 h1
    subst this
    rw [h0]
    exact .flat _ _ _ _ _ hk hn ht
  · have hcell : ∀ (o : Nat) (c : Value), cs[o]? = some c → w.cell? ⟨g, 0 + o, none⟩ = some c := by
      intro o c hc
      have := h.1.cells (g := g) (by rw [h1]; rfl) o c hc
      rw [Go.WideShapes.add_plain] at this
      exact this
    rw [h1]
    refine .mk kind num text l _ cap g 0 (fun i => cs[i * 4]?.getD undef) (fun i => cs[i * 4 + 1]?.getD undef) (fun i => cs[i * 4 + 2]?.getD undef) (fun i => cs[i * 4 + 3]?.getD undef) hk hn ht hlen (fun _ => ⟨rfl, h2, lt_of_block h3, fun o => by simp [World.frozen?, h3]⟩) (fun i hi => ?_) (fun i hi => ?_)
    · obtain ⟨c0, c1, c2, c3, g0, g1, g2, g3, hv⟩ := h.2 i hi
      simp only [g0, g1, g2, g3, Option.getD_some]
      exact ⟨hcell _ _ g0, hcell (i * 4 + 1) _ g1, hcell (i * 4 + 2) _ g2, hcell (i * 4 + 3) _ g3⟩
    · obtain ⟨c0, c1, c2, c3, g0, g1, g2, g3, hv⟩ := h.2 i hi
      simp only [g0, g1, g2, g3, Option.getD_some]
      exact hv.mono (fun b hb _ => hb.1)

theorem NewBox.block {BW W W' : World} {p : Nat} (h : NewBox BW W p) (hz : W.heap.size ≤ W'.heap.size) (e : W'.heap[p]? = W.heap[p]?) : NewBox BW W' p :=
  ⟨h.lo, h.box.block hz e, fun o => by rw [World.frozen?_of_block (a := ⟨p, o, none⟩) e]; exact h.frozen o⟩
theorem NewBox.only {BW W W' : World} {p lo hi : Nat} (h : NewBox BW W p) (e : Only lo hi W W') (ho : p < lo ∨ hi ≤ p) : NewBox BW W' p := h.block e.size (e.block p h.box.lt ho)
theorem RdAt.carry {w w' : World} {R p : Nat} (h : RdAt w R p) (hz : w.heap.size ≤ w'.heap.size) (hb : ∀ b, b ≤ R → w'.heap[b]? = w.heap[b]?) : RdAt w' R p := by
  obtain ⟨lt, ⟨a, n, cap, b, off, c, h0, hn, ha, hc⟩, hp, hf⟩ := h
  refine ⟨Nat.lt_of_lt_of_le lt hz, ⟨a, n, cap, b, off, c, ?_, hn, ha, fun i hi => ?_⟩, ?_, ?_⟩
  · rw [World.cell?_of_block (w := w) (hb R (Nat.le_refl _))]; exact h0
  · have hb2 := (ha (by omega)).2
    rw [World.cell?_of_block (w := w) (hb b (by omega))]; exact hc i hi
  · rw [World.cell?_of_block (w := w) (hb R (Nat.le_refl _))]; exact hp
  · rw [World.frozen?_of_block (w := w) (hb R (Nat.le_refl _))]; exact hf
theorem RdAt.setFar {w : World} {R p : Nat} (h : RdAt w R p) {q : Addr} (hq : R < q.block) (u : Value) : RdAt (w.setCell q u) R p :=
  h.carry (by simp) (fun b hb => Below.heap_setCell _ _ _ _ (by omega))
theorem RdAt.grown {w w' : World} {R p : Nat} {row : Option Nat} (h : RdAt w R p) (e : w.grownBy w' row) (hr : ∀ k, row = some k → R < k) : RdAt w' R p :=
  h.carry e.size (fun b hb => e.block b (by have := h.lt; omega) (fun e2 => by have := hr b e2.symm; omega))
theorem Only.grown {lo hi : Nat} {a b c : World} (h : Only lo hi a b) {row : Option Nat} (e : b.grownBy c row) (hr : ∀ k, row = some k → a.heap.size ≤ k) : Only lo hi a c :=
  ⟨e.os.trans h.os, e.tape.trans h.tape, e.output.trans h.output, Nat.le_trans h.size e.size, fun i hi ho => by
    rw [e.block i (Nat.lt_of_lt_of_le hi h.size) (fun e2 => by have := hr i e2.symm; omega)]; exact h.block i hi ho⟩
/-- Four cells of a new box are written: the reader stays, and what lay there. -/
theorem draw_close {w W : World} {R q p : Nat} (hR : RdAt W R q) (hO : Only R (R + 1) w W) (hlt : R < p) (hp : w.heap.size ≤ p) (c0 c1 c2 c3 : Value) :
    RdAt ((((W.setCell ⟨p, 0, none⟩ c0).setCell ⟨p, 1, none⟩ c1).setCell ⟨p, 2, none⟩ c2).setCell ⟨p, 3, none⟩ c3) R q ∧ Only R (R + 1) w ((((W.setCell ⟨p, 0, none⟩ c0).setCell ⟨p, 1, none⟩ c1).setCell ⟨p, 2, none⟩ c2).setCell ⟨p, 3, none⟩ c3) :=
  ⟨(((hR.setFar hlt _).setFar hlt _).setFar hlt _).setFar hlt _, (((hO.setNew (p := ⟨p, 0, none⟩) hp _).setNew (p := ⟨p, 1, none⟩) hp _).setNew (p := ⟨p, 2, none⟩) hp _).setNew (p := ⟨p, 3, none⟩) hp _⟩
end Go.Proofs.YtbhmblkappmfjaaGreat
