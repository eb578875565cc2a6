/- The stack as it lies in memory: eight cells an element. -/
import Derived.Test.YtkngihmfknmnaaaStackKey
import Derived.Laws.OwnMore
import Derived.Deep.AppendLies
namespace Go.Proofs.Ytkngihmfknmnaaa
open Go.RowKit Go.Deep

/-- The slice u, in blocks from base on, holds the pairs of todo; these lie in w. -/
def RowP (w : World) (base : Nat) (wr : World) (todo : List VV) (u : Value) (cs : List Value) : Prop :=
  wr.ownsRow base 56 8 u todo.length cs ∧ ∀ j (hj : j < todo.length), ∃ d0 d1 d2 d3 d4 d5 d6 d7, cs[j * 8]? = some d0 ∧ cs[j * 8 + 1]? = some d1 ∧ cs[j * 8 + 2]? = some d2 ∧ cs[j * 8 + 3]? = some d3 ∧
    cs[j * 8 + 4]? = some d4 ∧ cs[j * 8 + 5]? = some d5 ∧ cs[j * 8 + 6]? = some d6 ∧ cs[j * 8 + 7]? = some d7 ∧ ValP w todo[j].1 (.agg #[d0, d1, d2, d3]) ∧ ValP w todo[j].2 (.agg #[d4, d5, d6, d7])

theorem RowP.grown {w wr wr' : World} {base : Nat} {todo : List VV} {u : Value} {cs : List Value} (h : RowP w base wr todo u cs) {row : Option Nat} (e : wr.grownBy wr' row) (hne : u.ownBlock = none ∨ u.ownBlock ≠ row) : RowP w base wr' todo u cs :=
  ⟨h.1.kept e hne, h.2⟩
theorem RowP.ext {w wr wr' : World} {base : Nat} {todo : List VV} {u : Value} {cs : List Value} (h : RowP w base wr todo u cs) (e : Ext wr wr') : RowP w base wr' todo u cs :=
  h.grown e.grown (by cases h : u.ownBlock <;> simp)
theorem RowP.blocks {w wr wr' : World} {base : Nat} {todo : List VV} {u : Value} {cs : List Value} (h : RowP w base wr todo u cs) (hb : ∀ b, base ≤ b → b < wr.heap.size → wr'.heap[b]? = wr.heap[b]?) : RowP w base wr' todo u cs := by
  refine ⟨⟨h.1.1, ?_⟩, h.2⟩
  rcases h.1.2 with hn | ⟨g, cap, cur, rfl, hbg, hgg, rest⟩
  · exact .inl hn
  · exact .inr ⟨g, cap, cur, rfl, hbg, by rw [hb g hbg (Array.getElem?_eq_some_iff.1 hgg).1]; exact hgg, rest⟩

theorem RowP.start {w W : World} {base p : Nat} {x y : V} {d0 d1 d2 d3 d4 d5 d6 d7 : Value} (hb : base ≤ W.heap.size) (hp : p = W.heap.size) (hx : ValP w x (.agg #[d0, d1, d2, d3])) (hy : ValP w y (.agg #[d4, d5, d6, d7])) :
    RowP w base (W.alloc (.cells #[d0, d1, d2, d3, d4, d5, d6, d7] 56)) [(x, y)] (.slice (some ⟨p, 0, none⟩) 1 1) [d0, d1, d2, d3, d4, d5, d6, d7] := by
  subst hp
  refine ⟨⟨by simp, .inr ⟨W.heap.size, 1, _, rfl, hb, heap_alloc_new W _, by simp, by unfold maxLen; omega, by simp, by simp⟩⟩, fun j hj => ?_⟩
  obtain rfl : j = 0 := by simpa using hj
  exact ⟨d0, d1, d2, d3, d4, d5, d6, d7, rfl, rfl, rfl, rfl, rfl, rfl, rfl, rfl, hx, hy⟩

/-- The last pair: its cells, and the stack without it. -/
theorem RowP.last {w wr : World} {base : Nat} {todo : List VV} {q : VV} {u : Value} {cs : List Value} (h : RowP w base wr (todo ++ [q]) u cs) :
    ∃ g cap d0 d1 d2 d3 d4 d5 d6 d7, u = .slice (some ⟨g, 0, none⟩) (todo.length + 1) cap ∧ todo.length + 1 ≤ cap ∧ cap ≤ maxLen ∧ base ≤ g ∧ g < wr.heap.size ∧
      (wr.cell? ⟨g, todo.length * 8, none⟩ = some d0 ∧ wr.cell? ⟨g, todo.length * 8 + 1, none⟩ = some d1 ∧ wr.cell? ⟨g, todo.length * 8 + 2, none⟩ = some d2 ∧ wr.cell? ⟨g, todo.length * 8 + 3, none⟩ = some d3) ∧
      (wr.cell? ⟨g, todo.length * 8 + 4, none⟩ = some d4 ∧ wr.cell? ⟨g, todo.length * 8 + 5, none⟩ = some d5 ∧ wr.cell? ⟨g, todo.length * 8 + 6, none⟩ = some d6 ∧ wr.cell? ⟨g, todo.length * 8 + 7, none⟩ = some d7) ∧
      ValP w q.1 (.agg #[d0, d1, d2, d3]) ∧ ValP w q.2 (.agg #[d4, d5, d6, d7]) ∧ RowP w base wr todo (.slice (some ⟨g, 0, none⟩) todo.length cap) (cs.take (todo.length * 8)) := by
  obtain ⟨⟨hl, ho⟩, hv⟩ := h
  have hn : (todo ++ [q]).length = todo.length + 1 := by simp
  rw [hn] at hl ho
  rcases ho with ⟨_, h0⟩ | ⟨g, cap, cur, hu, hbg, hgg, hc1, hc2, hc3, htk⟩
  · omega
  obtain ⟨d0, d1, d2, d3, d4, d5, d6, d7, e0, e1, e2, e3, e4, e5, e6, e7, v1, v2⟩ := hv todo.length (by simp)
  have hq : (todo ++ [q])[todo.length]'(by simp) = q := by simp
  rw [hq] at v1 v2
  have hcell : ∀ i d, i < (todo.length + 1) * 8 → cs[i]? = some d → wr.cell? ⟨g, i, none⟩ = some d := by
    intro i d hi hd
    rw [← htk, List.getElem?_take, if_pos hi] at hd
    simp only [World.cell?, hgg]
    simpa using hd
  refine ⟨g, cap, d0, d1, d2, d3, d4, d5, d6, d7, hu, hc1, hc2, hbg, (Array.getElem?_eq_some_iff.1 hgg).1, ⟨hcell _ _ (by omega) e0, hcell _ _ (by omega) e1, hcell _ _ (by omega) e2, hcell _ _ (by omega) e3⟩, ⟨hcell _ _ (by omega) e4, hcell _ _ (by omega) e5, hcell _ _ (by omega) e6, hcell _ _ (by omega) e7⟩, v1, v2, ⟨?_, .inr ⟨g, cap, cur, rfl, hbg, hgg, by omega, hc2, hc3, ?_⟩⟩, fun j hj => ?_⟩
  · rw [List.length_take, hl]; omega
  · rw [← htk, List.take_take]; congr 1; omega
  · obtain ⟨f0, f1, f2, f3, f4, f5, f6, f7, i0, i1, i2, i3, i4, i5, i6, i7, p1, p2⟩ := hv j (by simp; omega)
    have hj2 : (todo ++ [q])[j]'(by simp; omega) = todo[j] := by rw [List.getElem_append_left hj]
    rw [hj2] at p1 p2
    refine ⟨f0, f1, f2, f3, f4, f5, f6, f7, ?_, ?_, ?_, ?_, ?_, ?_, ?_, ?_, p1, p2⟩
    all_goals (rw [List.getElem?_take, if_pos (by omega)]; assumption)

/-- One pair more. -/
theorem RowP.push {w wr wr' : World} {base : Nat} {todo : List VV} {p : VV} {u u' : Value} {cs : List Value} {d0 d1 d2 d3 d4 d5 d6 d7 : Value} (h : RowP w base wr todo u cs)
    (ho : wr'.ownsRow base 56 8 u' (todo.length + 1) (cs ++ [d0, d1, d2, d3, d4, d5, d6, d7])) (hx : ValP w p.1 (.agg #[d0, d1, d2, d3])) (hy : ValP w p.2 (.agg #[d4, d5, d6, d7])) :
    RowP w base wr' (todo ++ [p]) u' (cs ++ [d0, d1, d2, d3, d4, d5, d6, d7]) := by
  have hl := h.1.1
  refine ⟨by rw [List.length_append]; exact ho, fun j hj => ?_⟩
  simp only [List.length_append, List.length_cons, List.length_nil] at hj
  by_cases hjl : j < todo.length
  · obtain ⟨f0, f1, f2, f3, f4, f5, f6, f7, i0, i1, i2, i3, i4, i5, i6, i7, p1, p2⟩ := h.2 j hjl
    have hj2 : (todo ++ [p])[j]'(by simp; omega) = todo[j] := by rw [List.getElem_append_left hjl]
    rw [hj2]
    refine ⟨f0, f1, f2, f3, f4, f5, f6, f7, ?_, ?_, ?_, ?_, ?_, ?_, ?_, ?_, p1, p2⟩
    all_goals (rw [List.getElem?_append_left (by omega)]; assumption)
  · obtain rfl : j = todo.length := by omega
    have hj2 : (todo ++ [p])[todo.length]'(by simp) = p := by simp
    rw [hj2]
    refine ⟨d0, d1, d2, d3, d4, d5, d6, d7, ?_, ?_, ?_, ?_, ?_, ?_, ?_, ?_, hx, hy⟩
    all_goals (rw [List.getElem?_append_right (by omega), hl]; simp)

/-- The keys of what was met: where two lists lie that are among those. -/
def MetOf (w : World) (ks : List Key3) (met : List (List V × List V)) : Prop :=
  ∀ k ∈ ks, (∃ l l', (l, l') ∈ met ∧ l.length = k.2.2 ∧ l'.length = k.2.2 ∧ ListP w l (some k.1) ∧ ListP w l' (some k.2.1)) ∧ k.1.block < w.heap.size ∧ k.2.1.block < w.heap.size
theorem MetOf.find {w : World} {ks : List Key3} {met : List (List V × List V)} (h : MetOf w ks met) {k : Key3} (hk : k ∈ ks) {l l' : List V} (h1 : l.length = k.2.2) (h2 : l'.length = k.2.2) (h3 : ListP w l (some k.1)) (h4 : ListP w l' (some k.2.1)) : (l, l') ∈ met := by
  obtain ⟨⟨m, m', hm, e1, e2, e3, e4⟩, _⟩ := h k hk
  rw [ListP.inj h3 e3 (by omega), ListP.inj h4 e4 (by omega)]
  exact hm
theorem MetOf.put {w : World} {ks : List Key3} {met : List (List V × List V)} (h : MetOf w ks met) {k : Key3} {l l' : List V} (h1 : l.length = k.2.2) (h2 : l'.length = k.2.2) (h3 : ListP w l (some k.1)) (h4 : ListP w l' (some k.2.1)) (b1 : k.1.block < w.heap.size) (b2 : k.2.1.block < w.heap.size) : MetOf w (ks ++ [k]) ((l, l') :: met) := by
  intro q hq
  rcases List.mem_append.1 hq with hq | hq
  · obtain ⟨⟨m, m', hm, e⟩, e2⟩ := h q hq
    exact ⟨⟨m, m', by simp [hm], e⟩, e2⟩
  · simp at hq; subst hq
    exact ⟨⟨l, l', by simp, h1, h2, h3, h4⟩, b1, b2⟩
theorem Cool.along {w wr wr' : World} {a : Addr} (h : Cool wr a) (hb : a.block < w.heap.size) (e : Ext w wr) (e' : Ext w wr') : Cool wr' a := by
  have hblk : wr'.heap[a.block]? = wr.heap[a.block]? := by rw [Below.block e' _ hb, Below.block e _ hb]
  obtain ⟨c, t, f, h1, h2⟩ := h
  exact ⟨c, t, f, by rw [hblk]; exact h1, fun o => by rw [World.frozen?_of_block (a := ⟨a.block, o, none⟩) hblk]; exact h2 o⟩
theorem MetIn.keep {w w' : World} {B : Nat} {ks : List Key3} (h : MetIn w B ks) (hb : w'.heap[B]? = w.heap[B]?) (hc : ∀ k, k ∈ ks → Cool3 w k → Cool3 w' k) : MetIn w' B ks := by
  obtain ⟨es, c, h1, h2, h3, h4⟩ := h
  exact ⟨es, c, by rw [hb]; exact h1, h2, h3, fun x hx => hc x hx (h4 x hx)⟩
theorem MetIn.lt {w : World} {B : Nat} {ks : List Key3} (h : MetIn w B ks) : B < w.heap.size := by
  obtain ⟨es, c, h1, _⟩ := h
  exact (Array.getElem?_eq_some_iff.1 h1).1
theorem MetIn.ext {w w' : World} {B : Nat} {ks : List Key3} (h : MetIn w B ks) (e : Ext w w') : MetIn w' B ks :=
  h.keep (Below.block e B h.lt) (fun _ _ hk => hk.ext e)
theorem MetIn.along {w wr wr' : World} {B : Nat} {ks : List Key3} {met : List (List V × List V)} (h : MetIn wr B ks) (hm : MetOf w ks met) (e : Ext w wr) (e' : Ext w wr') (hb : wr'.heap[B]? = wr.heap[B]?) : MetIn wr' B ks :=
  h.keep hb (fun k hk hc => ⟨hc.1.along (hm k hk).2.1 e e', hc.2.along (hm k hk).2.2 e e'⟩)
/-- The two lists of a pair, by their addresses. -/
theorem ListP.cool {w wr : World} {l : List V} {b off : Nat} (h : ListP w l (some ⟨b, off, none⟩)) (h0 : 0 < l.length) (e : Ext w wr) : Cool wr ⟨b, off, none⟩ ∧ b < w.heap.size := by
  obtain ⟨b', off', ea, hb, hf, hcs⟩ := h.2 h0
  simp only [Option.some.injEq, Addr.mk.injEq, and_true] at ea
  obtain ⟨rfl, rfl⟩ := ea
  obtain ⟨d0, _, _, _, g0, _⟩ := hcs 0 h0
  simp only [Nat.zero_mul, Nat.add_zero] at g0
  exact ⟨(Cool.of_cell g0 hf).ext e, hb⟩
end Go.Proofs.Ytkngihmfknmnaaa
