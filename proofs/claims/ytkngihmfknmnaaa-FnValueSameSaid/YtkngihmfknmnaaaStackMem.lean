/- Values whose lists lie in memory that is not frozen; that memory tells the value; keys of two addresses and a number. -/
import Derived.Test.YtkngihmfknmnaaaStackThy
import Derived.LaidEql
import Derived.Laws.StructEq
import Derived.WideKeyRuns
import Derived.ChangeMaps
namespace Go.Proofs.Ytkngihmfknmnaaa
open Go.RowKit Go.Deep

/-- The value v lies in w as x, its lists in blocks that are not frozen. -/
inductive ValP (w : World) : V → Value → Prop
  | mk (kind num : Int) (text : ByteArray) (l : List V) (a : Option Addr) (cap b off : Nat) (c0 c1 c2 c3 : Nat → Value)
    (hk : (Lit.int .i64 kind).wf = true) (hn : (Lit.int .i64 num).wf = true) (ht : text.size ≤ maxLen) (hl : l.length ≤ maxLen)
    (ha : 0 < l.length → a = some ⟨b, off, none⟩ ∧ b < w.heap.size ∧ ∀ o, w.frozen? ⟨b, o, none⟩ = false)
    (hc : ∀ i, i < l.length → w.cell? ⟨b, off + i * 4, none⟩ = some (c0 i) ∧ w.cell? ⟨b, off + i * 4 + 1, none⟩ = some (c1 i) ∧ w.cell? ⟨b, off + i * 4 + 2, none⟩ = some (c2 i) ∧ w.cell? ⟨b, off + i * 4 + 3, none⟩ = some (c3 i))
    (hv : ∀ i (hi : i < l.length), ValP w l[i] (.agg #[c0 i, c1 i, c2 i, c3 i])) :
    ValP w (.mk kind num text l) (.agg #[.int .i64 kind, .int .i64 num, .string text, .slice a l.length cap])

theorem ValP.toIn {w : World} {x : V} {v : Value} (h : ValP w x v) : ValIn 0 w x v := by
  induction h with
  | mk kind num text l a cap b off c0 c1 c2 c3 hk hn ht hl ha hc hv ih =>
    exact .mk kind num text l a cap b off c0 c1 c2 c3 hk hn ht hl (fun h0 => ⟨(ha h0).1, Nat.zero_le _, (ha h0).2.1⟩) hc ih
theorem ValP.ext {w w' : World} {x : V} {v : Value} (h : ValP w x v) (e : Ext w w') : ValP w' x v := by
  induction h with
  | mk kind num text l a cap b off c0 c1 c2 c3 hk hn ht hl ha hc hv ih =>
    refine .mk kind num text l a cap b off c0 c1 c2 c3 hk hn ht hl (fun h0 => ⟨(ha h0).1, Nat.lt_of_lt_of_le (ha h0).2.1 e.le, fun o => ?_⟩) (fun i hi => ?_) ih
    · rw [Below.frozen e (p := ⟨b, o, none⟩) (ha h0).2.1]; exact (ha h0).2.2 o
    · have h0 := (ha (by omega)).2.1
      have ec : ∀ o, w'.cell? ⟨b, o, none⟩ = w.cell? ⟨b, o, none⟩ := fun o => Ext.cell e (p := ⟨b, o, none⟩) h0
      simp only [ec]
      exact hc i hi
/-- The slice v lies in w as the list l, in memory that is not frozen. -/
def ListP (w : World) (l : List V) (a : Option Addr) : Prop :=
  l.length ≤ maxLen ∧ (0 < l.length → ∃ b off, a = some ⟨b, off, none⟩ ∧ b < w.heap.size ∧ (∀ o, w.frozen? ⟨b, o, none⟩ = false) ∧
    ∀ i (hi : i < l.length), ∃ d0 d1 d2 d3, w.cell? ⟨b, off + i * 4, none⟩ = some d0 ∧ w.cell? ⟨b, off + i * 4 + 1, none⟩ = some d1 ∧ w.cell? ⟨b, off + i * 4 + 2, none⟩ = some d2 ∧ w.cell? ⟨b, off + i * 4 + 3, none⟩ = some d3 ∧ ValP w l[i] (.agg #[d0, d1, d2, d3]))
theorem ValP.open {w : World} {kind num : Int} {text : ByteArray} {l : List V} {v : Value} (h : ValP w (.mk kind num text l) v) :
    ∃ a cap, v = .agg #[.int .i64 kind, .int .i64 num, .string text, .slice a l.length cap] ∧ (Lit.int .i64 kind).wf = true ∧ (Lit.int .i64 num).wf = true ∧ text.size ≤ maxLen ∧ ListP w l a := by
  cases h with
  | mk _ _ _ _ a cap b off c0 c1 c2 c3 hk hn ht hl ha hc hv =>
    refine ⟨a, cap, rfl, hk, hn, ht, hl, fun h0 => ⟨b, off, (ha h0).1, (ha h0).2.1, (ha h0).2.2, fun i hi => ⟨c0 i, c1 i, c2 i, c3 i, (hc i hi).1, (hc i hi).2.1, (hc i hi).2.2.1, (hc i hi).2.2.2, hv i hi⟩⟩⟩

/-- Memory tells the value. -/
theorem ValP.inj : ∀ (x : V) (y : V) (w : World) (v : Value), ValP w x v → ValP w y v → x = y := by
  refine V.ind fun k n t l ih => ?_
  intro y w v hx hy
  obtain ⟨k', n', t', l'⟩ := y
  obtain ⟨a, cap, rfl, _, _, _, _, hL⟩ := hx.open
  obtain ⟨a', cap', he, _, _, _, _, hL'⟩ := hy.open
  simp only [Value.agg.injEq, Array.mk.injEq, List.cons.injEq, and_true, Value.int.injEq, true_and, Value.string.injEq, Value.slice.injEq] at he
  obtain ⟨rfl, rfl, rfl, rfl, hlen, _⟩ := he
  have : l = l' := by
    refine List.ext_getElem hlen fun i h1 h2 => ?_
    obtain ⟨b, off, ea, _, _, hcs⟩ := hL (by omega)
    obtain ⟨b', off', ea', _, _, hcs'⟩ := hL' (by omega)
    rw [ea] at ea'
    simp only [Option.some.injEq, Addr.mk.injEq, and_true] at ea'
    obtain ⟨rfl, rfl⟩ := ea'
    obtain ⟨d0, d1, d2, d3, g0, g1, g2, g3, p⟩ := hcs i h1
    obtain ⟨f0, f1, f2, f3, i0, i1, i2, i3, p'⟩ := hcs' i h2
    rw [g0] at i0; rw [g1] at i1; rw [g2] at i2; rw [g3] at i3
    cases i0; cases i1; cases i2; cases i3
    exact ih i h1 _ _ _ p p'
  rw [this]
theorem ListP.inj {w : World} {l l' : List V} {a : Option Addr} (h : ListP w l a) (h' : ListP w l' a) (hlen : l.length = l'.length) : l = l' := by
  refine List.ext_getElem hlen fun i h1 h2 => ?_
  obtain ⟨b, off, ea, _, _, hcs⟩ := h.2 (by omega)
  obtain ⟨b', off', ea', _, _, hcs'⟩ := h'.2 (by omega)
  rw [ea] at ea'
  simp only [Option.some.injEq, Addr.mk.injEq, and_true] at ea'
  obtain ⟨rfl, rfl⟩ := ea'
  obtain ⟨d0, d1, d2, d3, g0, g1, g2, g3, p⟩ := hcs i h1
  obtain ⟨f0, f1, f2, f3, i0, i1, i2, i3, p'⟩ := hcs' i h2
  rw [g0] at i0; rw [g1] at i1; rw [g2] at i2; rw [g3] at i3
  cases i0; cases i1; cases i2; cases i3
  exact ValP.inj _ _ _ _ p p'

/-- An address whose block is cells, none of them frozen. -/
def Cool (w : World) (a : Addr) : Prop := ∃ c t f, w.heap[a.block]? = some (.cells c t f) ∧ ∀ o, w.frozen? ⟨a.block, o, none⟩ = false
theorem Cool.ext {w w' : World} {a : Addr} (h : Cool w a) (e : Ext w w') : Cool w' a := by
  obtain ⟨c, t, f, hb, hf⟩ := h
  have hlt : a.block < w.heap.size := (Array.getElem?_eq_some_iff.1 hb).1
  exact ⟨c, t, f, by rw [Below.block e _ hlt]; exact hb, fun o => by rw [Below.frozen e (p := ⟨a.block, o, none⟩) hlt]; exact hf o⟩
theorem Cool.of_cell {w : World} {b off : Nat} {v : Value} (h : w.cell? ⟨b, off, none⟩ = some v) (hf : ∀ o, w.frozen? ⟨b, o, none⟩ = false) : Cool w ⟨b, off, none⟩ := by
  unfold World.cell? at h
  dsimp only at h
  split at h
  · rename_i c t f he
    exact ⟨c, t, f, he, hf⟩
  · cases h
theorem run_sameAddr_cool {w : World} {a b : Addr} (ha : Cool w a) (hb : Cool w b) : (sameAddr a b).run Try.prog w = .ok (decide (a = b)) w := by
  obtain ⟨ca, ta, fa, ha, fa0⟩ := ha
  obtain ⟨cb, tb, fb, hb, fb0⟩ := hb
  have f0 : ∀ o : Addr, o.block = a.block → w.frozen? o = false := fun o ho => by have := fa0 o.off; unfold World.frozen? at this ⊢; rw [ho]; exact this
  have f1 : ∀ o : Addr, o.block = b.block → w.frozen? o = false := fun o ho => by have := fb0 o.off; unfold World.frozen? at this ⊢; rw [ho]; exact this
  by_cases hbl : a.block = b.block
  · by_cases hab : a = b
    · subst hab; simp [sameAddr]
    · simp [sameAddr, hbl, hab]
  · have hab : ¬ a = b := fun h => hbl (by rw [h])
    simp [sameAddr, hbl, hab, f0, f1, ha, hb, noView, viewAt, World.shape?, mayBeOne, stringish]
end Go.Proofs.Ytkngihmfknmnaaa
