/- A value that reads as data is one that lies in memory. -/
import Derived.Test.YtdplieoilfhddaaValMem
import Derived.ProofKit
import Derived.Deep.Slices
namespace Go.Proofs.Ytdplieoilfhddaa
open Go.RowKit Go.Deep Go.WideShapes Go.ChangeShapes

instance : Inhabited V := ⟨.mk 0 0 ⟨#[]⟩ []⟩

theorem Try.cellsLV : Try.prog.cellsOf 24 = 4 := by kernel_rfl
theorem Try.cells3 : Try.prog.cellsOf 3 = 1 := by kernel_rfl
theorem Try.cells9 : Try.prog.cellsOf 9 = 1 := by kernel_rfl
theorem Try.cellsLVS : Try.prog.cellsOf 22 = 1 := by kernel_rfl

theorem cells4 {w : World} {base : Nat} {b o : Nat} {sp : Option Nat} {c0 c1 c2 c3 : Value} (h : w.cells? base (⟨b, o, sp⟩ : Addr) 4 = some [c0, c1, c2, c3]) :
    sp = none ∧ b < w.heap.size ∧ w.cell? ⟨b, o, none⟩ = some c0 ∧ w.cell? ⟨b, o + 1, none⟩ = some c1 ∧ w.cell? ⟨b, o + 2, none⟩ = some c2 ∧ w.cell? ⟨b, o + 3, none⟩ = some c3 := by
  have hb := World.cells?_block h (by omega)
  obtain ⟨_, _, hs⟩ := World.cells?_some h
  have e0 := hs 0 (by omega)
  have e1 := hs 1 (by omega)
  have e2 := hs 2 (by omega)
  have e3 := hs 3 (by omega)
  simp [Addr.add] at e0 e1 e2 e3
  have hsp : sp = none := by simpa using World.cell?_spot e0
  subst hsp
  exact ⟨rfl, hb, e0, e1, e2, e3⟩

theorem open_val {H : Type} {enc : TypeId × Value → H} {W : World} {sp : Nat → Bool} (fuel : Nat) : ∀ (cs : List Value) (x : DataW H × List MemPlace),
    DataW.trod enc Try.prog W 0 sp true fuel 24 cs = some x → ∃ c0 c1 c2 c3 y, cs = [c0, c1, c2, c3] ∧ ValIn 0 W y (.agg #[c0, c1, c2, c3]) := by
  induction fuel using Nat.strongRecOn with
  | ind fuel ih =>
    intro cs x h
    obtain ⟨xs, n, hn, _, hl, hlen, hf⟩ := DataW.trod_struct Try.underlying24 h
    rw [Try.cellsLV] at hl
    obtain ⟨c0, c1, c2, c3, rfl⟩ : ∃ c0 c1 c2 c3, cs = [c0, c1, c2, c3] := by
      match cs, hl with
      | [c0, c1, c2, c3], _ => exact ⟨c0, c1, c2, c3, rfl⟩
    obtain ⟨y0, y1, y2, y3, rfl⟩ : ∃ y0 y1 y2 y3, xs = [y0, y1, y2, y3] := by
      match xs, hlen with
      | [y0, y1, y2, y3], _ => exact ⟨y0, y1, y2, y3, rfl⟩
    have f0 := hf 0 _ rfl
    have f1 := hf 1 _ rfl
    have f2 := hf 2 _ rfl
    have f3 := hf 3 _ rfl
    simp [Try.cells3, Try.cells9, Try.cellsLVS] at f0 f1 f2 f3
    obtain ⟨k, e0, _, wk⟩ := DataW.trod_int Try.underlying3 f0
    obtain ⟨m, e1, _, wm⟩ := DataW.trod_int Try.underlying3 f1
    obtain ⟨t, e2, _, wt⟩ := DataW.trod_string Try.underlying9 f2
    simp at e0 e1 e2
    subst e0 e1 e2
    refine ⟨.int .i64 k, .int .i64 m, .string t, c3, ?_⟩
    rcases DataW.trod_slice Try.underlying22 f3 with ⟨hc, _⟩ | ⟨a, len, cap, elems, rest, n', hn', hc, _, _, hle, hcap, hel, hat, _⟩
    · simp at hc
      subst hc
      exact ⟨.mk k m t [], rfl, ValIn.mk k m t [] none 0 0 0 (fun _ => undef) (fun _ => undef) (fun _ => undef) (fun _ => undef) wk wm wt (by simp) (fun h => by simp at h) (fun i hi => by simp at hi) (fun i hi => by simp at hi)⟩
    · simp at hc
      subst hc
      rw [Try.cellsLV] at hat
      obtain ⟨b, o, spot⟩ := a
      have each : ∀ i, i < len → ∃ q : (Value × Value × Value × Value) × V, spot = none ∧ b < W.heap.size ∧ W.cell? ⟨b, o + i * 4, none⟩ = some q.1.1 ∧ W.cell? ⟨b, o + i * 4 + 1, none⟩ = some q.1.2.1 ∧ W.cell? ⟨b, o + i * 4 + 2, none⟩ = some q.1.2.2.1 ∧ W.cell? ⟨b, o + i * 4 + 3, none⟩ = some q.1.2.2.2 ∧
          ValIn 0 W q.2 (.agg #[q.1.1, q.1.2.1, q.1.2.2.1, q.1.2.2.2]) := by
        intro i hi
        have hb := hat i hi
        rw [List.getElem?_eq_getElem (by omega)] at hb
        obtain ⟨cs', h1, h2⟩ := Option.bind_eq_some_iff.1 hb
        obtain ⟨d0, d1, d2, d3, y, rfl, hy⟩ := ih n' (by omega) cs' _ h2
        by_cases h0 : i = 0
        · subst h0
          have h1' : W.cells? 0 (⟨b, o, spot⟩ : Addr) 4 = some [d0, d1, d2, d3] := by simpa [Addr.add] using h1
          obtain ⟨s1, s2, s3, s4, s5, s6⟩ := cells4 h1'
          refine ⟨((d0, d1, d2, d3), y), s1, s2, ?_, ?_, ?_, ?_, hy⟩ <;> simpa
        · have h1' : W.cells? 0 (⟨b, o + i * 4, none⟩ : Addr) 4 = some [d0, d1, d2, d3] := by
            have e : (⟨b, o, spot⟩ : Addr).add (i * 4) = ⟨b, o + i * 4, none⟩ := by unfold Addr.add; rw [if_neg (by omega)]
            rw [← e]; exact h1
          obtain ⟨_, s2, s3, s4, s5, s6⟩ := cells4 h1'
          have hsp : spot = none := by
            have hb0 := hat 0 (by omega)
            rw [List.getElem?_eq_getElem (by omega)] at hb0
            obtain ⟨cs0, g1, g2⟩ := Option.bind_eq_some_iff.1 hb0
            obtain ⟨d0', d1', d2', d3', _, rfl, _⟩ := ih n' (by omega) cs0 _ g2
            have g1' : W.cells? 0 (⟨b, o, spot⟩ : Addr) 4 = some [d0', d1', d2', d3'] := by simpa [Addr.add] using g1
            exact (cells4 g1').1
          exact ⟨((d0, d1, d2, d3), y), hsp, s2, s3, s4, s5, s6, hy⟩
      obtain ⟨q, hq⟩ := choose_lt each
      refine ⟨.mk k m t ((List.range len).map fun i => (q i).2), rfl, ?_⟩
      have hln : ((List.range len).map fun i => (q i).2).length = len := by simp
      have := ValIn.mk (lo := 0) (w := W) k m t ((List.range len).map fun i => (q i).2) (some ⟨b, o, spot⟩) cap b o (fun i => (q i).1.1) (fun i => (q i).1.2.1) (fun i => (q i).1.2.2.1) (fun i => (q i).1.2.2.2) wk wm wt (by rw [hln]; omega)
        (fun h0 => by rw [hln] at h0; have := hq 0 h0; exact ⟨by rw [this.1], Nat.zero_le _, this.2.1⟩)
        (fun i hi => by rw [hln] at hi; have := hq i hi; exact ⟨this.2.2.1, this.2.2.2.1, this.2.2.2.2.1, this.2.2.2.2.2.1⟩)
        (fun i hi => by have hi' : i < len := by rw [hln] at hi; exact hi
                        have := hq i hi'; simp only [List.getElem_map, List.getElem_range]; exact this.2.2.2.2.2.2)
      rwa [hln] at this
end Go.Proofs.Ytdplieoilfhddaa
