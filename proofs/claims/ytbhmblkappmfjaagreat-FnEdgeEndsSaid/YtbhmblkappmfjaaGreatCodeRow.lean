/- A slice of bytes that came in, as the reader of a drawn code wants it. -/
import Derived.Test.YtbhmblkappmfjaaGreatDr
namespace Go.Proofs.YtbhmblkappmfjaaGreat
open Go.RowKit Go.Deep

/-- The slice is nil, or leads to a row of 'cap' numbers of kind k. -/
def IsRow (k : IntKind) (w : World) (a : Option Addr) (len cap : Nat) (zs : List Int) : Prop :=
  (a = none ∧ len = 0 ∧ cap = 0 ∧ zs = []) ∨
  ∃ x, a = some x ∧ len ≤ cap ∧ cap ≤ maxLen ∧ zs.length = cap ∧ (∀ i, i < zs.length → w.cell? (x.add i) = some (.int k (zs.getD i 0))) ∧ ∀ n ∈ zs, (Lit.int k n).wf = true

theorem CodeIn.of_row {w : World} {a : Option Addr} {len cap : Nat} {zs : List Int} (h : IsRow .u8 w a len cap zs) (hlen : len ≤ 1048576) : CodeIn w a len cap := by
  rcases h with ⟨rfl, rfl, rfl, rfl⟩ | ⟨x, rfl, h1, h2, h3, h4, h5⟩
  · exact ⟨Nat.zero_le _, Nat.zero_le _, 0, 0, fun _ => 0, fun h => absurd h (by omega), fun i hi => absurd hi (by omega)⟩
  · refine ⟨hlen, h1, x.block, x.off, fun i => zs.getD i 0, fun h0 => ?_, fun i hi => ?_⟩
    · have e0 := h4 0 (by omega)
      have e1 : x.add 0 = x := by unfold Addr.add; rw [if_pos rfl]
      rw [e1] at e0
      have hlt := World.block_lt_of_cell? w _ e0
      obtain ⟨b, o, sp⟩ := x
      have hsp : sp = none := by simpa using World.cell?_spot e0
      subst hsp
      exact ⟨rfl, hlt⟩
    · have e0 := h4 i (by omega)
      have hw : (Lit.int .u8 (zs.getD i 0)).wf = true := by
        refine h5 _ ?_
        rw [List.getD_eq_getElem?_getD, List.getElem?_eq_getElem (by omega)]
        exact List.getElem_mem _
      have hb : 0 ≤ zs.getD i 0 ∧ zs.getD i 0 ≤ 255 := by simpa [Lit.wf, IntKind.min, IntKind.max, IntKind.signed, IntKind.bits] using hw
      refine ⟨?_, hb⟩
      by_cases hi0 : i = 0
      · subst hi0
        have e1 : x.add 0 = x := by unfold Addr.add; rw [if_pos rfl]
        rw [e1] at e0
        obtain ⟨b, o, sp⟩ := x
        have hsp : sp = none := by simpa using World.cell?_spot e0
        subst hsp
        exact e0
      · have e1 : x.add i = ⟨x.block, x.off + i, none⟩ := by unfold Addr.add; rw [if_neg hi0]
        rw [e1] at e0
        exact e0
end Go.Proofs.YtbhmblkappmfjaaGreat
