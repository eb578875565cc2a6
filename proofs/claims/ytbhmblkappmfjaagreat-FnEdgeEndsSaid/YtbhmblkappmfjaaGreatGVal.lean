/- Values among other data: a value of four cells is one of ValIn; what spec.l2Plain answers. -/
import Derived.Test.YtbhmblkappmfjaaGreatDa
import Derived.Test.YtbhmblkappmfjaaGreatIn1
import Derived.Test.YtbhmblkappmfjaaGreatValMem
import Derived.ProofKit
import Derived.Deep.Slices
namespace Go.Proofs.YtbhmblkappmfjaaGreat
open Go.RowKit Go.Deep Go.WideShapes

/-- The values of a list of rows. -/
def vsOf : D → List V
  | .list _ len f => (List.range len).map fun i => .mk (f i 0).int! (f i 1).int! (f i 2).str! (vsOf (f i 3))
  | _ => []
theorem vsOf_len (n len : Nat) (f : Nat → Nat → D) : (vsOf (.list n len f)).length = len := by simp [vsOf]
theorem vsOf_at (n len : Nat) (f : Nat → Nat → D) (i : Nat) (hi : i < len) : (vsOf (.list n len f))[i]'(by rw [vsOf_len]; exact hi) = .mk (f i 0).int! (f i 1).int! (f i 2).str! (vsOf (f i 3)) := by
  simp [vsOf]

theorem listIn_of : ∀ (d : D), Has d (.list 2) → ∀ (S : Nat → Prop) (w : World) (c : Value), DIn S w d c → ListIn 0 w (vsOf d) c := by
  intro d
  induction d with
  | int _ => intro H; cases H
  | bool _ => intro H; cases H
  | str _ => intro H; cases H
  | list n len f ih =>
    intro H S w c h
    obtain ⟨r, h1, rfl, h3⟩ := H
    cases h1
    obtain ⟨a, cap, b, off, rfl, hl, ha, hc⟩ := h
    have each : ∀ i, i < len → ∃ q : Nat → Value, (∀ j, j < 4 → w.cell? ⟨b, off + i * 4 + j, none⟩ = some (q j)) ∧ ValIn 0 w (.mk (f i 0).int! (f i 1).int! (f i 2).str! (vsOf (f i 3))) (.agg #[q 0, q 1, q 2, q 3]) := by
      intro i hi
      obtain ⟨c0, e0, k0⟩ := hc i hi 0 (by decide)
      obtain ⟨c1, e1, k1⟩ := hc i hi 1 (by decide)
      obtain ⟨c2, e2, k2⟩ := hc i hi 2 (by decide)
      obtain ⟨c3, e3, k3⟩ := hc i hi 3 (by decide)
      obtain ⟨x0, d0⟩ := (show Has (f i 0) .int from h3 i hi 0 (by decide)).int
      obtain ⟨x1, d1⟩ := (show Has (f i 1) .int from h3 i hi 1 (by decide)).int
      obtain ⟨x2, d2⟩ := (show Has (f i 2) .str from h3 i hi 2 (by decide)).str
      have l3 := ih i 3 (h3 i hi 3 (by decide)) S w c3 k3
      rw [d0] at k0
      rw [d1] at k1
      rw [d2] at k2
      obtain ⟨rfl, z0⟩ := k0.int_eq
      obtain ⟨rfl, z1⟩ := k1.int_eq
      obtain ⟨rfl, z2⟩ := k2.str_eq
      refine ⟨fun j => match j with | 0 => .int .i64 x0 | 1 => .int .i64 x1 | 2 => .string x2 | _ => c3, fun j hj => ?_, ?_⟩
      · match j, hj with
        | 0, _ => exact e0
        | 1, _ => exact e1
        | 2, _ => exact e2
        | 3, _ => exact e3
      · rw [d0, d1, d2]
        exact ValIn.of_list z0 z1 z2 l3
    obtain ⟨q, hq⟩ := choose_lt each
    refine ⟨a, cap, b, off, fun i => q i 0, fun i => q i 1, fun i => q i 2, fun i => q i 3, by rw [vsOf_len], by rw [vsOf_len]; exact hl, fun h0 => ?_, fun i hi => ?_, fun i hi => ?_⟩
    · rw [vsOf_len] at h0
      exact ⟨(ha h0).1, Nat.zero_le _, (ha h0).2.2⟩
    · rw [vsOf_len] at hi
      have := (hq i hi).1
      exact ⟨this 0 (by decide), this 1 (by decide), this 2 (by decide), this 3 (by decide)⟩
    · have hi' : i < len := by rw [vsOf_len] at hi; exact hi
      rw [vsOf_at _ _ _ _ hi']
      exact (hq i hi').2
theorem valIn_of {x0 x1 : Int} {x2 : ByteArray} {d3 : D} {c3 : Value} {S : Nat → Prop} {w : World} (z0 : (Lit.int .i64 x0).wf = true) (z1 : (Lit.int .i64 x1).wf = true) (z2 : x2.size ≤ maxLen) (H3 : Has d3 (.list 2)) (h3 : DIn S w d3 c3) :
    ValIn 0 w (.mk x0 x1 x2 (vsOf d3)) (.agg #[.int .i64 x0, .int .i64 x1, .string x2, c3]) := ValIn.of_list z0 z1 z2 (listIn_of d3 H3 S w c3 h3)

mutual
/-- Nothing within is nothing, a node or an edge. -/
def plainB : V → Bool
  | .mk k _ _ l => plainL l && inB k 1 4
def plainL : List V → Bool
  | [] => true
  | x :: r => plainB x && plainL r
end
theorem plainL_no : ∀ (l : List V) (i : Nat) (hi : i < l.length), plainB l[i] = false → plainL l = false
  | [], _, hi, _ => by simp at hi
  | x :: r, 0, _, h => by simp only [List.getElem_cons_zero] at h; rw [plainL, h]; rfl
  | x :: r, i + 1, hi, h => by
    simp only [List.getElem_cons_succ] at h
    rw [plainL, plainL_no r i (by simpa using hi) h]
    exact Bool.and_false _
theorem plainL_yes : ∀ (l : List V), (∀ i (hi : i < l.length), plainB l[i] = true) → plainL l = true
  | [], _ => by rw [plainL]
  | x :: r, h => by
    have h0 := h 0 (by simp)
    simp only [List.getElem_cons_zero] at h0
    rw [plainL, h0, plainL_yes r (fun i hi => by have := h (i + 1) (by simpa using hi); simpa using this)]
    rfl

set_option maxHeartbeats 1000000 in
theorem l2Plain_any : ∀ (x : V) (lo : Nat) (v : Value) (w : World), ValIn lo w x v → Calls Tryz.prog 29 #[v] w fun e w' => e = .returned (.bool (plainB x)) ∧ Ext w w' := by
  refine V.ind fun k n t l ih => ?_
  intro lo v w hv
  obtain ⟨a, cap, rfl, hk, hn, ht, hl, hL⟩ := hv.open
  unfold maxLen at hl
  have HB : Hid (plainB (.mk k n t l) = (plainL l && inB k 1 4)) := by show _ = _; rw [plainB]
  go_enter Tryz.func29, Tryz.ntmps29
  go_wp2
  generalize hW0 : w.alloc _ = W0
  have hE0 : Ext w W0 := by subst hW0; exact (Ext.refl _).alloc _
  have hbx : ∀ W, Ext W0 W → W.cell? ⟨w.heap.size, 0, none⟩ = some (.int .i64 k) ∧ W.cell? ⟨w.heap.size, 3, none⟩ = some (.slice a l.length cap) := by
    intro W hW
    subst hW0
    exact ⟨box_cell hW 0 _ rfl, box_cell hW 3 _ rfl⟩
  clear hW0
  go_loopw [3] (fun i wr => ∃ j : Nat, j ≤ l.length ∧ i = .int .i64 j ∧ Ext W0 wr ∧ ∀ i (hi : i < l.length), i < j → plainB l[i] = true) (fun i _ => l.length - (intOf i).toNat)
  case atStart => exact ⟨0, Nat.zero_le _, rfl, Ext.refl _, fun i _ h => by omega⟩
  case round =>
    obtain ⟨j, hj, rfl, hE, hno⟩ := hrel
    obtain ⟨b0, b3⟩ := hbx wr hE
    by_cases hlt : j < l.length
    · obtain ⟨cap2, b, off, hsl, _, hb, hcs⟩ := ((hL.ext hE0).ext hE).at (by omega)
      cases hsl
      obtain ⟨d0, d1, d2, d3, e0, e1, e2, e3, hx⟩ := hcs j hlt
      clear hcs
      have hcall := ih j hlt lo _ _ hx
      clear ih
      go_wp2_with fail
      refine hcall.mono ?_
      rintro e w' ⟨rfl, hE2⟩
      cases hp : plainB l[j]
      · have hfin : Hid (plainB (.mk k n t l) = false) := by show _ = _; rw [HB.out, plainL_no l j hlt hp]; rfl
        go_wp2
        go_ret
        exact ⟨ret_bool hfin.out.symm, hE0.trans (hE.trans hE2)⟩
      · have hp' : Hid (plainB l[j] = true) := hp
        go_wp2
        go_roundw
        case rel =>
          refine ⟨j + 1, by omega, by go_num, hE.trans hE2, fun i hi h => ?_⟩
          rcases Nat.lt_succ_iff_lt_or_eq.1 h with h' | h'
          · exact hno i hi h'
          · subst h'; exact hp'.out
        case measure => simp [intOf]; omega
    · have hfin : Hid (plainL l = true) := plainL_yes l (fun i hi => hno i hi (by omega))
      clear ih
      go_wp2_with (go_at_call 11; refine (l1In_any _ _ _ _).mono ?_; rintro e w' ⟨rfl, rfl⟩)
      go_ret
      exact ⟨ret_bool (by rw [HB.out, hfin.out]; rfl), hE0.trans hE⟩
end Go.Proofs.YtbhmblkappmfjaaGreat
