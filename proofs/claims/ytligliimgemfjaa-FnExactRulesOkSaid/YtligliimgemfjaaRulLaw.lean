/- At every list of rules the law FnExactRulesOk answers true, and the list reads afterwards as it did: impl.RulesOk answers as its model does, and writes into no argument. There is no condition beyond those of the given row.
-/
import Derived.Test.YtligliimgemfjaaRows
import Derived.Test.YtligliimgemfjaaRulEq
import Derived.Test.YtligliimgemfjaaRulImpl
import Derived.WalkKit
import Derived.ProofKit
import Derived.OpenShut
import Derived.Deep.SlicePairs
namespace Go.Proofs.Ytligliimgemfjaa.fnExactRulesOk
open Go.ChangeShapes Go.WideShapes Go.ChangeAt Go.RowKit Go.Deep
set_option linter.unusedVariables false

theorem own : ownKnob Try.prog.godebug = none := by kernel_rfl

set_option maxHeartbeats 1000000 in
theorem walk (v : Value) (xs : List RulT) (w : World) (hv : RulIn w v xs) :
    Calls Try.prog 3 #[v] w fun e w' => e = .returned (.bool true) ∧ Ext w w' := by
  have hvs : ∃ a cap, v = .slice a xs.length cap := by obtain ⟨a, cap, h, _⟩ := hv; exact ⟨a, cap, h⟩
  go_enter Try.func3, Try.ntmps3
  go_wp2_with fail
  refine (szRuleS_any v xs _ hv).mono ?_
  rintro e w1 ⟨r, rfl, hr, hE1⟩
  by_cases hr0 : r < 0
  · go_wp2
    go_ret
    exact ⟨rfl, hE1⟩
  · have hn := hr (by omega)
    clear hr
    go_wp2_with fail
    refine (toRuleS_any v xs _ (hv.ext hE1) hn).mono ?_
    rintro e w2 ⟨u, rfl, hu, hE2⟩
    go_wp2_with fail
    refine (specRulesOk_any u xs _ hu).mono ?_
    rintro e w3 ⟨rfl, hE3⟩
    go_wp2_with fail
    refine (toRuleS_any v xs _ (((hv.ext hE1).ext hE2).ext hE3) hn).mono ?_
    rintro e w4 ⟨u2, rfl, hu2, hE4⟩
    go_wp2_with fail
    refine (implRulesOk_any u2 xs _ hu2).mono ?_
    rintro e w5 ⟨rfl, hE5⟩
    go_wp2_with fail
    refine (toRuleS_any v xs _ (((((hv.ext hE1).ext hE2).ext hE3).ext hE4).ext hE5) hn).mono ?_
    rintro e w6 ⟨u3, rfl, hu3, hE6⟩
    go_wp2_with fail
    refine (eqRuleS_same u2 u3 xs _ ((hu2.ext hE5).ext hE6) hu3).mono ?_
    rintro e w7 ⟨rfl, hE7⟩
    go_wp2
    go_ret
    exact ⟨rfl, (((((hE1.trans hE2).trans hE3).trans hE4).trans hE5).trans hE6).trans hE7⟩
theorem cellsE : Try.prog.cellsOf 31 = 2 := by kernel_rfl

/-- A slice of rules that reads as data is one of rules that lie in memory. -/
theorem opened {H : Type} {enc : TypeId × Value → H} {W : World} {v : Value} {d : DataW H} {ps : List MemPlace} {sp : Nat → Bool} (hsp : ∀ b, sp b = true)
    (h : DataW.Trod enc Try.prog W 0 sp true 22 v d ps) (hlt : ∀ x ∈ ps, x.block < W.heap.size) (hsl : ∃ a l c, v = .slice a l c) : ∃ xs, RulIn W v xs := by
  obtain ⟨a0, l0, c0, rfl⟩ := hsl
  obtain ⟨fuel, hf⟩ := h
  rcases open_slice_pairs Try.underlying22 Try.underlying31 cellsE rfl rfl Try.cellsS Try.cellsS hf with ⟨hcs, hx⟩ | ⟨a, len, cap, m, n, V0, V1, D0, D1, P0, P1, hcs, _, hl, hm, hmm, hx, hc⟩
  · simp [Value.cells] at hcs
    obtain ⟨rfl, rfl, rfl⟩ := hcs
    exact ⟨[], _, _, rfl, by unfold maxLen; simp, fun k hk => by simp at hk⟩
  · simp [Value.cells] at hcs
    obtain ⟨rfl, rfl, rfl⟩ := hcs
    rw [hsp, if_pos rfl] at hmm
    subst hmm
    have each : ∀ i, i < m → ∃ q : RulT, V0 i = .string q.1 ∧ V1 i = .string q.2 ∧ q.1.size ≤ maxLen ∧ q.2.size ≤ maxLen := by
      intro i hi
      obtain ⟨_, _, t0, t1⟩ := hc i hi
      obtain ⟨s0, e0, _, z0⟩ := DataW.trod_string Try.underlying9 t0
      obtain ⟨s1, e1, _, z1⟩ := DataW.trod_string Try.underlying9 t1
      simp at e0 e1
      exact ⟨(s0, s1), e0, e1, z0, z1⟩
    obtain ⟨f, hf2⟩ := choose_lt each
    have hat : ∀ k, k < l0 → nameAt ((List.range l0).map f) k = f k := by
      intro k hk
      unfold nameAt
      rw [List.getD_eq_getElem?_getD, List.getElem?_map, List.getElem?_range hk]
      rfl
    refine ⟨(List.range l0).map f, some a, m, by simp, by simp; omega, fun k hk => ?_⟩
    have hk' : k < l0 := by simpa using hk
    rw [hat k hk']
    obtain ⟨e0, e1, z0, z1⟩ := hf2 k (by omega)
    obtain ⟨k0, k1, _, _⟩ := hc k (by omega)
    obtain ⟨k00, _, _, _⟩ := hc 0 (by omega)
    obtain ⟨b, off, spot⟩ := a
    have hspot : spot = none := by simpa [Addr.add] using World.cell?_spot k00
    subst hspot
    refine ⟨z0, z1, b, off, rfl, by have := World.block_lt_of_cell? _ _ k0; simpa [add_plain] using this, ?_, ?_⟩
    · rw [add_plain] at k0; rw [k0, e0]
    · rw [add_plain] at k1; rw [← e1, ← k1]; rfl

set_option maxRecDepth 100000 in
theorem lifted (os : Os) (started : os.Started) (H : Type) (enc : TypeId × Value → H) :
    ReturnsInHanded {} Try.checked os 3 .any (Rows.fnExactRulesOkSpec.pre6 enc Try.prog Try.f3 Rows.fnExactRulesOkRow.domain false) (Rows.fnExactRulesOkSpec.post enc Try.prog Try.f3 false true false false) := by
  refine returnsInHanded_of_change (C := Try.checked) own started (by kernel_rfl) Try.func3
    (ChangeSpec.witness6 (enc := enc) (C := Try.checked) false ⟨#[], #[.slice none 0 0], []⟩ 8 (by kernel_rfl) (by kernel_rfl) (by kernel_rfl) (by kernel_rfl)) ?_
  intro W base args ds gs before hval0 hW hcnd _
  have hval : ∀ (j : Nat) t v, Try.f3.params[j]? = some t → args[j]? = some v → Value.okWide Try.prog W .any base t v := hval0
  have hW' := hW
  obtain ⟨p, q, hA0, hV, rfl, hfz, hnd⟩ := hW
  have hA : DataW.TrodAll enc Try.prog W 0 (fun _ => true) true Try.f3.params.toList args.toList ds p := hA0
  rw [Try.params3] at hA hval
  obtain ⟨v0, d0, rfl, rfl, h0⟩ := trodAll_one hA
  obtain ⟨rfl, rfl⟩ := trodVars_none hV
  have hsl : ∃ a l c, v0 = .slice a l c := okWide_slice Try.underlying22 (hval 0 22 v0 rfl rfl)
  have hlt : ∀ x ∈ p, x.block < W.heap.size := fun x hx => hW'.lt x (List.mem_append_left _ hx)
  obtain ⟨xs, hin⟩ := opened (fun _ => rfl) h0 hlt hsl
  clear hA0 hval0
  simp only [List.append_nil] at hW'
  refine (walk v0 xs W hin).mono fun e W' ⟨he, hB⟩ => ?_
  subst he
  have hd' := Below.trod Try.laidOut (by kernel_rfl) (of_decide_eq_true (by kernel_rfl)) h0 hB hlt
  refine ⟨_, rfl, _, _, _, [], p, [], hW', ?_, ?_, ?_, Below.frame hB _, fun h => by cases h⟩
  · exact trodAll_mk1 (shut_bool Try.underlying4 _)
  · exact trodAll_mk1 hd'
  · rfl

theorem over : Rows.fnExactRulesOkRow.holds Try.pinned (OpenSpec.ofChange Rows.fnExactRulesOkSpec) :=
  OpenClaim.holds_of_wide 3 Try.f3 rfl rfl rfl rfl rfl rfl rfl ⟨rfl, rfl, rfl, rfl, rfl⟩ rfl rfl rfl rfl rfl (by kernel_rfl) Try.func3 (by kernel_rfl)
    (of_decide_eq_true (by kernel_rfl)) (by unfold Func.isWrapper; first | (rw [if_pos (by decide +kernel)]; kernel_rfl) | (rw [if_neg (by decide +kernel)]; exact ⟨rfl, rfl⟩))
    (fun os started H enc _ => lifted os started H enc)

theorem proved : Rows.FnExactRulesOkSaid :=
  over
#print axioms proved
end Go.Proofs.Ytligliimgemfjaa.fnExactRulesOk
