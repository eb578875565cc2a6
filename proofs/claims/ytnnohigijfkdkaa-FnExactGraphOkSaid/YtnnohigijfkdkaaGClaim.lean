/- At every graph the law FnExactGraphOk answers true, and the graph reads afterwards as it did: impl.GraphOk answers as its model does, and writes into no argument. There is no condition beyond those of the given row.
-/
import Derived.Test.YtnnohigijfkdkaaRows
import Derived.Test.YtnnohigijfkdkaaGLaw
import Derived.Test.YtnnohigijfkdkaaDOpen
import Derived.WalkKit
import Derived.ProofKit
import Derived.OpenShut
import Derived.FnData
namespace Go.Proofs.Ytnnohigijfkdkaa.fnExactGraphOk
open Go.ChangeShapes Go.WideShapes Go.ChangeAt Go.RowKit Go.Deep
set_option linter.unusedVariables false

theorem own : ownKnob Try.prog.godebug = none := by kernel_rfl
theorem laidOut : laidOutB Try.prog = true := by kernel_rfl

set_option maxRecDepth 100000 in
theorem lifted (os : Os) (started : os.Started) (H : Type) (enc : TypeId × Value → H) :
    ReturnsInHanded {} Try.checked os 3 .any (Rows.fnExactGraphOkSpec.pre6 enc Try.prog Try.f3 Rows.fnExactGraphOkRow.domain false) (Rows.fnExactGraphOkSpec.post enc Try.prog Try.f3 false true false false) := by
  refine returnsInHanded_of_change (C := Try.checked) own started (by kernel_rfl) Try.func3
    (ChangeSpec.witness6 (enc := enc) (C := Try.checked) false ⟨#[], #[.agg #[.slice none 0 0, .slice none 0 0, .int .i64 0, .int .i64 0]], []⟩ 8 (by kernel_rfl) (by kernel_rfl) (by kernel_rfl) (by kernel_rfl)) ?_
  intro W base args ds gs before hval0 hW hcnd _
  have hval : ∀ (j : Nat) t v, Try.f3.params[j]? = some t → args[j]? = some v → Value.okWide Try.prog W .any base t v := hval0
  have hW' := hW
  obtain ⟨p, q, hA0, hV, rfl, hfz, hnd⟩ := hW
  have hA : DataW.TrodAll enc Try.prog W 0 (fun _ => true) true Try.f3.params.toList args.toList ds p := hA0
  rw [Try.params3] at hA hval
  obtain ⟨v0, d0, rfl, rfl, h0⟩ := trodAll_one hA
  obtain ⟨rfl, rfl⟩ := trodVars_none hV
  have hlt : ∀ x ∈ p, x.block < W.heap.size := fun x hx => hW'.lt x (List.mem_append_left _ hx)
  obtain ⟨cs, rfl, _⟩ := okWide_struct Try.underlying25 (hval 0 25 v0 rfl rfl)
  obtain ⟨fuel, hf⟩ := id h0
  obtain ⟨d, hlen, HR, hd⟩ := open_Graph fuel _ _ hf
  obtain ⟨c0, c1, c2, c3, hcs⟩ := len4 hlen
  have hcs2 : cs = #[c0, c1, c2, c3] := by
    have : cs.toList = [c0, c1, c2, c3] := by simpa [Value.cells] using hcs
    exact Array.ext' this
  rw [hcs] at hd
  subst hcs2
  have k0 : DIn anyB W (d 0) c0 := hd 0 (by decide)
  have k1 : DIn anyB W (d 1) c1 := hd 1 (by decide)
  have k2 : DIn anyB W (d 2) c2 := hd 2 (by decide)
  have k3 : DIn anyB W (d 3) c3 := hd 3 (by decide)
  have H0 : Has (d 0) (.list 4) := HR 0 (by decide)
  have H1 : Has (d 1) (.list 5) := HR 1 (by decide)
  obtain ⟨x2, e2⟩ := (show Has (d 2) .int from HR 2 (by decide)).int
  obtain ⟨x3, e3⟩ := (show Has (d 3) .int from HR 3 (by decide)).int
  rw [e2] at k2
  rw [e3] at k3
  obtain ⟨rfl, z2⟩ := k2.int_eq
  obtain ⟨rfl, z3⟩ := k3.int_eq
  clear hA0 hval0
  simp only [List.append_nil] at hW'
  refine (graphLaw (d 0) (d 1) c0 c1 x2 x3 W H0 k0 H1 k1).mono fun e W' ⟨he, hB⟩ => ?_
  subst he
  have hd' := Below.trod laidOut (by kernel_rfl) (of_decide_eq_true (by kernel_rfl)) h0 hB hlt
  refine ⟨_, rfl, _, _, _, [], p, [], hW', ?_, ?_, ?_, Below.frame hB _, fun h => by cases h⟩
  · exact trodAll_mk1 (shut_bool Try.underlying4 _)
  · exact trodAll_mk1 hd'
  · rfl

theorem over : Rows.fnExactGraphOkRow.holds Try.pinned (OpenSpec.ofChange Rows.fnExactGraphOkSpec) :=
  OpenClaim.holds_of_wide 3 Try.f3 rfl rfl rfl rfl rfl rfl rfl ⟨rfl, rfl, rfl, rfl, rfl⟩ rfl rfl rfl rfl rfl (by kernel_rfl) Try.func3 (by kernel_rfl)
    (of_decide_eq_true (by kernel_rfl)) (by unfold Func.isWrapper; first | (rw [if_pos (by decide +kernel)]; kernel_rfl) | (rw [if_neg (by decide +kernel)]; exact ⟨rfl, rfl⟩))
    (fun os started H enc _ => lifted os started H enc)

theorem proved : Rows.FnExactGraphOkSaid :=
  over
#print axioms proved
end Go.Proofs.Ytnnohigijfkdkaa.fnExactGraphOk
