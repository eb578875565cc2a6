/- At everything that may be said the law FnExactMsgOk answers true, and what was said reads afterwards as it did: impl.MsgOk answers as its model does, and writes into no argument. There is no condition beyond those of the given row.
-/
import Derived.Test.YtepfppncfeaeiaaRows
import Derived.Test.YtepfppncfeaeiaaMoLaw
import Derived.Test.YtepfppncfeaeiaaDOpen
import Derived.WalkKit
import Derived.ProofKit
import Derived.OpenShut
import Derived.FnData
namespace Go.Proofs.Ytepfppncfeaeiaa.fnExactMsgOk
open Go.ChangeShapes Go.WideShapes Go.ChangeAt Go.RowKit Go.Deep
set_option linter.unusedVariables false

theorem own : ownKnob Try.prog.godebug = none := by kernel_rfl
theorem laidOut : laidOutB Try.prog = true := by kernel_rfl

set_option maxRecDepth 100000 in
theorem lifted (os : Os) (started : os.Started) (H : Type) (enc : TypeId × Value → H) :
    ReturnsInHanded {} Try.checked os 3 .any (Rows.fnExactMsgOkSpec.pre6 enc Try.prog Try.f3 Rows.fnExactMsgOkRow.domain false) (Rows.fnExactMsgOkSpec.post enc Try.prog Try.f3 false true false false) := by
  refine returnsInHanded_of_change (C := Try.checked) own started (by kernel_rfl) Try.func3
    (ChangeSpec.witness6 (enc := enc) (C := Try.checked) false ⟨#[], #[.agg #[.int .i64 0, .string ByteArray.empty, .slice none 0 0, .int .i64 0]], []⟩ 8 (by kernel_rfl) (by kernel_rfl) (by kernel_rfl) (by kernel_rfl)) ?_
  intro W base args ds gs before hval0 hW hcnd _
  have hval : ∀ (j : Nat) t v, Try.f3.params[j]? = some t → args[j]? = some v → Value.okWide Try.prog W .any base t v := hval0
  have hW' := hW
  obtain ⟨p, q, hA0, hV, rfl, hfz, hnd⟩ := hW
  have hA : DataW.TrodAll enc Try.prog W 0 (fun _ => true) true Try.f3.params.toList args.toList ds p := hA0
  rw [Try.params3] at hA hval
  obtain ⟨v0, d0, rfl, rfl, h0⟩ := trodAll_one hA
  obtain ⟨rfl, rfl⟩ := trodVars_none hV
  have hlt : ∀ x ∈ p, x.block < W.heap.size := fun x hx => hW'.lt x (List.mem_append_left _ hx)
  obtain ⟨cs, rfl, _⟩ := okWide_struct Try.underlying24 (hval 0 24 v0 rfl rfl)
  obtain ⟨fuel, hf⟩ := id h0
  obtain ⟨d, hlen, HR, hd⟩ := open_Msg fuel _ _ hf
  obtain ⟨c0, c1, c2, c3, hcs⟩ := len4 hlen
  have hcs2 : cs = #[c0, c1, c2, c3] := by
    have : cs.toList = [c0, c1, c2, c3] := by simpa [Value.cells] using hcs
    exact Array.ext' this
  rw [hcs] at hd
  subst hcs2
  have k0 : DIn anyB W (d 0) c0 := hd 0 (by decide)
  have k1 : DIn anyB W (d 1) c1 := hd 1 (by decide)
  have k2 : DIn anyB W (d 2) c2 := hd 2 (by decide)
  have k3 : DIn anyB W (d 3) c3 := hd 3 (by decide)
  obtain ⟨x0, e0⟩ := (show Has (d 0) .int from HR 0 (by decide)).int
  rw [e0] at k0
  obtain ⟨rfl, z0⟩ := k0.int_eq
  obtain ⟨x1, e1⟩ := (show Has (d 1) .str from HR 1 (by decide)).str
  rw [e1] at k1
  obtain ⟨rfl, z1⟩ := k1.str_eq
  have H2 : Has (d 2) (.list 3) := HR 2 (by decide)
  obtain ⟨x3, e3⟩ := (show Has (d 3) .int from HR 3 (by decide)).int
  rw [e3] at k3
  obtain ⟨rfl, z3⟩ := k3.int_eq
  clear hA0 hval0
  simp only [List.append_nil] at hW'
  refine (moLaw x0 x1 (d 2) c2 x3 W z1 H2 k2).mono fun e W' ⟨he, hB⟩ => ?_
  subst he
  have hd' := Below.trod laidOut (by kernel_rfl) (of_decide_eq_true (by kernel_rfl)) h0 hB hlt
  refine ⟨_, rfl, _, _, _, [], p, [], hW', ?_, ?_, ?_, Below.frame hB _, fun h => by cases h⟩
  · exact trodAll_mk1 (shut_bool Try.underlying4 _)
  · exact trodAll_mk1 hd'
  · rfl

theorem over : Rows.fnExactMsgOkRow.holds Try.pinned (OpenSpec.ofChange Rows.fnExactMsgOkSpec) :=
  OpenClaim.holds_of_wide 3 Try.f3 rfl rfl rfl rfl rfl rfl rfl ⟨rfl, rfl, rfl, rfl, rfl⟩ rfl rfl rfl rfl rfl (by kernel_rfl) Try.func3 (by kernel_rfl)
    (of_decide_eq_true (by kernel_rfl)) (by unfold Func.isWrapper; first | (rw [if_pos (by decide +kernel)]; kernel_rfl) | (rw [if_neg (by decide +kernel)]; exact ⟨rfl, rfl⟩))
    (fun os started H enc _ => lifted os started H enc)

theorem proved : Rows.FnExactMsgOkSaid :=
  over
#print axioms proved
end Go.Proofs.Ytepfppncfeaeiaa.fnExactMsgOk
