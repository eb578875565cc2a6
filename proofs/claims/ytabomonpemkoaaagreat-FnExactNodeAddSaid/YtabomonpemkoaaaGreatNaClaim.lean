/- At every graph, every list of labels and every list of props the law FnExactNodeAdd answers true, and all three read afterwards as they did: impl.NodeAdd answers as its model does, field by field, writes into no argument, keeps nothing of one, and its answer owns its memory. There is no condition beyond those of the given row.
-/
import Derived.Test.YtabomonpemkoaaaGreatRows
import Derived.Test.YtabomonpemkoaaaGreatNaLaw
import Derived.Test.YtabomonpemkoaaaGreatDOpen
import Derived.WalkKit
import Derived.ProofKit
import Derived.OpenShut
import Derived.FnData
import Derived.ChangeMaps5
import Derived.ShutString
namespace Go.Proofs.YtabomonpemkoaaaGreat.fnExactNodeAdd
open Go.ChangeShapes Go.WideShapes Go.ChangeAt Go.RowKit Go.Deep
set_option linter.unusedVariables false

theorem own : ownKnob Tryz.prog.godebug = none := by kernel_rfl
theorem laidOut : laidOutB Tryz.prog = true := by kernel_rfl

set_option maxRecDepth 100000 in
theorem lifted (os : Os) (started : os.Started) (H : Type) (enc : TypeId × Value → H) :
    ReturnsInHanded {} Tryz.checked os 3 .any (Rows.fnExactNodeAddSpec.pre6 enc Tryz.prog Tryz.f3 Rows.fnExactNodeAddRow.domain false) (Rows.fnExactNodeAddSpec.post enc Tryz.prog Tryz.f3 false true false false) := by
  refine returnsInHanded_of_change (C := Tryz.checked) own started (by kernel_rfl) Tryz.func3
    (ChangeSpec.witness6 (enc := enc) (C := Tryz.checked) false ⟨#[], #[.agg #[.slice none 0 0, .slice none 0 0, .int .i64 0, .int .i64 0], .slice none 0 0, .slice none 0 0], []⟩ 8 (by kernel_rfl) (by kernel_rfl) (by kernel_rfl) (by kernel_rfl)) ?_
  intro W base args ds gs before hval0 hW hcnd _
  have hval : ∀ (j : Nat) t v, Tryz.f3.params[j]? = some t → args[j]? = some v → Value.okWide Tryz.prog W .any base t v := hval0
  have hW' := hW
  obtain ⟨p, q, hA0, hV, rfl, hfz, hnd⟩ := hW
  have hA : DataW.TrodAll enc Tryz.prog W 0 (fun _ => true) true Tryz.f3.params.toList args.toList ds p := hA0
  rw [Tryz.params3] at hA hval
  obtain ⟨v0, v1, v2, d0, d1, d2, p0, p1, p2, rfl, rfl, rfl, h0, h1, h2⟩ := trodAll_three hA
  obtain ⟨rfl, rfl⟩ := trodVars_none hV
  have hlt : ∀ x ∈ p0 ++ p1 ++ p2, x.block < W.heap.size := fun x hx => hW'.lt x (List.mem_append_left _ hx)
  have hlt0 : ∀ x ∈ p0, x.block < W.heap.size := fun x hx => hlt x (by simp [hx])
  have hlt1 : ∀ x ∈ p1, x.block < W.heap.size := fun x hx => hlt x (by simp [hx])
  have hlt2 : ∀ x ∈ p2, x.block < W.heap.size := fun x hx => hlt x (by simp [hx])
  obtain ⟨cs, rfl, _⟩ := okWide_struct Tryz.underlying25 (hval 0 25 v0 rfl rfl)
  obtain ⟨aL, lL, kL, rfl⟩ : ∃ a l c, v1 = .slice a l c := okWide_slice Tryz.underlying26 (hval 1 26 v1 rfl rfl)
  obtain ⟨aP, lP, kP, rfl⟩ : ∃ a l c, v2 = .slice a l c := okWide_slice Tryz.underlying27 (hval 2 27 v2 rfl rfl)
  obtain ⟨fuel, hf⟩ := id h0
  obtain ⟨fuelL, hfL⟩ := id h1
  obtain ⟨fuelP, hfP⟩ := id h2
  obtain ⟨d, hlen, HR, hd⟩ := open_Graph fuel _ _ hf
  obtain ⟨dL, cL, hcL, HL, hL⟩ := open_slice (E := 9) (r := 0) Tryz.underlying26 (by kernel_rfl) (by decide) (fun m _ => open_string m) hfL
  obtain ⟨dP, cP, hcP, HP, hP⟩ := open_slice (E := 54) (r := 3) Tryz.underlying27 (by kernel_rfl) (by decide) (fun m _ => open_Prop m) hfP
  have eL : cL = .slice aL lL kL := by simpa [Value.cells] using hcL.symm
  have eP : cP = .slice aP lP kP := by simpa [Value.cells] using hcP.symm
  subst eL eP
  obtain ⟨c0, c1, c2, c3, hcs⟩ := len4 hlen
  have hcs2 : cs = #[c0, c1, c2, c3] := by
    have : cs.toList = [c0, c1, c2, c3] := by simpa [Value.cells] using hcs
    exact Array.ext' this
  rw [hcs] at hd
  subst hcs2
  have k0 : DIn anyB W (d 0) c0 := hd 0 (by decide)
  have k1 : DIn anyB W (d 1) c1 := hd 1 (by decide)
  have k2 : DIn anyB W (d 2) c2 := hd 2 (by decide)
  have k3 : DIn anyB W (d 3) c3 := hd 3 (by decide)
  have H0 : Has (d 0) (.list 4) := HR 0 (by decide)
  have H1 : Has (d 1) (.list 5) := HR 1 (by decide)
  obtain ⟨x2, e2⟩ := (show Has (d 2) .int from HR 2 (by decide)).int
  obtain ⟨x3, e3⟩ := (show Has (d 3) .int from HR 3 (by decide)).int
  rw [e2] at k2
  rw [e3] at k3
  obtain ⟨rfl, z2⟩ := k2.int_eq
  obtain ⟨rfl, z3⟩ := k3.int_eq
  clear hA0 hval0
  simp only [List.append_nil] at hW'
  refine (naLaw (d 0) (d 1) dL dP c0 c1 _ _ x2 x3 W H0 k0 H1 k1 HL hL HP hP).mono fun e W' ⟨he, hB⟩ => ?_
  subst he
  have hd0' := Below.trod laidOut (by kernel_rfl) (of_decide_eq_true (by kernel_rfl)) h0 hB hlt0
  have hd1' := Below.trod laidOut (by kernel_rfl) (of_decide_eq_true (by kernel_rfl)) h1 hB hlt1
  have hd2' := Below.trod laidOut (by kernel_rfl) (of_decide_eq_true (by kernel_rfl)) h2 hB hlt2
  refine ⟨_, rfl, _, _, _, [], p0 ++ p1 ++ p2, [], hW', ?_, ?_, ?_, Below.frame hB _, fun h => by cases h⟩
  · exact trodAll_mk1 (shut_bool Tryz.underlying4 _)
  · have hm := trodAll_mk3 hd0' hd1' hd2'
    rw [← List.append_assoc] at hm
    exact hm
  · rfl

theorem over : Rows.fnExactNodeAddRow.holds Tryz.pinned (OpenSpec.ofChange Rows.fnExactNodeAddSpec) :=
  OpenClaim.holds_of_wide 3 Tryz.f3 rfl rfl rfl rfl rfl rfl rfl ⟨rfl, rfl, rfl, rfl, rfl⟩ rfl rfl rfl rfl rfl (by kernel_rfl) Tryz.func3 (by kernel_rfl)
    (of_decide_eq_true (by kernel_rfl)) (by unfold Func.isWrapper; first | (rw [if_pos (by decide +kernel)]; kernel_rfl) | (rw [if_neg (by decide +kernel)]; exact ⟨rfl, rfl⟩))
    (fun os started H enc _ => lifted os started H enc)

theorem proved : Rows.FnExactNodeAddSaid :=
  over
#print axioms proved
end Go.Proofs.YtabomonpemkoaaaGreat.fnExactNodeAdd
