/- At every graph, every kind, all numbers and every list of props the law FnExactEdgeAdd answers true, and all read afterwards as they did: impl.EdgeAdd answers as its model does, field by field, writes into no argument, keeps nothing of one, and its answer owns its memory. There is no condition beyond those of the given row.
-/
import Derived.Test.YtnhgnklapfhekaaGreatRows
import Derived.Test.YtnhgnklapfhekaaGreatEaL
import Derived.Test.YtnhgnklapfhekaaGreatDOpen
import Derived.WalkKit
import Derived.ProofKit
import Derived.OpenShut
import Derived.FnData
import Derived.ChangeMaps5
import Derived.ShutString
namespace Go.Proofs.YtnhgnklapfhekaaGreat.fnExactEdgeAdd
open Go.ChangeShapes Go.WideShapes Go.ChangeAt Go.RowKit Go.Deep
set_option linter.unusedVariables false

theorem own : ownKnob Tryz.prog.godebug = none := by kernel_rfl
theorem laidOut : laidOutB Tryz.prog = true := by kernel_rfl

set_option maxRecDepth 100000 in
theorem lifted (os : Os) (started : os.Started) (H : Type) (enc : TypeId × Value → H) :
    ReturnsInHanded {} Tryz.checked os 3 .any (Rows.fnExactEdgeAddSpec.pre6 enc Tryz.prog Tryz.f3 Rows.fnExactEdgeAddRow.domain false) (Rows.fnExactEdgeAddSpec.post enc Tryz.prog Tryz.f3 false true false false) := by
  refine returnsInHanded_of_change (C := Tryz.checked) own started (by kernel_rfl) Tryz.func3
    (ChangeSpec.witness6 (enc := enc) (C := Tryz.checked) false ⟨#[], #[.agg #[.slice none 0 0, .slice none 0 0, .int .i64 0, .int .i64 0], .string ByteArray.empty, .int .i64 0, .int .i64 0, .slice none 0 0], []⟩ 8 (by kernel_rfl) (by kernel_rfl) (by kernel_rfl) (by kernel_rfl)) ?_
  intro W base args ds gs before hval0 hW hcnd _
  have hval : ∀ (j : Nat) t v, Tryz.f3.params[j]? = some t → args[j]? = some v → Value.okWide Tryz.prog W .any base t v := hval0
  have hW' := hW
  obtain ⟨p, q, hA0, hV, rfl, hfz, hnd⟩ := hW
  have hA : DataW.TrodAll enc Tryz.prog W 0 (fun _ => true) true Tryz.f3.params.toList args.toList ds p := hA0
  rw [Tryz.params3] at hA hval
  obtain ⟨v0, vs0, d0, ds0, p0, q0, hargs0, rfl, rfl, h0, hA1⟩ := trodAll_cons hA
  obtain ⟨v1, vs1, d1, ds1, p1, q1, hargs1, rfl, rfl, h1, hA2⟩ := trodAll_cons hA1
  obtain ⟨v2, vs2, d2, ds2, p2, q2, hargs2, rfl, rfl, h2, hA3⟩ := trodAll_cons hA2
  obtain ⟨v3, vs3, d3, ds3, p3, q3, hargs3, rfl, rfl, h3, hA4⟩ := trodAll_cons hA3
  obtain ⟨v4, vs4, d4, ds4, p4, q4, hargs4, rfl, rfl, h4, hA5⟩ := trodAll_cons hA4
  obtain ⟨hn1, hn2, hn3⟩ := trodAll_nil hA5
  subst hn2 hn3
  have hargs : args = #[v0, v1, v2, v3, v4] := by
    have e : args.toList = [v0, v1, v2, v3, v4] := by rw [hargs0, hargs1, hargs2, hargs3, hargs4, hn1]
    exact Array.ext' e
  subst hargs
  clear hA1 hA2 hA3 hA4 hA5 hargs0 hargs1 hargs2 hargs3 hargs4 hn1
  obtain ⟨rfl, rfl⟩ := trodVars_none hV
  obtain ⟨kind, rfl, rfl, rfl, zk⟩ := Go.ChangeMaps.open_string Tryz.underlying9 (hval 1 9 v1 rfl rfl) h1
  obtain ⟨fr, rfl, rfl, rfl, zf⟩ := open_int Tryz.underlying3 (hval 2 3 v2 rfl rfl) h2
  obtain ⟨dst, rfl, rfl, rfl, zd⟩ := open_int Tryz.underlying3 (hval 3 3 v3 rfl rfl) h3
  have hlt : ∀ x ∈ p0 ++ ([] ++ ([] ++ ([] ++ (p4 ++ [])))), x.block < W.heap.size := fun x hx => hW'.lt x (List.mem_append_left _ hx)
  have hlt0 : ∀ x ∈ p0, x.block < W.heap.size := fun x hx => hlt x (by simp [hx])
  have hlt4 : ∀ x ∈ p4, x.block < W.heap.size := fun x hx => hlt x (by simp [hx])
  obtain ⟨cs, rfl, _⟩ := okWide_struct Tryz.underlying25 (hval 0 25 v0 rfl rfl)
  obtain ⟨aP, lP, kP, rfl⟩ : ∃ a l c, v4 = .slice a l c := okWide_slice Tryz.underlying26 (hval 4 26 v4 rfl rfl)
  obtain ⟨fuel, hf⟩ := id h0
  obtain ⟨fuelP, hfP⟩ := id h4
  obtain ⟨d, hlen, HR, hd⟩ := open_Graph fuel _ _ hf
  obtain ⟨dP, cP, hcP, HP, hP⟩ := open_slice (E := 50) (r := 3) Tryz.underlying26 (by kernel_rfl) (by decide) (fun m _ => open_Prop m) hfP
  have eP : cP = .slice aP lP kP := by simpa [Value.cells] using hcP.symm
  subst eP
  obtain ⟨c0, c1, c2, c3, hcs⟩ := len4 hlen
  have hcs2 : cs = #[c0, c1, c2, c3] := by
    have : cs.toList = [c0, c1, c2, c3] := by simpa [Value.cells] using hcs
    exact Array.ext' this
  rw [hcs] at hd
  subst hcs2
  have k0 : DIn anyB W (d 0) c0 := hd 0 (by decide)
  have k1 : DIn anyB W (d 1) c1 := hd 1 (by decide)
  have k2 : DIn anyB W (d 2) c2 := hd 2 (by decide)
  have k3 : DIn anyB W (d 3) c3 := hd 3 (by decide)
  have H0 : Has (d 0) (.list 4) := HR 0 (by decide)
  have H1 : Has (d 1) (.list 5) := HR 1 (by decide)
  obtain ⟨x2, e2⟩ := (show Has (d 2) .int from HR 2 (by decide)).int
  obtain ⟨x3, e3⟩ := (show Has (d 3) .int from HR 3 (by decide)).int
  rw [e2] at k2
  rw [e3] at k3
  obtain ⟨rfl, z2⟩ := k2.int_eq
  obtain ⟨rfl, z3⟩ := k3.int_eq
  clear hA0 hval0
  simp only [List.append_nil] at hW'
  refine (eaLaw (d 0) (d 1) dP kind fr dst c0 c1 _ x2 x3 W zk zf zd H0 k0 H1 k1 HP hP).mono fun e W' ⟨he, hB⟩ => ?_
  subst he
  have hd0' := Below.trod laidOut (by kernel_rfl) (of_decide_eq_true (by kernel_rfl)) h0 hB hlt0
  have hd4' := Below.trod laidOut (by kernel_rfl) (of_decide_eq_true (by kernel_rfl)) h4 hB hlt4
  refine ⟨_, rfl, _, _, _, [], p0 ++ ([] ++ ([] ++ ([] ++ (p4 ++ [])))), [], by simpa using hW', ?_, ?_, ?_, Below.frame hB _, fun h => by cases h⟩
  · exact trodAll_mk1 (shut_bool Tryz.underlying4 _)
  · exact trodAll_cons_mk hd0' (trodAll_cons_mk (Go.ChangeMaps.shut_string Tryz.underlying9 zk) (trodAll_cons_mk (shut_int Tryz.underlying3 zf) (trodAll_cons_mk (shut_int Tryz.underlying3 zd) (trodAll_cons_mk hd4' trodAll_mk0))))
  · rfl

theorem over : Rows.fnExactEdgeAddRow.holds Tryz.pinned (OpenSpec.ofChange Rows.fnExactEdgeAddSpec) :=
  OpenClaim.holds_of_wide 3 Tryz.f3 rfl rfl rfl rfl rfl rfl rfl ⟨rfl, rfl, rfl, rfl, rfl⟩ rfl rfl rfl rfl rfl (by kernel_rfl) Tryz.func3 (by kernel_rfl)
    (of_decide_eq_true (by kernel_rfl)) (by unfold Func.isWrapper; first | (rw [if_pos (by decide +kernel)]; kernel_rfl) | (rw [if_neg (by decide +kernel)]; exact ⟨rfl, rfl⟩))
    (fun os started H enc _ => lifted os started H enc)

theorem proved : Rows.FnExactEdgeAddSaid :=
  over
#print axioms proved
end Go.Proofs.YtnhgnklapfhekaaGreat.fnExactEdgeAdd
