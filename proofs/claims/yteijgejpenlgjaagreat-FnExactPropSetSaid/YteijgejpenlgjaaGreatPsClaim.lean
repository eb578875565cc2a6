/- At every graph, every two values and every name the law FnExactPropSet answers true, and all arguments read afterwards as they did: impl.PropSet answers as its model does, writes into no argument, keeps nothing of one, and its answer owns its memory. There is no condition beyond those of the given row.
-/
import Derived.Test.YteijgejpenlgjaaGreatRows
import Derived.Test.YteijgejpenlgjaaGreatPsLaw
import Derived.Test.YteijgejpenlgjaaGreatDOpen
import Derived.WalkKit
import Derived.ProofKit
import Derived.OpenShut
import Derived.FnData
import Derived.ChangeMaps5
import Derived.ShutString
namespace Go.Proofs.YteijgejpenlgjaaGreat.fnExactPropSet
open Go.ChangeShapes Go.WideShapes Go.ChangeAt Go.RowKit Go.Deep
set_option linter.unusedVariables false

theorem own : ownKnob Tryz.prog.godebug = none := by kernel_rfl
theorem laidOut : laidOutB Tryz.prog = true := by kernel_rfl

set_option maxRecDepth 100000 in
theorem lifted (os : Os) (started : os.Started) (H : Type) (enc : TypeId × Value → H) :
  ReturnsInHanded {} Tryz.checked os 3 .any (Rows.fnExactPropSetSpec.pre6 enc Tryz.prog Tryz.f3 Rows.fnExactPropSetRow.domain false) (Rows.fnExactPropSetSpec.post enc Tryz.prog Tryz.f3 false true false false) := by
 refine returnsInHanded_of_change (C := Tryz.checked) own started (by kernel_rfl) Tryz.func3
  (ChangeSpec.witness6 (enc := enc) (C := Tryz.checked) false ⟨#[], #[.agg #[.slice none 0 0, .slice none 0 0, .int .i64 0, .int .i64 0], .agg #[.int .i64 0, .int .i64 0, .string ByteArray.empty, .slice none 0 0], .string ByteArray.empty, .agg #[.int .i64 0, .int .i64 0, .string ByteArray.empty, .slice none 0 0]], []⟩ 8 (by kernel_rfl) (by kernel_rfl) (by kernel_rfl) (by kernel_rfl)) ?_
 intro W base args ds gs before hval0 hW hcnd _
 have hval : ∀ (j : Nat) t v, Tryz.f3.params[j]? = some t → args[j]? = some v → Value.okWide Tryz.prog W .any base t v := hval0
 have hW' := hW
 obtain ⟨p, q, hA0, hV, rfl, hfz, hnd⟩ := hW
 have hA : DataW.TrodAll enc Tryz.prog W 0 (fun _ => true) true Tryz.f3.params.toList args.toList ds p := hA0
 rw [Tryz.params3] at hA hval
 obtain ⟨v0, vs0, dd0, ds0, p0, q0, hargs0, rfl, rfl, h0, hA1⟩ := trodAll_cons hA
 obtain ⟨v1, vs1, dd1, ds1, p1, q1, hargs1, rfl, rfl, h1, hA2⟩ := trodAll_cons hA1
 obtain ⟨v2, vs2, dd2, ds2, p2, q2, hargs2, rfl, rfl, h2, hA3⟩ := trodAll_cons hA2
 obtain ⟨v3, vs3, dd3, ds3, p3, q3, hargs3, rfl, rfl, h3, hA4⟩ := trodAll_cons hA3
 obtain ⟨hn1, hn2, hn3⟩ := trodAll_nil hA4
 subst hn2 hn3
 have hargs : args = #[v0, v1, v2, v3] := by
  have e : args.toList = [v0, v1, v2, v3] := by rw [hargs0, hargs1, hargs2, hargs3, hn1]
  exact Array.ext' e
 subst hargs
 clear hA1 hA2 hA3 hA4 hargs0 hargs1 hargs2 hargs3 hn1
 obtain ⟨rfl, rfl⟩ := trodVars_none hV
 obtain ⟨s, rfl, rfl, rfl, zs⟩ := Go.ChangeMaps.open_string Tryz.underlying9 (hval 2 9 v2 rfl rfl) h2
 have hlt : ∀ x ∈ p0 ++ (p1 ++ ([] ++ (p3 ++ []))), x.block < W.heap.size := fun x hx => hW'.lt x (List.mem_append_left _ hx)
 have hlt0 : ∀ x ∈ p0, x.block < W.heap.size := fun x hx => hlt x (by simp [hx])
 have hlt1 : ∀ x ∈ p1, x.block < W.heap.size := fun x hx => hlt x (by simp [hx])
 have hlt3 : ∀ x ∈ p3, x.block < W.heap.size := fun x hx => hlt x (by simp [hx])
 obtain ⟨cs0, rfl, _⟩ := okWide_struct Tryz.underlying25 (hval 0 25 v0 rfl rfl)
 have hcp0 := h0
 obtain ⟨fuel0, hf0⟩ := hcp0
 obtain ⟨d, hlen0, HR0, hd0⟩ := open_Graph fuel0 _ _ hf0
 obtain ⟨dc0, dc1, dc2, dc3, hcs0⟩ := len4 hlen0
 have hcs20 : cs0 = #[dc0, dc1, dc2, dc3] := by
  have : cs0.toList = [dc0, dc1, dc2, dc3] := by simpa [Value.cells] using hcs0
  exact Array.ext' this
 rw [hcs0] at hd0
 subst hcs20
 have kd0 : DIn anyB W (d 0) dc0 := hd0 0 (by decide)
 have kd1 : DIn anyB W (d 1) dc1 := hd0 1 (by decide)
 have kd2 : DIn anyB W (d 2) dc2 := hd0 2 (by decide)
 have kd3 : DIn anyB W (d 3) dc3 := hd0 3 (by decide)
 have Hd0 : Has (d 0) (.list 4) := HR0 0 (by decide)
 have Hd1 : Has (d 1) (.list 5) := HR0 1 (by decide)
 obtain ⟨dx2, ed2⟩ := (show Has (d 2) .int from HR0 2 (by decide)).int
 rw [ed2] at kd2
 obtain ⟨rfl, zd2⟩ := kd2.int_eq
 obtain ⟨dx3, ed3⟩ := (show Has (d 3) .int from HR0 3 (by decide)).int
 rw [ed3] at kd3
 obtain ⟨rfl, zd3⟩ := kd3.int_eq
 obtain ⟨cs1, rfl, _⟩ := okWide_struct Tryz.underlying28 (hval 1 28 v1 rfl rfl)
 have hcp1 := h1
 obtain ⟨fuel1, hf1⟩ := hcp1
 obtain ⟨a, hlen1, HR1, hd1⟩ := open_Value fuel1 _ _ hf1
 obtain ⟨ac0, ac1, ac2, ac3, hcs1⟩ := len4 hlen1
 have hcs21 : cs1 = #[ac0, ac1, ac2, ac3] := by
  have : cs1.toList = [ac0, ac1, ac2, ac3] := by simpa [Value.cells] using hcs1
  exact Array.ext' this
 rw [hcs1] at hd1
 subst hcs21
 have ka0 : DIn anyB W (a 0) ac0 := hd1 0 (by decide)
 have ka1 : DIn anyB W (a 1) ac1 := hd1 1 (by decide)
 have ka2 : DIn anyB W (a 2) ac2 := hd1 2 (by decide)
 have ka3 : DIn anyB W (a 3) ac3 := hd1 3 (by decide)
 have Ha3 : Has (a 3) (.list 2) := HR1 3 (by decide)
 obtain ⟨ax0, ea0⟩ := (show Has (a 0) .int from HR1 0 (by decide)).int
 rw [ea0] at ka0
 obtain ⟨rfl, za0⟩ := ka0.int_eq
 obtain ⟨ax1, ea1⟩ := (show Has (a 1) .int from HR1 1 (by decide)).int
 rw [ea1] at ka1
 obtain ⟨rfl, za1⟩ := ka1.int_eq
 obtain ⟨ax2, ea2⟩ := (show Has (a 2) .str from HR1 2 (by decide)).str
 rw [ea2] at ka2
 obtain ⟨rfl, za2⟩ := ka2.str_eq
 obtain ⟨cs3, rfl, _⟩ := okWide_struct Tryz.underlying28 (hval 3 28 v3 rfl rfl)
 have hcp3 := h3
 obtain ⟨fuel3, hf3⟩ := hcp3
 obtain ⟨b, hlen3, HR3, hd3⟩ := open_Value fuel3 _ _ hf3
 obtain ⟨bc0, bc1, bc2, bc3, hcs3⟩ := len4 hlen3
 have hcs23 : cs3 = #[bc0, bc1, bc2, bc3] := by
  have : cs3.toList = [bc0, bc1, bc2, bc3] := by simpa [Value.cells] using hcs3
  exact Array.ext' this
 rw [hcs3] at hd3
 subst hcs23
 have kb0 : DIn anyB W (b 0) bc0 := hd3 0 (by decide)
 have kb1 : DIn anyB W (b 1) bc1 := hd3 1 (by decide)
 have kb2 : DIn anyB W (b 2) bc2 := hd3 2 (by decide)
 have kb3 : DIn anyB W (b 3) bc3 := hd3 3 (by decide)
 have Hb3 : Has (b 3) (.list 2) := HR3 3 (by decide)
 obtain ⟨bx0, eb0⟩ := (show Has (b 0) .int from HR3 0 (by decide)).int
 rw [eb0] at kb0
 obtain ⟨rfl, zb0⟩ := kb0.int_eq
 obtain ⟨bx1, eb1⟩ := (show Has (b 1) .int from HR3 1 (by decide)).int
 rw [eb1] at kb1
 obtain ⟨rfl, zb1⟩ := kb1.int_eq
 obtain ⟨bx2, eb2⟩ := (show Has (b 2) .str from HR3 2 (by decide)).str
 rw [eb2] at kb2
 obtain ⟨rfl, zb2⟩ := kb2.str_eq
 clear hA0 hval0
 simp only [List.append_nil] at hW'
 refine (psLaw (d 0) (d 1) (a 3) (b 3) dc0 dc1 ac3 bc3 dx2 dx3 ax0 ax1 bx0 bx1 ax2 s bx2 W zs za0 za1 za2 zb0 zb1 zb2 Hd0 kd0 Hd1 kd1 Ha3 ka3 Hb3 kb3).mono fun e W' ⟨he, hB⟩ => ?_
 subst he
 have hd0' := Below.trod laidOut (by kernel_rfl) (of_decide_eq_true (by kernel_rfl)) h0 hB hlt0
 have hd1' := Below.trod laidOut (by kernel_rfl) (of_decide_eq_true (by kernel_rfl)) h1 hB hlt1
 have hd3' := Below.trod laidOut (by kernel_rfl) (of_decide_eq_true (by kernel_rfl)) h3 hB hlt3
 refine ⟨_, rfl, _, _, _, [], p0 ++ (p1 ++ ([] ++ (p3 ++ []))), [], by simpa using hW', ?_, ?_, ?_, Below.frame hB _, fun h => by cases h⟩
 ·
  exact trodAll_mk1 (shut_bool Tryz.underlying4 _)
 ·
  exact trodAll_cons_mk hd0' (trodAll_cons_mk hd1' (trodAll_cons_mk (Go.ChangeMaps.shut_string Tryz.underlying9 zs) (trodAll_cons_mk hd3' trodAll_mk0)))
 ·
  rfl

theorem over : Rows.fnExactPropSetRow.holds Tryz.pinned (OpenSpec.ofChange Rows.fnExactPropSetSpec) :=
 OpenClaim.holds_of_wide 3 Tryz.f3 rfl rfl rfl rfl rfl rfl rfl ⟨rfl, rfl, rfl, rfl, rfl⟩ rfl rfl rfl rfl rfl (by kernel_rfl) Tryz.func3 (by kernel_rfl)
  (of_decide_eq_true (by kernel_rfl)) (by unfold Func.isWrapper; first | (rw [if_pos (by decide +kernel)]; kernel_rfl) | (rw [if_neg (by decide +kernel)]; exact ⟨rfl, rfl⟩))
  (fun os started H enc _ => lifted os started H enc)

theorem proved : Rows.FnExactPropSetSaid :=
 over
#print axioms proved
end Go.Proofs.YteijgejpenlgjaaGreat.fnExactPropSet
