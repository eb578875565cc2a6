/- At every graph, every value and every name the law FnExactPropGet answers true, and all read afterwards as they did: impl.PropGet answers as its model does, writes into no argument, keeps nothing of one, and its answer owns its memory. There is no condition beyond those of the given row.
-/
import Derived.Test.YtggnfhicgpleeaaGreatRows
import Derived.Test.YtggnfhicgpleeaaGreatPgLaw
import Derived.Test.YtggnfhicgpleeaaGreatDOpen
import Derived.WalkKit
import Derived.ProofKit
import Derived.OpenShut
import Derived.FnData
import Derived.ChangeMaps5
import Derived.ShutString
namespace Go.Proofs.YtggnfhicgpleeaaGreat.fnExactPropGet
open Go.ChangeShapes Go.WideShapes Go.ChangeAt Go.RowKit Go.Deep
set_option linter.unusedVariables false

theorem own : ownKnob Tryz.prog.godebug = none := by kernel_rfl
theorem laidOut : laidOutB Tryz.prog = true := by kernel_rfl

set_option maxRecDepth 100000 in
theorem lifted (os : Os) (started : os.Started) (H : Type) (enc : TypeId × Value → H) :
    ReturnsInHanded {} Tryz.checked os 3 .any (Rows.fnExactPropGetSpec.pre6 enc Tryz.prog Tryz.f3 Rows.fnExactPropGetRow.domain false) (Rows.fnExactPropGetSpec.post enc Tryz.prog Tryz.f3 false true false false) := by
  refine returnsInHanded_of_change (C := Tryz.checked) own started (by kernel_rfl) Tryz.func3
    (ChangeSpec.witness6 (enc := enc) (C := Tryz.checked) false ⟨#[], #[.agg #[.slice none 0 0, .slice none 0 0, .int .i64 0, .int .i64 0], .agg #[.int .i64 0, .int .i64 0, .string ByteArray.empty, .slice none 0 0], .string ByteArray.empty], []⟩ 8 (by kernel_rfl) (by kernel_rfl) (by kernel_rfl) (by kernel_rfl)) ?_
  intro W base args ds gs before hval0 hW hcnd _
  have hval : ∀ (j : Nat) t v, Tryz.f3.params[j]? = some t → args[j]? = some v → Value.okWide Tryz.prog W .any base t v := hval0
  have hW' := hW
  obtain ⟨p, q, hA0, hV, rfl, hfz, hnd⟩ := hW
  have hA : DataW.TrodAll enc Tryz.prog W 0 (fun _ => true) true Tryz.f3.params.toList args.toList ds p := hA0
  rw [Tryz.params3] at hA hval
  obtain ⟨v0, v1, v2, d0, d1, d2, p0, p1, p2, rfl, rfl, rfl, h0, h1, h2⟩ := trodAll_three hA
  obtain ⟨rfl, rfl⟩ := trodVars_none hV
  obtain ⟨s, rfl, rfl, rfl, zs⟩ := Go.ChangeMaps.open_string Tryz.underlying9 (hval 2 9 v2 rfl rfl) h2
  have hlt : ∀ x ∈ p0 ++ p1 ++ [], x.block < W.heap.size := fun x hx => hW'.lt x (List.mem_append_left _ hx)
  have hlt0 : ∀ x ∈ p0, x.block < W.heap.size := fun x hx => hlt x (by simp [hx])
  have hlt1 : ∀ x ∈ p1, x.block < W.heap.size := fun x hx => hlt x (by simp [hx])
  obtain ⟨cs, rfl, _⟩ := okWide_struct Tryz.underlying25 (hval 0 25 v0 rfl rfl)
  obtain ⟨vs, rfl, _⟩ := okWide_struct Tryz.underlying28 (hval 1 28 v1 rfl rfl)
  obtain ⟨fuel, hf⟩ := id h0
  obtain ⟨fuelV, hfV⟩ := id h1
  obtain ⟨d, hlen, HR, hd⟩ := open_Graph fuel _ _ hf
  obtain ⟨dv, hlenV, HRV, hdv⟩ := open_Value fuelV _ _ hfV
  obtain ⟨c0, c1, c2, c3, hcs⟩ := len4 hlen
  have hcs2 : cs = #[c0, c1, c2, c3] := by
    have : cs.toList = [c0, c1, c2, c3] := by simpa [Value.cells] using hcs
    exact Array.ext' this
  rw [hcs] at hd
  subst hcs2
  obtain ⟨e0, e1, e2, e3, hes⟩ := len4 hlenV
  have hes2 : vs = #[e0, e1, e2, e3] := by
    have : vs.toList = [e0, e1, e2, e3] := by simpa [Value.cells] using hes
    exact Array.ext' this
  rw [hes] at hdv
  subst hes2
  have k0 : DIn anyB W (d 0) c0 := hd 0 (by decide)
  have k1 : DIn anyB W (d 1) c1 := hd 1 (by decide)
  have k2 : DIn anyB W (d 2) c2 := hd 2 (by decide)
  have k3 : DIn anyB W (d 3) c3 := hd 3 (by decide)
  have H0 : Has (d 0) (.list 4) := HR 0 (by decide)
  have H1 : Has (d 1) (.list 5) := HR 1 (by decide)
  obtain ⟨x2, f2⟩ := (show Has (d 2) .int from HR 2 (by decide)).int
  obtain ⟨x3, f3⟩ := (show Has (d 3) .int from HR 3 (by decide)).int
  rw [f2] at k2
  rw [f3] at k3
  obtain ⟨rfl, z2⟩ := k2.int_eq
  obtain ⟨rfl, z3⟩ := k3.int_eq
  have m0 : DIn anyB W (dv 0) e0 := hdv 0 (by decide)
  have m1 : DIn anyB W (dv 1) e1 := hdv 1 (by decide)
  have m2 : DIn anyB W (dv 2) e2 := hdv 2 (by decide)
  have m3 : DIn anyB W (dv 3) e3 := hdv 3 (by decide)
  have H3 : Has (dv 3) (.list 2) := HRV 3 (by decide)
  obtain ⟨y0, g0⟩ := (show Has (dv 0) .int from HRV 0 (by decide)).int
  obtain ⟨y1, g1⟩ := (show Has (dv 1) .int from HRV 1 (by decide)).int
  obtain ⟨y2, g2⟩ := (show Has (dv 2) .str from HRV 2 (by decide)).str
  rw [g0] at m0
  rw [g1] at m1
  rw [g2] at m2
  obtain ⟨rfl, zk⟩ := m0.int_eq
  obtain ⟨rfl, zn⟩ := m1.int_eq
  obtain ⟨rfl, zt⟩ := m2.str_eq
  clear hA0 hval0
  simp only [List.append_nil] at hW'
  refine (pgLaw (d 0) (d 1) (dv 3) c0 c1 e3 x2 x3 y0 y1 y2 s W zs zk zn zt H0 k0 H1 k1 H3 m3).mono fun e W' ⟨he, hB⟩ => ?_
  subst he
  have hd0' := Below.trod laidOut (by kernel_rfl) (of_decide_eq_true (by kernel_rfl)) h0 hB hlt0
  have hd1' := Below.trod laidOut (by kernel_rfl) (of_decide_eq_true (by kernel_rfl)) h1 hB hlt1
  refine ⟨_, rfl, _, _, _, [], p0 ++ (p1 ++ ([] ++ [])), [], by simpa using hW', ?_, ?_, ?_, Below.frame hB _, fun h => by cases h⟩
  · exact trodAll_mk1 (shut_bool Tryz.underlying4 _)
  · exact trodAll_cons_mk hd0' (trodAll_cons_mk hd1' (trodAll_cons_mk (Go.ChangeMaps.shut_string Tryz.underlying9 zs) trodAll_mk0))
  · rfl

theorem over : Rows.fnExactPropGetRow.holds Tryz.pinned (OpenSpec.ofChange Rows.fnExactPropGetSpec) :=
  OpenClaim.holds_of_wide 3 Tryz.f3 rfl rfl rfl rfl rfl rfl rfl ⟨rfl, rfl, rfl, rfl, rfl⟩ rfl rfl rfl rfl rfl (by kernel_rfl) Tryz.func3 (by kernel_rfl)
    (of_decide_eq_true (by kernel_rfl)) (by unfold Func.isWrapper; first | (rw [if_pos (by decide +kernel)]; kernel_rfl) | (rw [if_neg (by decide +kernel)]; exact ⟨rfl, rfl⟩))
    (fun os started H enc _ => lifted os started H enc)

theorem proved : Rows.FnExactPropGetSaid :=
  over
#print axioms proved
end Go.Proofs.YtggnfhicgpleeaaGreat.fnExactPropGet
