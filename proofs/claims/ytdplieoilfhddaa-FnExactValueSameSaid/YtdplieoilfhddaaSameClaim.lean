/- At every two values the law FnExactValueSame answers true, and the values read afterwards as they did: impl.ValueSame answers as its model does, and writes into no argument. There is no condition beyond those of the given row.
-/
import Derived.Test.YtdplieoilfhddaaRows
import Derived.Test.YtdplieoilfhddaaSameLaw
namespace Go.Proofs.Ytdplieoilfhddaa.fnExactValueSame
open Go.ChangeShapes Go.WideShapes Go.ChangeAt Go.RowKit Go.Deep
set_option linter.unusedVariables false

set_option maxRecDepth 100000 in
theorem lifted (os : Os) (started : os.Started) (H : Type) (enc : TypeId × Value → H) :
    ReturnsInHanded {} Try.checked os 3 .any (Rows.fnExactValueSameSpec.pre6 enc Try.prog Try.f3 Rows.fnExactValueSameRow.domain false) (Rows.fnExactValueSameSpec.post enc Try.prog Try.f3 false true false false) := by
  refine returnsInHanded_of_change (C := Try.checked) own started (by kernel_rfl) Try.func3
    (ChangeSpec.witness6 (enc := enc) (C := Try.checked) false ⟨#[], #[.agg #[.int .i64 0, .int .i64 0, .string ByteArray.empty, .slice none 0 0], .agg #[.int .i64 0, .int .i64 0, .string ByteArray.empty, .slice none 0 0]], []⟩ 8 (by kernel_rfl) (by kernel_rfl) (by kernel_rfl) (by kernel_rfl)) ?_
  intro W base args ds gs before hval0 hW hcnd _
  have hval : ∀ (j : Nat) t v, Try.f3.params[j]? = some t → args[j]? = some v → Value.okWide Try.prog W .any base t v := hval0
  have hW' := hW
  obtain ⟨p, q, hA0, hV, rfl, hfz, hnd⟩ := hW
  have hA : DataW.TrodAll enc Try.prog W 0 (fun _ => true) true Try.f3.params.toList args.toList ds p := hA0
  rw [Try.params3] at hA hval
  obtain ⟨v0, v1, d0, d1, p0, p1, rfl, rfl, rfl, h0, h1⟩ := trodAll_two hA
  obtain ⟨rfl, rfl⟩ := trodVars_none hV
  have hlt : ∀ x ∈ p0 ++ p1, x.block < W.heap.size := fun x hx => hW'.lt x (List.mem_append_left _ hx)
  have opened : ∀ (j : Nat) (v : Value) (d : DataW H) (p : List MemPlace), Value.okWide Try.prog W .any base 24 v → DataW.Trod enc Try.prog W 0 (fun _ => true) true 24 v d p → ∃ x, ValIn 0 W x v := by
    intro j v d p hok ht
    obtain ⟨cs, rfl, _⟩ := okWide_struct Try.underlying24 hok
    obtain ⟨fuel, hf⟩ := ht
    obtain ⟨c0, c1, c2, c3, y, hcs, hy⟩ := open_val fuel _ _ hf
    have hcs2 : cs = #[c0, c1, c2, c3] := by
      have : cs.toList = [c0, c1, c2, c3] := by simpa [Value.cells] using hcs
      exact Array.ext' this
    exact ⟨y, by rw [hcs2]; exact hy⟩
  obtain ⟨x, hin⟩ := opened 0 v0 d0 p0 (hval 0 24 v0 rfl rfl) h0
  obtain ⟨y, hin'⟩ := opened 1 v1 d1 p1 (hval 1 24 v1 rfl rfl) h1
  clear hA0 hval0
  simp only [List.append_nil] at hW'
  refine (walk v0 v1 x y W hin hin').mono fun e W' ⟨he, hB⟩ => ?_
  subst he
  have hd0 := Below.trod laidOut (by kernel_rfl) (of_decide_eq_true (by kernel_rfl)) h0 hB (fun x hx => hlt x (List.mem_append_left _ hx))
  have hd1 := Below.trod laidOut (by kernel_rfl) (of_decide_eq_true (by kernel_rfl)) h1 hB (fun x hx => hlt x (List.mem_append_right _ hx))
  refine ⟨_, rfl, _, _, _, [], p0 ++ p1, [], hW', ?_, ?_, ?_, Below.frame hB _, fun h => by cases h⟩
  · exact trodAll_mk1 (shut_bool Try.underlying4 _)
  · exact trodAll_mk2 hd0 hd1
  · rfl

theorem over : Rows.fnExactValueSameRow.holds Try.pinned (OpenSpec.ofChange Rows.fnExactValueSameSpec) :=
  OpenClaim.holds_of_wide 3 Try.f3 rfl rfl rfl rfl rfl rfl rfl ⟨rfl, rfl, rfl, rfl, rfl⟩ rfl rfl rfl rfl rfl (by kernel_rfl) Try.func3 (by kernel_rfl)
    (of_decide_eq_true (by kernel_rfl)) (by unfold Func.isWrapper; first | (rw [if_pos (by decide +kernel)]; kernel_rfl) | (rw [if_neg (by decide +kernel)]; exact ⟨rfl, rfl⟩))
    (fun os started H enc _ => lifted os started H enc)

theorem proved : Rows.FnExactValueSameSaid :=
  over
#print axioms proved
end Go.Proofs.Ytdplieoilfhddaa.fnExactValueSame
