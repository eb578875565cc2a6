/- At every value the law FnExactValueOk answers true, and the value reads afterwards as it did: impl.ValueOk answers as its model does, and writes into no argument. There is no condition beyond those of the given row.
-/
import Derived.Test.YtgnkibgkknapoaaRows
import Derived.Test.YtgnkibgkknapoaaValSz
import Derived.Test.YtgnkibgkknapoaaValTo
import Derived.Test.YtgnkibgkknapoaaValEq
import Derived.Test.YtgnkibgkknapoaaValL1Ok
import Derived.Test.YtgnkibgkknapoaaValTerm
import Derived.Test.YtgnkibgkknapoaaValOpen
import Derived.WalkKit
import Derived.ProofKit
import Derived.OpenShut
import Derived.Lib.SmallJoins
namespace Go.Proofs.Ytgnkibgkknapoaa.fnExactValueOk
open Go.ChangeShapes Go.WideShapes Go.ChangeAt Go.RowKit Go.Deep
set_option linter.unusedVariables false

theorem own : ownKnob Try.prog.godebug = none := by kernel_rfl
theorem laidOut : laidOutB Try.prog = true := by kernel_rfl

set_option maxHeartbeats 1000000 in
theorem walk (v : Value) (x : V) (w : World) (hv : ValIn 0 w x v) :
    Calls Try.prog 3 #[v] w fun e w' => e = .returned (.bool true) ∧ Ext w w' := by
  obtain ⟨kk, nn, tt, aa, ll, cc, hsh⟩ := hv.shape
  subst hsh
  have hE0 : Ext w (w.alloc (.cells #[.int .i64 kk, .int .i64 nn, .string tt, .slice aa ll cc] 24)) := (Ext.refl _).alloc _
  go_enter Try.func3, Try.ntmps3
  go_wp2_with fail
  refine (szValue_any x 0 _ _ _ (hv.ext hE0) (by omega) (by omega)).mono ?_
  rintro e w1 ⟨r, rfl, hr1, hr2, hr, hE1⟩
  obtain ⟨p0, p1, p2, p3, _⟩ := box4 hE1
  have hA1 := hE0.trans hE1
  by_cases hr0 : r < 0
  · go_wp2
    go_ret
    exact ⟨rfl, hA1⟩
  · have hn := hr (by omega)
    clear hr
    go_wp2_with fail
    refine (toValue_any x 0 _ _ (hv.ext hA1) hn).mono ?_
    rintro e w2 ⟨u, rfl, hu, hE2⟩
    clear p0 p1 p2 p3
    go_wp2_with fail
    refine (specValueOk_any x _ u _ hu).mono ?_
    rintro e w3 ⟨rfl, hE3⟩
    have hB3 := (hE1.trans hE2).trans hE3
    obtain ⟨p0, p1, p2, p3, _⟩ := box4 hB3
    go_wp2_with fail
    refine (toValue_any x 0 _ _ (hv.ext (hE0.trans hB3)) hn).mono ?_
    rintro e w4 ⟨u2, rfl, hu2, hE4⟩
    clear p0 p1 p2 p3
    obtain ⟨k2, n2, t2, a2, l2, c2, hsh⟩ := hu2.shape
    subst hsh
    have hE5 : Ext w4 (w4.alloc (.cells #[.int .i64 k2, .int .i64 n2, .string t2, .slice a2 l2 c2] 29)) := (Ext.refl _).alloc _
    go_wp2_with fail
    refine (implValueOk_any x _ _ _ (hu2.ext hE5)).mono ?_
    rintro e w6 ⟨rfl, hE6⟩
    have hB6 : Ext (w.alloc (.cells #[.int .i64 kk, .int .i64 nn, .string tt, .slice aa ll cc] 24)) w6 := ((hB3.trans hE4).trans hE5).trans hE6
    obtain ⟨p0, p1, p2, p3, _⟩ := box4 hB6
    obtain ⟨q0, q1, q2, q3, _⟩ := box4 hE6
    have hto := toValue_any x 0 _ w6.drew (hv.ext ((hE0.trans hB6).drew)) hn
    have hu6 := (hu2.ext hE5).ext hE6
    go_wp2_with fail
    go_region_with (first
      | (go_at_call 6
         refine hto.mono ?_
         rintro e w7 ⟨u3, rfl, hu3, hE7⟩
         have hq7 : Ext (w4.alloc (.cells #[.int .i64 k2, .int .i64 n2, .string t2, .slice a2 l2 c2] 29)) w7 := hE6.drew.trans hE7
         obtain ⟨q0, q1, q2, q3, _⟩ := box4 hq7
         have heq := eqValue_any x 0 _ _ w7 ((hu6.ext ((Ext.refl _).drew.trans hE7)).mono (Nat.zero_le _)) (hu3.mono (Nat.zero_le _)))
      | (go_at_call 8
         refine heq.mono ?_
         rintro e w8 ⟨rfl, hE8⟩))
    all_goals
      go_wp2
      go_ret
      exact ⟨rfl, (((hE0.trans hB6).drew).trans hE7).trans hE8⟩

set_option maxRecDepth 100000 in
theorem lifted (os : Os) (started : os.Started) (H : Type) (enc : TypeId × Value → H) :
    ReturnsInHanded {} Try.checked os 3 .any (Rows.fnExactValueOkSpec.pre6 enc Try.prog Try.f3 Rows.fnExactValueOkRow.domain false) (Rows.fnExactValueOkSpec.post enc Try.prog Try.f3 false true false false) := by
  refine returnsInHanded_of_change (C := Try.checked) own started (by kernel_rfl) Try.func3
    (ChangeSpec.witness6 (enc := enc) (C := Try.checked) false ⟨#[], #[.agg #[.int .i64 0, .int .i64 0, .string ByteArray.empty, .slice none 0 0]], []⟩ 8 (by kernel_rfl) (by kernel_rfl) (by kernel_rfl) (by kernel_rfl)) ?_
  intro W base args ds gs before hval0 hW hcnd _
  have hval : ∀ (j : Nat) t v, Try.f3.params[j]? = some t → args[j]? = some v → Value.okWide Try.prog W .any base t v := hval0
  have hW' := hW
  obtain ⟨p, q, hA0, hV, rfl, hfz, hnd⟩ := hW
  have hA : DataW.TrodAll enc Try.prog W 0 (fun _ => true) true Try.f3.params.toList args.toList ds p := hA0
  rw [Try.params3] at hA hval
  obtain ⟨v0, d0, rfl, rfl, h0⟩ := trodAll_one hA
  obtain ⟨rfl, rfl⟩ := trodVars_none hV
  have hlt : ∀ x ∈ p, x.block < W.heap.size := fun x hx => hW'.lt x (List.mem_append_left _ hx)
  obtain ⟨x, hin⟩ : ∃ x, ValIn 0 W x v0 := by
    obtain ⟨cs, rfl, _⟩ := okWide_struct Try.underlying24 (hval 0 24 v0 rfl rfl)
    obtain ⟨fuel, hf⟩ := h0
    obtain ⟨c0, c1, c2, c3, y, hcs, hy⟩ := open_val fuel _ _ hf
    have hcs2 : cs = #[c0, c1, c2, c3] := by
      have : cs.toList = [c0, c1, c2, c3] := by simpa [Value.cells] using hcs
      exact Array.ext' this
    exact ⟨y, by rw [hcs2]; exact hy⟩
  clear hA0 hval0
  simp only [List.append_nil] at hW'
  refine (walk v0 x W hin).mono fun e W' ⟨he, hB⟩ => ?_
  subst he
  have hd' := Below.trod laidOut (by kernel_rfl) (of_decide_eq_true (by kernel_rfl)) h0 hB hlt
  refine ⟨_, rfl, _, _, _, [], p, [], hW', ?_, ?_, ?_, Below.frame hB _, fun h => by cases h⟩
  · exact trodAll_mk1 (shut_bool Try.underlying4 _)
  · exact trodAll_mk1 hd'
  · rfl

theorem over : Rows.fnExactValueOkRow.holds Try.pinned (OpenSpec.ofChange Rows.fnExactValueOkSpec) :=
  OpenClaim.holds_of_wide 3 Try.f3 rfl rfl rfl rfl rfl rfl rfl ⟨rfl, rfl, rfl, rfl, rfl⟩ rfl rfl rfl rfl rfl (by kernel_rfl) Try.func3 (by kernel_rfl)
    (of_decide_eq_true (by kernel_rfl)) (by unfold Func.isWrapper; first | (rw [if_pos (by decide +kernel)]; kernel_rfl) | (rw [if_neg (by decide +kernel)]; exact ⟨rfl, rfl⟩))
    (fun os started H enc _ => lifted os started H enc)

theorem proved : Rows.FnExactValueOkSaid :=
  over
#print axioms proved
end Go.Proofs.Ytgnkibgkknapoaa.fnExactValueOk
