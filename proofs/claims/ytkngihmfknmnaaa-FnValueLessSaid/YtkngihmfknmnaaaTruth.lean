/- What impl.truth answers, and the values of yes, no and nothing. -/
import Derived.Test.YtkngihmfknmnaaaLessSpec
import Derived.Test.YtkngihmfknmnaaaOrdCmp
namespace Go.Proofs.Ytkngihmfknmnaaa
open Go.RowKit Go.Deep

set_option maxHeartbeats 400000 in
theorem truth_any (b : Bool) (w : World) : Calls Try.prog 31 #[.bool b] w fun e w' => e = .returned (.int .i64 (b01 b)) ∧ w' = w := by
  cases b
  all_goals
    go_enter Try.func31, Try.ntmps31
    go_wp2
    go_ret
    exact ⟨rfl, rfl⟩

set_option maxRecDepth 100000 in
set_option maxHeartbeats 400000 in
theorem boolValue_any (n : Int) (w : World) : Calls Try.prog 71 #[.int .i64 n] w fun e w' => e = .returned (flat 1 n) ∧ Ext w w' := by
  go_enter Try.func71, Try.ntmps71
  go_wp2
  exact bodyPost_ret (v := flat 1 n) (by simp [flat, results, Try.results71, go_sem]) rfl ⟨rfl, (Ext.refl _).alloc _⟩

theorem ValIn.kind_eq {lo : Nat} {w : World} {x : V} {kk nn : Int} {tt : ByteArray} {u : Value} (h : ValIn lo w x (.agg #[.int .i64 kk, .int .i64 nn, .string tt, u])) : x.kind = kk := by
  cases h; rfl

/-- The term of an answer. -/
def tO : Option Bool → Value
  | none => .iface 67 (.agg #[])
  | some b => .iface 63 (.int .i64 (b01 b))
theorem ret_tO {a b : Option Bool} (h : a = b) : Ending.returned (tO a) = .returned (tO b) := by rw [h]

theorem as_null (U : TypeId) (v : Value) (w : World) : (Instr.typeAssert (.iface U v) 39 67 true).run Try.prog w = .ok (if U = 67 then .tuple #[v, .bool true] else .tuple #[.agg #[], .bool false]) w := by
  have hz : (zeroValue 67).run Try.prog w = .ok (.agg #[]) w := by kernel_rfl
  by_cases h : U = 67 <;> simp [Instr.typeAssert, run_underlying Try.underlying67, h, hz, Result.andThen]

theorem vmeth_null (z : Value) (w : World) : (method 212 67 z "loop.example/ashlar/impl.value").run Try.prog w = .ok (76, z) w := by kernel_rfl
theorem vmeth_bool (z : Value) (w : World) : (method 212 63 z "loop.example/ashlar/impl.value").run Try.prog w = .ok (71, z) w := by kernel_rfl

set_option maxRecDepth 100000 in
set_option maxHeartbeats 400000 in
theorem nullValue_any (w : World) : Calls Try.prog 76 #[.agg #[]] w fun e w' => e = .returned (flat 0 0) ∧ Ext w w' := by
  go_enter Try.func76, Try.ntmps76
  go_wp2
  exact bodyPost_ret (v := flat 0 0) (by simp [flat, results, Try.results76, go_sem]) rfl ⟨rfl, ((Ext.refl _).alloc _).alloc _⟩

end Go.Proofs.Ytkngihmfknmnaaa
