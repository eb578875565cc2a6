/- What impl.truth answers, and the values of yes, no and nothing. -/
import Derived.Test.YtmacoaookleakaaLessSpec
import Derived.Test.YtmacoaookleakaaOrdCmp
namespace Go.Proofs.Ytmacoaookleakaa
open Go.RowKit Go.Deep

set_option maxHeartbeats 400000 in
theorem truth_any (b : Bool) (w : World) : Calls Try.prog 25 #[.bool b] w fun e w' => e = .returned (.int .i64 (b01 b)) ∧ w' = w := by
  cases b
  all_goals
    go_enter Try.func25, Try.ntmps25
    go_wp2
    go_ret
    exact ⟨rfl, rfl⟩

set_option maxRecDepth 100000 in
set_option maxHeartbeats 400000 in
theorem boolValue_any (n : Int) (w : World) : Calls Try.prog 64 #[.int .i64 n] w fun e w' => e = .returned (flat 1 n) ∧ Ext w w' := by
  go_enter Try.func64, Try.ntmps64
  go_wp2
  exact bodyPost_ret (v := flat 1 n) (by simp [flat, results, Try.results64, go_sem]) rfl ⟨rfl, (Ext.refl _).alloc _⟩

theorem ValIn.kind_eq {lo : Nat} {w : World} {x : V} {kk nn : Int} {tt : ByteArray} {u : Value} (h : ValIn lo w x (.agg #[.int .i64 kk, .int .i64 nn, .string tt, u])) : x.kind = kk := by
  cases h; rfl

/-- The term of an answer. -/
def tO : Option Bool → Value
  | none => .iface 56 (.agg #[])
  | some b => .iface 51 (.int .i64 (b01 b))
theorem ret_tO {a b : Option Bool} (h : a = b) : Ending.returned (tO a) = .returned (tO b) := by rw [h]

theorem as_null (U : TypeId) (v : Value) (w : World) : (Instr.typeAssert (.iface U v) 38 56 true).run Try.prog w = .ok (if U = 56 then .tuple #[v, .bool true] else .tuple #[.agg #[], .bool false]) w := by
  have hz : (zeroValue 56).run Try.prog w = .ok (.agg #[]) w := by kernel_rfl
  by_cases h : U = 56 <;> simp [Instr.typeAssert, run_underlying Try.underlying56, h, hz, Result.andThen]

theorem vmeth_null (z : Value) (w : World) : (method 204 56 z "loop.example/ashlar/impl.value").run Try.prog w = .ok (69, z) w := by kernel_rfl
theorem vmeth_bool (z : Value) (w : World) : (method 204 51 z "loop.example/ashlar/impl.value").run Try.prog w = .ok (64, z) w := by kernel_rfl

set_option maxRecDepth 100000 in
set_option maxHeartbeats 400000 in
theorem nullValue_any (w : World) : Calls Try.prog 69 #[.agg #[]] w fun e w' => e = .returned (flat 0 0) ∧ Ext w w' := by
  go_enter Try.func69, Try.ntmps69
  go_wp2
  exact bodyPost_ret (v := flat 0 0) (by simp [flat, results, Try.results69, go_sem]) rfl ⟨rfl, ((Ext.refl _).alloc _).alloc _⟩

end Go.Proofs.Ytmacoaookleakaa
