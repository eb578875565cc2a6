/- What the assertions on terms, impl.rankOf, cmp.Compare and impl.orderKinds answer. -/
import Derived.Test.YtkngihmfknmnaaaTermMem
import Derived.Laws.Cover1
namespace Go.Proofs.Ytkngihmfknmnaaa
open Go.RowKit Go.Deep

def cmpI (a b : Int) : Int := if a < b then -1 else if b < a then 1 else 0
def cmpT (s t : ByteArray) : Int := if Op.bytesLess s.toList t.toList then -1 else if !(Op.bytesLess s.toList t.toList || s.toList == t.toList) then 1 else 0

theorem as_bool (U : TypeId) (v : Value) (w : World) : (Instr.typeAssert (.iface U v) 39 63 true).run Try.prog w = .ok (if U = 63 then .tuple #[v, .bool true] else .tuple #[.int .i64 0, .bool false]) w := by
  have hz : (zeroValue 63).run Try.prog w = .ok (.int .i64 0) w := by kernel_rfl
  by_cases h : U = 63 <;> simp [Instr.typeAssert, run_underlying Try.underlying63, h, hz, Result.andThen]
theorem as_num (U : TypeId) (v : Value) (w : World) : (Instr.typeAssert (.iface U v) 39 61 true).run Try.prog w = .ok (if U = 61 then .tuple #[v, .bool true] else .tuple #[.int .i64 0, .bool false]) w := by
  have hz : (zeroValue 61).run Try.prog w = .ok (.int .i64 0) w := by kernel_rfl
  by_cases h : U = 61 <;> simp [Instr.typeAssert, run_underlying Try.underlying61, h, hz, Result.andThen]
theorem as_text (U : TypeId) (v : Value) (w : World) : (Instr.typeAssert (.iface U v) 39 62 true).run Try.prog w = .ok (if U = 62 then .tuple #[v, .bool true] else .tuple #[.string ⟨#[]⟩, .bool false]) w := by
  have hz : (zeroValue 62).run Try.prog w = .ok (.string ⟨#[]⟩) w := by kernel_rfl
  by_cases h : U = 62 <;> simp [Instr.typeAssert, run_underlying Try.underlying62, h, hz, Result.andThen]
theorem as_list (U : TypeId) (v : Value) (w : World) : (Instr.typeAssert (.iface U v) 39 76 true).run Try.prog w = .ok (if U = 76 then .tuple #[v, .bool true] else .tuple #[.slice none 0 0, .bool false]) w := by
  have hz : (zeroValue 76).run Try.prog w = .ok (.slice none 0 0) w := by kernel_rfl
  by_cases h : U = 76 <;> simp [Instr.typeAssert, run_underlying Try.underlying76, h, hz, Result.andThen]
theorem as_node (U : TypeId) (v : Value) (w : World) : (Instr.typeAssert (.iface U v) 39 72 true).run Try.prog w = .ok (if U = 72 then .tuple #[v, .bool true] else .tuple #[.int .i64 0, .bool false]) w := by
  have hz : (zeroValue 72).run Try.prog w = .ok (.int .i64 0) w := by kernel_rfl
  by_cases h : U = 72 <;> simp [Instr.typeAssert, run_underlying Try.underlying72, h, hz, Result.andThen]
theorem as_edge (U : TypeId) (v : Value) (w : World) : (Instr.typeAssert (.iface U v) 39 73 true).run Try.prog w = .ok (if U = 73 then .tuple #[v, .bool true] else .tuple #[.int .i64 0, .bool false]) w := by
  have hz : (zeroValue 73).run Try.prog w = .ok (.int .i64 0) w := by kernel_rfl
  by_cases h : U = 73 <;> simp [Instr.typeAssert, run_underlying Try.underlying73, h, hz, Result.andThen]

def rankB (k : Int) : Int := if k = 5 then 0 else if k = 6 then 1 else if k = 4 then 2 else if k = 3 then 3 else if k = 1 then 4 else if k = 2 then 5 else 6

set_option maxRecDepth 100000 in
set_option maxHeartbeats 400000 in
theorem cmpText_any (s t : ByteArray) (w : World) : Calls Try.prog 67 #[.string s, .string t] w fun e w' => e = .returned (.int .i64 (cmpT s t)) ∧ w' = w := by
  go_enter Try.func67, Try.ntmps67
  go_wp2
  all_goals go_ret
  all_goals exact ⟨ret_int (by simp [cmpT, *]), rfl⟩
set_option maxHeartbeats 400000 in
theorem cmpInt_any (a b : Int) (w : World) : Calls Try.prog 39 #[.int .i64 a, .int .i64 b] w fun e w' => e = .returned (.int .i64 (cmpI a b)) ∧ w' = w := by
  go_enter Try.func39, Try.ntmps39
  go_wp2
  all_goals go_ret
  all_goals exact ⟨ret_int (by unfold cmpI; split <;> (try split) <;> omega), rfl⟩
set_option maxHeartbeats 400000 in
theorem cmpBool_any (a b : Int) (w : World) : Calls Try.prog 72 #[.int .i64 a, .int .i64 b] w fun e w' => e = .returned (.int .i64 (cmpI a b)) ∧ w' = w := by
  go_enter Try.func72, Try.ntmps72
  go_wp2
  all_goals go_ret
  all_goals exact ⟨ret_int (by unfold cmpI; split <;> (try split) <;> omega), rfl⟩
set_option maxHeartbeats 400000 in
theorem cmpNum_any (a b : Int) (w : World) : Calls Try.prog 62 #[.int .i64 a, .int .i64 b] w fun e w' => e = .returned (.int .i64 (cmpI a b)) ∧ w' = w := by
  go_enter Try.func62, Try.ntmps62
  go_wp2
  all_goals go_ret
  all_goals exact ⟨ret_int (by unfold cmpI; split <;> (try split) <;> omega), rfl⟩
set_option maxHeartbeats 400000 in
theorem cmpNode_any (a b : Int) (w : World) : Calls Try.prog 80 #[.int .i64 a, .int .i64 b] w fun e w' => e = .returned (.int .i64 (cmpI a b)) ∧ w' = w := by
  go_enter Try.func80, Try.ntmps80
  go_wp2
  all_goals go_ret
  all_goals exact ⟨ret_int (by unfold cmpI; split <;> (try split) <;> omega), rfl⟩
set_option maxHeartbeats 400000 in
theorem cmpEdge_any (a b : Int) (w : World) : Calls Try.prog 85 #[.int .i64 a, .int .i64 b] w fun e w' => e = .returned (.int .i64 (cmpI a b)) ∧ w' = w := by
  go_enter Try.func85, Try.ntmps85
  go_wp2
  all_goals go_ret
  all_goals exact ⟨ret_int (by unfold cmpI; split <;> (try split) <;> omega), rfl⟩

set_option maxRecDepth 100000 in
set_option maxHeartbeats 1000000 in
theorem rank_any (S : Nat → Prop) (x : V) (t : Value) (w : World) (h : TermIn S w x t) : Calls Try.prog 40 #[t] w fun e w' => e = .returned (.int .i64 (rankB x.kind)) ∧ w' = w := by
  have a1 := as_bool
  have a2 := as_num
  have a3 := as_text
  have a4 := as_list
  have a5 := as_node
  have a6 := as_edge
  cases h
  all_goals
    go_enter Try.func40, Try.ntmps40
    go_wp2
    go_ret
    exact ⟨rfl, rfl⟩

set_option maxRecDepth 100000 in
set_option maxHeartbeats 1000000 in
theorem kinds_any (S S' : Nat → Prop) (x y : V) (t u : Value) (w : World) (h : TermIn S w x t) (h' : TermIn S' w y u) :
    Calls Try.prog 30 #[t, u] w fun e w' => e = .returned (.int .i64 (cmpI (rankB x.kind) (rankB y.kind))) ∧ w' = w := by
  obtain ⟨ty, z, rfl⟩ := h.shape
  obtain ⟨ty', z', rfl⟩ := h'.shape
  go_enter Try.func30, Try.ntmps30
  go_wp2_with fail
  refine (rank_any S x _ _ h).mono ?_
  rintro e w1 ⟨rfl, rfl⟩
  go_wp2_with fail
  refine (rank_any S' y _ _ h').mono ?_
  rintro e w1 ⟨rfl, rfl⟩
  go_wp2_with fail
  refine (cmpInt_any _ _ _).mono ?_
  rintro e w1 ⟨rfl, rfl⟩
  go_wp2
  go_ret
  exact ⟨rfl, rfl⟩
end Go.Proofs.Ytkngihmfknmnaaa
