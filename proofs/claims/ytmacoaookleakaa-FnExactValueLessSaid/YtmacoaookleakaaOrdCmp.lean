/- What the assertions on terms, impl.rankOf, cmp.Compare and impl.orderKinds answer. -/
import Derived.Test.YtmacoaookleakaaTermMem
import Derived.Laws.Cover1
namespace Go.Proofs.Ytmacoaookleakaa
open Go.RowKit Go.Deep

def cmpI (a b : Int) : Int := if a < b then -1 else if b < a then 1 else 0
def cmpT (s t : ByteArray) : Int := if Op.bytesLess s.toList t.toList then -1 else if !(Op.bytesLess s.toList t.toList || s.toList == t.toList) then 1 else 0

theorem as_bool (U : TypeId) (v : Value) (w : World) : (Instr.typeAssert (.iface U v) 38 51 true).run Try.prog w = .ok (if U = 51 then .tuple #[v, .bool true] else .tuple #[.int .i64 0, .bool false]) w := by
  have hz : (zeroValue 51).run Try.prog w = .ok (.int .i64 0) w := by kernel_rfl
  by_cases h : U = 51 <;> simp [Instr.typeAssert, run_underlying Try.underlying51, h, hz, Result.andThen]
theorem as_num (U : TypeId) (v : Value) (w : World) : (Instr.typeAssert (.iface U v) 38 49 true).run Try.prog w = .ok (if U = 49 then .tuple #[v, .bool true] else .tuple #[.int .i64 0, .bool false]) w := by
  have hz : (zeroValue 49).run Try.prog w = .ok (.int .i64 0) w := by kernel_rfl
  by_cases h : U = 49 <;> simp [Instr.typeAssert, run_underlying Try.underlying49, h, hz, Result.andThen]
theorem as_text (U : TypeId) (v : Value) (w : World) : (Instr.typeAssert (.iface U v) 38 50 true).run Try.prog w = .ok (if U = 50 then .tuple #[v, .bool true] else .tuple #[.string ⟨#[]⟩, .bool false]) w := by
  have hz : (zeroValue 50).run Try.prog w = .ok (.string ⟨#[]⟩) w := by kernel_rfl
  by_cases h : U = 50 <;> simp [Instr.typeAssert, run_underlying Try.underlying50, h, hz, Result.andThen]
theorem as_list (U : TypeId) (v : Value) (w : World) : (Instr.typeAssert (.iface U v) 38 68 true).run Try.prog w = .ok (if U = 68 then .tuple #[v, .bool true] else .tuple #[.slice none 0 0, .bool false]) w := by
  have hz : (zeroValue 68).run Try.prog w = .ok (.slice none 0 0) w := by kernel_rfl
  by_cases h : U = 68 <;> simp [Instr.typeAssert, run_underlying Try.underlying68, h, hz, Result.andThen]
theorem as_node (U : TypeId) (v : Value) (w : World) : (Instr.typeAssert (.iface U v) 38 63 true).run Try.prog w = .ok (if U = 63 then .tuple #[v, .bool true] else .tuple #[.int .i64 0, .bool false]) w := by
  have hz : (zeroValue 63).run Try.prog w = .ok (.int .i64 0) w := by kernel_rfl
  by_cases h : U = 63 <;> simp [Instr.typeAssert, run_underlying Try.underlying63, h, hz, Result.andThen]
theorem as_edge (U : TypeId) (v : Value) (w : World) : (Instr.typeAssert (.iface U v) 38 64 true).run Try.prog w = .ok (if U = 64 then .tuple #[v, .bool true] else .tuple #[.int .i64 0, .bool false]) w := by
  have hz : (zeroValue 64).run Try.prog w = .ok (.int .i64 0) w := by kernel_rfl
  by_cases h : U = 64 <;> simp [Instr.typeAssert, run_underlying Try.underlying64, h, hz, Result.andThen]

def rankB (k : Int) : Int := if k = 5 then 0 else if k = 6 then 1 else if k = 4 then 2 else if k = 3 then 3 else if k = 1 then 4 else if k = 2 then 5 else 6

set_option maxRecDepth 100000 in
set_option maxHeartbeats 400000 in
theorem cmpText_any (s t : ByteArray) (w : World) : Calls Try.prog 60 #[.string s, .string t] w fun e w' => e = .returned (.int .i64 (cmpT s t)) ∧ w' = w := by
  go_enter Try.func60, Try.ntmps60
  go_wp2
  all_goals go_ret
  all_goals exact ⟨ret_int (by simp [cmpT, *]), rfl⟩
set_option maxHeartbeats 400000 in
theorem cmpInt_any (a b : Int) (w : World) : Calls Try.prog 34 #[.int .i64 a, .int .i64 b] w fun e w' => e = .returned (.int .i64 (cmpI a b)) ∧ w' = w := by
  go_enter Try.func34, Try.ntmps34
  go_wp2
  all_goals go_ret
  all_goals exact ⟨ret_int (by unfold cmpI; split <;> (try split) <;> omega), rfl⟩
set_option maxHeartbeats 400000 in
theorem cmpBool_any (a b : Int) (w : World) : Calls Try.prog 65 #[.int .i64 a, .int .i64 b] w fun e w' => e = .returned (.int .i64 (cmpI a b)) ∧ w' = w := by
  go_enter Try.func65, Try.ntmps65
  go_wp2
  all_goals go_ret
  all_goals exact ⟨ret_int (by unfold cmpI; split <;> (try split) <;> omega), rfl⟩
set_option maxHeartbeats 400000 in
theorem cmpNum_any (a b : Int) (w : World) : Calls Try.prog 55 #[.int .i64 a, .int .i64 b] w fun e w' => e = .returned (.int .i64 (cmpI a b)) ∧ w' = w := by
  go_enter Try.func55, Try.ntmps55
  go_wp2
  all_goals go_ret
  all_goals exact ⟨ret_int (by unfold cmpI; split <;> (try split) <;> omega), rfl⟩
set_option maxHeartbeats 400000 in
theorem cmpNode_any (a b : Int) (w : World) : Calls Try.prog 73 #[.int .i64 a, .int .i64 b] w fun e w' => e = .returned (.int .i64 (cmpI a b)) ∧ w' = w := by
  go_enter Try.func73, Try.ntmps73
  go_wp2
  all_goals go_ret
  all_goals exact ⟨ret_int (by unfold cmpI; split <;> (try split) <;> omega), rfl⟩
set_option maxHeartbeats 400000 in
theorem cmpEdge_any (a b : Int) (w : World) : Calls Try.prog 78 #[.int .i64 a, .int .i64 b] w fun e w' => e = .returned (.int .i64 (cmpI a b)) ∧ w' = w := by
  go_enter Try.func78, Try.ntmps78
  go_wp2
  all_goals go_ret
  all_goals exact ⟨ret_int (by unfold cmpI; split <;> (try split) <;> omega), rfl⟩

set_option maxRecDepth 100000 in
set_option maxHeartbeats 1000000 in
theorem rank_any (S : Nat → Prop) (x : V) (t : Value) (w : World) (h : TermIn S w x t) : Calls Try.prog 35 #[t] w fun e w' => e = .returned (.int .i64 (rankB x.kind)) ∧ w' = w := by
  have a1 := as_bool
  have a2 := as_num
  have a3 := as_text
  have a4 := as_list
  have a5 := as_node
  have a6 := as_edge
  cases h
  all_goals
    go_enter Try.func35, Try.ntmps35
    go_wp2
    go_ret
    exact ⟨rfl, rfl⟩

set_option maxRecDepth 100000 in
set_option maxHeartbeats 1000000 in
theorem kinds_any (S S' : Nat → Prop) (x y : V) (t u : Value) (w : World) (h : TermIn S w x t) (h' : TermIn S' w y u) :
    Calls Try.prog 24 #[t, u] w fun e w' => e = .returned (.int .i64 (cmpI (rankB x.kind) (rankB y.kind))) ∧ w' = w := by
  obtain ⟨ty, z, rfl⟩ := h.shape
  obtain ⟨ty', z', rfl⟩ := h'.shape
  go_enter Try.func24, Try.ntmps24
  go_wp2_with fail
  refine (rank_any S x _ _ h).mono ?_
  rintro e w1 ⟨rfl, rfl⟩
  go_wp2_with fail
  refine (rank_any S' y _ _ h').mono ?_
  rintro e w1 ⟨rfl, rfl⟩
  go_wp2_with fail
  refine (cmpInt_any _ _ _).mono ?_
  rintro e w1 ⟨rfl, rfl⟩
  go_wp2
  go_ret
  exact ⟨rfl, rfl⟩
end Go.Proofs.Ytmacoaookleakaa
