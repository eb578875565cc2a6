/- szRule, szRuleS -/
import Derived.Test.YtligliimgemfjaaName
namespace Go.Proofs.Ytligliimgemfjaa
open Go.RowKit

abbrev RulT := ByteArray × ByteArray
def nameAt (xs : List RulT) (k : Nat) : RulT := xs.getD k (ByteArray.empty, ByteArray.empty)

/-- The value v is a slice of the rules xs that lies in w. -/
def RulIn (w : World) (v : Value) (xs : List RulT) : Prop :=
  ∃ a cap, v = .slice a xs.length cap ∧ xs.length ≤ maxLen ∧ ∀ k, k < xs.length → (nameAt xs k).1.size ≤ maxLen ∧ (nameAt xs k).2.size ≤ maxLen ∧ ∃ b off, a = some ⟨b, off, none⟩ ∧ b < w.heap.size ∧ w.cell? ⟨b, off + k * 2, none⟩ = some (.string (nameAt xs k).1) ∧ w.cell? ⟨b, off + k * 2 + 1, none⟩ = some (.string (nameAt xs k).2)

theorem RulIn.ext {w w' : World} {v : Value} {xs : List RulT} (h : RulIn w v xs) (e : Ext w w') : RulIn w' v xs := by
  obtain ⟨a, cap, hv, hm, h⟩ := h
  refine ⟨a, cap, hv, hm, fun k hk => ?_⟩
  obtain ⟨s1, s2, b, off, ha, hb, c1, c2⟩ := h k hk
  exact ⟨s1, s2, b, off, ha, Nat.lt_of_lt_of_le hb e.le, by rw [e.cell hb]; exact c1, by rw [e.cell hb]; exact c2⟩

set_option maxHeartbeats 400000 in
theorem szRule_any (x y : ByteArray) (l : Int) (w : World) (hx : x.size ≤ maxLen) (hy : y.size ≤ maxLen) (h0 : 0 ≤ l) (h1 : l ≤ 1048576) :
    Calls Try.prog 9 #[.agg #[.string x, .string y], .int .i64 l] w fun e w' => ∃ r : Int, e = .returned (.int .i64 r) ∧ -1 ≤ r ∧ r ≤ l ∧ Ext w w' := by
  unfold maxLen at hx hy
  go_enter Try.func9, Try.ntmps9
  go_wp2
  all_goals go_ret
  all_goals exact ⟨_, rfl, by omega, by omega, (Ext.refl _).alloc _⟩

set_option maxHeartbeats 400000 in
theorem szRuleS_any (v : Value) (xs : List RulT) (w : World) (hv : RulIn w v xs) :
    Calls Try.prog 4 #[v, .int .i64 1048576] w fun e w' => ∃ r : Int, e = .returned (.int .i64 r) ∧ (0 ≤ r → xs.length ≤ 1048576) ∧ Ext w w' := by
  obtain ⟨a, cap, rfl, hm, hin⟩ := hv
  unfold maxLen at hm
  by_cases hbig : 1048576 < xs.length
  · go_enter Try.func4, Try.ntmps4
    go_wp2
    go_ret
    exact ⟨_, rfl, by omega, Ext.refl _⟩
  · go_enter Try.func4, Try.ntmps4
    go_wp2
    go_loopw [1, 5] (fun l i wr => ∃ (k : Nat) (n : Int), k ≤ xs.length ∧ i = .int .i64 k ∧ l = .int .i64 n ∧ 0 ≤ n ∧ n ≤ 1048576 ∧ Ext w wr) (fun _ i _ => xs.length - (intOf i).toNat)
    case atStart => exact ⟨0, _, Nat.zero_le _, rfl, rfl, by omega, by omega, Ext.refl _⟩
    case round =>
      obtain ⟨k, n, hk, rfl, rfl, hn0, hn1, hE⟩ := hrel
      by_cases hlt : k < xs.length
      · obtain ⟨s1, s2, b, off, rfl, hb, c1, c2⟩ := hin k hlt
        rw [← hE.cell hb] at c1 c2
        go_wp2_with (go_at_call 9; refine (szRule_any _ _ _ _ s1 s2 hn0 hn1).mono ?_; rintro e w' ⟨r, rfl, hr1, hr2, hE2⟩)
        · go_ret
          exact ⟨_, rfl, by omega, hE.trans hE2⟩
        · go_roundw
          case rel => exact ⟨k + 1, _, by omega, by go_num, rfl, by omega, by omega, hE.trans hE2⟩
          case measure => simp [intOf]; omega
      · go_wp2
        go_ret
        exact ⟨_, rfl, by omega, hE⟩
end Go.Proofs.Ytligliimgemfjaa
