/- What spec.RulesOk answers. -/
import Derived.Test.YtbapbcdkmhkigaaRulDef
import Derived.Deep.OwnRows
import Derived.Laws.StructEq
namespace Go.Proofs.Ytbapbcdkmhkigaa
open Go.RowKit Go.Deep

def eqR (a b : RulT) : Bool := a.1.toList == b.1.toList && a.2.toList == b.2.toList
def namesK (xs : List RulT) (k : Nat) : Bool := nameB (nameAt xs k).1 && nameB (nameAt xs k).2
def newK (xs : List RulT) (k : Nat) : Bool := (List.range k).all fun j => !(eqR (nameAt xs j) (nameAt xs k))
def okK (xs : List RulT) (k : Nat) : Bool := namesK xs k && newK xs k
def rulesB (xs : List RulT) : Bool := (List.range xs.length).all (okK xs) && decide (xs.length ≤ 3)

theorem Try.sR : Try.prog.underlying 45 = some (.struct (Try.prog.fieldsOf 45)) := by kernel_rfl
theorem Try.hR : Try.prog.stoodInHeld 45 = false := by kernel_rfl
theorem Try.gR : Try.prog.eqGuardType Try.prog.depth 45 = false := by kernel_rfl
theorem eql_rule (a b : RulT) (w : World) : (binOp .eql 45 (.agg #[.string a.1, .string a.2]) (.agg #[.string b.1, .string b.2])).run Try.prog w = .ok (.bool (eqR a b)) w := by
  rw [run_eql_struct, show (10000 : Nat) = 9999 + 1 from rfl, run_equalIn_agg w 9999 45 _ _ Try.sR Try.hR]
  simp only [Program.fieldsOf, Try.underlying45]
  go_simp
  unfold eqR
  by_cases h1 : a.1.toList = b.1.toList <;> by_cases h2 : a.2.toList = b.2.toList <;> simp [h1, h2]

theorem rules_no (xs : List RulT) (k : Nat) (hk : k < xs.length) (h : okK xs k = false) : rulesB xs = false := by
  have : (List.range xs.length).all (okK xs) = false := by
    rw [List.all_eq_false]
    exact ⟨k, List.mem_range.2 hk, by simp [h]⟩
  simp [rulesB, this]

set_option maxRecDepth 100000 in
set_option maxHeartbeats 1000000 in
theorem specRulesOk_any (v : Value) (xs : List RulT) (w : World) (hv : RulIn w v xs) :
    Calls Try.prog 14 #[v] w fun e w' => e = .returned (.bool (rulesB xs)) ∧ Ext w w' := by
  obtain ⟨a, cap, rfl, hm, hin⟩ := hv
  unfold maxLen at hm
  go_enter Try.func14, Try.ntmps14
  go_wp2
  go_loopw [3] (fun i wr => ∃ k : Nat, k ≤ xs.length ∧ i = .int .i64 k ∧ Ext w wr ∧ ∀ j, j < k → okK xs j = true) (fun i _ => xs.length - (intOf i).toNat)
  case atStart => exact ⟨0, Nat.zero_le _, rfl, Ext.refl _, fun j h => by omega⟩
  case round =>
    obtain ⟨k, hk, rfl, hE, hno⟩ := hrel
    by_cases hlt : k < xs.length
    · obtain ⟨s1, s2, b, off, rfl, hb, c1, c2⟩ := hin k hlt
      rw [← hE.cell hb] at c1 c2
      cases hn1 : nameB (nameAt xs k).1
      · have hfin : Hid (rulesB xs = false) := rules_no xs k hlt (by simp [okK, namesK, hn1])
        go_wp2_with (go_at_call 30; refine (l2Name_any _ _ s1).mono ?_; rintro e w' ⟨rfl, hE2⟩)
        go_ret
        exact ⟨ret_bool hfin.out.symm, hE.trans hE2⟩
      · cases hn2 : nameB (nameAt xs k).2
        · have hfin : Hid (rulesB xs = false) := rules_no xs k hlt (by simp [okK, namesK, hn2])
          go_wp2_with fail
          refine (l2Name_any _ _ s1).mono ?_; rintro e w' ⟨rfl, hE2⟩
          have hc2 : w'.cell? ⟨b, off + k * 2 + 1, none⟩ = some (.string (nameAt xs k).2) := by rw [hE2.cell (Nat.lt_of_lt_of_le hb hE.le)]; exact c2
          go_wp2_with fail
          refine (l2Name_any _ _ s2).mono ?_; rintro e w'' ⟨rfl, hE3⟩
          go_wp2
          go_ret
          exact ⟨ret_bool hfin.out.symm, (hE.trans hE2).trans hE3⟩
        · go_wp2_with fail
          refine (l2Name_any _ _ s1).mono ?_; rintro e w' ⟨rfl, hE2⟩
          have hc2 : w'.cell? ⟨b, off + k * 2 + 1, none⟩ = some (.string (nameAt xs k).2) := by rw [hE2.cell (Nat.lt_of_lt_of_le hb hE.le)]; exact c2
          go_wp2_with fail
          refine (l2Name_any _ _ s2).mono ?_; rintro e w'' ⟨rfl, hE3⟩
          go_wp2
          have hE4 : Ext w w'' := (hE.trans hE2).trans hE3
          clear hE2 hE3 c1 c2 hc2 hE
          go_loopw [4] (fun i wr => ∃ j : Nat, j ≤ k ∧ i = .int .i64 j ∧ Ext w wr ∧ ∀ i, i < j → eqR (nameAt xs i) (nameAt xs k) = false) (fun i _ => k - (intOf i).toNat)
          case atStart => exact ⟨0, Nat.zero_le _, rfl, hE4, fun j h => by omega⟩
          case round =>
            obtain ⟨j, hj, rfl, hE, hne⟩ := hrel
            obtain ⟨_, _, b1, off1, hbb, hb1, c1, c2⟩ := hin k hlt
            cases hbb
            rw [← hE.cell hb] at c1 c2
            by_cases hjk : j < k
            · obtain ⟨_, _, b2, off2, hbb, hb2, c3, c4⟩ := hin j (by omega)
              cases hbb
              rw [← hE.cell hb] at c3 c4
              have hi1 : (j : Int) < (xs.length : Int) := by omega
              have hi2 : (k : Int) < (xs.length : Int) := by omega
              have hql := eql_rule (nameAt xs j) (nameAt xs k)
              have hgd := Try.gR
              go_wp2_with fail
              go_quiet (fail)
              go_wp2
              · go_ret
                have hfin : rulesB xs = false := rules_no xs k hlt (by
                  have : newK xs k = false := by
                    unfold newK
                    rw [List.all_eq_false]
                    exact ⟨j, List.mem_range.2 hjk, by simp only [‹eqR (nameAt xs j) (nameAt xs k) = true›]; decide⟩
                  simp [okK, this])
                exact ⟨ret_bool hfin.symm, hE.drewN _⟩
              · go_roundw
                case rel =>
                  refine ⟨j + 1, by omega, by go_num, hE.drewN _, fun i hi => ?_⟩
                  rcases Nat.lt_succ_iff_lt_or_eq.1 hi with h' | h'
                  · exact hne i h'
                  · subst h'; assumption
                case measure => simp [intOf]; omega
            · have hok : Hid (okK xs k = true) := by
                have : newK xs k = true := by
                  unfold newK
                  rw [List.all_eq_true]
                  intro i hi
                  rw [hne i (by have := List.mem_range.1 hi; omega)]; rfl
                show _ = _
                simp [okK, namesK, this, hn1, hn2]
              clear hne
              go_wp2
              go_roundw
              case rel =>
                refine ⟨k + 1, by omega, by go_num, hE, fun i hi => ?_⟩
                rcases Nat.lt_succ_iff_lt_or_eq.1 hi with h' | h'
                · exact hno i h'
                · subst h'; exact hok.out
              case measure => simp [intOf]; omega
    · go_wp2
      go_ret
      refine ⟨ret_bool ?_, hE⟩
      have h1 : (List.range xs.length).all (okK xs) = true := by
        rw [List.all_eq_true]
        intro j hj
        exact hno j (by have := List.mem_range.1 hj; omega)
      unfold rulesB
      rw [h1, Bool.true_and, Bool.eq_iff_iff]
      simp
      omega
end Go.Proofs.Ytbapbcdkmhkigaa
