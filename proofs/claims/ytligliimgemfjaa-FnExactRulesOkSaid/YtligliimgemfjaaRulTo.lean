/- What laws.toRule and laws.toRuleS hand back: a copy in new memory. -/
import Derived.Test.YtligliimgemfjaaRulSz
import Derived.Deep.OwnRows
namespace Go.Proofs.Ytligliimgemfjaa
open Go.RowKit Go.Deep

set_option maxHeartbeats 400000 in
theorem toRule_any (x y : ByteArray) (w : World) :
    Calls Try.prog 11 #[.agg #[.string x, .string y]] w fun e w' => e = .returned (.agg #[.string x, .string y]) ∧ Ext w w' := by
  go_enter Try.func11, Try.ntmps11
  go_wp2
  refine bodyPost_ret (v := .agg #[.string x, .string y]) (by simp [results, Try.results11, go_sem]) rfl ⟨rfl, ?_⟩
  exact (((Ext.refl _).alloc _).alloc _).alloc _

theorem Try.infoR : (Try.prog.info? 33).map (fun i => (i.zero, i.size, i.bytes)) = some (some (.agg #[.string ⟨#[]⟩, .string ⟨#[]⟩]), 2, 32) := by kernel_rfl

theorem make_rules (n : Nat) (hn : n ≤ 1048576) (w : World) :
    (Instr.makeSlice 25 (.int .i64 (n : Int)) (.int .i64 (n : Int))).run Try.prog w = .ok (.slice (some ⟨w.heap.size, 0, none⟩) n n) (w.alloc (.cells (madeCells #[.string ⟨#[]⟩, .string ⟨#[]⟩] (n * 2)) 33)) := by
  obtain ⟨i, hi, hzz⟩ := Option.map_eq_some_iff.1 Try.infoR
  simp only [Prod.mk.injEq] at hzz
  obtain ⟨hz, hs, hb⟩ := hzz
  have hr := run_make (P := Try.prog) w 25 33 i _ Try.underlying25 hi hz .i64 .i64 n n (by omega) (Int.le_refl _) (by rw [hb]; omega) (by omega)
  simp only [Int.toNat_natCast, hs] at hr
  exact hr

def cellOf (xs : List RulT) (j : Nat) : Value := .string (if j % 2 = 0 then (nameAt xs (j / 2)).1 else (nameAt xs (j / 2)).2)

theorem row_step (xs : List RulT) (w w' : World) (k : Nat) (hr : w'.rowIs w.heap.size 33 (xs.length * 2) (fun j => if j < k * 2 then cellOf xs j else .string ⟨#[]⟩)) :
    ((w'.setCell ⟨w.heap.size, k * 2, none⟩ (.string (nameAt xs k).1)).setCell ⟨w.heap.size, k * 2 + 1, none⟩ (.string (nameAt xs k).2)).rowIs w.heap.size 33 (xs.length * 2) (fun j => if j < (k + 1) * 2 then cellOf xs j else .string ⟨#[]⟩) := by
  refine ((hr.set (k * 2) _).set (k * 2 + 1) _).congr (fun i hi => ?_)
  by_cases h1 : i = k * 2 + 1
  · subst h1
    have e : (k * 2 + 1) / 2 = k := by omega
    have e2 : (k * 2 + 1) % 2 = 1 := by omega
    rw [if_pos rfl, if_pos (by omega)]
    simp [cellOf, e, e2]
  · rw [if_neg h1]
    by_cases h2 : i = k * 2
    · subst h2
      rw [if_pos rfl, if_pos (by omega)]
      simp [cellOf]
    · rw [if_neg h2]
      by_cases h3 : i < k * 2
      · rw [if_pos h3, if_pos (by omega)]
      · rw [if_neg h3, if_neg (by omega)]

set_option maxHeartbeats 1000000 in
theorem toRuleS_any (v : Value) (xs : List RulT) (w : World) (hv : RulIn w v xs) (hn : xs.length ≤ 1048576) :
    Calls Try.prog 6 #[v] w fun e w' => ∃ u, e = .returned u ∧ RulIn w' u xs ∧ Ext w w' := by
  obtain ⟨a, cap, rfl, hm, hin⟩ := hv
  have hmk := make_rules xs.length hn
  clear hm
  go_enter Try.func6, Try.ntmps6
  go_wp2
  clear hmk
  generalize hW1 : w.alloc _ = W1
  have hrow : W1.rowIs w.heap.size 33 (xs.length * 2) (fun _ => .string ⟨#[]⟩) := by
    subst hW1
    have := World.rowIs_alloc w (madeCells #[.string ⟨#[]⟩, .string ⟨#[]⟩] (xs.length * 2)) 33 (fun _ => .string ⟨#[]⟩) (fun i hi => by
      rw [size_madeCells] at hi
      rcases Nat.mod_two_eq_zero_or_one i with h | h <;> simp [madeCells, hi, h])
    rwa [size_madeCells] at this
  have hg : Ext w W1 := by subst hW1; exact (Ext.refl _).alloc _
  clear hW1
  go_loopw [4] (fun i wr => ∃ k : Nat, k ≤ xs.length ∧ i = .int .i64 k ∧ Ext w wr ∧ wr.rowIs w.heap.size 33 (xs.length * 2) (fun j => if j < k * 2 then cellOf xs j else .string ⟨#[]⟩)) (fun i _ => xs.length - (intOf i).toNat)
  case atStart => exact ⟨0, Nat.zero_le _, rfl, hg, hrow.congr (fun i hi => by simp)⟩
  case round =>
    obtain ⟨k, hk, rfl, hE, hr⟩ := hrel
    by_cases hlt : k < xs.length
    · obtain ⟨s1, s2, b, off, rfl, hb, c1, c2⟩ := hin k hlt
      rw [← hE.cell hb] at c1 c2
      have hsz := hr.lt
      go_wp2_with (go_at_call 11; refine (toRule_any _ _ _).mono ?_; rintro e w' ⟨rfl, hE2⟩; have hr2 := hr.of_block (Below.block hE2 _ hsz); have f1 := hr2.frozen (k * 2); have f2 := hr2.frozen (k * 2 + 1); have d1 := hr2.cell (i := k * 2) (by omega); have d2 := hr2.cell (i := k * 2 + 1) (by omega))
      go_roundw
      case rel => exact ⟨k + 1, by omega, by go_num, Ext.setCell (Ext.setCell (hE.trans hE2) (Nat.le_refl _) _) (Nat.le_refl _) _, row_step xs w w' k hr2⟩
      case measure => simp [intOf]; omega
    · go_wp2
      go_ret
      refine ⟨_, rfl, ?_, hE⟩
      refine ⟨_, _, rfl, by unfold maxLen; omega, fun j hj => ?_⟩
      obtain ⟨s1, s2, _⟩ := hin j hj
      refine ⟨s1, s2, _, _, rfl, hr.lt, ?_, ?_⟩
      · have := hr.cell (i := j * 2) (by omega)
        rw [if_pos (by omega)] at this
        simpa [cellOf] using this
      · have := hr.cell (i := j * 2 + 1) (by omega)
        rw [if_pos (by omega)] at this
        have e : (j * 2 + 1) / 2 = j := by omega
        have e2 : (j * 2 + 1) % 2 = 1 := by omega
        simpa [cellOf, e, e2] using this
end Go.Proofs.Ytligliimgemfjaa
