/- What impl.ReplyFine answers. -/
import Derived.Test.YtajepcddoijgoaaRfSpec
namespace Go.Proofs.Ytajepcddoijgoaa
open Go.RowKit Go.Deep

set_option maxHeartbeats 400000 in
theorem isWithin_any (n a b : Int) (w : World) : Calls Try.prog 18 #[.int .i64 n, .int .i64 a, .int .i64 b] w fun e w' => e = .returned (.bool (inB n a b)) ∧ w' = w := by
  go_enter Try.func18, Try.ntmps18
  go_wp2
  all_goals go_ret
  all_goals refine ⟨ret_bool ?_, rfl⟩
  all_goals (rw [Bool.eq_iff_iff]; simp [inB]; try omega)

theorem box_frozen5 {w W : World} {c0 c1 c2 c3 c4 : Value} {T : TypeId} (h : Ext (w.alloc (.cells #[c0, c1, c2, c3, c4] T)) W) : ∀ o, W.frozen? ⟨w.heap.size, o, none⟩ = false := by
  intro o
  have hz : w.heap.size < (w.alloc (.cells #[c0, c1, c2, c3, c4] T)).heap.size := by simp
  rw [(bcell h).2 _ _ hz, frozen?_alloc_cells]
  simp [World.frozen?]

theorem isNil_vals {d : D} (h : d.len! = 0) : okvB d = true := by unfold okvB; rw [h]; rfl
theorem isNil_names {d : D} (h : d.len! = 0) : nmsB d = true := by unfold nmsB; rw [h]; rfl

set_option maxHeartbeats 4000000 in
theorem implReplyFine_any (S1 S2 : Nat → Prop) (x0 : Int) (d1 : D) (c1 : Value) (d2 : D) (c2 : Value) (x3 : Int) (x4 : Bool) (w : World) (H1 : Has d1 (.list 0)) (h1 : DIn S1 w d1 c1) (H2 : Has d2 (.list 2)) (h2 : DIn S2 w d2 c2) :
    Calls Try.prog 7 #[.agg #[.int .i64 x0, c1, c2, .int .i64 x3, .bool x4]] w fun e w' => e = .returned (.bool (replyB x0 d1 d2 x3 x4)) ∧ Ext w w' := by
  have hn := fun W (hW : Ext w W) => allAreNames_any d1 H1 S1 c1 W (h1.ext hW)
  have hv := fun W (hW : Ext w W) => allAreVals_any d2 H2 S2 c2 W (h2.ext hW)
  have HC : Hid (replyB x0 d1 d2 x3 x4 = (nmsB d1 && (okvB d2 && kindB x0 d1.len! d2.len! x3 x4)) ∧ (d1.len! = 0 → nmsB d1 = true) ∧ (d2.len! = 0 → okvB d2 = true)) := ⟨rfl, isNil_names, isNil_vals⟩
  generalize replyB x0 d1 d2 x3 x4 = RB at HC
  generalize nmsB d1 = N1 at hn HC
  generalize okvB d2 = V2 at hv HC
  obtain ⟨n1, f1, rfl, HR1⟩ := H1.list
  obtain ⟨n2, f2, rfl, HR2⟩ := H2.list
  change DIn S1 w (.list 1 n1 f1) c1 at h1
  change DIn S2 w (.list 4 n2 f2) c2 at h2
  obtain ⟨a1, cap1, rfl, hm1⟩ := h1.list_eq
  obtain ⟨a2, cap2, rfl, hm2⟩ := h2.list_eq
  unfold maxLen at hm1 hm2
  have HC : Hid (RB = (N1 && (V2 && kindB x0 n1 n2 x3 x4)) ∧ (n1 = 0 → N1 = true) ∧ (n2 = 0 → V2 = true)) := HC.out
  clear HR1 HR2 h1 h2 H1 H2
  have hE0 : Ext w (w.alloc (.cells #[.int .i64 x0, .slice a1 n1 cap1, .slice a2 n2 cap2, .int .i64 x3, .bool x4] 30)) := (Ext.refl _).alloc _
  have hbx := fun W (hW : Ext (w.alloc (.cells #[.int .i64 x0, .slice a1 n1 cap1, .slice a2 n2 cap2, .int .i64 x3, .bool x4] 30)) W) => box_cell5 hW
  have hbz := fun W (hW : Ext (w.alloc (.cells #[.int .i64 x0, .slice a1 n1 cap1, .slice a2 n2 cap2, .int .i64 x3, .bool x4] 30)) W) => box_frozen5 hW
  go_enter Try.func7, Try.ntmps7
  go_upto_region 1 with fail
  generalize hW0 : w.alloc _ = W0 at *
  clear hW0
  obtain ⟨p0, p1, p2, p3, p4⟩ := hbx _ (Ext.refl _)
  have z1 := hbz _ (Ext.refl _) 1
  have z2 := hbz _ (Ext.refl _) 2
  have z3 := hbz _ (Ext.refl _) 3
  have z4 := hbz _ (Ext.refl _) 4
  by_cases k1 : x0 = 1
  · have g : Hid (kindB x0 n1 n2 x3 x4 = (decide ((n1 : Int) ≤ 5) && decide (n2 = 0) && x3 == 0)) := by show _ = _; unfold kindB; rw [if_pos k1]
    subst k1
    by_cases h5 : n1 ≤ 5
    · have h5i : (n1 : Int) ≤ 5 := by omega
      go_wp2_with (go_at_call 16; refine (hn _ hE0).mono ?_; rintro e w1 ⟨rfl, hE1⟩; clear p0 p1 p2 p3 p4 z1 z2 z3 z4; obtain ⟨p0, p1, p2, p3, p4⟩ := hbx _ hE1; have z1 := hbz _ hE1 1; have z4 := hbz _ hE1 4)
      all_goals go_ret
      all_goals refine ⟨ret_bool ?_, ((hE0.trans hE1).setCell (by simp) _).setCell (by simp) _⟩
      all_goals obtain ⟨c1, c2, c3⟩ := HC.out
      all_goals rw [c1, g.out]
      all_goals first | (simp_all; done) | (simp_all; omega) | (simp_all; intros; omega) | (cases N1 <;> cases V2 <;> simp_all; done)
    · have h5i : ¬ (n1 : Int) ≤ 5 := by omega
      have h5j : 5 < (n1 : Int) := by omega
      go_wp2
      all_goals go_ret
      all_goals refine ⟨ret_bool ?_, (hE0.setCell (by simp) _).setCell (by simp) _⟩
      all_goals obtain ⟨c1, c2, c3⟩ := HC.out
      all_goals rw [c1, g.out]
      all_goals first | (simp_all; done) | (simp_all; omega) | (simp_all; intros; omega) | (cases N1 <;> cases V2 <;> simp_all; done)
  · have b1 : (x0 == 1) = false := by simp [k1]
    by_cases k2 : x0 = 2
    · have g : Hid (kindB x0 n1 n2 x3 x4 = (decide (n1 = 0) && inB n2 1 5 && x3 == 0 && !x4)) := by show _ = _; unfold kindB; rw [if_neg k1, if_pos k2]
      subst k2
      clear k1 b1
      cases hi : inB n2 1 5
      · go_wp2_with (go_at_call 18; refine (isWithin_any _ _ _ _).mono ?_; rintro e w' ⟨rfl, rfl⟩; rw [hi])
        all_goals go_ret
        all_goals refine ⟨ret_bool ?_, hE0.setCell (by simp) _⟩
        all_goals obtain ⟨c1, c2, c3⟩ := HC.out
        all_goals rw [c1, g.out]
        all_goals first | (simp_all; done) | (simp_all; omega) | (simp_all; intros; omega) | (cases N1 <;> cases V2 <;> simp_all; done)
      · go_wp2_with (first
          | (go_at_call 18; refine (isWithin_any _ _ _ _).mono ?_; rintro e w' ⟨rfl, rfl⟩; rw [hi])
          | (go_at_call 19; refine (hv _ hE0).mono ?_; rintro e w1 ⟨rfl, hE1⟩; clear p0 p1 p2 p3 p4 z1 z2 z3 z4; obtain ⟨p0, p1, p2, p3, p4⟩ := hbx _ hE1; have z2 := hbz _ hE1 2))
        all_goals go_ret
        all_goals refine ⟨ret_bool ?_, (hE0.trans hE1).setCell (by simp) _⟩
        all_goals obtain ⟨c1, c2, c3⟩ := HC.out
        all_goals rw [c1, g.out]
        all_goals first | (simp_all; done) | (simp_all; omega) | (simp_all; intros; omega) | (cases N1 <;> cases V2 <;> simp_all; done)
    · have b2 : (x0 == 2) = false := by simp [k2]
      by_cases k3 : x0 = 3
      · have g : Hid (kindB x0 n1 n2 x3 x4 = (decide (n1 = 0) && decide (n2 = 0) && inB x3 1 9 && !x4)) := by show _ = _; unfold kindB; rw [if_neg k1, if_neg k2, if_pos k3]
        subst k3
        clear k1 b1 k2 b2
        go_wp2_with (go_at_call 18; refine (isWithin_any _ _ _ _).mono ?_; rintro e w' ⟨rfl, rfl⟩)
        all_goals go_ret
        all_goals refine ⟨ret_bool ?_, hE0.setCell (by simp) _⟩
        all_goals obtain ⟨c1, c2, c3⟩ := HC.out
        all_goals rw [c1, g.out]
        all_goals first | (simp_all; done) | (simp_all; omega) | (simp_all; intros; omega) | (cases N1 <;> cases V2 <;> simp_all; done)
      · have b3 : (x0 == 3) = false := by simp [k3]
        have g : Hid (kindB x0 n1 n2 x3 x4 = (x0 == 4 && decide (n1 = 0) && decide (n2 = 0) && x3 == 0 && !x4)) := by show _ = _; unfold kindB; rw [if_neg k1, if_neg k2, if_neg k3]
        clear k1 k2 k3
        go_wp2
        all_goals go_ret
        all_goals refine ⟨ret_bool ?_, hE0⟩
        all_goals obtain ⟨c1, c2, c3⟩ := HC.out
        all_goals rw [c1, g.out]
        all_goals first | (simp_all; done) | (simp_all; omega) | (simp_all; intros; omega) | (cases N1 <;> cases V2 <;> simp_all; done)
end Go.Proofs.Ytajepcddoijgoaa
