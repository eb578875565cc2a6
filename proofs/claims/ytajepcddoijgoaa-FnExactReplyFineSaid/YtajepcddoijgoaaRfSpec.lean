/- What spec.ReplyFine answers. -/
import Derived.Test.YtajepcddoijgoaaAllStr
import Derived.Test.YtajepcddoijgoaaAllVal
import Derived.Test.YtajepcddoijgoaaValL1Ok
import Derived.Deep.DeepCutAuto
namespace Go.Proofs.Ytajepcddoijgoaa
open Go.RowKit Go.Deep

/-- A reply of kind k has its form: names, a row, a code, whether there is more. -/
def kindB (k : Int) (n r : Nat) (c : Int) (m : Bool) : Bool :=
  if k = 1 then decide ((n : Int) ≤ 5) && decide (r = 0) && c == 0
  else if k = 2 then decide (n = 0) && inB r 1 5 && c == 0 && !m
  else if k = 3 then decide (n = 0) && decide (r = 0) && inB c 1 9 && !m
  else k == 4 && decide (n = 0) && decide (r = 0) && c == 0 && !m
def replyB (k : Int) (dn dr : D) (c : Int) (m : Bool) : Bool := nmsB dn && (okvB dr && kindB k dn.len! dr.len! c m)

theorem box_cell5 {w W : World} {c0 c1 c2 c3 c4 : Value} {T : TypeId} (h : Ext (w.alloc (.cells #[c0, c1, c2, c3, c4] T)) W) :
    W.cell? ⟨w.heap.size, 0, none⟩ = some c0 ∧ W.cell? ⟨w.heap.size, 1, none⟩ = some c1 ∧ W.cell? ⟨w.heap.size, 2, none⟩ = some c2 ∧ W.cell? ⟨w.heap.size, 3, none⟩ = some c3 ∧ W.cell? ⟨w.heap.size, 4, none⟩ = some c4 := by
  have hz : w.heap.size < (w.alloc (.cells #[c0, c1, c2, c3, c4] T)).heap.size := by simp
  refine ⟨?_, ?_, ?_, ?_, ?_⟩
  all_goals
    rw [h.cell hz]
    simp

set_option maxHeartbeats 4000000 in
theorem specReplyFine_any (S1 S2 : Nat → Prop) (x0 : Int) (d1 : D) (c1 : Value) (d2 : D) (c2 : Value) (x3 : Int) (x4 : Bool) (w : World) (H1 : Has d1 (.list 0)) (h1 : DIn S1 w d1 c1) (H2 : Has d2 (.list 2)) (h2 : DIn S2 w d2 c2) :
    Calls Try.prog 5 #[.agg #[.int .i64 x0, c1, c2, .int .i64 x3, .bool x4]] w fun e w' => e = .returned (.bool (replyB x0 d1 d2 x3 x4)) ∧ Ext w w' := by
  obtain ⟨n1, f1, rfl, HR1⟩ := H1.list
  obtain ⟨n2, f2, rfl, HR2⟩ := H2.list
  change DIn S1 w (.list 1 n1 f1) c1 at h1
  change DIn S2 w (.list 4 n2 f2) c2 at h2
  obtain ⟨a1, cap1, rfl, hm1⟩ := h1.list_eq
  obtain ⟨a2, cap2, rfl, hm2⟩ := h2.list_eq
  unfold maxLen at hm1 hm2
  have HA : Hid (nmsB (.list 1 n1 f1) = (List.range n1).all (nmsB1 f1)) := rfl
  have HB : Hid (okvB (.list 4 n2 f2) = (List.range n2).all (okvB1 f2)) := rfl
  have HC : Hid (replyB x0 (.list 1 n1 f1) (.list 4 n2 f2) x3 x4 = (nmsB (.list 1 n1 f1) && (okvB (.list 4 n2 f2) && kindB x0 n1 n2 x3 x4))) := rfl
  generalize hRB : replyB x0 (.list (rowsOf 0).length n1 f1) (.list (rowsOf 2).length n2 f2) x3 x4 = RB
  have HC : Hid (RB = (nmsB (.list 1 n1 f1) && (okvB (.list 4 n2 f2) && kindB x0 n1 n2 x3 x4))) := by show _ = _; rw [← hRB]; rfl
  clear hRB
  have hE0 : Ext w (w.alloc (.cells #[.int .i64 x0, .slice a1 n1 cap1, .slice a2 n2 cap2, .int .i64 x3, .bool x4] 30)) := (Ext.refl _).alloc _
  have hbx := fun W (hW : Ext (w.alloc (.cells #[.int .i64 x0, .slice a1 n1 cap1, .slice a2 n2 cap2, .int .i64 x3, .bool x4] 30)) W) => box_cell5 hW
  go_enter Try.func5, Try.ntmps5
  obtain ⟨p0, p1, p2, p3, p4⟩ := hbx _ (Ext.refl _)
  go_wp2
  generalize hW0 : w.alloc _ = W0 at *
  clear hW0 p0 p1 p2 p3 p4
  go_loopw [3] (fun i wr => ∃ k : Nat, k ≤ n1 ∧ i = .int .i64 k ∧ Ext W0 wr ∧ ∀ j, j < k → nmsB1 f1 j = true) (fun i _ => n1 - (intOf i).toNat)
  case atStart => exact ⟨0, Nat.zero_le _, rfl, Ext.refl _, fun j h => by omega⟩
  case round =>
    obtain ⟨k, hk, rfl, hE, hno⟩ := hrel
    obtain ⟨p0, p1, p2, p3, p4⟩ := hbx _ hE
    by_cases hlt : k < n1
    · obtain ⟨cap2, b, off, C, hsl, _, hb, ec, hx⟩ := (h1.ext (hE0.trans hE)).at hlt
      cases hsl
      have HR := HR1 k hlt
      obtain ⟨x, hd0⟩ := (show Has (f1 k 0) .str from HR 0 (by decide)).str
      have q0 := hx 0 (by decide)
      have e0 := ec 0 (by decide)
      rw [hd0] at q0
      obtain ⟨y0, z0⟩ := q0.str_eq
      rw [y0] at e0
      have e0 : wr.cell? ⟨b, off + k, none⟩ = some (.string x) := by simpa using e0
      clear y0 hx ec HR
      have hLk : Hid (nmsB1 f1 k = nameB x) := by show _ = _; simp [nmsB1, hd0, D.str!]
      cases hn : nameB x
      · have hfin : Hid (RB = false) := by show _ = _; rw [HC.out, HA.out, all_no hlt (by rw [hLk.out, hn])]; rfl
        go_wp2_with (go_at_call 11; refine (l2Name_any _ _ z0).mono ?_; rintro e w1 ⟨rfl, hE1⟩; rw [hn])
        go_ret
        exact ⟨ret_bool hfin.out.symm, (hE0.trans hE).trans hE1⟩
      · go_wp2_with (go_at_call 11; refine (l2Name_any _ _ z0).mono ?_; rintro e w1 ⟨rfl, hE1⟩; rw [hn])
        go_roundw
        case rel => exact ⟨k + 1, by omega, by go_num, hE.trans hE1, upto_succ hno (by rw [hLk.out, hn])⟩
        case measure => simp [intOf]; omega
    · obtain rfl : k = n1 := by omega
      have hA : Hid (nmsB (.list 1 k f1) = true) := by show _ = _; rw [HA.out]; exact all_yes hno
      clear hno hk HA
      go_wp2
      clear p0 p1 p2 p3 p4
      rename World => wq
      go_loopw [4] (fun i wr => ∃ j : Nat, j ≤ n2 ∧ i = .int .i64 j ∧ Ext W0 wr ∧ ∀ i, i < j → okvB1 f2 i = true) (fun i _ => n2 - (intOf i).toNat)
      case atStart => exact ⟨0, Nat.zero_le _, rfl, hE, fun j h => by omega⟩
      case round =>
        clear hE
        obtain ⟨j, hj, rfl, hE, hno⟩ := hrel
        obtain ⟨p0, p1, p2, p3, p4⟩ := hbx _ hE
        by_cases hlt : j < n2
        · obtain ⟨cap2, b, off, C, hsl, _, hb, ec, hx⟩ := (h2.ext (hE0.trans hE)).at hlt
          cases hsl
          have HR := HR2 j hlt
          obtain ⟨v0, hd0⟩ := (show Has (f2 j 0) .int from HR 0 (by decide)).int
          obtain ⟨v1, hd1⟩ := (show Has (f2 j 1) .int from HR 1 (by decide)).int
          obtain ⟨v2, hd2⟩ := (show Has (f2 j 2) .str from HR 2 (by decide)).str
          have H3 : Has (f2 j 3) (.list 2) := HR 3 (by decide)
          have q0 := hx 0 (by decide)
          have e0 := ec 0 (by decide)
          rw [hd0] at q0
          obtain ⟨y0, z0⟩ := q0.int_eq
          rw [y0] at e0
          have q1 := hx 1 (by decide)
          have e1 := ec 1 (by decide)
          rw [hd1] at q1
          obtain ⟨y1, z1⟩ := q1.int_eq
          rw [y1] at e1
          have q2 := hx 2 (by decide)
          have e2 := ec 2 (by decide)
          rw [hd2] at q2
          obtain ⟨y2, z2⟩ := q2.str_eq
          rw [y2] at e2
          have q3 := hx 3 (by decide)
          have e3 := ec 3 (by decide)
          simp only [Nat.add_zero] at e0
          clear y0 y1 y2 hx ec HR
          have hLk : Hid (okvB1 f2 j = okN 3 (.mk v0 v1 v2 (vsOf (f2 j 3)))) := by show _ = _; simp [okvB1, hd0, hd1, hd2, D.str!, D.int!]
          have hcall := specValueOk_any (.mk v0 v1 v2 (vsOf (f2 j 3))) 0 _ _ (valIn_of z0 z1 z2 H3 q3)
          generalize okN 3 (.mk v0 v1 v2 (vsOf (f2 j 3))) = R at hLk hcall
          generalize C 3 = c3 at *
          cases hn : R
          · have hfin : Hid (RB = false) := by show _ = _; rw [HC.out, hA.out, HB.out, all_no hlt (by rw [hLk.out, hn])]; rfl
            rw [hn] at hcall
            go_wp2_with (go_at_call 12; refine hcall.mono ?_; rintro e w1 ⟨rfl, hE1⟩)
            go_ret
            exact ⟨ret_bool hfin.out.symm, (hE0.trans hE).trans hE1⟩
          · rw [hn] at hcall
            go_wp2_with (go_at_call 12; refine hcall.mono ?_; rintro e w1 ⟨rfl, hE1⟩)
            go_roundw
            case rel => exact ⟨j + 1, by omega, by go_num, hE.trans hE1, upto_succ hno (by rw [hLk.out, hn])⟩
            case measure => simp [intOf]; omega
        · obtain rfl : j = n2 := by omega
          have hfin : Hid (RB = kindB x0 k j x3 x4) := by show _ = _; rw [HC.out, hA.out, HB.out, all_yes hno]; simp
          clear hno hj HB HC hA
          have hE9 := hE0.trans hE
          clear hbx hE0 hE HR1 HR2 h1 h2 H1 H2
          by_cases k1 : x0 = 1
          · have g : Hid (kindB x0 k j x3 x4 = (decide ((k : Int) ≤ 5) && decide (j = 0) && x3 == 0)) := by show _ = _; unfold kindB; rw [if_pos k1]
            subst k1
            go_wp2
            all_goals go_ret
            all_goals exact ⟨ret_bool (by rw [hfin.out, g.out]; first | (simp_all; done) | (simp_all; omega) | (simp_all; intros; omega)), hE9⟩
          · by_cases k2 : x0 = 2
            · have g : Hid (kindB x0 k j x3 x4 = (decide (k = 0) && inB j 1 5 && x3 == 0 && !x4)) := by show _ = _; unfold kindB; rw [if_neg k1, if_pos k2]
              subst k2
              clear k1
              by_cases kz : k = 0
              · have gz : Hid (k = 0) := kz
                have gd : ((k : Int) == 0) = true := by simp [kz]
                clear kz
                go_wp2_with (go_at_call 13; refine (l1In_any _ _ _ _).mono ?_; rintro e w' ⟨rfl, rfl⟩)
                all_goals go_ret
                all_goals exact ⟨ret_bool (by rw [hfin.out, g.out]; have := gz.out; first | (simp_all; done) | (simp_all; omega) | (simp_all; intros; omega)), hE9⟩
              · have gz : Hid (¬ k = 0) := kz
                have gd : ((k : Int) == 0) = false := by simp [kz]
                clear kz
                go_wp2
                all_goals go_ret
                all_goals exact ⟨ret_bool (by rw [hfin.out, g.out]; have := gz.out; first | (simp_all; done) | (simp_all; omega) | (simp_all; intros; omega)), hE9⟩
            · have b1 : (x0 == 1) = false := by simp [k1]
              have b2 : (x0 == 2) = false := by simp [k2]
              by_cases k3 : x0 = 3
              · have g : Hid (kindB x0 k j x3 x4 = (decide (k = 0) && decide (j = 0) && inB x3 1 9 && !x4)) := by show _ = _; unfold kindB; rw [if_neg k1, if_neg k2, if_pos k3]
                subst k3
                clear k1 k2 b1 b2
                by_cases kz : k = 0 ∧ j = 0
                · have gz : Hid (k = 0 ∧ j = 0) := kz
                  have gd : ((k : Int) == 0) = true := by simp [kz.1]
                  have ge : ((j : Int) == 0) = true := by simp [kz.2]
                  clear kz
                  go_wp2_with (go_at_call 13; refine (l1In_any _ _ _ _).mono ?_; rintro e w' ⟨rfl, rfl⟩)
                  all_goals go_ret
                  all_goals exact ⟨ret_bool (by rw [hfin.out, g.out]; have := gz.out; first | (simp_all; done) | (simp_all; omega) | (simp_all; intros; omega)), hE9⟩
                · by_cases kx : k = 0
                  · have gz : Hid (k = 0 ∧ ¬ j = 0) := ⟨kx, fun h => kz ⟨kx, h⟩⟩
                    have gd : ((k : Int) == 0) = true := by simp [kx]
                    have ge : ((j : Int) == 0) = false := by simp [gz.out.2]
                    clear kz kx
                    go_wp2
                    all_goals go_ret
                    all_goals exact ⟨ret_bool (by rw [hfin.out, g.out]; have := gz.out; first | (simp_all; done) | (simp_all; omega) | (simp_all; intros; omega)), hE9⟩
                  · have gz : Hid (¬ k = 0) := kx
                    have gd : ((k : Int) == 0) = false := by simp [kx]
                    clear kz kx
                    go_wp2
                    all_goals go_ret
                    all_goals exact ⟨ret_bool (by rw [hfin.out, g.out]; have := gz.out; first | (simp_all; done) | (simp_all; omega) | (simp_all; intros; omega)), hE9⟩
              · have b3 : (x0 == 3) = false := by simp [k3]
                have g : Hid (kindB x0 k j x3 x4 = (x0 == 4 && decide (k = 0) && decide (j = 0) && x3 == 0 && !x4)) := by show _ = _; unfold kindB; rw [if_neg k1, if_neg k2, if_neg k3]
                clear k1 k2 k3
                go_wp2
                all_goals go_ret
                all_goals exact ⟨ret_bool (by rw [hfin.out, g.out]; first | (simp_all; done) | (simp_all; omega) | (simp_all; intros; omega)), hE9⟩
end Go.Proofs.Ytajepcddoijgoaa
