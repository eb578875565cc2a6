/- What spec.MsgOk and impl.MsgOk answer. -/
import Derived.Test.YtepfppncfeaeiaaMoTerms
import Derived.Deep.DeepCutAuto
namespace Go.Proofs.Ytepfppncfeaeiaa
open Go.RowKit Go.Deep

/-- Something that is said of kind k has its form: a text, what is given, a number. -/
def saidB (k : Int) (s : ByteArray) (N G : Bool) (g : Nat) (n : Int) : Bool :=
  if k = 1 then N && decide (g = 0) && n == 0
  else if k = 2 then decide ((s.size : Int) ≤ 1000) && G && decide ((g : Int) ≤ 5) && n == 0
  else if k = 3 then s.toList.isEmpty && decide (g = 0) && inB n 1 60
  else inB k 4 9 && s.toList.isEmpty && decide (g = 0) && n == 0
def msgB (k : Int) (s : ByteArray) (d : D) (n : Int) : Bool := saidB k s (nameB s) (cellsB d) d.len! n
theorem said1 (s : ByteArray) (N G : Bool) (g : Nat) (n : Int) : saidB 1 s N G g n = (N && decide (g = 0) && n == 0) := rfl
theorem said2 (s : ByteArray) (N G : Bool) (g : Nat) (n : Int) : saidB 2 s N G g n = (decide ((s.size : Int) ≤ 1000) && G && decide ((g : Int) ≤ 5) && n == 0) := rfl
theorem said3 (s : ByteArray) (N G : Bool) (g : Nat) (n : Int) : saidB 3 s N G g n = (s.toList.isEmpty && decide (g = 0) && inB n 1 60) := rfl
theorem said4 (k : Int) (s : ByteArray) (N G : Bool) (g : Nat) (n : Int) (k1 : ¬ k = 1) (k2 : ¬ k = 2) (k3 : ¬ k = 3) : saidB k s N G g n = (inB k 4 9 && s.toList.isEmpty && decide (g = 0) && n == 0) := by
  unfold saidB; rw [if_neg k1, if_neg k2, if_neg k3]

set_option maxHeartbeats 400000 in
theorem isWithin_any (n a b : Int) (w : World) : Calls Try.prog 16 #[.int .i64 n, .int .i64 a, .int .i64 b] w fun e w' => e = .returned (.bool (inB n a b)) ∧ w' = w := by
  go_enter Try.func16, Try.ntmps16
  go_wp2
  all_goals go_ret
  all_goals refine ⟨ret_bool ?_, rfl⟩
  all_goals (rw [Bool.eq_iff_iff]; simp [inB]; try omega)

set_option maxHeartbeats 400000 in
theorem mayBeGiven_any (d : D) (H : Has d (.list 3)) (S : Nat → Prop) (v : Value) (w : World) (hv : DIn S w d v) :
    Calls Try.prog 15 #[v] w fun e w' => e = .returned (.bool (decide ((d.len! : Int) ≤ 5) && cellsB d)) ∧ Ext w w' := by
  have hcall := termsOf_any d H S v w hv
  obtain ⟨a, cap, len, f, hdd, rfl, hl, _⟩ := list_shape H hv
  have hlen : d.len! = len := by rw [hdd]; rfl
  rw [hlen]
  clear hdd hv hlen
  unfold maxLen at hl
  generalize cellsB d = R at hcall
  go_enter Try.func15, Try.ntmps15
  go_wp2_with fail
  refine hcall.mono ?_
  rintro e w1 ⟨m, rfl, hE1⟩
  go_wp2
  all_goals go_ret
  all_goals exact ⟨ret_bool (by first | (simp_all; done) | (simp_all; omega) | (simp_all [inB]; done) | (simp_all [inB]; omega) | (simp_all [inB]; intros; omega)), hE1⟩

theorem box_frozenM {w W : World} {cs : Array Value} {T : TypeId} (h : Ext (w.alloc (.cells cs T)) W) : ∀ o, W.frozen? ⟨w.heap.size, o, none⟩ = false := by
  intro o
  have hz : w.heap.size < (w.alloc (.cells cs T)).heap.size := by simp
  rw [(bcell h).2 _ _ hz, frozen?_alloc_cells]
  simp [World.frozen?]
theorem empty_close (s : ByteArray) : (s.toList == []) = s.toList.isEmpty := by cases s.toList <;> rfl

set_option maxHeartbeats 4000000 in
theorem specMsgOk_any (S : Nat → Prop) (x0 : Int) (x1 : ByteArray) (d2 : D) (c2 : Value) (x3 : Int) (w : World) (z1 : x1.size ≤ maxLen) (H2 : Has d2 (.list 3)) (h2 : DIn S w d2 c2) :
    Calls Try.prog 5 #[.agg #[.int .i64 x0, .string x1, c2, .int .i64 x3]] w fun e w' => e = .returned (.bool (msgB x0 x1 d2 x3)) ∧ Ext w w' := by
  have hcs := fun W (hW : Ext w W) => l4Cells_any d2 H2 S c2 W (h2.ext hW)
  have HC : Hid (msgB x0 x1 d2 x3 = saidB x0 x1 (nameB x1) (cellsB d2) d2.len! x3) := rfl
  obtain ⟨a2, cap2, n2, f2, hdd, rfl, hm2, _⟩ := list_shape H2 h2
  have hlen : d2.len! = n2 := by rw [hdd]; rfl
  rw [hlen] at HC
  clear hdd hlen h2 H2
  generalize msgB x0 x1 d2 x3 = RB at HC
  generalize cellsB d2 = G at hcs HC
  have hnm := fun W => l2Name_any x1 W z1
  generalize nameB x1 = N at hnm HC
  unfold maxLen at hm2 z1
  have hE0 : Ext w (w.alloc (.cells #[.int .i64 x0, .string x1, .slice a2 n2 cap2, .int .i64 x3] 29)) := (Ext.refl _).alloc _
  have hbx := fun W (hW : Ext (w.alloc (.cells #[.int .i64 x0, .string x1, .slice a2 n2 cap2, .int .i64 x3] 29)) W) => box4 hW
  go_enter Try.func5, Try.ntmps5
  go_upto_region 1 with fail
  generalize hW0 : w.alloc _ = W0 at *
  clear hW0
  obtain ⟨p0, p1, p2, p3, _⟩ := hbx _ (Ext.refl _)
  by_cases k1 : x0 = 1
  · subst k1
    rw [said1] at HC
    cases hN : N
    all_goals
      rw [hN] at hnm HC
      go_wp2_with (go_at_call 10; refine (hnm _).mono ?_; rintro e w1 ⟨rfl, hE1⟩; clear p0 p1 p2 p3; obtain ⟨p0, p1, p2, p3, _⟩ := hbx _ hE1)
      all_goals go_ret
      all_goals refine ⟨ret_bool ?_, hE0.trans hE1⟩
      all_goals rw [HC.out]
      all_goals first | (simp_all; done) | (simp_all; omega) | (simp_all [inB]; done) | (simp_all [inB]; omega) | (simp_all [inB]; intros; omega)
  · have b1 : (x0 == 1) = false := by simp [k1]
    by_cases k2 : x0 = 2
    · subst k2
      rw [said2] at HC
      clear k1 b1
      by_cases hz : (x1.size : Int) ≤ 1000
      · cases hG : G
        all_goals
          rw [hG] at hcs HC
          go_wp2_with (go_at_call 11; refine (hcs _ hE0).mono ?_; rintro e w1 ⟨rfl, hE1⟩; clear p0 p1 p2 p3; obtain ⟨p0, p1, p2, p3, _⟩ := hbx _ hE1)
          all_goals go_ret
          all_goals refine ⟨ret_bool ?_, hE0.trans hE1⟩
          all_goals rw [HC.out]
          all_goals first | (simp_all; done) | (simp_all; omega) | (simp_all [inB]; done) | (simp_all [inB]; omega) | (simp_all [inB]; intros; omega)
      · have hz2 : 1000 < (x1.size : Int) := by omega
        go_wp2
        all_goals go_ret
        all_goals refine ⟨ret_bool ?_, hE0⟩
        all_goals rw [HC.out]
        all_goals first | (simp_all; done) | (simp_all; omega) | (simp_all [inB]; done) | (simp_all [inB]; omega) | (simp_all [inB]; intros; omega)
    · have b2 : (x0 == 2) = false := by simp [k2]
      by_cases k3 : x0 = 3
      · subst k3
        rw [said3] at HC
        clear k1 b1 k2 b2
        cases hE : x1.toList.isEmpty
        · have hF : ¬ x1.toList = [] := by intro h; rw [h] at hE; cases hE
          have HC : Hid (RB = false) := by show _ = _; rw [HC.out, hE]; rfl
          go_wp2
          all_goals go_ret
          all_goals exact ⟨ret_bool HC.out.symm, hE0⟩
        · have hF : x1.toList = [] := List.isEmpty_iff.1 hE
          by_cases hn : n2 = 0
          · have gd : ((n2 : Int) == 0) = true := by simp [hn]
            have HC : Hid (RB = inB x3 1 60) := by show _ = _; rw [HC.out, hE]; simp [hn]
            clear hn
            go_wp2_with (go_at_call 12; refine (l1In_any _ _ _ _).mono ?_; rintro e w' ⟨rfl, rfl⟩)
            all_goals go_ret
            all_goals exact ⟨ret_bool HC.out.symm, hE0⟩
          · have gd : ((n2 : Int) == 0) = false := by simp [hn]
            have HC : Hid (RB = false) := by show _ = _; rw [HC.out]; simp [hn]
            clear hn
            go_wp2
            all_goals go_ret
            all_goals exact ⟨ret_bool HC.out.symm, hE0⟩
      · have b3 : (x0 == 3) = false := by simp [k3]
        rw [said4 _ _ _ _ _ _ k1 k2 k3] at HC
        clear k1 k2 k3
        cases hi : inB x0 4 9
        · have HC : Hid (RB = false) := by show _ = _; rw [HC.out, hi]; rfl
          go_wp2_with (go_at_call 12; refine (l1In_any _ _ _ _).mono ?_; rintro e w' ⟨rfl, rfl⟩; rw [hi])
          all_goals go_ret
          all_goals exact ⟨ret_bool HC.out.symm, hE0⟩
        · rw [hi] at HC
          go_wp2_with (go_at_call 12; refine (l1In_any _ _ _ _).mono ?_; rintro e w' ⟨rfl, rfl⟩; rw [hi])
          all_goals go_ret
          all_goals refine ⟨ret_bool ?_, hE0⟩
          all_goals rw [HC.out]
          all_goals first | (simp_all; done) | (simp_all; omega) | (simp_all [inB]; done) | (simp_all [inB]; omega) | (simp_all [inB]; intros; omega)

set_option maxHeartbeats 4000000 in
theorem implMsgOk_any (S : Nat → Prop) (x0 : Int) (x1 : ByteArray) (d2 : D) (c2 : Value) (x3 : Int) (w : World) (z1 : x1.size ≤ maxLen) (H2 : Has d2 (.list 3)) (h2 : DIn S w d2 c2) :
    Calls Try.prog 7 #[.agg #[.int .i64 x0, .string x1, c2, .int .i64 x3]] w fun e w' => e = .returned (.bool (msgB x0 x1 d2 x3)) ∧ Ext w w' := by
  have hcs := fun W (hW : Ext w W) => mayBeGiven_any d2 H2 S c2 W (h2.ext hW)
  have HC : Hid (msgB x0 x1 d2 x3 = saidB x0 x1 (nameB x1) (cellsB d2) d2.len! x3) := rfl
  obtain ⟨a2, cap2, n2, f2, hdd, rfl, hm2, _⟩ := list_shape H2 h2
  have hlen : d2.len! = n2 := by rw [hdd]; rfl
  rw [hlen] at HC
  rw [hlen] at hcs
  clear hdd hlen h2 H2
  generalize msgB x0 x1 d2 x3 = RB at HC
  generalize cellsB d2 = G at hcs HC
  have hnm := fun W => implNameOk_any x1 W z1
  generalize nameB x1 = N at hnm HC
  unfold maxLen at hm2 z1
  have hE0 : Ext w (w.alloc (.cells #[.int .i64 x0, .string x1, .slice a2 n2 cap2, .int .i64 x3] 29)) := (Ext.refl _).alloc _
  have hbx := fun W (hW : Ext (w.alloc (.cells #[.int .i64 x0, .string x1, .slice a2 n2 cap2, .int .i64 x3] 29)) W) => box4 hW
  have hbz := fun W (hW : Ext (w.alloc (.cells #[.int .i64 x0, .string x1, .slice a2 n2 cap2, .int .i64 x3] 29)) W) => box_frozenM hW
  go_enter Try.func7, Try.ntmps7
  go_upto_region 1 with fail
  generalize hW0 : w.alloc _ = W0 at *
  clear hW0
  obtain ⟨p0, p1, p2, p3, _⟩ := hbx _ (Ext.refl _)
  have q1 := hbz _ (Ext.refl _) 1
  have q2 := hbz _ (Ext.refl _) 2
  have q3 := hbz _ (Ext.refl _) 3
  have hz0 : (ByteArray.mk #[]).toList = [] := by rw [ByteArray.toList_eq]
  by_cases k1 : x0 = 1
  · subst k1
    rw [said1] at HC
    cases hN : N
    all_goals
      rw [hN] at hnm HC
      go_wp2_with (go_at_call 14; refine (hnm _).mono ?_; rintro e w1 ⟨rfl, rfl⟩)
      all_goals go_ret
      all_goals refine ⟨ret_bool ?_, hE0.setCell (by simp) _⟩
      all_goals rw [HC.out]
      all_goals first | (simp_all; done) | (simp_all; omega) | (simp_all [inB]; done) | (simp_all [inB]; omega) | (simp_all [inB]; intros; omega)
  · have b1 : (x0 == 1) = false := by simp [k1]
    by_cases k2 : x0 = 2
    · subst k2
      rw [said2] at HC
      clear k1 b1
      by_cases hz : (x1.size : Int) ≤ 1000
      · have HC : Hid (RB = (decide ((x1.size : Int) ≤ 1000) && ((decide ((n2 : Int) ≤ 5) && G) && x3 == 0))) := by show _ = _; rw [HC.out]; cases G <;> simp [Bool.and_assoc]
        generalize (decide ((n2 : Int) ≤ 5) && G) = MG at hcs HC
        cases hG : MG
        all_goals
          rw [hG] at hcs HC
          go_wp2_with (go_at_call 15; refine (hcs _ hE0).mono ?_; rintro e w1 ⟨rfl, hE1⟩; clear p0 p1 p2 p3 q1 q2 q3; obtain ⟨p0, p1, p2, p3, _⟩ := hbx _ hE1; have q1 := hbz _ hE1 1; have q2 := hbz _ hE1 2)
          all_goals go_ret
          all_goals refine ⟨ret_bool ?_, ((hE0.trans hE1).setCell (by simp) _).setCell (by simp) _⟩
          all_goals rw [HC.out]
          all_goals first | (simp_all; done) | (simp_all; omega) | (simp_all [inB]; done) | (simp_all [inB]; omega) | (simp_all [inB]; intros; omega)
      · have hz2 : 1000 < (x1.size : Int) := by omega
        go_wp2
        all_goals go_ret
        all_goals refine ⟨ret_bool ?_, (hE0.setCell (by simp) _).setCell (by simp) _⟩
        all_goals rw [HC.out]
        all_goals first | (simp_all; done) | (simp_all; omega) | (simp_all [inB]; done) | (simp_all [inB]; omega) | (simp_all [inB]; intros; omega)
    · have b2 : (x0 == 2) = false := by simp [k2]
      by_cases k3 : x0 = 3
      · subst k3
        rw [said3] at HC
        clear k1 b1 k2 b2
        go_wp2_with (go_at_call 16; refine (isWithin_any _ _ _ _).mono ?_; rintro e w' ⟨rfl, rfl⟩)
        all_goals go_ret
        all_goals refine ⟨ret_bool ?_, hE0.setCell (by simp) _⟩
        all_goals rw [HC.out]
        all_goals first | (simp_all; done) | (simp_all; omega) | (simp_all [inB]; done) | (simp_all [inB]; omega) | (simp_all [inB]; intros; omega)
      · have b3 : (x0 == 3) = false := by simp [k3]
        rw [said4 _ _ _ _ _ _ k1 k2 k3] at HC
        clear k1 k2 k3
        go_wp2
        all_goals go_ret
        all_goals refine ⟨ret_bool ?_, hE0⟩
        all_goals rw [HC.out]
        all_goals first | (simp_all; done) | (simp_all; omega) | (simp_all [inB]; done) | (simp_all [inB]; omega) | (simp_all [inB]; intros; omega)
end Go.Proofs.Ytepfppncfeaeiaa
