/- What impl.netOf and impl.GraphOk answer. -/
import Derived.Test.YtbhmblkappmfjaaGreatTk
import Derived.Test.YtbhmblkappmfjaaGreatNeN
import Derived.Test.YtbhmblkappmfjaaGreatNetThy
import Derived.Test.YtbhmblkappmfjaaGreatNetD
namespace Go.Proofs.YtbhmblkappmfjaaGreat
open Go.RowKit Go.Deep

/-- The numbers of the edges with an end at z: from (leaf 2), to (leaf 3). -/
def outsOf (f : Nat → Nat → D) (c : Nat) (len : Nat) (z : Int) : List Int := ((List.range len).filter fun i => (f i c).int! == z).map fun i => (f i 0).int!
theorem outs_succ (f : Nat → Nat → D) (c k : Nat) (z : Int) : outsOf f c (k + 1) z = outsOf f c k z ++ (if (f k c).int! == z then [(f k 0).int!] else []) := by
  unfold outsOf
  rw [List.range_succ, List.filter_append, List.map_append]
  congr 1
  cases h : ((f k c).int! == z) <;> simp [h]
/-- The rows out of a node, and into it. -/
def RowsOI (N : NetD) (f : Nat → Nat → D) (q : Nat) : Prop := ∀ z, N.lists (.o z) = outsOf f 2 q z ∧ N.lists (.i z) = outsOf f 3 q z
theorem lists_o (N : NetD) (v' : Value) (id : Int) (u : Value) (x y : Int) (vo vi : Value) (z : Int) : ((((((N.push .e v' id).put .e id u).push (.o x) vo id).put .o x vo).push (.i y) vi id).put .i y vi).lists (.o z) = if z = x then N.lists (.o x) ++ [id] else N.lists (.o z) := by
  by_cases h : z = x
  · subst h; simp [NetD.push, NetD.put, upd]
  · simp [NetD.push, NetD.put, upd, h]
theorem lists_i (N : NetD) (v' : Value) (id : Int) (u : Value) (x y : Int) (vo vi : Value) (z : Int) : ((((((N.push .e v' id).put .e id u).push (.o x) vo id).put .o x vo).push (.i y) vi id).put .i y vi).lists (.i z) = if z = y then N.lists (.i y) ++ [id] else N.lists (.i z) := by
  by_cases h : z = y
  · subst h; simp [NetD.push, NetD.put, upd]
  · simp [NetD.push, NetD.put, upd, h]
/-- A net is that of a graph: its numbers, ascending; its rows under them. -/
structure NetFull (w : World) (base : Nat) (N : NetD) (f0 f1 : Nat → Nat → D) (len0 len1 : Nat) (x2 x3 : Int) : Prop where
  nn : N.nn = x2
  ne : N.ne = x3
  ln : N.lists .n = idsOf f0 len0
  le : N.lists .e = idsOf f1 len1
  kn : ∀ x, x ∈ N.keys .n ↔ x ∈ idsOf f0 len0
  ke : ∀ x, x ∈ N.keys .e ↔ x ∈ idsOf f1 len1
  oi : RowsOI N f1 len1
  rows : ∃ mid, base ≤ mid ∧ RowsD w N base mid .n 3 f0 len0 ∧ RowsD w N mid w.heap.size .e 5 f1 len1

set_option maxRecDepth 100000 in
set_option maxHeartbeats 8000000 in
theorem netOf_any (S : Nat → Prop) (d0 d1 : D) (c0 c1 : Value) (x2 x3 : Int) (w : World) (H0 : Has d0 (.list 4)) (h0 : DIn S w d0 c0) (H1 : Has d1 (.list 5)) (h1 : DIn S w d1 c1) :
    Calls Tryz.prog 10 #[.agg #[c0, c1, .int .i64 x2, .int .i64 x3]] w fun e w' => ∃ p, e = .returned (.tuple #[.pointer p, .bool (graphB d0 d1 x2 x3)]) ∧ (graphB d0 d1 x2 x3 = true → ∃ N, p = some ⟨N.nb, 0, none⟩ ∧ NetIn w' w.heap.size 100 N ∧ NetFull w' w.heap.size N d0.at! d1.at! d0.len! d1.len! x2 x3) ∧ Ext w w' := by
  obtain ⟨len0, f0, hd0e, HR0⟩ := H0.list
  obtain ⟨len1, f1, hd1e, HR1⟩ := H1.list
  subst hd0e hd1e
  change DIn S w (.list 3 len0 f0) c0 at h0
  change DIn S w (.list 5 len1 f1) c1 at h1
  obtain ⟨a0, cap0, rfl, hm0⟩ := h0.list_eq
  obtain ⟨a1, cap1, rfl, hm1⟩ := h1.list_eq
  unfold maxLen at hm0 hm1
  have HG : Hid (graphB (.list (rowsOf 4).length len0 f0) (.list (rowsOf 5).length len1 f1) x2 x3 = ((List.range len0).all (nodeB f0 x2) && (List.range len1).all (edgeB f1 (.list (rowsOf 4).length len0 f0) x3) && (decide (len0 ≤ 12) && decide (len1 ≤ 16) && inB x2 0 1000000000 && inB x3 0 1000000000))) := rfl
  generalize hgb : graphB (.list (rowsOf 4).length len0 f0) (.list (rowsOf 5).length len1 f1) x2 x3 = gb at *
  clear hgb
  have hlim : ∀ {b : Bool}, (decide (len0 ≤ 12) && decide (len1 ≤ 16) && inB x2 0 1000000000 && inB x3 0 1000000000) = b → b = false → gb = false := fun e e2 => by rw [HG.out, e, e2, Bool.and_false]
  go_enter Tryz.func10, Tryz.ntmps10
  go_upto_region 1 with fail
  generalize hW0 : w.alloc _ = W0
  generalize hbx : w.heap.size = bx
  have hE0 : Ext w W0 := by subst hW0; exact (Ext.refl _).alloc _
  have hb : ∀ W, Ext W0 W → W.cell? ⟨bx, 0, none⟩ = some (.slice a0 len0 cap0) ∧ W.cell? ⟨bx, 1, none⟩ = some (.slice a1 len1 cap1) ∧ W.cell? ⟨bx, 2, none⟩ = some (.int .i64 x2) ∧ W.cell? ⟨bx, 3, none⟩ = some (.int .i64 x3) := fun W hW => by
    subst hbx; subst hW0; exact ⟨box_cell hW 0 _ rfl, box_cell hW 1 _ rfl, box_cell hW 2 _ rfl, box_cell hW 3 _ rfl⟩
  have hbase : bx ≤ W0.heap.size := by subst hbx; exact hE0.le
  clear hW0
  obtain ⟨p0, p1, p2, p3⟩ := hb W0 (Ext.refl _)
  by_cases l0 : len0 ≤ 12
  case neg =>
    have hf : Hid (gb = false) := hlim rfl (by simp [l0])
    clear hlim
    have g0 : (12 : Int) < (len0 : Int) := by omega
    go_wp2
    go_ret2
    exact ⟨_, by rw [hf.out]; rfl, fun e => (by rw [hf.out] at e; cases e), hE0⟩
  have g0 : ¬ (12 : Int) < (len0 : Int) := by omega
  by_cases l1 : len1 ≤ 16
  case neg =>
    have hf : Hid (gb = false) := hlim rfl (by simp [l1])
    clear hlim
    have g1 : (16 : Int) < (len1 : Int) := by omega
    go_wp2
    go_ret2
    exact ⟨_, by rw [hf.out]; rfl, fun e => (by rw [hf.out] at e; cases e), hE0⟩
  have g1 : ¬ (16 : Int) < (len1 : Int) := by omega
  cases i2 : inB x2 0 1000000000
  case false =>
    have hf : Hid (gb = false) := hlim rfl (by simp [i2])
    clear hlim
    go_wp2_with (go_at_call 23; refine (isNext_any _ _).mono ?_; rintro e w5 ⟨rfl, hw⟩; rw [hw, i2]; clear hw)
    go_ret2
    exact ⟨_, by rw [hf.out]; rfl, fun e => (by rw [hf.out] at e; cases e), hE0⟩
  cases i3 : inB x3 0 1000000000
  case false =>
    have hf : Hid (gb = false) := hlim rfl (by simp [i3])
    clear hlim
    go_wp2_with (go_at_call 23; refine (isNext_any _ _).mono ?_; rintro e w5 ⟨rfl, hw⟩; rw [hw]; first | rw [i2] | rw [i3]; clear hw)
    go_ret2
    exact ⟨_, by rw [hf.out]; rfl, fun e => (by rw [hf.out] at e; cases e), hE0⟩
  go_upto_region 3 with (go_at_call 23; refine (isNext_any _ _).mono ?_; rintro e w5 ⟨rfl, hw⟩; rw [hw]; first | rw [i2] | rw [i3]; clear hw)
  go_cut [4] (fun s wc => ∃ N, s = .pointer (some ⟨N.nb, 0, none⟩) ∧ NetIn wc W0.heap.size 0 N ∧ (∃ mN mE mO mI nb, N = net0 mN mE mO mI nb x2 x3) ∧ Ext W0 wc)
  case first =>
    have hmm := @run_makeMap Tryz.prog
    have HK : Hid (∀ W, Ext W0 W → W.cell? ⟨bx, 2, none⟩ = some (.int .i64 x2) ∧ W.cell? ⟨bx, 3, none⟩ = some (.int .i64 x3)) := fun W hW => ⟨(hb W hW).2.2.1, (hb W hW).2.2.2⟩
    have hc0 : Ext W0 W0.drew := (Ext.refl _).drew
    have sz0 := hc0.le
    clear p0 p1 p2 p3
    refine wp_region_held_drew (S := (fun W => W.cell? ⟨bx, 2, none⟩ = some (.int .i64 x2) ∧ W.cell? ⟨bx, 3, none⟩ = some (.int .i64 x3))) (by kernel_rfl) (HK.out _ hc0) (fun hHeld => ?_)
    refine tkL 0 ⟨some 31, .fieldAddr 26 (.tmp 1) 2, 0, _, #[], none⟩ ?_ hHeld ?yyQ0 ?rrQ0
    case yyQ0 => (intro w hSw; (try dsimp only at hSw); go_simp; try with_reducible rfl)
    try simp only [Act.put, putA, putB, putC]
    refine tkL 1 ⟨some 32, .load 3 (.tmp 31), 3, _, #[⟨0, .data⟩], none⟩ ?_ hHeld ?yyQ1 ?rrQ1
    case yyQ1 => (intro w hSw; (try dsimp only at hSw); go_simp; try with_reducible rfl)
    try simp only [Act.put, putA, putB, putC]
    refine tkL 3 ⟨some 34, .fieldAddr 26 (.tmp 1) 3, 0, _, #[], none⟩ ?_ hHeld ?yyQ3 ?rrQ3
    case yyQ3 => (intro w hSw; (try dsimp only at hSw); go_simp; try with_reducible rfl)
    try simp only [Act.put, putA, putB, putC]
    refine tkL 4 ⟨some 35, .load 3 (.tmp 34), 3, _, #[⟨3, .data⟩], none⟩ ?_ hHeld ?yyQ4 ?rrQ4
    case yyQ4 => (intro w hSw; (try dsimp only at hSw); go_simp; try with_reducible rfl)
    try simp only [Act.put, putA, putB, putC]
    generalize W0.drew = W0' at *
    refine wpAnyH_ready (rs := [2, 6, 7]) (by kernel_rfl) (by simp) ?_
    refine AllReadyH.cons (o := ⟨some 33, .call { callee := .value (.func 24), args := #[.tmp 32], argTypes := #[3] }, 60, _, #[⟨1, .data⟩], none⟩) rfl (fun K hK => ?_) (AllReadyH.cons (o := ⟨some 37, .makeMap 66 none, 66, _, #[], none⟩) rfl (fun K hK => ?_) (AllReadyH.cons (o := ⟨some 38, .makeMap 66 none, 66, _, #[], none⟩) rfl (fun K hK => ?_) (AllReadyH.nil)))
    · go_simp
      refine (newTableN_any _ _).mono ?_
      rintro e W1 ⟨mN, rfl, loN, MN, hx⟩
      go_wp2_with fail
      have hc1 := (hc0).trans hx
      have upN := (MN (fun _ => undef)).lt
      have sz1 := hx.le
      clear hx
      refine hK.out _ _ (HK.out _ hc1) (fun hHeld => ?_)
      clear hK K
      try simp only [Act.put, putA, putB, putC]
      refine wpAnyH_ready (rs := [5, 6, 7]) (by kernel_rfl) (by simp) ?_
      refine AllReadyH.cons (o := ⟨some 36, .call { callee := .value (.func 25), args := #[.tmp 35], argTypes := #[3] }, 64, _, #[⟨4, .data⟩, ⟨2, .chain⟩], none⟩) rfl (fun K hK => ?_) (AllReadyH.cons (o := ⟨some 37, .makeMap 66 none, 66, _, #[], none⟩) rfl (fun K hK => ?_) (AllReadyH.cons (o := ⟨some 38, .makeMap 66 none, 66, _, #[], none⟩) rfl (fun K hK => ?_) (AllReadyH.nil)))
      · go_simp
        refine (newTableE_any _ _).mono ?_
        rintro e W2 ⟨mE, rfl, loE, ME, hx⟩
        go_wp2_with fail
        have hc2 := (hc1).trans hx
        have upE := (ME (fun _ => undef)).lt
        have sz2 := hx.le
        replace MN := fun val => (MN val).ext hx
        clear hx
        refine hK.out _ _ (HK.out _ hc2) (fun hHeld => ?_)
        clear hK K
        try simp only [Act.put, putA, putB, putC]
        refine wpAnyH_ready (rs := [6, 7]) (by kernel_rfl) (by simp) ?_
        refine AllReadyH.cons (o := ⟨some 37, .makeMap 66 none, 66, _, #[], none⟩) rfl (fun K hK => ?_) (AllReadyH.cons (o := ⟨some 38, .makeMap 66 none, 66, _, #[], none⟩) rfl (fun K hK => ?_) (AllReadyH.nil))
        · go_simp
          have MO := fun val => MapF.new W2 val
          have hx : Ext W2 (W2.alloc (.map #[] 0)) := (Ext.refl _).alloc _
          have hc3 := (hc2).trans hx
          obtain ⟨mO, hmO⟩ : ∃ m, m = W2.heap.size := ⟨_, rfl⟩
          have loO : W2.heap.size ≤ mO := by omega
          rw [← hmO] at MO ⊢
          clear hmO
          generalize W2.alloc (.map #[] 0) = W3 at *
          have upO := (MO (fun _ => undef)).lt
          have sz3 := hx.le
          replace MN := fun val => (MN val).ext hx
          replace ME := fun val => (ME val).ext hx
          clear hx
          refine hK.out _ _ (HK.out _ hc3) (fun hHeld => ?_)
          clear hK K
          try simp only [Act.put, putA, putB, putC]
          refine wpAnyH_ready (rs := [7]) (by kernel_rfl) (by simp) ?_
          refine AllReadyH.cons (o := ⟨some 38, .makeMap 66 none, 66, _, #[], none⟩) rfl (fun K hK => ?_) (AllReadyH.nil)
          · go_simp
            have MI := fun val => MapF.new W3 val
            have hx : Ext W3 (W3.alloc (.map #[] 0)) := (Ext.refl _).alloc _
            have hc4 := (hc3).trans hx
            obtain ⟨mI, hmI⟩ : ∃ m, m = W3.heap.size := ⟨_, rfl⟩
            have loI : W3.heap.size ≤ mI := by omega
            rw [← hmI] at MI ⊢
            clear hmI
            generalize W3.alloc (.map #[] 0) = W4 at *
            have upI := (MI (fun _ => undef)).lt
            have sz4 := hx.le
            replace MN := fun val => (MN val).ext hx
            replace ME := fun val => (ME val).ext hx
            replace MO := fun val => (MO val).ext hx
            clear hx
            refine hK.out _ _ (HK.out _ hc4) (fun hHeld => ?_)
            clear hK K
            try simp only [Act.put, putA, putB, putC]
            refine tkL 8 ⟨some 39, .build 68 #[(0, .tmp 33), (1, .tmp 36), (2, .tmp 37), (3, .tmp 38)], 68, _, #[⟨2, .data⟩, ⟨5, .data⟩, ⟨6, .data⟩, ⟨7, .data⟩], none⟩ ?_ hHeld ?yyQ25678 ?rrQ25678
            case yyQ25678 => (intro w hSw; (try dsimp only at hSw); go_simp; try with_reducible rfl)
            try simp only [Act.put, putA, putB, putC]
            refine wpAnyH_ready (rs := [9]) (by kernel_rfl) (by simp) ?_
            refine AllReadyH.cons (o := ⟨some 40, .box 68 (.tmp 39), 39, _, #[⟨8, .data⟩], none⟩) rfl (fun K hK => ?_) (AllReadyH.nil)
            go_simp
            refine hK.out _ _ (HK.out _ ((hc4).alloc _)) (fun hHeld => ?_)
            clear hK K
            try simp only [Act.put, putA, putB, putC]
            refine tkL 10 ⟨some 4, .assign (.tmp 40), 39, _, #[⟨9, .data⟩, ⟨5, .chain⟩, ⟨0, .phase⟩, ⟨1, .phase⟩, ⟨2, .phase⟩, ⟨3, .phase⟩, ⟨4, .phase⟩, ⟨5, .phase⟩, ⟨6, .phase⟩, ⟨7, .phase⟩, ⟨8, .phase⟩, ⟨9, .phase⟩], none⟩ ?_ hHeld ?yyQ256710 ?rrQ256710
            case yyQ256710 => (intro w hSw; (try dsimp only at hSw); go_simp; try with_reducible rfl)
            try simp only [Act.put, putA, putB, putC]
            refine wpAnyH_done (by kernel_rfl) ?_ _
            go_wp2
            go_meet
            case rel => exact ⟨_, rfl, net0_in MN ME MO MI (by omega) (by omega) (by omega) (by omega) (by omega) (by omega) (by omega) (by omega) (by omega) (by omega) (by omega), ⟨_, _, _, _, _, rfl⟩, (hc4).alloc _⟩
        · go_simp
          have MI := fun val => MapF.new W2 val
          have hx : Ext W2 (W2.alloc (.map #[] 0)) := (Ext.refl _).alloc _
          have hc3 := (hc2).trans hx
          obtain ⟨mI, hmI⟩ : ∃ m, m = W2.heap.size := ⟨_, rfl⟩
          have loI : W2.heap.size ≤ mI := by omega
          rw [← hmI] at MI ⊢
          clear hmI
          generalize W2.alloc (.map #[] 0) = W3 at *
          have upI := (MI (fun _ => undef)).lt
          have sz3 := hx.le
          replace MN := fun val => (MN val).ext hx
          replace ME := fun val => (ME val).ext hx
          clear hx
          refine hK.out _ _ (HK.out _ hc3) (fun hHeld => ?_)
          clear hK K
          try simp only [Act.put, putA, putB, putC]
          refine wpAnyH_ready (rs := [6]) (by kernel_rfl) (by simp) ?_
          refine AllReadyH.cons (o := ⟨some 37, .makeMap 66 none, 66, _, #[], none⟩) rfl (fun K hK => ?_) (AllReadyH.nil)
          · go_simp
            have MO := fun val => MapF.new W3 val
            have hx : Ext W3 (W3.alloc (.map #[] 0)) := (Ext.refl _).alloc _
            have hc4 := (hc3).trans hx
            obtain ⟨mO, hmO⟩ : ∃ m, m = W3.heap.size := ⟨_, rfl⟩
            have loO : W3.heap.size ≤ mO := by omega
            rw [← hmO] at MO ⊢
            clear hmO
            generalize W3.alloc (.map #[] 0) = W4 at *
            have upO := (MO (fun _ => undef)).lt
            have sz4 := hx.le
            replace MN := fun val => (MN val).ext hx
            replace ME := fun val => (ME val).ext hx
            replace MI := fun val => (MI val).ext hx
            clear hx
            refine hK.out _ _ (HK.out _ hc4) (fun hHeld => ?_)
            clear hK K
            try simp only [Act.put, putA, putB, putC]
            refine tkL 8 ⟨some 39, .build 68 #[(0, .tmp 33), (1, .tmp 36), (2, .tmp 37), (3, .tmp 38)], 68, _, #[⟨2, .data⟩, ⟨5, .data⟩, ⟨6, .data⟩, ⟨7, .data⟩], none⟩ ?_ hHeld ?yyQ25768 ?rrQ25768
            case yyQ25768 => (intro w hSw; (try dsimp only at hSw); go_simp; try with_reducible rfl)
            try simp only [Act.put, putA, putB, putC]
            refine wpAnyH_ready (rs := [9]) (by kernel_rfl) (by simp) ?_
            refine AllReadyH.cons (o := ⟨some 40, .box 68 (.tmp 39), 39, _, #[⟨8, .data⟩], none⟩) rfl (fun K hK => ?_) (AllReadyH.nil)
            go_simp
            refine hK.out _ _ (HK.out _ ((hc4).alloc _)) (fun hHeld => ?_)
            clear hK K
            try simp only [Act.put, putA, putB, putC]
            refine tkL 10 ⟨some 4, .assign (.tmp 40), 39, _, #[⟨9, .data⟩, ⟨5, .chain⟩, ⟨0, .phase⟩, ⟨1, .phase⟩, ⟨2, .phase⟩, ⟨3, .phase⟩, ⟨4, .phase⟩, ⟨5, .phase⟩, ⟨6, .phase⟩, ⟨7, .phase⟩, ⟨8, .phase⟩, ⟨9, .phase⟩], none⟩ ?_ hHeld ?yyQ257610 ?rrQ257610
            case yyQ257610 => (intro w hSw; (try dsimp only at hSw); go_simp; try with_reducible rfl)
            try simp only [Act.put, putA, putB, putC]
            refine wpAnyH_done (by kernel_rfl) ?_ _
            go_wp2
            go_meet
            case rel => exact ⟨_, rfl, net0_in MN ME MO MI (by omega) (by omega) (by omega) (by omega) (by omega) (by omega) (by omega) (by omega) (by omega) (by omega) (by omega), ⟨_, _, _, _, _, rfl⟩, (hc4).alloc _⟩
      · go_simp
        have MO := fun val => MapF.new W1 val
        have hx : Ext W1 (W1.alloc (.map #[] 0)) := (Ext.refl _).alloc _
        have hc2 := (hc1).trans hx
        obtain ⟨mO, hmO⟩ : ∃ m, m = W1.heap.size := ⟨_, rfl⟩
        have loO : W1.heap.size ≤ mO := by omega
        rw [← hmO] at MO ⊢
        clear hmO
        generalize W1.alloc (.map #[] 0) = W2 at *
        have upO := (MO (fun _ => undef)).lt
        have sz2 := hx.le
        replace MN := fun val => (MN val).ext hx
        clear hx
        refine hK.out _ _ (HK.out _ hc2) (fun hHeld => ?_)
        clear hK K
        try simp only [Act.put, putA, putB, putC]
        refine wpAnyH_ready (rs := [5, 7]) (by kernel_rfl) (by simp) ?_
        refine AllReadyH.cons (o := ⟨some 36, .call { callee := .value (.func 25), args := #[.tmp 35], argTypes := #[3] }, 64, _, #[⟨4, .data⟩, ⟨2, .chain⟩], none⟩) rfl (fun K hK => ?_) (AllReadyH.cons (o := ⟨some 38, .makeMap 66 none, 66, _, #[], none⟩) rfl (fun K hK => ?_) (AllReadyH.nil))
        · go_simp
          refine (newTableE_any _ _).mono ?_
          rintro e W3 ⟨mE, rfl, loE, ME, hx⟩
          go_wp2_with fail
          have hc3 := (hc2).trans hx
          have upE := (ME (fun _ => undef)).lt
          have sz3 := hx.le
          replace MN := fun val => (MN val).ext hx
          replace MO := fun val => (MO val).ext hx
          clear hx
          refine hK.out _ _ (HK.out _ hc3) (fun hHeld => ?_)
          clear hK K
          try simp only [Act.put, putA, putB, putC]
          refine wpAnyH_ready (rs := [7]) (by kernel_rfl) (by simp) ?_
          refine AllReadyH.cons (o := ⟨some 38, .makeMap 66 none, 66, _, #[], none⟩) rfl (fun K hK => ?_) (AllReadyH.nil)
          · go_simp
            have MI := fun val => MapF.new W3 val
            have hx : Ext W3 (W3.alloc (.map #[] 0)) := (Ext.refl _).alloc _
            have hc4 := (hc3).trans hx
            obtain ⟨mI, hmI⟩ : ∃ m, m = W3.heap.size := ⟨_, rfl⟩
            have loI : W3.heap.size ≤ mI := by omega
            rw [← hmI] at MI ⊢
            clear hmI
            generalize W3.alloc (.map #[] 0) = W4 at *
            have upI := (MI (fun _ => undef)).lt
            have sz4 := hx.le
            replace MN := fun val => (MN val).ext hx
            replace MO := fun val => (MO val).ext hx
            replace ME := fun val => (ME val).ext hx
            clear hx
            refine hK.out _ _ (HK.out _ hc4) (fun hHeld => ?_)
            clear hK K
            try simp only [Act.put, putA, putB, putC]
            refine tkL 8 ⟨some 39, .build 68 #[(0, .tmp 33), (1, .tmp 36), (2, .tmp 37), (3, .tmp 38)], 68, _, #[⟨2, .data⟩, ⟨5, .data⟩, ⟨6, .data⟩, ⟨7, .data⟩], none⟩ ?_ hHeld ?yyQ26578 ?rrQ26578
            case yyQ26578 => (intro w hSw; (try dsimp only at hSw); go_simp; try with_reducible rfl)
            try simp only [Act.put, putA, putB, putC]
            refine wpAnyH_ready (rs := [9]) (by kernel_rfl) (by simp) ?_
            refine AllReadyH.cons (o := ⟨some 40, .box 68 (.tmp 39), 39, _, #[⟨8, .data⟩], none⟩) rfl (fun K hK => ?_) (AllReadyH.nil)
            go_simp
            refine hK.out _ _ (HK.out _ ((hc4).alloc _)) (fun hHeld => ?_)
            clear hK K
            try simp only [Act.put, putA, putB, putC]
            refine tkL 10 ⟨some 4, .assign (.tmp 40), 39, _, #[⟨9, .data⟩, ⟨5, .chain⟩, ⟨0, .phase⟩, ⟨1, .phase⟩, ⟨2, .phase⟩, ⟨3, .phase⟩, ⟨4, .phase⟩, ⟨5, .phase⟩, ⟨6, .phase⟩, ⟨7, .phase⟩, ⟨8, .phase⟩, ⟨9, .phase⟩], none⟩ ?_ hHeld ?yyQ265710 ?rrQ265710
            case yyQ265710 => (intro w hSw; (try dsimp only at hSw); go_simp; try with_reducible rfl)
            try simp only [Act.put, putA, putB, putC]
            refine wpAnyH_done (by kernel_rfl) ?_ _
            go_wp2
            go_meet
            case rel => exact ⟨_, rfl, net0_in MN ME MO MI (by omega) (by omega) (by omega) (by omega) (by omega) (by omega) (by omega) (by omega) (by omega) (by omega) (by omega), ⟨_, _, _, _, _, rfl⟩, (hc4).alloc _⟩
        · go_simp
          have MI := fun val => MapF.new W2 val
          have hx : Ext W2 (W2.alloc (.map #[] 0)) := (Ext.refl _).alloc _
          have hc3 := (hc2).trans hx
          obtain ⟨mI, hmI⟩ : ∃ m, m = W2.heap.size := ⟨_, rfl⟩
          have loI : W2.heap.size ≤ mI := by omega
          rw [← hmI] at MI ⊢
          clear hmI
          generalize W2.alloc (.map #[] 0) = W3 at *
          have upI := (MI (fun _ => undef)).lt
          have sz3 := hx.le
          replace MN := fun val => (MN val).ext hx
          replace MO := fun val => (MO val).ext hx
          clear hx
          refine hK.out _ _ (HK.out _ hc3) (fun hHeld => ?_)
          clear hK K
          try simp only [Act.put, putA, putB, putC]
          refine wpAnyH_ready (rs := [5]) (by kernel_rfl) (by simp) ?_
          refine AllReadyH.cons (o := ⟨some 36, .call { callee := .value (.func 25), args := #[.tmp 35], argTypes := #[3] }, 64, _, #[⟨4, .data⟩, ⟨2, .chain⟩], none⟩) rfl (fun K hK => ?_) (AllReadyH.nil)
          · go_simp
            refine (newTableE_any _ _).mono ?_
            rintro e W4 ⟨mE, rfl, loE, ME, hx⟩
            go_wp2_with fail
            have hc4 := (hc3).trans hx
            have upE := (ME (fun _ => undef)).lt
            have sz4 := hx.le
            replace MN := fun val => (MN val).ext hx
            replace MO := fun val => (MO val).ext hx
            replace MI := fun val => (MI val).ext hx
            clear hx
            refine hK.out _ _ (HK.out _ hc4) (fun hHeld => ?_)
            clear hK K
            try simp only [Act.put, putA, putB, putC]
            refine tkL 8 ⟨some 39, .build 68 #[(0, .tmp 33), (1, .tmp 36), (2, .tmp 37), (3, .tmp 38)], 68, _, #[⟨2, .data⟩, ⟨5, .data⟩, ⟨6, .data⟩, ⟨7, .data⟩], none⟩ ?_ hHeld ?yyQ26758 ?rrQ26758
            case yyQ26758 => (intro w hSw; (try dsimp only at hSw); go_simp; try with_reducible rfl)
            try simp only [Act.put, putA, putB, putC]
            refine wpAnyH_ready (rs := [9]) (by kernel_rfl) (by simp) ?_
            refine AllReadyH.cons (o := ⟨some 40, .box 68 (.tmp 39), 39, _, #[⟨8, .data⟩], none⟩) rfl (fun K hK => ?_) (AllReadyH.nil)
            go_simp
            refine hK.out _ _ (HK.out _ ((hc4).alloc _)) (fun hHeld => ?_)
            clear hK K
            try simp only [Act.put, putA, putB, putC]
            refine tkL 10 ⟨some 4, .assign (.tmp 40), 39, _, #[⟨9, .data⟩, ⟨5, .chain⟩, ⟨0, .phase⟩, ⟨1, .phase⟩, ⟨2, .phase⟩, ⟨3, .phase⟩, ⟨4, .phase⟩, ⟨5, .phase⟩, ⟨6, .phase⟩, ⟨7, .phase⟩, ⟨8, .phase⟩, ⟨9, .phase⟩], none⟩ ?_ hHeld ?yyQ267510 ?rrQ267510
            case yyQ267510 => (intro w hSw; (try dsimp only at hSw); go_simp; try with_reducible rfl)
            try simp only [Act.put, putA, putB, putC]
            refine wpAnyH_done (by kernel_rfl) ?_ _
            go_wp2
            go_meet
            case rel => exact ⟨_, rfl, net0_in MN ME MO MI (by omega) (by omega) (by omega) (by omega) (by omega) (by omega) (by omega) (by omega) (by omega) (by omega) (by omega), ⟨_, _, _, _, _, rfl⟩, (hc4).alloc _⟩
      · go_simp
        have MI := fun val => MapF.new W1 val
        have hx : Ext W1 (W1.alloc (.map #[] 0)) := (Ext.refl _).alloc _
        have hc2 := (hc1).trans hx
        obtain ⟨mI, hmI⟩ : ∃ m, m = W1.heap.size := ⟨_, rfl⟩
        have loI : W1.heap.size ≤ mI := by omega
        rw [← hmI] at MI ⊢
        clear hmI
        generalize W1.alloc (.map #[] 0) = W2 at *
        have upI := (MI (fun _ => undef)).lt
        have sz2 := hx.le
        replace MN := fun val => (MN val).ext hx
        clear hx
        refine hK.out _ _ (HK.out _ hc2) (fun hHeld => ?_)
        clear hK K
        try simp only [Act.put, putA, putB, putC]
        refine wpAnyH_ready (rs := [5, 6]) (by kernel_rfl) (by simp) ?_
        refine AllReadyH.cons (o := ⟨some 36, .call { callee := .value (.func 25), args := #[.tmp 35], argTypes := #[3] }, 64, _, #[⟨4, .data⟩, ⟨2, .chain⟩], none⟩) rfl (fun K hK => ?_) (AllReadyH.cons (o := ⟨some 37, .makeMap 66 none, 66, _, #[], none⟩) rfl (fun K hK => ?_) (AllReadyH.nil))
        · go_simp
          refine (newTableE_any _ _).mono ?_
          rintro e W3 ⟨mE, rfl, loE, ME, hx⟩
          go_wp2_with fail
          have hc3 := (hc2).trans hx
          have upE := (ME (fun _ => undef)).lt
          have sz3 := hx.le
          replace MN := fun val => (MN val).ext hx
          replace MI := fun val => (MI val).ext hx
          clear hx
          refine hK.out _ _ (HK.out _ hc3) (fun hHeld => ?_)
          clear hK K
          try simp only [Act.put, putA, putB, putC]
          refine wpAnyH_ready (rs := [6]) (by kernel_rfl) (by simp) ?_
          refine AllReadyH.cons (o := ⟨some 37, .makeMap 66 none, 66, _, #[], none⟩) rfl (fun K hK => ?_) (AllReadyH.nil)
          · go_simp
            have MO := fun val => MapF.new W3 val
            have hx : Ext W3 (W3.alloc (.map #[] 0)) := (Ext.refl _).alloc _
            have hc4 := (hc3).trans hx
            obtain ⟨mO, hmO⟩ : ∃ m, m = W3.heap.size := ⟨_, rfl⟩
            have loO : W3.heap.size ≤ mO := by omega
            rw [← hmO] at MO ⊢
            clear hmO
            generalize W3.alloc (.map #[] 0) = W4 at *
            have upO := (MO (fun _ => undef)).lt
            have sz4 := hx.le
            replace MN := fun val => (MN val).ext hx
            replace MI := fun val => (MI val).ext hx
            replace ME := fun val => (ME val).ext hx
            clear hx
            refine hK.out _ _ (HK.out _ hc4) (fun hHeld => ?_)
            clear hK K
            try simp only [Act.put, putA, putB, putC]
            refine tkL 8 ⟨some 39, .build 68 #[(0, .tmp 33), (1, .tmp 36), (2, .tmp 37), (3, .tmp 38)], 68, _, #[⟨2, .data⟩, ⟨5, .data⟩, ⟨6, .data⟩, ⟨7, .data⟩], none⟩ ?_ hHeld ?yyQ27568 ?rrQ27568
            case yyQ27568 => (intro w hSw; (try dsimp only at hSw); go_simp; try with_reducible rfl)
            try simp only [Act.put, putA, putB, putC]
            refine wpAnyH_ready (rs := [9]) (by kernel_rfl) (by simp) ?_
            refine AllReadyH.cons (o := ⟨some 40, .box 68 (.tmp 39), 39, _, #[⟨8, .data⟩], none⟩) rfl (fun K hK => ?_) (AllReadyH.nil)
            go_simp
            refine hK.out _ _ (HK.out _ ((hc4).alloc _)) (fun hHeld => ?_)
            clear hK K
            try simp only [Act.put, putA, putB, putC]
            refine tkL 10 ⟨some 4, .assign (.tmp 40), 39, _, #[⟨9, .data⟩, ⟨5, .chain⟩, ⟨0, .phase⟩, ⟨1, .phase⟩, ⟨2, .phase⟩, ⟨3, .phase⟩, ⟨4, .phase⟩, ⟨5, .phase⟩, ⟨6, .phase⟩, ⟨7, .phase⟩, ⟨8, .phase⟩, ⟨9, .phase⟩], none⟩ ?_ hHeld ?yyQ275610 ?rrQ275610
            case yyQ275610 => (intro w hSw; (try dsimp only at hSw); go_simp; try with_reducible rfl)
            try simp only [Act.put, putA, putB, putC]
            refine wpAnyH_done (by kernel_rfl) ?_ _
            go_wp2
            go_meet
            case rel => exact ⟨_, rfl, net0_in MN ME MO MI (by omega) (by omega) (by omega) (by omega) (by omega) (by omega) (by omega) (by omega) (by omega) (by omega) (by omega), ⟨_, _, _, _, _, rfl⟩, (hc4).alloc _⟩
        · go_simp
          have MO := fun val => MapF.new W2 val
          have hx : Ext W2 (W2.alloc (.map #[] 0)) := (Ext.refl _).alloc _
          have hc3 := (hc2).trans hx
          obtain ⟨mO, hmO⟩ : ∃ m, m = W2.heap.size := ⟨_, rfl⟩
          have loO : W2.heap.size ≤ mO := by omega
          rw [← hmO] at MO ⊢
          clear hmO
          generalize W2.alloc (.map #[] 0) = W3 at *
          have upO := (MO (fun _ => undef)).lt
          have sz3 := hx.le
          replace MN := fun val => (MN val).ext hx
          replace MI := fun val => (MI val).ext hx
          clear hx
          refine hK.out _ _ (HK.out _ hc3) (fun hHeld => ?_)
          clear hK K
          try simp only [Act.put, putA, putB, putC]
          refine wpAnyH_ready (rs := [5]) (by kernel_rfl) (by simp) ?_
          refine AllReadyH.cons (o := ⟨some 36, .call { callee := .value (.func 25), args := #[.tmp 35], argTypes := #[3] }, 64, _, #[⟨4, .data⟩, ⟨2, .chain⟩], none⟩) rfl (fun K hK => ?_) (AllReadyH.nil)
          · go_simp
            refine (newTableE_any _ _).mono ?_
            rintro e W4 ⟨mE, rfl, loE, ME, hx⟩
            go_wp2_with fail
            have hc4 := (hc3).trans hx
            have upE := (ME (fun _ => undef)).lt
            have sz4 := hx.le
            replace MN := fun val => (MN val).ext hx
            replace MI := fun val => (MI val).ext hx
            replace MO := fun val => (MO val).ext hx
            clear hx
            refine hK.out _ _ (HK.out _ hc4) (fun hHeld => ?_)
            clear hK K
            try simp only [Act.put, putA, putB, putC]
            refine tkL 8 ⟨some 39, .build 68 #[(0, .tmp 33), (1, .tmp 36), (2, .tmp 37), (3, .tmp 38)], 68, _, #[⟨2, .data⟩, ⟨5, .data⟩, ⟨6, .data⟩, ⟨7, .data⟩], none⟩ ?_ hHeld ?yyQ27658 ?rrQ27658
            case yyQ27658 => (intro w hSw; (try dsimp only at hSw); go_simp; try with_reducible rfl)
            try simp only [Act.put, putA, putB, putC]
            refine wpAnyH_ready (rs := [9]) (by kernel_rfl) (by simp) ?_
            refine AllReadyH.cons (o := ⟨some 40, .box 68 (.tmp 39), 39, _, #[⟨8, .data⟩], none⟩) rfl (fun K hK => ?_) (AllReadyH.nil)
            go_simp
            refine hK.out _ _ (HK.out _ ((hc4).alloc _)) (fun hHeld => ?_)
            clear hK K
            try simp only [Act.put, putA, putB, putC]
            refine tkL 10 ⟨some 4, .assign (.tmp 40), 39, _, #[⟨9, .data⟩, ⟨5, .chain⟩, ⟨0, .phase⟩, ⟨1, .phase⟩, ⟨2, .phase⟩, ⟨3, .phase⟩, ⟨4, .phase⟩, ⟨5, .phase⟩, ⟨6, .phase⟩, ⟨7, .phase⟩, ⟨8, .phase⟩, ⟨9, .phase⟩], none⟩ ?_ hHeld ?yyQ276510 ?rrQ276510
            case yyQ276510 => (intro w hSw; (try dsimp only at hSw); go_simp; try with_reducible rfl)
            try simp only [Act.put, putA, putB, putC]
            refine wpAnyH_done (by kernel_rfl) ?_ _
            go_wp2
            go_meet
            case rel => exact ⟨_, rfl, net0_in MN ME MO MI (by omega) (by omega) (by omega) (by omega) (by omega) (by omega) (by omega) (by omega) (by omega) (by omega) (by omega), ⟨_, _, _, _, _, rfl⟩, (hc4).alloc _⟩
    · go_simp
      have MO := fun val => MapF.new W0' val
      have hx : Ext W0' (W0'.alloc (.map #[] 0)) := (Ext.refl _).alloc _
      have hc1 := (hc0).trans hx
      obtain ⟨mO, hmO⟩ : ∃ m, m = W0'.heap.size := ⟨_, rfl⟩
      have loO : W0'.heap.size ≤ mO := by omega
      rw [← hmO] at MO ⊢
      clear hmO
      generalize W0'.alloc (.map #[] 0) = W1 at *
      have upO := (MO (fun _ => undef)).lt
      have sz1 := hx.le
      clear hx
      refine hK.out _ _ (HK.out _ hc1) (fun hHeld => ?_)
      clear hK K
      try simp only [Act.put, putA, putB, putC]
      refine wpAnyH_ready (rs := [2, 7]) (by kernel_rfl) (by simp) ?_
      refine AllReadyH.cons (o := ⟨some 33, .call { callee := .value (.func 24), args := #[.tmp 32], argTypes := #[3] }, 60, _, #[⟨1, .data⟩], none⟩) rfl (fun K hK => ?_) (AllReadyH.cons (o := ⟨some 38, .makeMap 66 none, 66, _, #[], none⟩) rfl (fun K hK => ?_) (AllReadyH.nil))
      · go_simp
        refine (newTableN_any _ _).mono ?_
        rintro e W2 ⟨mN, rfl, loN, MN, hx⟩
        go_wp2_with fail
        have hc2 := (hc1).trans hx
        have upN := (MN (fun _ => undef)).lt
        have sz2 := hx.le
        replace MO := fun val => (MO val).ext hx
        clear hx
        refine hK.out _ _ (HK.out _ hc2) (fun hHeld => ?_)
        clear hK K
        try simp only [Act.put, putA, putB, putC]
        refine wpAnyH_ready (rs := [5, 7]) (by kernel_rfl) (by simp) ?_
        refine AllReadyH.cons (o := ⟨some 36, .call { callee := .value (.func 25), args := #[.tmp 35], argTypes := #[3] }, 64, _, #[⟨4, .data⟩, ⟨2, .chain⟩], none⟩) rfl (fun K hK => ?_) (AllReadyH.cons (o := ⟨some 38, .makeMap 66 none, 66, _, #[], none⟩) rfl (fun K hK => ?_) (AllReadyH.nil))
        · go_simp
          refine (newTableE_any _ _).mono ?_
          rintro e W3 ⟨mE, rfl, loE, ME, hx⟩
          go_wp2_with fail
          have hc3 := (hc2).trans hx
          have upE := (ME (fun _ => undef)).lt
          have sz3 := hx.le
          replace MO := fun val => (MO val).ext hx
          replace MN := fun val => (MN val).ext hx
          clear hx
          refine hK.out _ _ (HK.out _ hc3) (fun hHeld => ?_)
          clear hK K
          try simp only [Act.put, putA, putB, putC]
          refine wpAnyH_ready (rs := [7]) (by kernel_rfl) (by simp) ?_
          refine AllReadyH.cons (o := ⟨some 38, .makeMap 66 none, 66, _, #[], none⟩) rfl (fun K hK => ?_) (AllReadyH.nil)
          · go_simp
            have MI := fun val => MapF.new W3 val
            have hx : Ext W3 (W3.alloc (.map #[] 0)) := (Ext.refl _).alloc _
            have hc4 := (hc3).trans hx
            obtain ⟨mI, hmI⟩ : ∃ m, m = W3.heap.size := ⟨_, rfl⟩
            have loI : W3.heap.size ≤ mI := by omega
            rw [← hmI] at MI ⊢
            clear hmI
            generalize W3.alloc (.map #[] 0) = W4 at *
            have upI := (MI (fun _ => undef)).lt
            have sz4 := hx.le
            replace MO := fun val => (MO val).ext hx
            replace MN := fun val => (MN val).ext hx
            replace ME := fun val => (ME val).ext hx
            clear hx
            refine hK.out _ _ (HK.out _ hc4) (fun hHeld => ?_)
            clear hK K
            try simp only [Act.put, putA, putB, putC]
            refine tkL 8 ⟨some 39, .build 68 #[(0, .tmp 33), (1, .tmp 36), (2, .tmp 37), (3, .tmp 38)], 68, _, #[⟨2, .data⟩, ⟨5, .data⟩, ⟨6, .data⟩, ⟨7, .data⟩], none⟩ ?_ hHeld ?yyQ62578 ?rrQ62578
            case yyQ62578 => (intro w hSw; (try dsimp only at hSw); go_simp; try with_reducible rfl)
            try simp only [Act.put, putA, putB, putC]
            refine wpAnyH_ready (rs := [9]) (by kernel_rfl) (by simp) ?_
            refine AllReadyH.cons (o := ⟨some 40, .box 68 (.tmp 39), 39, _, #[⟨8, .data⟩], none⟩) rfl (fun K hK => ?_) (AllReadyH.nil)
            go_simp
            refine hK.out _ _ (HK.out _ ((hc4).alloc _)) (fun hHeld => ?_)
            clear hK K
            try simp only [Act.put, putA, putB, putC]
            refine tkL 10 ⟨some 4, .assign (.tmp 40), 39, _, #[⟨9, .data⟩, ⟨5, .chain⟩, ⟨0, .phase⟩, ⟨1, .phase⟩, ⟨2, .phase⟩, ⟨3, .phase⟩, ⟨4, .phase⟩, ⟨5, .phase⟩, ⟨6, .phase⟩, ⟨7, .phase⟩, ⟨8, .phase⟩, ⟨9, .phase⟩], none⟩ ?_ hHeld ?yyQ625710 ?rrQ625710
            case yyQ625710 => (intro w hSw; (try dsimp only at hSw); go_simp; try with_reducible rfl)
            try simp only [Act.put, putA, putB, putC]
            refine wpAnyH_done (by kernel_rfl) ?_ _
            go_wp2
            go_meet
            case rel => exact ⟨_, rfl, net0_in MN ME MO MI (by omega) (by omega) (by omega) (by omega) (by omega) (by omega) (by omega) (by omega) (by omega) (by omega) (by omega), ⟨_, _, _, _, _, rfl⟩, (hc4).alloc _⟩
        · go_simp
          have MI := fun val => MapF.new W2 val
          have hx : Ext W2 (W2.alloc (.map #[] 0)) := (Ext.refl _).alloc _
          have hc3 := (hc2).trans hx
          obtain ⟨mI, hmI⟩ : ∃ m, m = W2.heap.size := ⟨_, rfl⟩
          have loI : W2.heap.size ≤ mI := by omega
          rw [← hmI] at MI ⊢
          clear hmI
          generalize W2.alloc (.map #[] 0) = W3 at *
          have upI := (MI (fun _ => undef)).lt
          have sz3 := hx.le
          replace MO := fun val => (MO val).ext hx
          replace MN := fun val => (MN val).ext hx
          clear hx
          refine hK.out _ _ (HK.out _ hc3) (fun hHeld => ?_)
          clear hK K
          try simp only [Act.put, putA, putB, putC]
          refine wpAnyH_ready (rs := [5]) (by kernel_rfl) (by simp) ?_
          refine AllReadyH.cons (o := ⟨some 36, .call { callee := .value (.func 25), args := #[.tmp 35], argTypes := #[3] }, 64, _, #[⟨4, .data⟩, ⟨2, .chain⟩], none⟩) rfl (fun K hK => ?_) (AllReadyH.nil)
          · go_simp
            refine (newTableE_any _ _).mono ?_
            rintro e W4 ⟨mE, rfl, loE, ME, hx⟩
            go_wp2_with fail
            have hc4 := (hc3).trans hx
            have upE := (ME (fun _ => undef)).lt
            have sz4 := hx.le
            replace MO := fun val => (MO val).ext hx
            replace MN := fun val => (MN val).ext hx
            replace MI := fun val => (MI val).ext hx
            clear hx
            refine hK.out _ _ (HK.out _ hc4) (fun hHeld => ?_)
            clear hK K
            try simp only [Act.put, putA, putB, putC]
            refine tkL 8 ⟨some 39, .build 68 #[(0, .tmp 33), (1, .tmp 36), (2, .tmp 37), (3, .tmp 38)], 68, _, #[⟨2, .data⟩, ⟨5, .data⟩, ⟨6, .data⟩, ⟨7, .data⟩], none⟩ ?_ hHeld ?yyQ62758 ?rrQ62758
            case yyQ62758 => (intro w hSw; (try dsimp only at hSw); go_simp; try with_reducible rfl)
            try simp only [Act.put, putA, putB, putC]
            refine wpAnyH_ready (rs := [9]) (by kernel_rfl) (by simp) ?_
            refine AllReadyH.cons (o := ⟨some 40, .box 68 (.tmp 39), 39, _, #[⟨8, .data⟩], none⟩) rfl (fun K hK => ?_) (AllReadyH.nil)
            go_simp
            refine hK.out _ _ (HK.out _ ((hc4).alloc _)) (fun hHeld => ?_)
            clear hK K
            try simp only [Act.put, putA, putB, putC]
            refine tkL 10 ⟨some 4, .assign (.tmp 40), 39, _, #[⟨9, .data⟩, ⟨5, .chain⟩, ⟨0, .phase⟩, ⟨1, .phase⟩, ⟨2, .phase⟩, ⟨3, .phase⟩, ⟨4, .phase⟩, ⟨5, .phase⟩, ⟨6, .phase⟩, ⟨7, .phase⟩, ⟨8, .phase⟩, ⟨9, .phase⟩], none⟩ ?_ hHeld ?yyQ627510 ?rrQ627510
            case yyQ627510 => (intro w hSw; (try dsimp only at hSw); go_simp; try with_reducible rfl)
            try simp only [Act.put, putA, putB, putC]
            refine wpAnyH_done (by kernel_rfl) ?_ _
            go_wp2
            go_meet
            case rel => exact ⟨_, rfl, net0_in MN ME MO MI (by omega) (by omega) (by omega) (by omega) (by omega) (by omega) (by omega) (by omega) (by omega) (by omega) (by omega), ⟨_, _, _, _, _, rfl⟩, (hc4).alloc _⟩
      · go_simp
        have MI := fun val => MapF.new W1 val
        have hx : Ext W1 (W1.alloc (.map #[] 0)) := (Ext.refl _).alloc _
        have hc2 := (hc1).trans hx
        obtain ⟨mI, hmI⟩ : ∃ m, m = W1.heap.size := ⟨_, rfl⟩
        have loI : W1.heap.size ≤ mI := by omega
        rw [← hmI] at MI ⊢
        clear hmI
        generalize W1.alloc (.map #[] 0) = W2 at *
        have upI := (MI (fun _ => undef)).lt
        have sz2 := hx.le
        replace MO := fun val => (MO val).ext hx
        clear hx
        refine hK.out _ _ (HK.out _ hc2) (fun hHeld => ?_)
        clear hK K
        try simp only [Act.put, putA, putB, putC]
        refine wpAnyH_ready (rs := [2]) (by kernel_rfl) (by simp) ?_
        refine AllReadyH.cons (o := ⟨some 33, .call { callee := .value (.func 24), args := #[.tmp 32], argTypes := #[3] }, 60, _, #[⟨1, .data⟩], none⟩) rfl (fun K hK => ?_) (AllReadyH.nil)
        · go_simp
          refine (newTableN_any _ _).mono ?_
          rintro e W3 ⟨mN, rfl, loN, MN, hx⟩
          go_wp2_with fail
          have hc3 := (hc2).trans hx
          have upN := (MN (fun _ => undef)).lt
          have sz3 := hx.le
          replace MO := fun val => (MO val).ext hx
          replace MI := fun val => (MI val).ext hx
          clear hx
          refine hK.out _ _ (HK.out _ hc3) (fun hHeld => ?_)
          clear hK K
          try simp only [Act.put, putA, putB, putC]
          refine wpAnyH_ready (rs := [5]) (by kernel_rfl) (by simp) ?_
          refine AllReadyH.cons (o := ⟨some 36, .call { callee := .value (.func 25), args := #[.tmp 35], argTypes := #[3] }, 64, _, #[⟨4, .data⟩, ⟨2, .chain⟩], none⟩) rfl (fun K hK => ?_) (AllReadyH.nil)
          · go_simp
            refine (newTableE_any _ _).mono ?_
            rintro e W4 ⟨mE, rfl, loE, ME, hx⟩
            go_wp2_with fail
            have hc4 := (hc3).trans hx
            have upE := (ME (fun _ => undef)).lt
            have sz4 := hx.le
            replace MO := fun val => (MO val).ext hx
            replace MI := fun val => (MI val).ext hx
            replace MN := fun val => (MN val).ext hx
            clear hx
            refine hK.out _ _ (HK.out _ hc4) (fun hHeld => ?_)
            clear hK K
            try simp only [Act.put, putA, putB, putC]
            refine tkL 8 ⟨some 39, .build 68 #[(0, .tmp 33), (1, .tmp 36), (2, .tmp 37), (3, .tmp 38)], 68, _, #[⟨2, .data⟩, ⟨5, .data⟩, ⟨6, .data⟩, ⟨7, .data⟩], none⟩ ?_ hHeld ?yyQ67258 ?rrQ67258
            case yyQ67258 => (intro w hSw; (try dsimp only at hSw); go_simp; try with_reducible rfl)
            try simp only [Act.put, putA, putB, putC]
            refine wpAnyH_ready (rs := [9]) (by kernel_rfl) (by simp) ?_
            refine AllReadyH.cons (o := ⟨some 40, .box 68 (.tmp 39), 39, _, #[⟨8, .data⟩], none⟩) rfl (fun K hK => ?_) (AllReadyH.nil)
            go_simp
            refine hK.out _ _ (HK.out _ ((hc4).alloc _)) (fun hHeld => ?_)
            clear hK K
            try simp only [Act.put, putA, putB, putC]
            refine tkL 10 ⟨some 4, .assign (.tmp 40), 39, _, #[⟨9, .data⟩, ⟨5, .chain⟩, ⟨0, .phase⟩, ⟨1, .phase⟩, ⟨2, .phase⟩, ⟨3, .phase⟩, ⟨4, .phase⟩, ⟨5, .phase⟩, ⟨6, .phase⟩, ⟨7, .phase⟩, ⟨8, .phase⟩, ⟨9, .phase⟩], none⟩ ?_ hHeld ?yyQ672510 ?rrQ672510
            case yyQ672510 => (intro w hSw; (try dsimp only at hSw); go_simp; try with_reducible rfl)
            try simp only [Act.put, putA, putB, putC]
            refine wpAnyH_done (by kernel_rfl) ?_ _
            go_wp2
            go_meet
            case rel => exact ⟨_, rfl, net0_in MN ME MO MI (by omega) (by omega) (by omega) (by omega) (by omega) (by omega) (by omega) (by omega) (by omega) (by omega) (by omega), ⟨_, _, _, _, _, rfl⟩, (hc4).alloc _⟩
    · go_simp
      have MI := fun val => MapF.new W0' val
      have hx : Ext W0' (W0'.alloc (.map #[] 0)) := (Ext.refl _).alloc _
      have hc1 := (hc0).trans hx
      obtain ⟨mI, hmI⟩ : ∃ m, m = W0'.heap.size := ⟨_, rfl⟩
      have loI : W0'.heap.size ≤ mI := by omega
      rw [← hmI] at MI ⊢
      clear hmI
      generalize W0'.alloc (.map #[] 0) = W1 at *
      have upI := (MI (fun _ => undef)).lt
      have sz1 := hx.le
      clear hx
      refine hK.out _ _ (HK.out _ hc1) (fun hHeld => ?_)
      clear hK K
      try simp only [Act.put, putA, putB, putC]
      refine wpAnyH_ready (rs := [2, 6]) (by kernel_rfl) (by simp) ?_
      refine AllReadyH.cons (o := ⟨some 33, .call { callee := .value (.func 24), args := #[.tmp 32], argTypes := #[3] }, 60, _, #[⟨1, .data⟩], none⟩) rfl (fun K hK => ?_) (AllReadyH.cons (o := ⟨some 37, .makeMap 66 none, 66, _, #[], none⟩) rfl (fun K hK => ?_) (AllReadyH.nil))
      · go_simp
        refine (newTableN_any _ _).mono ?_
        rintro e W2 ⟨mN, rfl, loN, MN, hx⟩
        go_wp2_with fail
        have hc2 := (hc1).trans hx
        have upN := (MN (fun _ => undef)).lt
        have sz2 := hx.le
        replace MI := fun val => (MI val).ext hx
        clear hx
        refine hK.out _ _ (HK.out _ hc2) (fun hHeld => ?_)
        clear hK K
        try simp only [Act.put, putA, putB, putC]
        refine wpAnyH_ready (rs := [5, 6]) (by kernel_rfl) (by simp) ?_
        refine AllReadyH.cons (o := ⟨some 36, .call { callee := .value (.func 25), args := #[.tmp 35], argTypes := #[3] }, 64, _, #[⟨4, .data⟩, ⟨2, .chain⟩], none⟩) rfl (fun K hK => ?_) (AllReadyH.cons (o := ⟨some 37, .makeMap 66 none, 66, _, #[], none⟩) rfl (fun K hK => ?_) (AllReadyH.nil))
        · go_simp
          refine (newTableE_any _ _).mono ?_
          rintro e W3 ⟨mE, rfl, loE, ME, hx⟩
          go_wp2_with fail
          have hc3 := (hc2).trans hx
          have upE := (ME (fun _ => undef)).lt
          have sz3 := hx.le
          replace MI := fun val => (MI val).ext hx
          replace MN := fun val => (MN val).ext hx
          clear hx
          refine hK.out _ _ (HK.out _ hc3) (fun hHeld => ?_)
          clear hK K
          try simp only [Act.put, putA, putB, putC]
          refine wpAnyH_ready (rs := [6]) (by kernel_rfl) (by simp) ?_
          refine AllReadyH.cons (o := ⟨some 37, .makeMap 66 none, 66, _, #[], none⟩) rfl (fun K hK => ?_) (AllReadyH.nil)
          · go_simp
            have MO := fun val => MapF.new W3 val
            have hx : Ext W3 (W3.alloc (.map #[] 0)) := (Ext.refl _).alloc _
            have hc4 := (hc3).trans hx
            obtain ⟨mO, hmO⟩ : ∃ m, m = W3.heap.size := ⟨_, rfl⟩
            have loO : W3.heap.size ≤ mO := by omega
            rw [← hmO] at MO ⊢
            clear hmO
            generalize W3.alloc (.map #[] 0) = W4 at *
            have upO := (MO (fun _ => undef)).lt
            have sz4 := hx.le
            replace MI := fun val => (MI val).ext hx
            replace MN := fun val => (MN val).ext hx
            replace ME := fun val => (ME val).ext hx
            clear hx
            refine hK.out _ _ (HK.out _ hc4) (fun hHeld => ?_)
            clear hK K
            try simp only [Act.put, putA, putB, putC]
            refine tkL 8 ⟨some 39, .build 68 #[(0, .tmp 33), (1, .tmp 36), (2, .tmp 37), (3, .tmp 38)], 68, _, #[⟨2, .data⟩, ⟨5, .data⟩, ⟨6, .data⟩, ⟨7, .data⟩], none⟩ ?_ hHeld ?yyQ72568 ?rrQ72568
            case yyQ72568 => (intro w hSw; (try dsimp only at hSw); go_simp; try with_reducible rfl)
            try simp only [Act.put, putA, putB, putC]
            refine wpAnyH_ready (rs := [9]) (by kernel_rfl) (by simp) ?_
            refine AllReadyH.cons (o := ⟨some 40, .box 68 (.tmp 39), 39, _, #[⟨8, .data⟩], none⟩) rfl (fun K hK => ?_) (AllReadyH.nil)
            go_simp
            refine hK.out _ _ (HK.out _ ((hc4).alloc _)) (fun hHeld => ?_)
            clear hK K
            try simp only [Act.put, putA, putB, putC]
            refine tkL 10 ⟨some 4, .assign (.tmp 40), 39, _, #[⟨9, .data⟩, ⟨5, .chain⟩, ⟨0, .phase⟩, ⟨1, .phase⟩, ⟨2, .phase⟩, ⟨3, .phase⟩, ⟨4, .phase⟩, ⟨5, .phase⟩, ⟨6, .phase⟩, ⟨7, .phase⟩, ⟨8, .phase⟩, ⟨9, .phase⟩], none⟩ ?_ hHeld ?yyQ725610 ?rrQ725610
            case yyQ725610 => (intro w hSw; (try dsimp only at hSw); go_simp; try with_reducible rfl)
            try simp only [Act.put, putA, putB, putC]
            refine wpAnyH_done (by kernel_rfl) ?_ _
            go_wp2
            go_meet
            case rel => exact ⟨_, rfl, net0_in MN ME MO MI (by omega) (by omega) (by omega) (by omega) (by omega) (by omega) (by omega) (by omega) (by omega) (by omega) (by omega), ⟨_, _, _, _, _, rfl⟩, (hc4).alloc _⟩
        · go_simp
          have MO := fun val => MapF.new W2 val
          have hx : Ext W2 (W2.alloc (.map #[] 0)) := (Ext.refl _).alloc _
          have hc3 := (hc2).trans hx
          obtain ⟨mO, hmO⟩ : ∃ m, m = W2.heap.size := ⟨_, rfl⟩
          have loO : W2.heap.size ≤ mO := by omega
          rw [← hmO] at MO ⊢
          clear hmO
          generalize W2.alloc (.map #[] 0) = W3 at *
          have upO := (MO (fun _ => undef)).lt
          have sz3 := hx.le
          replace MI := fun val => (MI val).ext hx
          replace MN := fun val => (MN val).ext hx
          clear hx
          refine hK.out _ _ (HK.out _ hc3) (fun hHeld => ?_)
          clear hK K
          try simp only [Act.put, putA, putB, putC]
          refine wpAnyH_ready (rs := [5]) (by kernel_rfl) (by simp) ?_
          refine AllReadyH.cons (o := ⟨some 36, .call { callee := .value (.func 25), args := #[.tmp 35], argTypes := #[3] }, 64, _, #[⟨4, .data⟩, ⟨2, .chain⟩], none⟩) rfl (fun K hK => ?_) (AllReadyH.nil)
          · go_simp
            refine (newTableE_any _ _).mono ?_
            rintro e W4 ⟨mE, rfl, loE, ME, hx⟩
            go_wp2_with fail
            have hc4 := (hc3).trans hx
            have upE := (ME (fun _ => undef)).lt
            have sz4 := hx.le
            replace MI := fun val => (MI val).ext hx
            replace MN := fun val => (MN val).ext hx
            replace MO := fun val => (MO val).ext hx
            clear hx
            refine hK.out _ _ (HK.out _ hc4) (fun hHeld => ?_)
            clear hK K
            try simp only [Act.put, putA, putB, putC]
            refine tkL 8 ⟨some 39, .build 68 #[(0, .tmp 33), (1, .tmp 36), (2, .tmp 37), (3, .tmp 38)], 68, _, #[⟨2, .data⟩, ⟨5, .data⟩, ⟨6, .data⟩, ⟨7, .data⟩], none⟩ ?_ hHeld ?yyQ72658 ?rrQ72658
            case yyQ72658 => (intro w hSw; (try dsimp only at hSw); go_simp; try with_reducible rfl)
            try simp only [Act.put, putA, putB, putC]
            refine wpAnyH_ready (rs := [9]) (by kernel_rfl) (by simp) ?_
            refine AllReadyH.cons (o := ⟨some 40, .box 68 (.tmp 39), 39, _, #[⟨8, .data⟩], none⟩) rfl (fun K hK => ?_) (AllReadyH.nil)
            go_simp
            refine hK.out _ _ (HK.out _ ((hc4).alloc _)) (fun hHeld => ?_)
            clear hK K
            try simp only [Act.put, putA, putB, putC]
            refine tkL 10 ⟨some 4, .assign (.tmp 40), 39, _, #[⟨9, .data⟩, ⟨5, .chain⟩, ⟨0, .phase⟩, ⟨1, .phase⟩, ⟨2, .phase⟩, ⟨3, .phase⟩, ⟨4, .phase⟩, ⟨5, .phase⟩, ⟨6, .phase⟩, ⟨7, .phase⟩, ⟨8, .phase⟩, ⟨9, .phase⟩], none⟩ ?_ hHeld ?yyQ726510 ?rrQ726510
            case yyQ726510 => (intro w hSw; (try dsimp only at hSw); go_simp; try with_reducible rfl)
            try simp only [Act.put, putA, putB, putC]
            refine wpAnyH_done (by kernel_rfl) ?_ _
            go_wp2
            go_meet
            case rel => exact ⟨_, rfl, net0_in MN ME MO MI (by omega) (by omega) (by omega) (by omega) (by omega) (by omega) (by omega) (by omega) (by omega) (by omega) (by omega), ⟨_, _, _, _, _, rfl⟩, (hc4).alloc _⟩
      · go_simp
        have MO := fun val => MapF.new W1 val
        have hx : Ext W1 (W1.alloc (.map #[] 0)) := (Ext.refl _).alloc _
        have hc2 := (hc1).trans hx
        obtain ⟨mO, hmO⟩ : ∃ m, m = W1.heap.size := ⟨_, rfl⟩
        have loO : W1.heap.size ≤ mO := by omega
        rw [← hmO] at MO ⊢
        clear hmO
        generalize W1.alloc (.map #[] 0) = W2 at *
        have upO := (MO (fun _ => undef)).lt
        have sz2 := hx.le
        replace MI := fun val => (MI val).ext hx
        clear hx
        refine hK.out _ _ (HK.out _ hc2) (fun hHeld => ?_)
        clear hK K
        try simp only [Act.put, putA, putB, putC]
        refine wpAnyH_ready (rs := [2]) (by kernel_rfl) (by simp) ?_
        refine AllReadyH.cons (o := ⟨some 33, .call { callee := .value (.func 24), args := #[.tmp 32], argTypes := #[3] }, 60, _, #[⟨1, .data⟩], none⟩) rfl (fun K hK => ?_) (AllReadyH.nil)
        · go_simp
          refine (newTableN_any _ _).mono ?_
          rintro e W3 ⟨mN, rfl, loN, MN, hx⟩
          go_wp2_with fail
          have hc3 := (hc2).trans hx
          have upN := (MN (fun _ => undef)).lt
          have sz3 := hx.le
          replace MI := fun val => (MI val).ext hx
          replace MO := fun val => (MO val).ext hx
          clear hx
          refine hK.out _ _ (HK.out _ hc3) (fun hHeld => ?_)
          clear hK K
          try simp only [Act.put, putA, putB, putC]
          refine wpAnyH_ready (rs := [5]) (by kernel_rfl) (by simp) ?_
          refine AllReadyH.cons (o := ⟨some 36, .call { callee := .value (.func 25), args := #[.tmp 35], argTypes := #[3] }, 64, _, #[⟨4, .data⟩, ⟨2, .chain⟩], none⟩) rfl (fun K hK => ?_) (AllReadyH.nil)
          · go_simp
            refine (newTableE_any _ _).mono ?_
            rintro e W4 ⟨mE, rfl, loE, ME, hx⟩
            go_wp2_with fail
            have hc4 := (hc3).trans hx
            have upE := (ME (fun _ => undef)).lt
            have sz4 := hx.le
            replace MI := fun val => (MI val).ext hx
            replace MO := fun val => (MO val).ext hx
            replace MN := fun val => (MN val).ext hx
            clear hx
            refine hK.out _ _ (HK.out _ hc4) (fun hHeld => ?_)
            clear hK K
            try simp only [Act.put, putA, putB, putC]
            refine tkL 8 ⟨some 39, .build 68 #[(0, .tmp 33), (1, .tmp 36), (2, .tmp 37), (3, .tmp 38)], 68, _, #[⟨2, .data⟩, ⟨5, .data⟩, ⟨6, .data⟩, ⟨7, .data⟩], none⟩ ?_ hHeld ?yyQ76258 ?rrQ76258
            case yyQ76258 => (intro w hSw; (try dsimp only at hSw); go_simp; try with_reducible rfl)
            try simp only [Act.put, putA, putB, putC]
            refine wpAnyH_ready (rs := [9]) (by kernel_rfl) (by simp) ?_
            refine AllReadyH.cons (o := ⟨some 40, .box 68 (.tmp 39), 39, _, #[⟨8, .data⟩], none⟩) rfl (fun K hK => ?_) (AllReadyH.nil)
            go_simp
            refine hK.out _ _ (HK.out _ ((hc4).alloc _)) (fun hHeld => ?_)
            clear hK K
            try simp only [Act.put, putA, putB, putC]
            refine tkL 10 ⟨some 4, .assign (.tmp 40), 39, _, #[⟨9, .data⟩, ⟨5, .chain⟩, ⟨0, .phase⟩, ⟨1, .phase⟩, ⟨2, .phase⟩, ⟨3, .phase⟩, ⟨4, .phase⟩, ⟨5, .phase⟩, ⟨6, .phase⟩, ⟨7, .phase⟩, ⟨8, .phase⟩, ⟨9, .phase⟩], none⟩ ?_ hHeld ?yyQ762510 ?rrQ762510
            case yyQ762510 => (intro w hSw; (try dsimp only at hSw); go_simp; try with_reducible rfl)
            try simp only [Act.put, putA, putB, putC]
            refine wpAnyH_done (by kernel_rfl) ?_ _
            go_wp2
            go_meet
            case rel => exact ⟨_, rfl, net0_in MN ME MO MI (by omega) (by omega) (by omega) (by omega) (by omega) (by omega) (by omega) (by omega) (by omega) (by omega) (by omega), ⟨_, _, _, _, _, rfl⟩, (hc4).alloc _⟩
  case rest =>
    obtain ⟨Nz, rfl, hNz, ⟨mN, mE, mO, mI, nb, e0⟩, hEw⟩ := hcut
    obtain ⟨wa, rfl⟩ : ∃ wa, wa = wc := ⟨_, rfl⟩
    clear p0 p1 p2 p3
    obtain ⟨p0, p1, p2, p3⟩ := hb wa hEw
    simp only [inB, decide_eq_true_eq] at i2 i3
    have q1 : Nz.nn = x2 := by rw [e0]; rfl
    have q2 : Nz.ne = x3 := by rw [e0]; rfl
    have q3 : Nz.lists .n = idsOf f0 0 := by rw [e0]; rfl
    have q4 : Nz.lists .e = idsOf f1 0 := by rw [e0]; rfl
    have q5 : ∀ x, x ∈ Nz.keys .n ↔ x ∈ idsOf f0 0 := by rw [e0]; exact fun x => Iff.rfl
    have q6 : ∀ x, x ∈ Nz.keys .e ↔ x ∈ idsOf f1 0 := by rw [e0]; exact fun x => Iff.rfl
    have q7 : RowsOI Nz f1 0 := by rw [e0]; exact fun z => ⟨rfl, rfl⟩
    clear e0
    generalize hnbz : Nz.nb = nbz at *
    have hbad0 : Hid (∀ k, k < len0 → nodeB f0 x2 k = false → gb = false) := fun k hk h => by rw [HG.out, all_no hk h]; rfl
    have hbad1 : Hid (∀ k, k < len1 → edgeB f1 (.list (rowsOf 4).length len0 f0) x3 k = false → gb = false) := fun k hk h => by rw [HG.out, all_no hk h, Bool.and_false]; rfl
    have hgood : Hid ((∀ k, k < len0 → nodeB f0 x2 k = true) → (∀ k, k < len1 → edgeB f1 (.list (rowsOf 4).length len0 f0) x3 k = true) → gb = true) := fun h h' => by
      rw [HG.out, all_yes h, all_yes h', decide_eq_true l0, decide_eq_true l1]
      simp only [inB, i2, i3]; simp
    clear HG hlim
    go_wp2
    go_loopw [44] (fun i wr => ∃ (k : Nat) (N : NetD), k ≤ len0 ∧ i = .int .i64 k ∧ NetIn wr W0.heap.size k N ∧ N.nb = nbz ∧ (N.nn = x2 ∧ N.ne = x3 ∧ N.lists .n = idsOf f0 k ∧ N.lists .e = idsOf f1 0 ∧ (∀ x, x ∈ N.keys .n ↔ x ∈ idsOf f0 k) ∧ RowsD wr N W0.heap.size wr.heap.size .n 3 f0 k ∧ (∀ x, x ∈ N.keys .e ↔ x ∈ idsOf f1 0) ∧ RowsOI N f1 0) ∧ Ext W0 wr ∧ ∀ j, j < k → nodeB f0 x2 j = true) (fun i _ => len0 - (intOf i).toNat)
    case atStart => exact ⟨0, Nz, Nat.zero_le _, rfl, hNz, hnbz, ⟨q1, q2, q3, q4, q5, RowsD.nil _ _ _ _ _ _, q6, q7⟩, hEw, fun j h => by omega⟩
    case round =>
      obtain ⟨k, N, hk, rfl, hN, hnb, ⟨r1, r2, r3, r4, r5, r6, r9, r10⟩, hE, hno⟩ := hrel
      clear p0 p1 p2 p3
      obtain ⟨p0, p1, p2, p3⟩ := hb wr hE
      by_cases hlt : k < len0
      · obtain ⟨cap2, b, off, C, hsl, _, hbl, ec, hx⟩ := (h0.ext (hE0.trans hE)).at hlt
        cases hsl
        have HR := HR0 k hlt
        obtain ⟨id, hd⟩ := (show Has (f0 k 0) .int from HR 0 (by decide)).int
        have k0 := hx 0 (by decide)
        have e0 := ec 0 (by decide)
        have e1 := ec 1 (by decide)
        have e2 := ec 2 (by decide)
        rw [hd] at k0
        obtain ⟨y0, zid⟩ := k0.int_eq
        rw [y0] at e0
        simp only [Nat.add_zero] at e0
        have HL : Has (f0 k 1) (.list 0) := HR 1 (by decide)
        have HP : Has (f0 k 2) (.list 3) := HR 2 (by decide)
        have hL := hx 1 (by decide)
        have hP := hx 2 (by decide)
        obtain ⟨aL, capL, lL, fL, _, hCL, _, _⟩ := list_shape HL hL
        obtain ⟨aP, capP, lP, fP, _, hCP, _, _⟩ := list_shape HP hP
        have hE3 : Ext wr (wr.alloc (.cells #[.int .i64 id, C 1, C 2] 34)) := (Ext.refl _).alloc _
        have hcall := netPutNode_any _ W0.heap.size k N S id (f0 k 1) (f0 k 2) (C 1) (C 2) (hN.ext hE3) zid (by omega) (Nat.le_trans hE.le hE3.le) HL (hL.ext hE3) HP (hP.ext hE3)
        have hidv : (f0 k 0).int! = id := by rw [hd]; rfl
        have hB : Hid ((labelsB (f0 k 1) && propsB (f0 k 2) && okPut (N.lists .n) N.nn id) = nodeB f0 x2 k) := by show _ = _; rw [r3, r1, ← hidv]; exact node_ok i2.1 i2.2 hno
        rw [hB.out, hnb, hCL, hCP] at hcall
        rw [hCL] at e1
        rw [hCP] at e2
        clear ec hx k0 y0 hL hP hCL hCP hE3 hB
        go_wp2_with fail
        refine hcall.mono ?_
        rintro e w1 ⟨rfl, N', hN', hyes, hnot, hst⟩
        have hEw1 : Ext W0 w1 := hst.toExt (hE.alloc _) (fun x hx => (NetR.lt hN hx).1)
        clear hcall e0 e1 e2
        cases hnd : nodeB f0 x2 k
        · have hf : Hid (gb = false) := hbad0.out k hlt hnd
          go_wp2
          go_ret2
          exact ⟨_, by rw [hf.out]; rfl, fun e => (by rw [hf.out] at e; cases e), hE0.trans hEw1⟩
        · obtain ⟨v', uL, uP, m, m2, e9, ⟨g1', g2', g3'⟩, ⟨DL, OL⟩, ⟨DP, OP⟩, hown⟩ := hyes hnd
          have hnd' : Hid (nodeB f0 x2 k = true) := hnd
          have hsz0 : wr.heap.size ≤ (wr.alloc (.cells #[.int .i64 id, .slice aL lL capL, .slice aP lP capP] 34)).heap.size := by simp
          have hnR : ∀ x, wr.heap.size ≤ x → x < m2 → ¬ NetR N' x := fun x h1 h2 hx => by
            rcases hown x hx with h3 | h3
            · have := (NetR.lt hN h3).2; omega
            · omega
          have hRD : RowsD w1 N' W0.heap.size w1.heap.size .n 3 f0 (k + 1) := by
            refine r6.push ((NStep.ext N ((Ext.refl _).alloc _)).trans hst) (fun i hi => ?_) hE.le (fun c => match c with | 0 => .int .i64 id | 1 => uL | _ => uP) ?_ (fun c => if c = 1 then New (wr.alloc (.cells #[.int .i64 id, .slice aL lL capL, .slice aP lP capP] 34)).heap.size m else if c = 2 then New m m2 else fun _ => False) (fun c hc => ?_) (fun c c' hc hc' hne x hx hx' => ?_)
            · rw [e9]
              show upd N.val .n (putVal (N.val .n) id _) .n _ = _
              have hlt' := node_inc (upto_succ hno hnd) i k hi (by omega)
              rw [upd_same, putVal, if_neg (by rw [← hidv]; omega)]
            · rw [e9, hidv]
              show upd N.val .n (putVal (N.val .n) id (.agg #[.int .i64 id, uL, uP])) .n id = _
              rw [upd_same, putVal, if_pos rfl]
              rfl
            · have hcc : c = 0 ∨ c = 1 ∨ c = 2 := by omega
              rcases hcc with rfl | rfl | rfl
              · rw [hd]; exact ⟨⟨rfl, zid⟩, trivial, fun x hx => absurd hx (by simp)⟩
              · exact ⟨DL, OL, fun x hx => ⟨by have := hx.1; omega, by have := hx.2; omega, hnR x (by have := hx.1; omega) (by have := hx.2; omega)⟩⟩
              · exact ⟨DP, OP, fun x hx => ⟨by have := hx.1; omega, by have := hx.2; omega, hnR x (by have := hx.1; omega) (by have := hx.2; omega)⟩⟩
            · have hcc : c = 0 ∨ c = 1 ∨ c = 2 := by omega
              have hcc' : c' = 0 ∨ c' = 1 ∨ c' = 2 := by omega
              rcases hcc with rfl | rfl | rfl <;> rcases hcc' with rfl | rfl | rfl
              all_goals first | exact hne rfl | exact hx.elim | exact hx'.elim | (have a1 := hx.1; have a2 := hx.2; have b1 := hx'.1; have b2 := hx'.2; omega)
          clear DL OL DP OP hown
          have s1 : N'.nb = nbz := by rw [e9]; exact hnb
          have s2 : N'.nn = x2 ∧ N'.ne = x3 ∧ N'.lists .n = idsOf f0 (k + 1) ∧ N'.lists .e = idsOf f1 0 ∧ (∀ x, x ∈ N'.keys .n ↔ x ∈ idsOf f0 (k + 1)) ∧ RowsD w1 N' W0.heap.size w1.heap.size .n 3 f0 (k + 1) ∧ (∀ x, x ∈ N'.keys .e ↔ x ∈ idsOf f1 0) ∧ RowsOI N' f1 0 := by
            subst e9
            refine ⟨r1, r2, ?_, ?_, fun x => ?_, hRD, fun x => ?_, fun z => ?_⟩
            · show upd N.lists .n (N.lists .n ++ [id]) .n = _; rw [upd_same, r3, ids_succ, hidv]
            · show upd N.lists .n (N.lists .n ++ [id]) .e = _; rw [upd_other _ _ _ (by simp)]; exact r4
            · show x ∈ upd N.keys .n (putKeys (N.keys .n) id) .n ↔ _
              rw [upd_same, mem_putKeys, r5, ids_succ, hidv]; simp
            · show x ∈ upd N.keys .n (putKeys (N.keys .n) id) .e ↔ _
              rw [upd_other _ _ _ (by simp)]; exact r9 x
            · show upd N.lists .n (N.lists .n ++ [id]) (.o z) = _ ∧ upd N.lists .n (N.lists .n ++ [id]) (.i z) = _
              rw [upd_other _ _ _ (by simp), upd_other _ _ _ (by simp)]; exact r10 z
          have HS2 : Hid _ := s2
          clear hyes hnot e9 s2 hnd
          go_wp2
          go_roundw
          case rel => exact ⟨k + 1, N', by omega, by go_num, hN', s1, HS2.out, hEw1, upto_succ hno hnd'.out⟩
          case measure => simp [intOf]; omega
      · have hkx : k = len0 := by omega
        subst hkx
        have hnod : Hid (∀ j, j < k → nodeB f0 x2 j = true) := hno
        clear hno
        go_wp2
        obtain ⟨wb, rfl⟩ : ∃ wb, wb = wr := ⟨_, rfl⟩
        have hEb := hE.le
        go_loopw [56] (fun i wr => ∃ (q : Nat) (N : NetD), q ≤ len1 ∧ i = .int .i64 q ∧ NetIn wr W0.heap.size (k + 3 * q) N ∧ N.nb = nbz ∧ (N.ne = x3 ∧ N.lists .e = idsOf f1 q ∧ (∀ x, x ∈ N.keys .n ↔ x ∈ idsOf f0 k) ∧ N.nn = x2 ∧ N.lists .n = idsOf f0 k ∧ RowsD wr N W0.heap.size wb.heap.size .n 3 f0 k ∧ RowsD wr N wb.heap.size wr.heap.size .e 5 f1 q ∧ wb.heap.size ≤ wr.heap.size ∧ (∀ x, x ∈ N.keys .e ↔ x ∈ idsOf f1 q) ∧ RowsOI N f1 q) ∧ Ext W0 wr ∧ ∀ j, j < q → edgeB f1 (.list (rowsOf 4).length k f0) x3 j = true) (fun i _ => len1 - (intOf i).toNat)
        case atStart => exact ⟨0, N, Nat.zero_le _, rfl, hN, hnb, ⟨r2, r4, r5, r1, r3, r6, RowsD.nil _ _ _ _ _ _, Nat.le_refl _, r9, r10⟩, hE, fun j h => by omega⟩
        case round =>
          clear hN hnb r1 r2 r3 r4 r5 r6 r9 r10 N
          obtain ⟨q, N, hq, rfl, hN, hnb, ⟨r2, r4, r5, r1, r3, r6, r7, r8, r9, r10⟩, hE, hno⟩ := hrel
          clear p0 p1 p2 p3
          obtain ⟨p0, p1, p2, p3⟩ := hb wr hE
          by_cases hlt : q < len1
          · obtain ⟨cap2, b, off, C, hsl, _, hbl, ec, hx⟩ := (h1.ext (hE0.trans hE)).at hlt
            cases hsl
            have HR := HR1 q hlt
            obtain ⟨id, hd0⟩ := (show Has (f1 q 0) .int from HR 0 (by decide)).int
            obtain ⟨kind, hd1⟩ := (show Has (f1 q 1) .str from HR 1 (by decide)).str
            obtain ⟨fr, hd2⟩ := (show Has (f1 q 2) .int from HR 2 (by decide)).int
            obtain ⟨dst, hd3⟩ := (show Has (f1 q 3) .int from HR 3 (by decide)).int
            have HP : Has (f1 q 4) (.list 3) := HR 4 (by decide)
            have k0 := hx 0 (by decide)
            have k1 := hx 1 (by decide)
            have k2 := hx 2 (by decide)
            have k3 := hx 3 (by decide)
            have hP := hx 4 (by decide)
            have e0 := ec 0 (by decide)
            have e1 := ec 1 (by decide)
            have e2 := ec 2 (by decide)
            have e3 := ec 3 (by decide)
            have e4 := ec 4 (by decide)
            rw [hd0] at k0
            rw [hd1] at k1
            rw [hd2] at k2
            rw [hd3] at k3
            obtain ⟨y0, z0⟩ := k0.int_eq
            obtain ⟨y1, z1⟩ := k1.str_eq
            obtain ⟨y2, z2'⟩ := k2.int_eq
            obtain ⟨y3, z3'⟩ := k3.int_eq
            rw [y0] at e0
            rw [y1] at e1
            rw [y2] at e2
            rw [y3] at e3
            simp only [Nat.add_zero] at e0
            obtain ⟨aP, capP, lP, fP, _, hCP, _, _⟩ := list_shape HP hP
            have hE3 : Ext wr (wr.alloc (.cells #[.int .i64 id, .string kind, .int .i64 fr, .int .i64 dst, C 4] 46)) := (Ext.refl _).alloc _
            have hcall := netPutEdge_any _ W0.heap.size (k + 3 * q) N S id kind fr dst (f1 q 4) (C 4) (hN.ext hE3) z0 z2' z3' z1 (by omega) (Nat.le_trans hE.le hE3.le) HP (hP.ext hE3)
            have hB : Hid ((propsB (f1 q 4) && nameB kind && decide (fr ∈ N.keys .n) && decide (dst ∈ N.keys .n) && okPut (N.lists .e) N.ne id) = edgeB f1 (.list (rowsOf 4).length k f0) x3 q) := by
              show _ = _
              have hv0 : (f1 q 0).int! = id := by rw [hd0]; rfl
              have hv1 : (f1 q 1).str! = kind := by rw [hd1]; rfl
              have hv2 : (f1 q 2).int! = fr := by rw [hd2]; rfl
              have hv3 : (f1 q 3).int! = dst := by rw [hd3]; rfl
              rw [← edge_ok i3.1 i3.2 hno, hv0, hv1, hv2, hv3, has_ids, has_ids, r2, r4]
              simp only [r5]
            rw [hB.out, hnb, hCP] at hcall
            rw [hCP] at e4
            have hidv : (f1 q 0).int! = id := by rw [hd0]; rfl
            clear ec hx k0 k1 k2 k3 y0 y1 y2 y3 hP hCP hE3 hB
            go_wp2_with fail
            refine hcall.mono ?_
            rintro e w1 ⟨rfl, N', hN', hyes, hnot, hst⟩
            have hEw1 : Ext W0 w1 := hst.toExt (hE.alloc _) (fun x hx => (NetR.lt hN hx).1)
            clear hcall e0 e1 e2 e3 e4
            cases hnd : edgeB f1 (.list (rowsOf 4).length k f0) x3 q
            · have hf : Hid (gb = false) := hbad1.out q hlt hnd
              go_wp2
              go_ret2
              exact ⟨_, by rw [hf.out]; rfl, fun e => (by rw [hf.out] at e; cases e), hE0.trans hEw1⟩
            · obtain ⟨v', uP, vo, vi, m, e9, g1', g2', ⟨DP, OP⟩, hown⟩ := hyes hnd
              have hsz0 : wr.heap.size ≤ (wr.alloc (.cells #[.int .i64 id, .string kind, .int .i64 fr, .int .i64 dst, .slice aP lP capP] 46)).heap.size := by simp
              have hnR : ∀ x, wr.heap.size ≤ x → x < m → ¬ NetR N' x := fun x h1 h2 hx => by
                rcases hown x hx with h3 | h3
                · have := (NetR.lt hN h3).2; omega
                · omega
              have hRN : RowsD w1 N' W0.heap.size wb.heap.size .n 3 f0 k := r6.step ((NStep.ext N ((Ext.refl _).alloc _)).trans hst) (fun i _ => by rw [e9, val_n])
              have hsz1 : wb.heap.size ≤ w1.heap.size := Nat.le_trans r8 ((NStep.ext N ((Ext.refl wr).alloc _)).trans hst).chg.size
              have hRE : RowsD w1 N' wb.heap.size w1.heap.size .e 5 f1 (q + 1) := by
                refine r7.push ((NStep.ext N ((Ext.refl _).alloc _)).trans hst) (fun i hi => ?_) r8 (fun c => match c with | 0 => .int .i64 id | 1 => .string kind | 2 => .int .i64 fr | 3 => .int .i64 dst | _ => uP) ?_ (fun c => if c = 4 then New (wr.alloc (.cells #[.int .i64 id, .string kind, .int .i64 fr, .int .i64 dst, .slice aP lP capP] 46)).heap.size m else fun _ => False) (fun c hc => ?_) (fun c c' hc hc' hne x hx hx' => ?_)
                · have hlt' := edge_inc (upto_succ hno hnd) i q hi (by omega)
                  rw [e9, val_e, putVal, if_neg (by rw [← hidv]; omega)]
                · rw [e9, hidv, val_e, putVal, if_pos rfl]
                  rfl
                · have hcc : c = 0 ∨ c = 1 ∨ c = 2 ∨ c = 3 ∨ c = 4 := by omega
                  rcases hcc with rfl | rfl | rfl | rfl | rfl
                  · rw [hd0]; exact ⟨⟨rfl, z0⟩, trivial, fun x hx => absurd hx (by simp)⟩
                  · rw [hd1]; exact ⟨⟨rfl, z1⟩, trivial, fun x hx => absurd hx (by simp)⟩
                  · rw [hd2]; exact ⟨⟨rfl, z2'⟩, trivial, fun x hx => absurd hx (by simp)⟩
                  · rw [hd3]; exact ⟨⟨rfl, z3'⟩, trivial, fun x hx => absurd hx (by simp)⟩
                  · exact ⟨DP, OP, fun x hx => ⟨by have := hx.1; omega, by have := hx.2; omega, hnR x (by have := hx.1; omega) (by have := hx.2; omega)⟩⟩
                · by_cases c4 : c = 4
                  · rw [if_neg (by omega)] at hx'; exact hx'
                  · rw [if_neg c4] at hx; exact hx
              clear DP OP hown
              have hnd' : Hid (edgeB f1 (.list (rowsOf 4).length k f0) x3 q = true) := hnd
              have s1 : N'.nb = nbz := by rw [e9]; exact hnb
              have s2 : N'.ne = x3 ∧ N'.lists .e = idsOf f1 (q + 1) ∧ (∀ x, x ∈ N'.keys .n ↔ x ∈ idsOf f0 k) ∧ N'.nn = x2 ∧ N'.lists .n = idsOf f0 k ∧ RowsD w1 N' W0.heap.size wb.heap.size .n 3 f0 k ∧ RowsD w1 N' wb.heap.size w1.heap.size .e 5 f1 (q + 1) ∧ wb.heap.size ≤ w1.heap.size ∧ (∀ x, x ∈ N'.keys .e ↔ x ∈ idsOf f1 (q + 1)) ∧ RowsOI N' f1 (q + 1) := by
                subst e9
                refine ⟨r2, ?_, fun x => ?_, r1, by rw [lists_n]; exact r3, hRN, hRE, hsz1, fun x => ?_, fun z => ⟨?_, ?_⟩⟩
                · rw [show (((((((N.push .e v' id).put .e id (.agg #[.int .i64 id, .string kind, .int .i64 fr, .int .i64 dst, uP])).push (.o fr) vo id).put .o fr vo).push (.i dst) vi id).put .i dst vi).lists .e) = N.lists .e ++ [id] from lists_e N v' id (.agg #[.int .i64 id, .string kind, .int .i64 fr, .int .i64 dst, uP]) fr dst vo vi, r4, ids_succ, hidv]
                · rw [keys_n]
                  exact r5 x
                · rw [keys_e, mem_putKeys, r9, ids_succ, hidv]; simp
                · rw [lists_o, outs_succ, hidv, show (f1 q 2).int! = fr by rw [hd2]; rfl]
                  by_cases hz : z = fr
                  · subst hz; rw [if_pos rfl, (r10 z).1]; simp
                  · rw [if_neg hz, (r10 z).1]; simp [Ne.symm hz]
                · rw [lists_i, outs_succ, hidv, show (f1 q 3).int! = dst by rw [hd3]; rfl]
                  by_cases hz : z = dst
                  · subst hz; rw [if_pos rfl, (r10 z).2]; simp
                  · rw [if_neg hz, (r10 z).2]; simp [Ne.symm hz]
              have HS2 : Hid _ := s2
              clear hyes hnot e9 s2 hnd
              go_wp2
              go_roundw
              case rel => exact ⟨q + 1, N', by omega, by go_num, hN', s1, HS2.out, hEw1, upto_succ hno hnd'.out⟩
              case measure => simp [intOf]; omega
          · have hqx : q = len1 := by omega
            subst hqx
            have hf : Hid (gb = true) := hgood.out hnod.out hno
            have hNf := hN.mono (show k + 3 * q ≤ 100 by omega)
            clear hno
            go_wp2
            go_ret2
            exact ⟨_, by rw [hf.out]; rfl, fun _ => ⟨N, by rw [hnb], hNf.low (hE0.le), ⟨r1, r2, r3, r4, r5, r9, r10, wb.heap.size, Nat.le_trans hE0.le hEb, r6.low (hE0.le), r7⟩⟩, hE0.trans hE⟩
end Go.Proofs.YtbhmblkappmfjaaGreat
