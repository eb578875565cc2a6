/- What the net's method putNode answers. -/
import Derived.Test.YtacghifhhlgidaaGreatNetPut
import Derived.Test.YtacghifhhlgidaaGreatGProps
namespace Go.Proofs.YtacghifhhlgidaaGreat
open Go.RowKit Go.Deep

theorem Chg.cell {R : Nat → Prop} {w w' : World} (h : Chg R w w') {b o : Nat} (h1 : b < w.heap.size) (h2 : ¬ R b) : w'.cell? ⟨b, o, none⟩ = w.cell? ⟨b, o, none⟩ := World.cell?_of_block (h.block b h1 h2)
set_option maxRecDepth 100000 in
set_option maxHeartbeats 4000000 in
theorem netPutNode_any (w : World) (base c : Nat) (N : NetD) (S : Nat → Prop) (id : Int) (dL dP : D) (cL cP : Value) (h : NetIn w base c N) (hid : (Lit.int .i64 id).wf = true) (hc : c ≤ 1000) (hb : base ≤ w.heap.size) (HL : Has dL (.list 0)) (hL : DIn S w dL cL) (HP : Has dP (.list 3)) (hP : DIn S w dP cP) :
    Calls Tryz.prog 41 #[.pointer (some ⟨N.nb, 0, none⟩), .agg #[.int .i64 id, cL, cP]] w fun e w' => e = .returned (.bool (labelsB dL && propsB dP && okPut (N.lists .n) N.nn id)) ∧ ∃ N', NetIn w' base (c + 1) N' ∧
      ((labelsB dL && propsB dP && okPut (N.lists .n) N.nn id) = true → ∃ v' uL uP m m2, N' = (N.push .n v' id).put .n id (.agg #[.int .i64 id, uL, uP]) ∧ (w.heap.size ≤ m ∧ m ≤ m2 ∧ m2 ≤ w'.heap.size) ∧ (DIn (New w.heap.size m) w' dL uL ∧ Own w' dL (New w.heap.size m) uL) ∧ (DIn (New m m2) w' dP uP ∧ Own w' dP (New m m2) uP) ∧ ∀ x, NetR N' x → NetR N x ∨ m2 ≤ x) ∧
      ((labelsB dL && propsB dP && okPut (N.lists .n) N.nn id) = false → N' = N) ∧ NStep w N w' N' := by
  have hlab := fun W (hW : Ext w W) => labelsOf_any dL HL S cL W (hL.ext hW)
  have hprp := fun W (hW : Ext w W) => propsOf_any dP HP S cP W (hP.ext hW)
  obtain ⟨aL, capL, lL, fL, _, rfl, _, _⟩ := list_shape HL hL
  obtain ⟨aP, capP, lP, fP, _, rfl, _, _⟩ := list_shape HP hP
  have hput := fun (W : World) (hW : Ext w W) a1 l1 k1 a2 l2 k2 => putNode_any W base c N id id a1 l1 k1 a2 l2 k2 (h.ext hW) hid hc (Nat.le_trans hb hW.le)
  generalize hlb : labelsB dL = lb at *
  generalize hpb : propsB dP = pb at *
  generalize hob : okPut (N.lists .n) N.nn id = ob at *
  clear hlb hpb hob
  go_enter Tryz.func41, Tryz.ntmps41
  go_wp2_with fail
  refine (hlab _ ((Ext.refl _).alloc _)).mono ?_
  rintro e w1 ⟨a1, l1, k1, rfl, hDL, hE1⟩
  clear hlab
  have hE1' : Ext w w1 := ((Ext.refl _).alloc _).trans hE1
  have p0 := box_cell hE1 0 _ rfl
  have p1 := box_cell hE1 1 _ rfl
  have p2 := box_cell hE1 2 _ rfl
  go_wp2_with fail
  refine (hprp _ hE1').mono ?_
  rintro e w2 ⟨a2, l2, k2, rfl, hDP, hE2⟩
  clear hprp
  have q0 : ∀ W, Ext w2 W → W.cell? ⟨w.heap.size, 0, none⟩ = some (.int .i64 id) := fun W hW => box_cell (hE1.trans (hE2.trans hW)) 0 _ rfl
  have hE2' : Ext w w2 := hE1'.trans hE2
  have hz1 : w.heap.size + 1 ≤ w1.heap.size := by have := hE1.le; simpa using this
  have hz2 := hE2.le
  clear p0 p1 p2
  cases lb
  · go_wp2_with fail
    have HK : Hid (∀ W, Ext w2 W → W.cell? ⟨w.heap.size, 0, none⟩ = some (.int .i64 id)) := q0
    have hcur : Ext w2 w2.drew := (Ext.refl _).drew
    refine wp_region_held_drew (S := (fun W => W.cell? ⟨w.heap.size, 0, none⟩ = some (.int .i64 id))) (by kernel_rfl) (HK.out _ hcur) (fun hHeld => ?_)
    refine wpAnyH_take (i := 0) (oi := ⟨some 21, .move (.tmp 6), 4, _, #[], none⟩) (v := ?_) rfl (by kernel_rfl) (by kernel_rfl) (by kernel_rfl) (fun _ _ _ h => h) (Or.inl ⟨by rfl, ?yyA0⟩) hHeld ?rrA0
    case yyA0 => (intro w hSw; (try dsimp only at hSw); go_simp; first | done | with_reducible rfl)
    try simp only [Act.put, putA, putB, putC]
    refine wpAnyH_take (i := 1) (oi := ⟨some 22, .move (.tmp 21), 4, _, #[⟨0, .data⟩], none⟩) (v := ?_) rfl (by kernel_rfl) (by kernel_rfl) (by kernel_rfl) (fun _ _ _ h => h) (Or.inl ⟨by rfl, ?yyA1⟩) hHeld ?rrA1
    case yyA1 => (intro w hSw; (try dsimp only at hSw); go_simp; first | done | with_reducible rfl)
    try simp only [Act.put, putA, putB, putC]
    refine wpAnyH_take (i := 2) (oi := ⟨some 23, .move (.tmp 8), 4, _, #[⟨1, .guard⟩], some (1, true)⟩) (v := undef) rfl (by kernel_rfl) (by kernel_rfl) (by kernel_rfl) (fun _ _ _ h => h) (Or.inr ⟨by rfl, rfl⟩) hHeld ?_
    try simp only [Act.put, putA, putB, putC]
    refine wpAnyH_take (i := 3) (oi := ⟨some 24, .pick (.tmp 22) (.tmp 23) (.const (.bool false)), 4, _, #[⟨1, .data⟩, ⟨2, .data⟩], none⟩) (v := ?_) rfl (by kernel_rfl) (by kernel_rfl) (by kernel_rfl) (fun _ _ _ h => h) (Or.inl ⟨by rfl, ?yyA3⟩) hHeld ?rrA3
    case yyA3 => (intro w hSw; (try dsimp only at hSw); go_simp; first | done | with_reducible rfl)
    try simp only [Act.put, putA, putB, putC]
    refine wpAnyH_take (i := 4) (oi := ⟨some 25, .move (.tmp 24), 4, _, #[⟨3, .data⟩, ⟨1, .chain⟩], none⟩) (v := ?_) rfl (by kernel_rfl) (by kernel_rfl) (by kernel_rfl) (fun _ _ _ h => h) (Or.inl ⟨by rfl, ?yyA4⟩) hHeld ?rrA4
    case yyA4 => (intro w hSw; (try dsimp only at hSw); go_simp; first | done | with_reducible rfl)
    try simp only [Act.put, putA, putB, putC]
    refine wpAnyH_take (i := 5) (oi := ⟨some 26, .move (.tmp 0), 44, _, #[⟨4, .guard⟩], some (4, true)⟩) (v := undef) rfl (by kernel_rfl) (by kernel_rfl) (by kernel_rfl) (fun _ _ _ h => h) (Or.inr ⟨by rfl, rfl⟩) hHeld ?_
    try simp only [Act.put, putA, putB, putC]
    refine wpAnyH_take (i := 6) (oi := ⟨some 27, .nilCheck (.tmp 26), 0, _, #[⟨5, .data⟩, ⟨4, .guard⟩], some (4, true)⟩) (v := undef) rfl (by kernel_rfl) (by kernel_rfl) (by kernel_rfl) (fun _ _ _ h => h) (Or.inr ⟨by rfl, rfl⟩) hHeld ?_
    try simp only [Act.put, putA, putB, putC]
    refine wpAnyH_take (i := 7) (oi := ⟨some 28, .fieldAddr 84 (.tmp 27) 0, 0, _, #[⟨6, .data⟩, ⟨4, .guard⟩], some (4, true)⟩) (v := undef) rfl (by kernel_rfl) (by kernel_rfl) (by kernel_rfl) (fun _ _ _ h => h) (Or.inr ⟨by rfl, rfl⟩) hHeld ?_
    try simp only [Act.put, putA, putB, putC]
    refine wpAnyH_take (i := 8) (oi := ⟨some 29, .fieldAddr 63 (.tmp 3) 0, 0, _, #[⟨4, .guard⟩], some (4, true)⟩) (v := undef) rfl (by kernel_rfl) (by kernel_rfl) (by kernel_rfl) (fun _ _ _ h => h) (Or.inr ⟨by rfl, rfl⟩) hHeld ?_
    try simp only [Act.put, putA, putB, putC]
    refine wpAnyH_take (i := 9) (oi := ⟨some 30, .load 3 (.tmp 29), 3, _, #[⟨8, .data⟩, ⟨4, .guard⟩], some (4, true)⟩) (v := undef) rfl (by kernel_rfl) (by kernel_rfl) (by kernel_rfl) (fun _ _ _ h => h) (Or.inr ⟨by rfl, rfl⟩) hHeld ?_
    try simp only [Act.put, putA, putB, putC]
    refine wpAnyH_take (i := 10) (oi := ⟨some 31, .fieldAddr 63 (.tmp 3) 0, 0, _, #[⟨4, .guard⟩], some (4, true)⟩) (v := undef) rfl (by kernel_rfl) (by kernel_rfl) (by kernel_rfl) (fun _ _ _ h => h) (Or.inr ⟨by rfl, rfl⟩) hHeld ?_
    try simp only [Act.put, putA, putB, putC]
    refine wpAnyH_take (i := 11) (oi := ⟨some 32, .load 3 (.tmp 31), 3, _, #[⟨10, .data⟩, ⟨4, .guard⟩], some (4, true)⟩) (v := undef) rfl (by kernel_rfl) (by kernel_rfl) (by kernel_rfl) (fun _ _ _ h => h) (Or.inr ⟨by rfl, rfl⟩) hHeld ?_
    try simp only [Act.put, putA, putB, putC]
    refine wpAnyH_take (i := 12) (oi := ⟨some 33, .move (.tmp 5), 54, _, #[⟨4, .guard⟩], some (4, true)⟩) (v := undef) rfl (by kernel_rfl) (by kernel_rfl) (by kernel_rfl) (fun _ _ _ h => h) (Or.inr ⟨by rfl, rfl⟩) hHeld ?_
    try simp only [Act.put, putA, putB, putC]
    refine wpAnyH_take (i := 13) (oi := ⟨some 34, .move (.tmp 7), 61, _, #[⟨4, .guard⟩], some (4, true)⟩) (v := undef) rfl (by kernel_rfl) (by kernel_rfl) (by kernel_rfl) (fun _ _ _ h => h) (Or.inr ⟨by rfl, rfl⟩) hHeld ?_
    try simp only [Act.put, putA, putB, putC]
    refine wpAnyH_take (i := 14) (oi := ⟨some 35, .build 63 #[(0, .tmp 32), (1, .tmp 33), (2, .tmp 34)], 63, _, #[⟨11, .data⟩, ⟨12, .data⟩, ⟨13, .data⟩, ⟨4, .guard⟩], some (4, true)⟩) (v := undef) rfl (by kernel_rfl) (by kernel_rfl) (by kernel_rfl) (fun _ _ _ h => h) (Or.inr ⟨by rfl, rfl⟩) hHeld ?_
    try simp only [Act.put, putA, putB, putC]
    refine wpAnyH_ready (rs := [15]) (by kernel_rfl) (by simp) ?_
    refine AllReadyH.cons (o := ⟨some 36, .call { callee := .value (.func 65), args := #[.tmp 28, .tmp 30, .tmp 35], argTypes := #[76, 3, 63] }, 4, _, #[⟨7, .data⟩, ⟨9, .data⟩, ⟨14, .data⟩, ⟨4, .chain⟩, ⟨4, .guard⟩], some (4, true)⟩) rfl (fun K hK => ?_) AllReadyH.nil
    rw [if_neg (by simp [Region.wanted, yielded])]
    refine hK.out _ _ hHeld (fun hHeld => ?_)
    clear hK K
    try simp only [Act.put, putA, putB, putC]
    refine wpAnyH_take (i := 16) (oi := ⟨some 37, .pick (.tmp 25) (.tmp 36) (.const (.bool false)), 4, _, #[⟨4, .data⟩, ⟨15, .data⟩], none⟩) (v := ?_) rfl (by kernel_rfl) (by kernel_rfl) (by kernel_rfl) (fun _ _ _ h => h) (Or.inl ⟨by rfl, ?yyA16⟩) hHeld ?rrA16
    case yyA16 => (intro w hSw; (try dsimp only at hSw); go_simp; first | done | with_reducible rfl)
    try simp only [Act.put, putA, putB, putC]
    refine wpAnyH_take (i := 17) (oi := ⟨some 4, .assign (.tmp 37), 4, _, #[⟨16, .data⟩, ⟨15, .chain⟩, ⟨0, .phase⟩, ⟨1, .phase⟩, ⟨2, .phase⟩, ⟨3, .phase⟩, ⟨4, .phase⟩, ⟨5, .phase⟩, ⟨6, .phase⟩, ⟨7, .phase⟩, ⟨8, .phase⟩, ⟨9, .phase⟩, ⟨10, .phase⟩, ⟨11, .phase⟩, ⟨12, .phase⟩, ⟨13, .phase⟩, ⟨14, .phase⟩, ⟨15, .phase⟩, ⟨16, .phase⟩], none⟩) (v := ?_) rfl (by kernel_rfl) (by kernel_rfl) (by kernel_rfl) (fun _ _ _ h => h) (Or.inl ⟨by rfl, ?yyA17⟩) hHeld ?rrA17
    case yyA17 => (intro w hSw; (try dsimp only at hSw); go_simp; first | done | with_reducible rfl)
    try simp only [Act.put, putA, putB, putC]
    refine wpAnyH_done (by kernel_rfl) ?_ _
    go_wp2
    go_ret
    exact ⟨ret_bool rfl, N, (h.ext (hE2'.trans hcur)).mono (by omega), fun e => (by cases e), fun _ => rfl, NStep.ext N (hE2'.trans hcur)⟩
  · cases pb
    · go_wp2_with fail
      have HK : Hid (∀ W, Ext w2 W → W.cell? ⟨w.heap.size, 0, none⟩ = some (.int .i64 id)) := q0
      have hcur : Ext w2 w2.drew := (Ext.refl _).drew
      refine wp_region_held_drew (S := (fun W => W.cell? ⟨w.heap.size, 0, none⟩ = some (.int .i64 id))) (by kernel_rfl) (HK.out _ hcur) (fun hHeld => ?_)
      refine wpAnyH_take (i := 0) (oi := ⟨some 21, .move (.tmp 6), 4, _, #[], none⟩) (v := ?_) rfl (by kernel_rfl) (by kernel_rfl) (by kernel_rfl) (fun _ _ _ h => h) (Or.inl ⟨by rfl, ?yyB0⟩) hHeld ?rrB0
      case yyB0 => (intro w hSw; (try dsimp only at hSw); go_simp; first | done | with_reducible rfl)
      try simp only [Act.put, putA, putB, putC]
      refine wpAnyH_take (i := 1) (oi := ⟨some 22, .move (.tmp 21), 4, _, #[⟨0, .data⟩], none⟩) (v := ?_) rfl (by kernel_rfl) (by kernel_rfl) (by kernel_rfl) (fun _ _ _ h => h) (Or.inl ⟨by rfl, ?yyB1⟩) hHeld ?rrB1
      case yyB1 => (intro w hSw; (try dsimp only at hSw); go_simp; first | done | with_reducible rfl)
      try simp only [Act.put, putA, putB, putC]
      refine wpAnyH_take (i := 2) (oi := ⟨some 23, .move (.tmp 8), 4, _, #[⟨1, .guard⟩], some (1, true)⟩) (v := ?_) rfl (by kernel_rfl) (by kernel_rfl) (by kernel_rfl) (fun _ _ _ h => h) (Or.inl ⟨by rfl, ?yyB2⟩) hHeld ?rrB2
      case yyB2 => (intro w hSw; (try dsimp only at hSw); go_simp; first | done | with_reducible rfl)
      try simp only [Act.put, putA, putB, putC]
      refine wpAnyH_take (i := 3) (oi := ⟨some 24, .pick (.tmp 22) (.tmp 23) (.const (.bool false)), 4, _, #[⟨1, .data⟩, ⟨2, .data⟩], none⟩) (v := ?_) rfl (by kernel_rfl) (by kernel_rfl) (by kernel_rfl) (fun _ _ _ h => h) (Or.inl ⟨by rfl, ?yyB3⟩) hHeld ?rrB3
      case yyB3 => (intro w hSw; (try dsimp only at hSw); go_simp; first | done | with_reducible rfl)
      try simp only [Act.put, putA, putB, putC]
      refine wpAnyH_take (i := 4) (oi := ⟨some 25, .move (.tmp 24), 4, _, #[⟨3, .data⟩, ⟨1, .chain⟩], none⟩) (v := ?_) rfl (by kernel_rfl) (by kernel_rfl) (by kernel_rfl) (fun _ _ _ h => h) (Or.inl ⟨by rfl, ?yyB4⟩) hHeld ?rrB4
      case yyB4 => (intro w hSw; (try dsimp only at hSw); go_simp; first | done | with_reducible rfl)
      try simp only [Act.put, putA, putB, putC]
      refine wpAnyH_take (i := 5) (oi := ⟨some 26, .move (.tmp 0), 44, _, #[⟨4, .guard⟩], some (4, true)⟩) (v := undef) rfl (by kernel_rfl) (by kernel_rfl) (by kernel_rfl) (fun _ _ _ h => h) (Or.inr ⟨by rfl, rfl⟩) hHeld ?_
      try simp only [Act.put, putA, putB, putC]
      refine wpAnyH_take (i := 6) (oi := ⟨some 27, .nilCheck (.tmp 26), 0, _, #[⟨5, .data⟩, ⟨4, .guard⟩], some (4, true)⟩) (v := undef) rfl (by kernel_rfl) (by kernel_rfl) (by kernel_rfl) (fun _ _ _ h => h) (Or.inr ⟨by rfl, rfl⟩) hHeld ?_
      try simp only [Act.put, putA, putB, putC]
      refine wpAnyH_take (i := 7) (oi := ⟨some 28, .fieldAddr 84 (.tmp 27) 0, 0, _, #[⟨6, .data⟩, ⟨4, .guard⟩], some (4, true)⟩) (v := undef) rfl (by kernel_rfl) (by kernel_rfl) (by kernel_rfl) (fun _ _ _ h => h) (Or.inr ⟨by rfl, rfl⟩) hHeld ?_
      try simp only [Act.put, putA, putB, putC]
      refine wpAnyH_take (i := 8) (oi := ⟨some 29, .fieldAddr 63 (.tmp 3) 0, 0, _, #[⟨4, .guard⟩], some (4, true)⟩) (v := undef) rfl (by kernel_rfl) (by kernel_rfl) (by kernel_rfl) (fun _ _ _ h => h) (Or.inr ⟨by rfl, rfl⟩) hHeld ?_
      try simp only [Act.put, putA, putB, putC]
      refine wpAnyH_take (i := 9) (oi := ⟨some 30, .load 3 (.tmp 29), 3, _, #[⟨8, .data⟩, ⟨4, .guard⟩], some (4, true)⟩) (v := undef) rfl (by kernel_rfl) (by kernel_rfl) (by kernel_rfl) (fun _ _ _ h => h) (Or.inr ⟨by rfl, rfl⟩) hHeld ?_
      try simp only [Act.put, putA, putB, putC]
      refine wpAnyH_take (i := 10) (oi := ⟨some 31, .fieldAddr 63 (.tmp 3) 0, 0, _, #[⟨4, .guard⟩], some (4, true)⟩) (v := undef) rfl (by kernel_rfl) (by kernel_rfl) (by kernel_rfl) (fun _ _ _ h => h) (Or.inr ⟨by rfl, rfl⟩) hHeld ?_
      try simp only [Act.put, putA, putB, putC]
      refine wpAnyH_take (i := 11) (oi := ⟨some 32, .load 3 (.tmp 31), 3, _, #[⟨10, .data⟩, ⟨4, .guard⟩], some (4, true)⟩) (v := undef) rfl (by kernel_rfl) (by kernel_rfl) (by kernel_rfl) (fun _ _ _ h => h) (Or.inr ⟨by rfl, rfl⟩) hHeld ?_
      try simp only [Act.put, putA, putB, putC]
      refine wpAnyH_take (i := 12) (oi := ⟨some 33, .move (.tmp 5), 54, _, #[⟨4, .guard⟩], some (4, true)⟩) (v := undef) rfl (by kernel_rfl) (by kernel_rfl) (by kernel_rfl) (fun _ _ _ h => h) (Or.inr ⟨by rfl, rfl⟩) hHeld ?_
      try simp only [Act.put, putA, putB, putC]
      refine wpAnyH_take (i := 13) (oi := ⟨some 34, .move (.tmp 7), 61, _, #[⟨4, .guard⟩], some (4, true)⟩) (v := undef) rfl (by kernel_rfl) (by kernel_rfl) (by kernel_rfl) (fun _ _ _ h => h) (Or.inr ⟨by rfl, rfl⟩) hHeld ?_
      try simp only [Act.put, putA, putB, putC]
      refine wpAnyH_take (i := 14) (oi := ⟨some 35, .build 63 #[(0, .tmp 32), (1, .tmp 33), (2, .tmp 34)], 63, _, #[⟨11, .data⟩, ⟨12, .data⟩, ⟨13, .data⟩, ⟨4, .guard⟩], some (4, true)⟩) (v := undef) rfl (by kernel_rfl) (by kernel_rfl) (by kernel_rfl) (fun _ _ _ h => h) (Or.inr ⟨by rfl, rfl⟩) hHeld ?_
      try simp only [Act.put, putA, putB, putC]
      refine wpAnyH_ready (rs := [15]) (by kernel_rfl) (by simp) ?_
      refine AllReadyH.cons (o := ⟨some 36, .call { callee := .value (.func 65), args := #[.tmp 28, .tmp 30, .tmp 35], argTypes := #[76, 3, 63] }, 4, _, #[⟨7, .data⟩, ⟨9, .data⟩, ⟨14, .data⟩, ⟨4, .chain⟩, ⟨4, .guard⟩], some (4, true)⟩) rfl (fun K hK => ?_) AllReadyH.nil
      rw [if_neg (by simp [Region.wanted, yielded])]
      refine hK.out _ _ hHeld (fun hHeld => ?_)
      clear hK K
      try simp only [Act.put, putA, putB, putC]
      refine wpAnyH_take (i := 16) (oi := ⟨some 37, .pick (.tmp 25) (.tmp 36) (.const (.bool false)), 4, _, #[⟨4, .data⟩, ⟨15, .data⟩], none⟩) (v := ?_) rfl (by kernel_rfl) (by kernel_rfl) (by kernel_rfl) (fun _ _ _ h => h) (Or.inl ⟨by rfl, ?yyB16⟩) hHeld ?rrB16
      case yyB16 => (intro w hSw; (try dsimp only at hSw); go_simp; first | done | with_reducible rfl)
      try simp only [Act.put, putA, putB, putC]
      refine wpAnyH_take (i := 17) (oi := ⟨some 4, .assign (.tmp 37), 4, _, #[⟨16, .data⟩, ⟨15, .chain⟩, ⟨0, .phase⟩, ⟨1, .phase⟩, ⟨2, .phase⟩, ⟨3, .phase⟩, ⟨4, .phase⟩, ⟨5, .phase⟩, ⟨6, .phase⟩, ⟨7, .phase⟩, ⟨8, .phase⟩, ⟨9, .phase⟩, ⟨10, .phase⟩, ⟨11, .phase⟩, ⟨12, .phase⟩, ⟨13, .phase⟩, ⟨14, .phase⟩, ⟨15, .phase⟩, ⟨16, .phase⟩], none⟩) (v := ?_) rfl (by kernel_rfl) (by kernel_rfl) (by kernel_rfl) (fun _ _ _ h => h) (Or.inl ⟨by rfl, ?yyB17⟩) hHeld ?rrB17
      case yyB17 => (intro w hSw; (try dsimp only at hSw); go_simp; first | done | with_reducible rfl)
      try simp only [Act.put, putA, putB, putC]
      refine wpAnyH_done (by kernel_rfl) ?_ _
      go_wp2
      go_ret
      exact ⟨ret_bool rfl, N, (h.ext (hE2'.trans hcur)).mono (by omega), fun e => (by cases e), fun _ => rfl, NStep.ext N (hE2'.trans hcur)⟩
    · obtain ⟨DL, OL⟩ := hDL rfl
      obtain ⟨DP, OP⟩ := hDP rfl
      clear hDL hDP
      go_wp2_with fail
      have hR : ∀ x, NetR N x → x < w.heap.size := fun x hx => (NetR.lt h hx).2
      have HK : Hid (∀ W, Chg (NetR N) w2 W → W.cell? ⟨w.heap.size, 0, none⟩ = some (.int .i64 id)) := fun W hW => by rw [hW.cell (by omega) (fun hx => by have := hR _ hx; omega)]; exact q0 _ (Ext.refl _)
      have hcur : Chg (NetR N) w2 w2.drew := Chg.of_ext (Ext.refl _).drew
      refine wp_region_held_drew (S := (fun W => W.cell? ⟨w.heap.size, 0, none⟩ = some (.int .i64 id))) (by kernel_rfl) (HK.out _ hcur) (fun hHeld => ?_)
      refine wpAnyH_take (i := 0) (oi := ⟨some 21, .move (.tmp 6), 4, _, #[], none⟩) (v := ?_) rfl (by kernel_rfl) (by kernel_rfl) (by kernel_rfl) (fun _ _ _ h => h) (Or.inl ⟨by rfl, ?yyC0⟩) hHeld ?rrC0
      case yyC0 => (intro w hSw; (try dsimp only at hSw); go_simp; first | done | with_reducible rfl)
      try simp only [Act.put, putA, putB, putC]
      refine wpAnyH_take (i := 1) (oi := ⟨some 22, .move (.tmp 21), 4, _, #[⟨0, .data⟩], none⟩) (v := ?_) rfl (by kernel_rfl) (by kernel_rfl) (by kernel_rfl) (fun _ _ _ h => h) (Or.inl ⟨by rfl, ?yyC1⟩) hHeld ?rrC1
      case yyC1 => (intro w hSw; (try dsimp only at hSw); go_simp; first | done | with_reducible rfl)
      try simp only [Act.put, putA, putB, putC]
      refine wpAnyH_take (i := 2) (oi := ⟨some 23, .move (.tmp 8), 4, _, #[⟨1, .guard⟩], some (1, true)⟩) (v := ?_) rfl (by kernel_rfl) (by kernel_rfl) (by kernel_rfl) (fun _ _ _ h => h) (Or.inl ⟨by rfl, ?yyC2⟩) hHeld ?rrC2
      case yyC2 => (intro w hSw; (try dsimp only at hSw); go_simp; first | done | with_reducible rfl)
      try simp only [Act.put, putA, putB, putC]
      refine wpAnyH_take (i := 3) (oi := ⟨some 24, .pick (.tmp 22) (.tmp 23) (.const (.bool false)), 4, _, #[⟨1, .data⟩, ⟨2, .data⟩], none⟩) (v := ?_) rfl (by kernel_rfl) (by kernel_rfl) (by kernel_rfl) (fun _ _ _ h => h) (Or.inl ⟨by rfl, ?yyC3⟩) hHeld ?rrC3
      case yyC3 => (intro w hSw; (try dsimp only at hSw); go_simp; first | done | with_reducible rfl)
      try simp only [Act.put, putA, putB, putC]
      refine wpAnyH_take (i := 4) (oi := ⟨some 25, .move (.tmp 24), 4, _, #[⟨3, .data⟩, ⟨1, .chain⟩], none⟩) (v := ?_) rfl (by kernel_rfl) (by kernel_rfl) (by kernel_rfl) (fun _ _ _ h => h) (Or.inl ⟨by rfl, ?yyC4⟩) hHeld ?rrC4
      case yyC4 => (intro w hSw; (try dsimp only at hSw); go_simp; first | done | with_reducible rfl)
      try simp only [Act.put, putA, putB, putC]
      refine wpAnyH_take (i := 5) (oi := ⟨some 26, .move (.tmp 0), 44, _, #[⟨4, .guard⟩], some (4, true)⟩) (v := ?_) rfl (by kernel_rfl) (by kernel_rfl) (by kernel_rfl) (fun _ _ _ h => h) (Or.inl ⟨by rfl, ?yyC5⟩) hHeld ?rrC5
      case yyC5 => (intro w hSw; (try dsimp only at hSw); go_simp; first | done | with_reducible rfl)
      try simp only [Act.put, putA, putB, putC]
      refine wpAnyH_take (i := 6) (oi := ⟨some 27, .nilCheck (.tmp 26), 0, _, #[⟨5, .data⟩, ⟨4, .guard⟩], some (4, true)⟩) (v := ?_) rfl (by kernel_rfl) (by kernel_rfl) (by kernel_rfl) (fun _ _ _ h => h) (Or.inl ⟨by rfl, ?yyC6⟩) hHeld ?rrC6
      case yyC6 => (intro w hSw; (try dsimp only at hSw); go_simp; first | done | with_reducible rfl)
      try simp only [Act.put, putA, putB, putC]
      refine wpAnyH_take (i := 7) (oi := ⟨some 28, .fieldAddr 84 (.tmp 27) 0, 0, _, #[⟨6, .data⟩, ⟨4, .guard⟩], some (4, true)⟩) (v := ?_) rfl (by kernel_rfl) (by kernel_rfl) (by kernel_rfl) (fun _ _ _ h => h) (Or.inl ⟨by rfl, ?yyC7⟩) hHeld ?rrC7
      case yyC7 => (intro w hSw; (try dsimp only at hSw); go_simp; first | done | with_reducible rfl)
      try simp only [Act.put, putA, putB, putC]
      refine wpAnyH_take (i := 8) (oi := ⟨some 29, .fieldAddr 63 (.tmp 3) 0, 0, _, #[⟨4, .guard⟩], some (4, true)⟩) (v := ?_) rfl (by kernel_rfl) (by kernel_rfl) (by kernel_rfl) (fun _ _ _ h => h) (Or.inl ⟨by rfl, ?yyC8⟩) hHeld ?rrC8
      case yyC8 => (intro w hSw; (try dsimp only at hSw); go_simp; first | done | with_reducible rfl)
      try simp only [Act.put, putA, putB, putC]
      refine wpAnyH_take (i := 9) (oi := ⟨some 30, .load 3 (.tmp 29), 3, _, #[⟨8, .data⟩, ⟨4, .guard⟩], some (4, true)⟩) (v := ?_) rfl (by kernel_rfl) (by kernel_rfl) (by kernel_rfl) (fun _ _ _ h => h) (Or.inl ⟨by rfl, ?yyC9⟩) hHeld ?rrC9
      case yyC9 => (intro w hSw; (try dsimp only at hSw); go_simp; first | done | with_reducible rfl)
      try simp only [Act.put, putA, putB, putC]
      refine wpAnyH_take (i := 10) (oi := ⟨some 31, .fieldAddr 63 (.tmp 3) 0, 0, _, #[⟨4, .guard⟩], some (4, true)⟩) (v := ?_) rfl (by kernel_rfl) (by kernel_rfl) (by kernel_rfl) (fun _ _ _ h => h) (Or.inl ⟨by rfl, ?yyC10⟩) hHeld ?rrC10
      case yyC10 => (intro w hSw; (try dsimp only at hSw); go_simp; first | done | with_reducible rfl)
      try simp only [Act.put, putA, putB, putC]
      refine wpAnyH_take (i := 11) (oi := ⟨some 32, .load 3 (.tmp 31), 3, _, #[⟨10, .data⟩, ⟨4, .guard⟩], some (4, true)⟩) (v := ?_) rfl (by kernel_rfl) (by kernel_rfl) (by kernel_rfl) (fun _ _ _ h => h) (Or.inl ⟨by rfl, ?yyC11⟩) hHeld ?rrC11
      case yyC11 => (intro w hSw; (try dsimp only at hSw); go_simp; first | done | with_reducible rfl)
      try simp only [Act.put, putA, putB, putC]
      refine wpAnyH_take (i := 12) (oi := ⟨some 33, .move (.tmp 5), 54, _, #[⟨4, .guard⟩], some (4, true)⟩) (v := ?_) rfl (by kernel_rfl) (by kernel_rfl) (by kernel_rfl) (fun _ _ _ h => h) (Or.inl ⟨by rfl, ?yyC12⟩) hHeld ?rrC12
      case yyC12 => (intro w hSw; (try dsimp only at hSw); go_simp; first | done | with_reducible rfl)
      try simp only [Act.put, putA, putB, putC]
      refine wpAnyH_take (i := 13) (oi := ⟨some 34, .move (.tmp 7), 61, _, #[⟨4, .guard⟩], some (4, true)⟩) (v := ?_) rfl (by kernel_rfl) (by kernel_rfl) (by kernel_rfl) (fun _ _ _ h => h) (Or.inl ⟨by rfl, ?yyC13⟩) hHeld ?rrC13
      case yyC13 => (intro w hSw; (try dsimp only at hSw); go_simp; first | done | with_reducible rfl)
      try simp only [Act.put, putA, putB, putC]
      refine wpAnyH_take (i := 14) (oi := ⟨some 35, .build 63 #[(0, .tmp 32), (1, .tmp 33), (2, .tmp 34)], 63, _, #[⟨11, .data⟩, ⟨12, .data⟩, ⟨13, .data⟩, ⟨4, .guard⟩], some (4, true)⟩) (v := ?_) rfl (by kernel_rfl) (by kernel_rfl) (by kernel_rfl) (fun _ _ _ h => h) (Or.inl ⟨by rfl, ?yyC14⟩) hHeld ?rrC14
      case yyC14 => (intro w hSw; (try dsimp only at hSw); go_simp; first | done | with_reducible rfl)
      try simp only [Act.put, putA, putB, putC]
      refine wpAnyH_ready (rs := [15]) (by kernel_rfl) (by simp) ?_
      refine AllReadyH.cons (o := ⟨some 36, .call { callee := .value (.func 65), args := #[.tmp 28, .tmp 30, .tmp 35], argTypes := #[76, 3, 63] }, 4, _, #[⟨7, .data⟩, ⟨9, .data⟩, ⟨14, .data⟩, ⟨4, .chain⟩, ⟨4, .guard⟩], some (4, true)⟩) rfl (fun K hK => ?_) AllReadyH.nil
      go_simp
      refine (hput _ (hE2'.drew) _ _ _ _ _ _).mono ?_
      rintro e w3 ⟨rfl, N', hN', hy, hn, hst⟩
      replace hcur := hcur.trans hst.chg
      go_wp2_with fail
      refine hK.out _ _ (HK.out _ hcur) (fun hHeld => ?_)
      clear hK K
      try simp only [Act.put, putA, putB, putC]
      refine wpAnyH_take (i := 16) (oi := ⟨some 37, .pick (.tmp 25) (.tmp 36) (.const (.bool false)), 4, _, #[⟨4, .data⟩, ⟨15, .data⟩], none⟩) (v := ?_) rfl (by kernel_rfl) (by kernel_rfl) (by kernel_rfl) (fun _ _ _ h => h) (Or.inl ⟨by rfl, ?yyC16⟩) hHeld ?rrC16
      case yyC16 => (intro w hSw; (try dsimp only at hSw); go_simp; first | done | with_reducible rfl)
      try simp only [Act.put, putA, putB, putC]
      refine wpAnyH_take (i := 17) (oi := ⟨some 4, .assign (.tmp 37), 4, _, #[⟨16, .data⟩, ⟨15, .chain⟩, ⟨0, .phase⟩, ⟨1, .phase⟩, ⟨2, .phase⟩, ⟨3, .phase⟩, ⟨4, .phase⟩, ⟨5, .phase⟩, ⟨6, .phase⟩, ⟨7, .phase⟩, ⟨8, .phase⟩, ⟨9, .phase⟩, ⟨10, .phase⟩, ⟨11, .phase⟩, ⟨12, .phase⟩, ⟨13, .phase⟩, ⟨14, .phase⟩, ⟨15, .phase⟩, ⟨16, .phase⟩], none⟩) (v := ?_) rfl (by kernel_rfl) (by kernel_rfl) (by kernel_rfl) (fun _ _ _ h => h) (Or.inl ⟨by rfl, ?yyC17⟩) hHeld ?rrC17
      case yyC17 => (intro w hSw; (try dsimp only at hSw); go_simp; first | done | with_reducible rfl)
      try simp only [Act.put, putA, putB, putC]
      refine wpAnyH_done (by kernel_rfl) ?_ _
      have hdD : ∀ {Q : Nat → Prop} {d : D} {v : Value}, (∀ x, Q x → w.heap.size ≤ x ∧ x < w2.heap.size) → DIn Q w2 d v → DIn Q w3 d v := fun hQ hd => hd.carry hcur.size (fun b hb _ => hcur.block b (hQ b hb).2 (fun hx => by have := hR _ hx; have := (hQ b hb).1; omega))
      have hdO : ∀ {Q : Nat → Prop} {d : D} {v : Value}, (∀ x, Q x → w.heap.size ≤ x ∧ x < w2.heap.size) → Own w2 d Q v → Own w3 d Q v := fun hQ hd => hd.carry hcur.size (fun b hb _ => hcur.block b (hQ b hb).2 (fun hx => by have := hR _ hx; have := (hQ b hb).1; omega))
      have hs3 := hcur.size
      simp only [World.size_alloc] at DL OL
      have m1 : ∀ x, New (w.heap.size + 1) w1.heap.size x → New w.heap.size w1.heap.size x := fun x hx => ⟨by have := hx.1; omega, hx.2⟩
      have DL' := (hdD (fun x hx => ⟨by have := hx.1; omega, by have := hx.2; omega⟩) (DL.ext hE2)).mono m1
      have OL' := (hdO (fun x hx => ⟨by have := hx.1; omega, by have := hx.2; omega⟩) (OL.ext hE2)).mono m1
      have DP' := (hdD (fun x hx => ⟨by have := hx.1; omega, by have := hx.2; omega⟩) DP)
      have OP' := (hdO (fun x hx => ⟨by have := hx.1; omega, by have := hx.2; omega⟩) OP)
      go_wp2
      go_ret
      refine ⟨ret_bool rfl, N', hN', fun e => ?_, hn, (NStep.ext N hE2'.drew).trans hst⟩
      obtain ⟨v', e2⟩ := hy e
      exact ⟨v', _, _, w1.heap.size, w2.heap.size, e2, ⟨by omega, by omega, by omega⟩, ⟨DL', OL'⟩, ⟨DP', OP'⟩, hst.own⟩
end Go.Proofs.YtacghifhhlgidaaGreat
