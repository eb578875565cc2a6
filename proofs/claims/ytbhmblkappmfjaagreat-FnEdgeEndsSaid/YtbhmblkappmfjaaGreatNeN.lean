/- What the net's method putNode answers. -/
import Derived.Test.YtbhmblkappmfjaaGreatTk
import Derived.Test.YtbhmblkappmfjaaGreatNetD
import Derived.Test.YtbhmblkappmfjaaGreatGPV
import Derived.Deep.AppendLies
import Derived.Deep.Onto
namespace Go.Proofs.YtbhmblkappmfjaaGreat
open Go.RowKit Go.Deep

theorem Chg.cell {R : Nat → Prop} {w w' : World} (h : Chg R w w') {b o : Nat} (h1 : b < w.heap.size) (h2 : ¬ R b) : w'.cell? ⟨b, o, none⟩ = w.cell? ⟨b, o, none⟩ := World.cell?_of_block (h.block b h1 h2)
set_option maxRecDepth 100000 in
set_option maxHeartbeats 4000000 in
theorem netPutNode_any (w : World) (base c : Nat) (N : NetD) (S : Nat → Prop) (id : Int) (dL dP : D) (cL cP : Value) (h : NetIn w base c N) (hid : (Lit.int .i64 id).wf = true) (hc : c ≤ 1000) (hb : base ≤ w.heap.size) (HL : Has dL (.list 0)) (hL : DIn S w dL cL) (HP : Has dP (.list 3)) (hP : DIn S w dP cP) :
    Calls Tryz.prog 26 #[.pointer (some ⟨N.nb, 0, none⟩), .agg #[.int .i64 id, cL, cP]] w fun e w' => e = .returned (.bool (labelsB dL && propsB dP && okPut (N.lists .n) N.nn id)) ∧ ∃ N', NetIn w' base (c + 1) N' ∧
      ((labelsB dL && propsB dP && okPut (N.lists .n) N.nn id) = true → ∃ v' uL uP m m2, N' = (N.push .n v' id).put .n id (.agg #[.int .i64 id, uL, uP]) ∧ (w.heap.size ≤ m ∧ m ≤ m2 ∧ m2 ≤ w'.heap.size) ∧ (DIn (New w.heap.size m) w' dL uL ∧ Own w' dL (New w.heap.size m) uL) ∧ (DIn (New m m2) w' dP uP ∧ Own w' dP (New m m2) uP) ∧ ∀ x, NetR N' x → NetR N x ∨ m2 ≤ x) ∧
      ((labelsB dL && propsB dP && okPut (N.lists .n) N.nn id) = false → N' = N) ∧ NStep w N w' N' := by
  have hlab := fun W (hW : Ext w W) => labelsOf_any dL HL S cL W (hL.ext hW)
  have hprp := fun W (hW : Ext w W) => propsOf_any dP HP S cP W (hP.ext hW)
  obtain ⟨aL, capL, lL, fL, _, rfl, _, _⟩ := list_shape HL hL
  obtain ⟨aP, capP, lP, fP, _, rfl, _, _⟩ := list_shape HP hP
  have hput := fun (W : World) (hW : Ext w W) a1 l1 k1 a2 l2 k2 => putNode_any W base c N id id a1 l1 k1 a2 l2 k2 (h.ext hW) hid hc (Nat.le_trans hb hW.le)
  generalize hlb : labelsB dL = lb at *
  generalize hpb : propsB dP = pb at *
  generalize hob : okPut (N.lists .n) N.nn id = ob at *
  clear hlb hpb hob
  go_enter Tryz.func26, Tryz.ntmps26
  go_wp2_with fail
  refine (hlab _ ((Ext.refl _).alloc _)).mono ?_
  rintro e w1 ⟨a1, l1, k1, rfl, hDL, hcL, hE1⟩
  clear hlab
  have hE1' : Ext w w1 := ((Ext.refl _).alloc _).trans hE1
  have p0 := box_cell hE1 0 _ rfl
  have p1 := box_cell hE1 1 _ rfl
  have p2 := box_cell hE1 2 _ rfl
  go_wp2_with fail
  refine (hprp _ hE1').mono ?_
  rintro e w2 ⟨a2, l2, k2, rfl, hDP, hcP, hE2⟩
  clear hprp
  have q0 : ∀ W, Ext w2 W → W.cell? ⟨w.heap.size, 0, none⟩ = some (.int .i64 id) := fun W hW => box_cell (hE1.trans (hE2.trans hW)) 0 _ rfl
  have hE2' : Ext w w2 := hE1'.trans hE2
  have hz1 : w.heap.size + 1 ≤ w1.heap.size := by have := hE1.le; simpa using this
  have hz2 := hE2.le
  clear p0 p1 p2
  cases lb
  · go_wp2_with fail
    have HK : Hid (∀ W, Ext w2 W → W.cell? ⟨w.heap.size, 0, none⟩ = some (.int .i64 id)) := q0
    have hcur : Ext w2 w2.drew := (Ext.refl _).drew
    refine wp_region_held_drew (S := (fun W => W.cell? ⟨w.heap.size, 0, none⟩ = some (.int .i64 id))) (by kernel_rfl) (HK.out _ hcur) (fun hHeld => ?_)
    refine tkL 0 ⟨some 21, .move (.tmp 6), 4, _, #[], none⟩ ?_ hHeld ?yyA0 ?rrA0
    case yyA0 => (intro w hSw; (try dsimp only at hSw); go_simp; try with_reducible rfl)
    try simp only [Act.put, putA, putB, putC]
    refine tkL 1 ⟨some 22, .move (.tmp 21), 4, _, #[⟨0, .data⟩], none⟩ ?_ hHeld ?yyA1 ?rrA1
    case yyA1 => (intro w hSw; (try dsimp only at hSw); go_simp; try with_reducible rfl)
    try simp only [Act.put, putA, putB, putC]
    refine tkR 2 ⟨some 23, .move (.tmp 8), 4, _, #[⟨1, .guard⟩], some (1, true)⟩ hHeld ?_
    try simp only [Act.put, putA, putB, putC]
    refine tkL 3 ⟨some 24, .pick (.tmp 22) (.tmp 23) (.const (.bool false)), 4, _, #[⟨1, .data⟩, ⟨2, .data⟩], none⟩ ?_ hHeld ?yyA3 ?rrA3
    case yyA3 => (intro w hSw; (try dsimp only at hSw); go_simp; try with_reducible rfl)
    try simp only [Act.put, putA, putB, putC]
    refine tkL 4 ⟨some 25, .move (.tmp 24), 4, _, #[⟨3, .data⟩, ⟨1, .chain⟩], none⟩ ?_ hHeld ?yyA4 ?rrA4
    case yyA4 => (intro w hSw; (try dsimp only at hSw); go_simp; try with_reducible rfl)
    try simp only [Act.put, putA, putB, putC]
    refine tkR 5 ⟨some 26, .move (.tmp 0), 39, _, #[⟨4, .guard⟩], some (4, true)⟩ hHeld ?_
    try simp only [Act.put, putA, putB, putC]
    refine tkR 6 ⟨some 27, .nilCheck (.tmp 26), 0, _, #[⟨5, .data⟩, ⟨4, .guard⟩], some (4, true)⟩ hHeld ?_
    try simp only [Act.put, putA, putB, putC]
    refine tkR 7 ⟨some 28, .fieldAddr 68 (.tmp 27) 0, 0, _, #[⟨6, .data⟩, ⟨4, .guard⟩], some (4, true)⟩ hHeld ?_
    try simp only [Act.put, putA, putB, putC]
    refine tkR 8 ⟨some 29, .fieldAddr 34 (.tmp 3) 0, 0, _, #[⟨4, .guard⟩], some (4, true)⟩ hHeld ?_
    try simp only [Act.put, putA, putB, putC]
    refine tkR 9 ⟨some 30, .load 3 (.tmp 29), 3, _, #[⟨8, .data⟩, ⟨4, .guard⟩], some (4, true)⟩ hHeld ?_
    try simp only [Act.put, putA, putB, putC]
    refine tkR 10 ⟨some 31, .fieldAddr 34 (.tmp 3) 0, 0, _, #[⟨4, .guard⟩], some (4, true)⟩ hHeld ?_
    try simp only [Act.put, putA, putB, putC]
    refine tkR 11 ⟨some 32, .load 3 (.tmp 31), 3, _, #[⟨10, .data⟩, ⟨4, .guard⟩], some (4, true)⟩ hHeld ?_
    try simp only [Act.put, putA, putB, putC]
    refine tkR 12 ⟨some 33, .move (.tmp 5), 31, _, #[⟨4, .guard⟩], some (4, true)⟩ hHeld ?_
    try simp only [Act.put, putA, putB, putC]
    refine tkR 13 ⟨some 34, .move (.tmp 7), 32, _, #[⟨4, .guard⟩], some (4, true)⟩ hHeld ?_
    try simp only [Act.put, putA, putB, putC]
    refine tkR 14 ⟨some 35, .build 34 #[(0, .tmp 32), (1, .tmp 33), (2, .tmp 34)], 34, _, #[⟨11, .data⟩, ⟨12, .data⟩, ⟨13, .data⟩, ⟨4, .guard⟩], some (4, true)⟩ hHeld ?_
    try simp only [Act.put, putA, putB, putC]
    refine wpAnyH_ready (rs := [15]) (by kernel_rfl) (by simp) ?_
    refine AllReadyH.cons (o := ⟨some 36, .call { callee := .value (.func 45), args := #[.tmp 28, .tmp 30, .tmp 35], argTypes := #[60, 3, 34] }, 4, _, #[⟨7, .data⟩, ⟨9, .data⟩, ⟨14, .data⟩, ⟨4, .chain⟩, ⟨4, .guard⟩], some (4, true)⟩) rfl (fun K hK => ?_) AllReadyH.nil
    rw [if_neg (by simp [Region.wanted, yielded])]
    refine hK.out _ _ hHeld (fun hHeld => ?_)
    clear hK K
    try simp only [Act.put, putA, putB, putC]
    refine tkL 16 ⟨some 37, .pick (.tmp 25) (.tmp 36) (.const (.bool false)), 4, _, #[⟨4, .data⟩, ⟨15, .data⟩], none⟩ ?_ hHeld ?yyA16 ?rrA16
    case yyA16 => (intro w hSw; (try dsimp only at hSw); go_simp; try with_reducible rfl)
    try simp only [Act.put, putA, putB, putC]
    refine tkL 17 ⟨some 4, .assign (.tmp 37), 4, _, #[⟨16, .data⟩, ⟨15, .chain⟩, ⟨0, .phase⟩, ⟨1, .phase⟩, ⟨2, .phase⟩, ⟨3, .phase⟩, ⟨4, .phase⟩, ⟨5, .phase⟩, ⟨6, .phase⟩, ⟨7, .phase⟩, ⟨8, .phase⟩, ⟨9, .phase⟩, ⟨10, .phase⟩, ⟨11, .phase⟩, ⟨12, .phase⟩, ⟨13, .phase⟩, ⟨14, .phase⟩, ⟨15, .phase⟩, ⟨16, .phase⟩], none⟩ ?_ hHeld ?yyA17 ?rrA17
    case yyA17 => (intro w hSw; (try dsimp only at hSw); go_simp; try with_reducible rfl)
    try simp only [Act.put, putA, putB, putC]
    refine wpAnyH_done (by kernel_rfl) ?_ _
    go_wp2
    go_ret
    exact ⟨ret_bool rfl, N, (h.ext (hE2'.trans hcur)).mono (by omega), fun e => (by cases e), fun _ => rfl, NStep.ext N (hE2'.trans hcur)⟩
  · cases pb
    · go_wp2_with fail
      have HK : Hid (∀ W, Ext w2 W → W.cell? ⟨w.heap.size, 0, none⟩ = some (.int .i64 id)) := q0
      have hcur : Ext w2 w2.drew := (Ext.refl _).drew
      refine wp_region_held_drew (S := (fun W => W.cell? ⟨w.heap.size, 0, none⟩ = some (.int .i64 id))) (by kernel_rfl) (HK.out _ hcur) (fun hHeld => ?_)
      refine tkL 0 ⟨some 21, .move (.tmp 6), 4, _, #[], none⟩ ?_ hHeld ?yyB0 ?rrB0
      case yyB0 => (intro w hSw; (try dsimp only at hSw); go_simp; try with_reducible rfl)
      try simp only [Act.put, putA, putB, putC]
      refine tkL 1 ⟨some 22, .move (.tmp 21), 4, _, #[⟨0, .data⟩], none⟩ ?_ hHeld ?yyB1 ?rrB1
      case yyB1 => (intro w hSw; (try dsimp only at hSw); go_simp; try with_reducible rfl)
      try simp only [Act.put, putA, putB, putC]
      refine tkL 2 ⟨some 23, .move (.tmp 8), 4, _, #[⟨1, .guard⟩], some (1, true)⟩ ?_ hHeld ?yyB2 ?rrB2
      case yyB2 => (intro w hSw; (try dsimp only at hSw); go_simp; try with_reducible rfl)
      try simp only [Act.put, putA, putB, putC]
      refine tkL 3 ⟨some 24, .pick (.tmp 22) (.tmp 23) (.const (.bool false)), 4, _, #[⟨1, .data⟩, ⟨2, .data⟩], none⟩ ?_ hHeld ?yyB3 ?rrB3
      case yyB3 => (intro w hSw; (try dsimp only at hSw); go_simp; try with_reducible rfl)
      try simp only [Act.put, putA, putB, putC]
      refine tkL 4 ⟨some 25, .move (.tmp 24), 4, _, #[⟨3, .data⟩, ⟨1, .chain⟩], none⟩ ?_ hHeld ?yyB4 ?rrB4
      case yyB4 => (intro w hSw; (try dsimp only at hSw); go_simp; try with_reducible rfl)
      try simp only [Act.put, putA, putB, putC]
      refine tkR 5 ⟨some 26, .move (.tmp 0), 39, _, #[⟨4, .guard⟩], some (4, true)⟩ hHeld ?_
      try simp only [Act.put, putA, putB, putC]
      refine tkR 6 ⟨some 27, .nilCheck (.tmp 26), 0, _, #[⟨5, .data⟩, ⟨4, .guard⟩], some (4, true)⟩ hHeld ?_
      try simp only [Act.put, putA, putB, putC]
      refine tkR 7 ⟨some 28, .fieldAddr 68 (.tmp 27) 0, 0, _, #[⟨6, .data⟩, ⟨4, .guard⟩], some (4, true)⟩ hHeld ?_
      try simp only [Act.put, putA, putB, putC]
      refine tkR 8 ⟨some 29, .fieldAddr 34 (.tmp 3) 0, 0, _, #[⟨4, .guard⟩], some (4, true)⟩ hHeld ?_
      try simp only [Act.put, putA, putB, putC]
      refine tkR 9 ⟨some 30, .load 3 (.tmp 29), 3, _, #[⟨8, .data⟩, ⟨4, .guard⟩], some (4, true)⟩ hHeld ?_
      try simp only [Act.put, putA, putB, putC]
      refine tkR 10 ⟨some 31, .fieldAddr 34 (.tmp 3) 0, 0, _, #[⟨4, .guard⟩], some (4, true)⟩ hHeld ?_
      try simp only [Act.put, putA, putB, putC]
      refine tkR 11 ⟨some 32, .load 3 (.tmp 31), 3, _, #[⟨10, .data⟩, ⟨4, .guard⟩], some (4, true)⟩ hHeld ?_
      try simp only [Act.put, putA, putB, putC]
      refine tkR 12 ⟨some 33, .move (.tmp 5), 31, _, #[⟨4, .guard⟩], some (4, true)⟩ hHeld ?_
      try simp only [Act.put, putA, putB, putC]
      refine tkR 13 ⟨some 34, .move (.tmp 7), 32, _, #[⟨4, .guard⟩], some (4, true)⟩ hHeld ?_
      try simp only [Act.put, putA, putB, putC]
      refine tkR 14 ⟨some 35, .build 34 #[(0, .tmp 32), (1, .tmp 33), (2, .tmp 34)], 34, _, #[⟨11, .data⟩, ⟨12, .data⟩, ⟨13, .data⟩, ⟨4, .guard⟩], some (4, true)⟩ hHeld ?_
      try simp only [Act.put, putA, putB, putC]
      refine wpAnyH_ready (rs := [15]) (by kernel_rfl) (by simp) ?_
      refine AllReadyH.cons (o := ⟨some 36, .call { callee := .value (.func 45), args := #[.tmp 28, .tmp 30, .tmp 35], argTypes := #[60, 3, 34] }, 4, _, #[⟨7, .data⟩, ⟨9, .data⟩, ⟨14, .data⟩, ⟨4, .chain⟩, ⟨4, .guard⟩], some (4, true)⟩) rfl (fun K hK => ?_) AllReadyH.nil
      rw [if_neg (by simp [Region.wanted, yielded])]
      refine hK.out _ _ hHeld (fun hHeld => ?_)
      clear hK K
      try simp only [Act.put, putA, putB, putC]
      refine tkL 16 ⟨some 37, .pick (.tmp 25) (.tmp 36) (.const (.bool false)), 4, _, #[⟨4, .data⟩, ⟨15, .data⟩], none⟩ ?_ hHeld ?yyB16 ?rrB16
      case yyB16 => (intro w hSw; (try dsimp only at hSw); go_simp; try with_reducible rfl)
      try simp only [Act.put, putA, putB, putC]
      refine tkL 17 ⟨some 4, .assign (.tmp 37), 4, _, #[⟨16, .data⟩, ⟨15, .chain⟩, ⟨0, .phase⟩, ⟨1, .phase⟩, ⟨2, .phase⟩, ⟨3, .phase⟩, ⟨4, .phase⟩, ⟨5, .phase⟩, ⟨6, .phase⟩, ⟨7, .phase⟩, ⟨8, .phase⟩, ⟨9, .phase⟩, ⟨10, .phase⟩, ⟨11, .phase⟩, ⟨12, .phase⟩, ⟨13, .phase⟩, ⟨14, .phase⟩, ⟨15, .phase⟩, ⟨16, .phase⟩], none⟩ ?_ hHeld ?yyB17 ?rrB17
      case yyB17 => (intro w hSw; (try dsimp only at hSw); go_simp; try with_reducible rfl)
      try simp only [Act.put, putA, putB, putC]
      refine wpAnyH_done (by kernel_rfl) ?_ _
      go_wp2
      go_ret
      exact ⟨ret_bool rfl, N, (h.ext (hE2'.trans hcur)).mono (by omega), fun e => (by cases e), fun _ => rfl, NStep.ext N (hE2'.trans hcur)⟩
    · obtain ⟨DL, OL⟩ := hDL rfl
      obtain ⟨DP, OP⟩ := hDP rfl
      clear hDL hDP
      go_wp2_with fail
      have hR : ∀ x, NetR N x → x < w.heap.size := fun x hx => (NetR.lt h hx).2
      have HK : Hid (∀ W, Chg (NetR N) w2 W → W.cell? ⟨w.heap.size, 0, none⟩ = some (.int .i64 id)) := fun W hW => by rw [hW.cell (by omega) (fun hx => by have := hR _ hx; omega)]; exact q0 _ (Ext.refl _)
      have hcur : Chg (NetR N) w2 w2.drew := Chg.of_ext (Ext.refl _).drew
      refine wp_region_held_drew (S := (fun W => W.cell? ⟨w.heap.size, 0, none⟩ = some (.int .i64 id))) (by kernel_rfl) (HK.out _ hcur) (fun hHeld => ?_)
      refine tkL 0 ⟨some 21, .move (.tmp 6), 4, _, #[], none⟩ ?_ hHeld ?yyC0 ?rrC0
      case yyC0 => (intro w hSw; (try dsimp only at hSw); go_simp; try with_reducible rfl)
      try simp only [Act.put, putA, putB, putC]
      refine tkL 1 ⟨some 22, .move (.tmp 21), 4, _, #[⟨0, .data⟩], none⟩ ?_ hHeld ?yyC1 ?rrC1
      case yyC1 => (intro w hSw; (try dsimp only at hSw); go_simp; try with_reducible rfl)
      try simp only [Act.put, putA, putB, putC]
      refine tkL 2 ⟨some 23, .move (.tmp 8), 4, _, #[⟨1, .guard⟩], some (1, true)⟩ ?_ hHeld ?yyC2 ?rrC2
      case yyC2 => (intro w hSw; (try dsimp only at hSw); go_simp; try with_reducible rfl)
      try simp only [Act.put, putA, putB, putC]
      refine tkL 3 ⟨some 24, .pick (.tmp 22) (.tmp 23) (.const (.bool false)), 4, _, #[⟨1, .data⟩, ⟨2, .data⟩], none⟩ ?_ hHeld ?yyC3 ?rrC3
      case yyC3 => (intro w hSw; (try dsimp only at hSw); go_simp; try with_reducible rfl)
      try simp only [Act.put, putA, putB, putC]
      refine tkL 4 ⟨some 25, .move (.tmp 24), 4, _, #[⟨3, .data⟩, ⟨1, .chain⟩], none⟩ ?_ hHeld ?yyC4 ?rrC4
      case yyC4 => (intro w hSw; (try dsimp only at hSw); go_simp; try with_reducible rfl)
      try simp only [Act.put, putA, putB, putC]
      refine tkL 5 ⟨some 26, .move (.tmp 0), 39, _, #[⟨4, .guard⟩], some (4, true)⟩ ?_ hHeld ?yyC5 ?rrC5
      case yyC5 => (intro w hSw; (try dsimp only at hSw); go_simp; try with_reducible rfl)
      try simp only [Act.put, putA, putB, putC]
      refine tkL 6 ⟨some 27, .nilCheck (.tmp 26), 0, _, #[⟨5, .data⟩, ⟨4, .guard⟩], some (4, true)⟩ ?_ hHeld ?yyC6 ?rrC6
      case yyC6 => (intro w hSw; (try dsimp only at hSw); go_simp; try with_reducible rfl)
      try simp only [Act.put, putA, putB, putC]
      refine tkL 7 ⟨some 28, .fieldAddr 68 (.tmp 27) 0, 0, _, #[⟨6, .data⟩, ⟨4, .guard⟩], some (4, true)⟩ ?_ hHeld ?yyC7 ?rrC7
      case yyC7 => (intro w hSw; (try dsimp only at hSw); go_simp; try with_reducible rfl)
      try simp only [Act.put, putA, putB, putC]
      refine tkL 8 ⟨some 29, .fieldAddr 34 (.tmp 3) 0, 0, _, #[⟨4, .guard⟩], some (4, true)⟩ ?_ hHeld ?yyC8 ?rrC8
      case yyC8 => (intro w hSw; (try dsimp only at hSw); go_simp; try with_reducible rfl)
      try simp only [Act.put, putA, putB, putC]
      refine tkL 9 ⟨some 30, .load 3 (.tmp 29), 3, _, #[⟨8, .data⟩, ⟨4, .guard⟩], some (4, true)⟩ ?_ hHeld ?yyC9 ?rrC9
      case yyC9 => (intro w hSw; (try dsimp only at hSw); go_simp; try with_reducible rfl)
      try simp only [Act.put, putA, putB, putC]
      refine tkL 10 ⟨some 31, .fieldAddr 34 (.tmp 3) 0, 0, _, #[⟨4, .guard⟩], some (4, true)⟩ ?_ hHeld ?yyC10 ?rrC10
      case yyC10 => (intro w hSw; (try dsimp only at hSw); go_simp; try with_reducible rfl)
      try simp only [Act.put, putA, putB, putC]
      refine tkL 11 ⟨some 32, .load 3 (.tmp 31), 3, _, #[⟨10, .data⟩, ⟨4, .guard⟩], some (4, true)⟩ ?_ hHeld ?yyC11 ?rrC11
      case yyC11 => (intro w hSw; (try dsimp only at hSw); go_simp; try with_reducible rfl)
      try simp only [Act.put, putA, putB, putC]
      refine tkL 12 ⟨some 33, .move (.tmp 5), 31, _, #[⟨4, .guard⟩], some (4, true)⟩ ?_ hHeld ?yyC12 ?rrC12
      case yyC12 => (intro w hSw; (try dsimp only at hSw); go_simp; try with_reducible rfl)
      try simp only [Act.put, putA, putB, putC]
      refine tkL 13 ⟨some 34, .move (.tmp 7), 32, _, #[⟨4, .guard⟩], some (4, true)⟩ ?_ hHeld ?yyC13 ?rrC13
      case yyC13 => (intro w hSw; (try dsimp only at hSw); go_simp; try with_reducible rfl)
      try simp only [Act.put, putA, putB, putC]
      refine tkL 14 ⟨some 35, .build 34 #[(0, .tmp 32), (1, .tmp 33), (2, .tmp 34)], 34, _, #[⟨11, .data⟩, ⟨12, .data⟩, ⟨13, .data⟩, ⟨4, .guard⟩], some (4, true)⟩ ?_ hHeld ?yyC14 ?rrC14
      case yyC14 => (intro w hSw; (try dsimp only at hSw); go_simp; try with_reducible rfl)
      try simp only [Act.put, putA, putB, putC]
      refine wpAnyH_ready (rs := [15]) (by kernel_rfl) (by simp) ?_
      refine AllReadyH.cons (o := ⟨some 36, .call { callee := .value (.func 45), args := #[.tmp 28, .tmp 30, .tmp 35], argTypes := #[60, 3, 34] }, 4, _, #[⟨7, .data⟩, ⟨9, .data⟩, ⟨14, .data⟩, ⟨4, .chain⟩, ⟨4, .guard⟩], some (4, true)⟩) rfl (fun K hK => ?_) AllReadyH.nil
      go_simp
      refine (hput _ (hE2'.drew) _ _ _ _ _ _ (by first | exact hcL rfl | exact hcL trivial) (by first | exact hcP rfl | exact hcP trivial)).mono ?_
      rintro e w3 ⟨rfl, N', hN', hy, hn, hst⟩
      replace hcur := hcur.trans hst.chg
      go_wp2_with fail
      refine hK.out _ _ (HK.out _ hcur) (fun hHeld => ?_)
      clear hK K
      try simp only [Act.put, putA, putB, putC]
      refine tkL 16 ⟨some 37, .pick (.tmp 25) (.tmp 36) (.const (.bool false)), 4, _, #[⟨4, .data⟩, ⟨15, .data⟩], none⟩ ?_ hHeld ?yyC16 ?rrC16
      case yyC16 => (intro w hSw; (try dsimp only at hSw); go_simp; try with_reducible rfl)
      try simp only [Act.put, putA, putB, putC]
      refine tkL 17 ⟨some 4, .assign (.tmp 37), 4, _, #[⟨16, .data⟩, ⟨15, .chain⟩, ⟨0, .phase⟩, ⟨1, .phase⟩, ⟨2, .phase⟩, ⟨3, .phase⟩, ⟨4, .phase⟩, ⟨5, .phase⟩, ⟨6, .phase⟩, ⟨7, .phase⟩, ⟨8, .phase⟩, ⟨9, .phase⟩, ⟨10, .phase⟩, ⟨11, .phase⟩, ⟨12, .phase⟩, ⟨13, .phase⟩, ⟨14, .phase⟩, ⟨15, .phase⟩, ⟨16, .phase⟩], none⟩ ?_ hHeld ?yyC17 ?rrC17
      case yyC17 => (intro w hSw; (try dsimp only at hSw); go_simp; try with_reducible rfl)
      try simp only [Act.put, putA, putB, putC]
      refine wpAnyH_done (by kernel_rfl) ?_ _
      have hdD : ∀ {Q : Nat → Prop} {d : D} {v : Value}, (∀ x, Q x → w.heap.size ≤ x ∧ x < w2.heap.size) → DIn Q w2 d v → DIn Q w3 d v := fun hQ hd => hd.carry hcur.size (fun b hb _ => hcur.block b (hQ b hb).2 (fun hx => by have := hR _ hx; have := (hQ b hb).1; omega))
      have hdO : ∀ {Q : Nat → Prop} {d : D} {v : Value}, (∀ x, Q x → w.heap.size ≤ x ∧ x < w2.heap.size) → Own w2 d Q v → Own w3 d Q v := fun hQ hd => hd.carry hcur.size (fun b hb _ => hcur.block b (hQ b hb).2 (fun hx => by have := hR _ hx; have := (hQ b hb).1; omega))
      have hs3 := hcur.size
      simp only [World.size_alloc] at DL OL
      have m1 : ∀ x, New (w.heap.size + 1) w1.heap.size x → New w.heap.size w1.heap.size x := fun x hx => ⟨by have := hx.1; omega, hx.2⟩
      have DL' := (hdD (fun x hx => ⟨by have := hx.1; omega, by have := hx.2; omega⟩) (DL.ext hE2)).mono m1
      have OL' := (hdO (fun x hx => ⟨by have := hx.1; omega, by have := hx.2; omega⟩) (OL.ext hE2)).mono m1
      have DP' := (hdD (fun x hx => ⟨by have := hx.1; omega, by have := hx.2; omega⟩) DP)
      have OP' := (hdO (fun x hx => ⟨by have := hx.1; omega, by have := hx.2; omega⟩) OP)
      go_wp2
      go_ret
      refine ⟨ret_bool rfl, N', hN', fun e => ?_, hn, (NStep.ext N hE2'.drew).trans hst⟩
      obtain ⟨v', e2⟩ := hy e
      exact ⟨v', _, _, w1.heap.size, w2.heap.size, e2, ⟨by omega, by omega, by omega⟩, ⟨DL', OL'⟩, ⟨DP', OP'⟩, hst.own⟩
end Go.Proofs.YtbhmblkappmfjaaGreat

/- What the net's method putEdge answers. -/
namespace Go.Proofs.YtbhmblkappmfjaaGreat
open Go.RowKit Go.Deep
open Go.ChangeMaps (setBlock)

set_option maxRecDepth 100000 in
set_option maxHeartbeats 8000000 in
theorem netPutEdge_any (w : World) (base c : Nat) (N : NetD) (S : Nat → Prop) (id : Int) (kind : ByteArray) (x y : Int) (dP : D) (cP : Value) (h : NetIn w base c N) (hid : (Lit.int .i64 id).wf = true) (xwf : (Lit.int .i64 x).wf = true) (ywf : (Lit.int .i64 y).wf = true) (hks : kind.size ≤ maxLen) (hc : c ≤ 900) (hb : base ≤ w.heap.size) (HP : Has dP (.list 3)) (hP : DIn S w dP cP) :
    Calls Tryz.prog 27 #[.pointer (some ⟨N.nb, 0, none⟩), .agg #[.int .i64 id, .string kind, .int .i64 x, .int .i64 y, cP]] w fun e w' => e = .returned (.bool (propsB dP && nameB kind && decide (x ∈ N.keys .n) && decide (y ∈ N.keys .n) && okPut (N.lists .e) N.ne id)) ∧ ∃ N', NetIn w' base (c + 3) N' ∧
      ((propsB dP && nameB kind && decide (x ∈ N.keys .n) && decide (y ∈ N.keys .n) && okPut (N.lists .e) N.ne id) = true → ∃ v' uP vo vi m, N' = ((((((N.push .e v' id).put .e id (.agg #[.int .i64 id, .string kind, .int .i64 x, .int .i64 y, uP])).push (.o x) vo id).put .o x vo).push (.i y) vi id).put .i y vi) ∧ w.heap.size ≤ m ∧ m ≤ w'.heap.size ∧ (DIn (New w.heap.size m) w' dP uP ∧ Own w' dP (New w.heap.size m) uP) ∧ ∀ z, NetR N' z → NetR N z ∨ m ≤ z) ∧
      ((propsB dP && nameB kind && decide (x ∈ N.keys .n) && decide (y ∈ N.keys .n) && okPut (N.lists .e) N.ne id) = false → N' = N) ∧ NStep w N w' N' := by
  have hprp := fun W (hW : Ext w W) => propsOf_any dP HP S cP W (hP.ext hW)
  obtain ⟨aP, capP, lP, fP, _, rfl, _, _⟩ := list_shape HP hP
  have hput := fun (W : World) (hW : Ext w W) a2 l2 k2 => putEdge_any W base c N id id kind x y a2 l2 k2 (h.ext hW) hid (by omega) (Nat.le_trans hb hW.le)
  have hhx := fun (W : World) (hW : Ext w W) => hasNode_any W base c N x (h.ext hW) xwf
  have hhy := fun (W : World) (hW : Ext w W) => hasNode_any W base c N y (h.ext hW) ywf
  obtain ⟨i0, hi, hz0, hz1, hz2⟩ := info_parts Tryz.infoI
  generalize hpb : propsB dP = pb at *
  generalize hxb : decide (x ∈ N.keys .n) = xb at *
  generalize hyb : decide (y ∈ N.keys .n) = yb at *
  generalize hob : okPut (N.lists .e) N.ne id = ob at *
  clear hpb hxb hyb hob
  go_enter Tryz.func27, Tryz.ntmps27
  go_wp2_with fail
  refine (hprp _ ((Ext.refl _).alloc _)).mono ?_
  rintro e w1 ⟨a2, l2, k2, rfl, hDP, hcP, hE1⟩
  clear hprp
  have hE1' : Ext w w1 := ((Ext.refl _).alloc _).trans hE1
  have hz1' : w.heap.size + 1 ≤ w1.heap.size := by have := hE1.le; simpa using this
  have hbx : ∀ W, Ext w1 W → W.cell? ⟨w.heap.size, 1, none⟩ = some (.string kind) ∧ W.cell? ⟨w.heap.size, 2, none⟩ = some (.int .i64 x) ∧ W.cell? ⟨w.heap.size, 3, none⟩ = some (.int .i64 y) := fun W hW => by exact ⟨box_cell (hE1.trans hW) 1 _ rfl, box_cell (hE1.trans hW) 2 _ rfl, box_cell (hE1.trans hW) 3 _ rfl⟩
  have hbx0 : ∀ W, Ext w1 W → W.cell? ⟨w.heap.size, 0, none⟩ = some (.int .i64 id) ∧ W.cell? ⟨w.heap.size, 4, none⟩ = some (.slice aP lP capP) ∧ ∀ o, W.frozen? ⟨w.heap.size, o, none⟩ = false := fun W hW => by
    exact ⟨box_cell (hE1.trans hW) 0 _ rfl, box_cell (hE1.trans hW) 4 _ rfl, fun o => by rw [(bcell (hE1.trans hW)).2 _ _ (by simp)]; simp⟩
  replace hhx := fun (W : World) (hW : Ext w1 W) => hhx W (hE1'.trans hW)
  replace hhy := fun (W : World) (hW : Ext w1 W) => hhy W (hE1'.trans hW)
  generalize hnm : nameB kind = nm
  cases pb
  · go_wp2_with fail
    have HK : Hid (∀ W, Ext w1 W → W.cell? ⟨w.heap.size, 1, none⟩ = some (.string kind) ∧ W.cell? ⟨w.heap.size, 2, none⟩ = some (.int .i64 x) ∧ W.cell? ⟨w.heap.size, 3, none⟩ = some (.int .i64 y)) := hbx
    have hcur : Ext w1 w1.drew := (Ext.refl _).drew
    refine wp_region_held_drew (S := (fun W => W.cell? ⟨w.heap.size, 1, none⟩ = some (.string kind) ∧ W.cell? ⟨w.heap.size, 2, none⟩ = some (.int .i64 x) ∧ W.cell? ⟨w.heap.size, 3, none⟩ = some (.int .i64 y))) (by kernel_rfl) (HK.out _ hcur) (fun hHeld => ?_)
    refine tkL 0 ⟨some 13, .move (.tmp 6), 4, _, #[], none⟩ ?_ hHeld ?yyA0 ?rrA0
    case yyA0 => (intro w hSw; (try dsimp only at hSw); go_simp; try with_reducible rfl)
    try simp only [Act.put, putA, putB, putC]
    refine tkL 1 ⟨some 14, .unOp .not 4 (.tmp 13), 4, _, #[⟨0, .data⟩], none⟩ ?_ hHeld ?yyA1 ?rrA1
    case yyA1 => (intro w hSw; (try dsimp only at hSw); go_simp; try with_reducible rfl)
    try simp only [Act.put, putA, putB, putC]
    refine tkL 2 ⟨some 15, .move (.tmp 14), 4, _, #[⟨1, .data⟩], none⟩ ?_ hHeld ?yyA2 ?rrA2
    case yyA2 => (intro w hSw; (try dsimp only at hSw); go_simp; try with_reducible rfl)
    try simp only [Act.put, putA, putB, putC]
    refine tkR 3 ⟨some 16, .fieldAddr 46 (.tmp 3) 1, 0, _, #[⟨2, .guard⟩], some (2, false)⟩ hHeld ?_
    try simp only [Act.put, putA, putB, putC]
    refine tkR 4 ⟨some 17, .load 9 (.tmp 16), 9, _, #[⟨3, .data⟩, ⟨2, .guard⟩], some (2, false)⟩ hHeld ?_
    try simp only [Act.put, putA, putB, putC]
    refine wpAnyH_ready (rs := [5]) (by kernel_rfl) (by simp) ?_
    refine AllReadyH.cons (o := ⟨some 18, .call { callee := .value (.func 46), args := #[.tmp 17], argTypes := #[9] }, 4, _, #[⟨4, .data⟩, ⟨2, .chain⟩, ⟨2, .guard⟩], some (2, false)⟩) rfl (fun K hK => ?_) AllReadyH.nil
    rw [if_neg (by simp [Region.wanted, yielded])]
    refine hK.out _ _ hHeld (fun hHeld => ?_)
    clear hK K
    try simp only [Act.put, putA, putB, putC]
    refine tkR 6 ⟨some 19, .unOp .not 4 (.tmp 18), 4, _, #[⟨5, .data⟩, ⟨2, .guard⟩], some (2, false)⟩ hHeld ?_
    try simp only [Act.put, putA, putB, putC]
    refine tkL 7 ⟨some 20, .pick (.tmp 15) (.const (.bool true)) (.tmp 19), 4, _, #[⟨2, .data⟩, ⟨6, .data⟩], none⟩ ?_ hHeld ?yyA7 ?rrA7
    case yyA7 => (intro w hSw; (try dsimp only at hSw); go_simp; try with_reducible rfl)
    try simp only [Act.put, putA, putB, putC]
    refine tkL 8 ⟨some 21, .move (.tmp 20), 4, _, #[⟨7, .data⟩, ⟨5, .chain⟩], none⟩ ?_ hHeld ?yyA8 ?rrA8
    case yyA8 => (intro w hSw; (try dsimp only at hSw); go_simp; try with_reducible rfl)
    try simp only [Act.put, putA, putB, putC]
    refine tkR 9 ⟨some 22, .move (.tmp 0), 39, _, #[⟨8, .guard⟩], some (8, false)⟩ hHeld ?_
    try simp only [Act.put, putA, putB, putC]
    refine tkR 10 ⟨some 23, .nilCheck (.tmp 22), 0, _, #[⟨9, .data⟩, ⟨8, .guard⟩], some (8, false)⟩ hHeld ?_
    try simp only [Act.put, putA, putB, putC]
    refine tkR 11 ⟨some 24, .fieldAddr 68 (.tmp 23) 0, 0, _, #[⟨10, .data⟩, ⟨8, .guard⟩], some (8, false)⟩ hHeld ?_
    try simp only [Act.put, putA, putB, putC]
    refine tkR 12 ⟨some 25, .fieldAddr 46 (.tmp 3) 2, 0, _, #[⟨8, .guard⟩], some (8, false)⟩ hHeld ?_
    try simp only [Act.put, putA, putB, putC]
    refine tkR 13 ⟨some 26, .load 3 (.tmp 25), 3, _, #[⟨12, .data⟩, ⟨8, .guard⟩], some (8, false)⟩ hHeld ?_
    try simp only [Act.put, putA, putB, putC]
    refine wpAnyH_ready (rs := [14]) (by kernel_rfl) (by simp) ?_
    refine AllReadyH.cons (o := ⟨some 27, .call { callee := .value (.func 47), args := #[.tmp 24, .tmp 26], argTypes := #[60, 3] }, 4, _, #[⟨11, .data⟩, ⟨13, .data⟩, ⟨8, .chain⟩, ⟨8, .guard⟩], some (8, false)⟩) rfl (fun K hK => ?_) AllReadyH.nil
    rw [if_neg (by simp [Region.wanted, yielded])]
    refine hK.out _ _ hHeld (fun hHeld => ?_)
    clear hK K
    try simp only [Act.put, putA, putB, putC]
    refine tkR 15 ⟨some 28, .unOp .not 4 (.tmp 27), 4, _, #[⟨14, .data⟩, ⟨8, .guard⟩], some (8, false)⟩ hHeld ?_
    try simp only [Act.put, putA, putB, putC]
    refine tkL 16 ⟨some 29, .pick (.tmp 21) (.const (.bool true)) (.tmp 28), 4, _, #[⟨8, .data⟩, ⟨15, .data⟩], none⟩ ?_ hHeld ?yyA16 ?rrA16
    case yyA16 => (intro w hSw; (try dsimp only at hSw); go_simp; try with_reducible rfl)
    try simp only [Act.put, putA, putB, putC]
    refine tkL 17 ⟨some 30, .move (.tmp 29), 4, _, #[⟨16, .data⟩, ⟨14, .chain⟩], none⟩ ?_ hHeld ?yyA17 ?rrA17
    case yyA17 => (intro w hSw; (try dsimp only at hSw); go_simp; try with_reducible rfl)
    try simp only [Act.put, putA, putB, putC]
    refine tkR 18 ⟨some 31, .move (.tmp 0), 39, _, #[⟨17, .guard⟩], some (17, false)⟩ hHeld ?_
    try simp only [Act.put, putA, putB, putC]
    refine tkR 19 ⟨some 32, .nilCheck (.tmp 31), 0, _, #[⟨18, .data⟩, ⟨17, .guard⟩], some (17, false)⟩ hHeld ?_
    try simp only [Act.put, putA, putB, putC]
    refine tkR 20 ⟨some 33, .fieldAddr 68 (.tmp 32) 0, 0, _, #[⟨19, .data⟩, ⟨17, .guard⟩], some (17, false)⟩ hHeld ?_
    try simp only [Act.put, putA, putB, putC]
    refine tkR 21 ⟨some 34, .fieldAddr 46 (.tmp 3) 3, 0, _, #[⟨17, .guard⟩], some (17, false)⟩ hHeld ?_
    try simp only [Act.put, putA, putB, putC]
    refine tkR 22 ⟨some 35, .load 3 (.tmp 34), 3, _, #[⟨21, .data⟩, ⟨17, .guard⟩], some (17, false)⟩ hHeld ?_
    try simp only [Act.put, putA, putB, putC]
    refine wpAnyH_ready (rs := [23]) (by kernel_rfl) (by simp) ?_
    refine AllReadyH.cons (o := ⟨some 36, .call { callee := .value (.func 47), args := #[.tmp 33, .tmp 35], argTypes := #[60, 3] }, 4, _, #[⟨20, .data⟩, ⟨22, .data⟩, ⟨17, .chain⟩, ⟨17, .guard⟩], some (17, false)⟩) rfl (fun K hK => ?_) AllReadyH.nil
    rw [if_neg (by simp [Region.wanted, yielded])]
    refine hK.out _ _ hHeld (fun hHeld => ?_)
    clear hK K
    try simp only [Act.put, putA, putB, putC]
    refine tkR 24 ⟨some 37, .unOp .not 4 (.tmp 36), 4, _, #[⟨23, .data⟩, ⟨17, .guard⟩], some (17, false)⟩ hHeld ?_
    try simp only [Act.put, putA, putB, putC]
    refine tkL 25 ⟨some 38, .pick (.tmp 30) (.const (.bool true)) (.tmp 37), 4, _, #[⟨17, .data⟩, ⟨24, .data⟩], none⟩ ?_ hHeld ?yyA25 ?rrA25
    case yyA25 => (intro w hSw; (try dsimp only at hSw); go_simp; try with_reducible rfl)
    try simp only [Act.put, putA, putB, putC]
    refine wpAnyH_done (by kernel_rfl) ?_ _
    go_wp2
    go_ret
    exact ⟨ret_bool (by simp [hnm]), N, (h.ext (hE1'.trans hcur)).mono (by omega), fun e => (by simp [hnm] at e), fun _ => rfl, NStep.ext N (hE1'.trans hcur)⟩
  cases nm
  · go_wp2_with fail
    have HK : Hid (∀ W, Ext w1 W → W.cell? ⟨w.heap.size, 1, none⟩ = some (.string kind) ∧ W.cell? ⟨w.heap.size, 2, none⟩ = some (.int .i64 x) ∧ W.cell? ⟨w.heap.size, 3, none⟩ = some (.int .i64 y)) := hbx
    have hcur : Ext w1 w1.drew := (Ext.refl _).drew
    refine wp_region_held_drew (S := (fun W => W.cell? ⟨w.heap.size, 1, none⟩ = some (.string kind) ∧ W.cell? ⟨w.heap.size, 2, none⟩ = some (.int .i64 x) ∧ W.cell? ⟨w.heap.size, 3, none⟩ = some (.int .i64 y))) (by kernel_rfl) (HK.out _ hcur) (fun hHeld => ?_)
    refine tkL 0 ⟨some 13, .move (.tmp 6), 4, _, #[], none⟩ ?_ hHeld ?yyB0 ?rrB0
    case yyB0 => (intro w hSw; (try dsimp only at hSw); go_simp; try with_reducible rfl)
    try simp only [Act.put, putA, putB, putC]
    refine tkL 1 ⟨some 14, .unOp .not 4 (.tmp 13), 4, _, #[⟨0, .data⟩], none⟩ ?_ hHeld ?yyB1 ?rrB1
    case yyB1 => (intro w hSw; (try dsimp only at hSw); go_simp; try with_reducible rfl)
    try simp only [Act.put, putA, putB, putC]
    refine tkL 2 ⟨some 15, .move (.tmp 14), 4, _, #[⟨1, .data⟩], none⟩ ?_ hHeld ?yyB2 ?rrB2
    case yyB2 => (intro w hSw; (try dsimp only at hSw); go_simp; try with_reducible rfl)
    try simp only [Act.put, putA, putB, putC]
    refine tkL 3 ⟨some 16, .fieldAddr 46 (.tmp 3) 1, 0, _, #[⟨2, .guard⟩], some (2, false)⟩ ?_ hHeld ?yyB3 ?rrB3
    case yyB3 => (intro w hSw; (try dsimp only at hSw); go_simp; try with_reducible rfl)
    try simp only [Act.put, putA, putB, putC]
    refine tkL 4 ⟨some 17, .load 9 (.tmp 16), 9, _, #[⟨3, .data⟩, ⟨2, .guard⟩], some (2, false)⟩ ?_ hHeld ?yyB4 ?rrB4
    case yyB4 => (intro w hSw; (try dsimp only at hSw); go_simp; try with_reducible rfl)
    try simp only [Act.put, putA, putB, putC]
    refine wpAnyH_ready (rs := [5]) (by kernel_rfl) (by simp) ?_
    refine AllReadyH.cons (o := ⟨some 18, .call { callee := .value (.func 46), args := #[.tmp 17], argTypes := #[9] }, 4, _, #[⟨4, .data⟩, ⟨2, .chain⟩, ⟨2, .guard⟩], some (2, false)⟩) rfl (fun K hK => ?_) AllReadyH.nil
    go_simp
    refine (implNameOk_any _ _ hks).mono ?_
    rintro e w5 ⟨rfl, hw⟩
    rw [hw, hnm]
    clear hw w5
    go_wp2_with fail
    refine hK.out _ _ (HK.out _ hcur) (fun hHeld => ?_)
    clear hK K
    try simp only [Act.put, putA, putB, putC]
    refine tkL 6 ⟨some 19, .unOp .not 4 (.tmp 18), 4, _, #[⟨5, .data⟩, ⟨2, .guard⟩], some (2, false)⟩ ?_ hHeld ?yyB6 ?rrB6
    case yyB6 => (intro w hSw; (try dsimp only at hSw); go_simp; try with_reducible rfl)
    try simp only [Act.put, putA, putB, putC]
    refine tkL 7 ⟨some 20, .pick (.tmp 15) (.const (.bool true)) (.tmp 19), 4, _, #[⟨2, .data⟩, ⟨6, .data⟩], none⟩ ?_ hHeld ?yyB7 ?rrB7
    case yyB7 => (intro w hSw; (try dsimp only at hSw); go_simp; try with_reducible rfl)
    try simp only [Act.put, putA, putB, putC]
    refine tkL 8 ⟨some 21, .move (.tmp 20), 4, _, #[⟨7, .data⟩, ⟨5, .chain⟩], none⟩ ?_ hHeld ?yyB8 ?rrB8
    case yyB8 => (intro w hSw; (try dsimp only at hSw); go_simp; try with_reducible rfl)
    try simp only [Act.put, putA, putB, putC]
    refine tkR 9 ⟨some 22, .move (.tmp 0), 39, _, #[⟨8, .guard⟩], some (8, false)⟩ hHeld ?_
    try simp only [Act.put, putA, putB, putC]
    refine tkR 10 ⟨some 23, .nilCheck (.tmp 22), 0, _, #[⟨9, .data⟩, ⟨8, .guard⟩], some (8, false)⟩ hHeld ?_
    try simp only [Act.put, putA, putB, putC]
    refine tkR 11 ⟨some 24, .fieldAddr 68 (.tmp 23) 0, 0, _, #[⟨10, .data⟩, ⟨8, .guard⟩], some (8, false)⟩ hHeld ?_
    try simp only [Act.put, putA, putB, putC]
    refine tkR 12 ⟨some 25, .fieldAddr 46 (.tmp 3) 2, 0, _, #[⟨8, .guard⟩], some (8, false)⟩ hHeld ?_
    try simp only [Act.put, putA, putB, putC]
    refine tkR 13 ⟨some 26, .load 3 (.tmp 25), 3, _, #[⟨12, .data⟩, ⟨8, .guard⟩], some (8, false)⟩ hHeld ?_
    try simp only [Act.put, putA, putB, putC]
    refine wpAnyH_ready (rs := [14]) (by kernel_rfl) (by simp) ?_
    refine AllReadyH.cons (o := ⟨some 27, .call { callee := .value (.func 47), args := #[.tmp 24, .tmp 26], argTypes := #[60, 3] }, 4, _, #[⟨11, .data⟩, ⟨13, .data⟩, ⟨8, .chain⟩, ⟨8, .guard⟩], some (8, false)⟩) rfl (fun K hK => ?_) AllReadyH.nil
    rw [if_neg (by simp [Region.wanted, yielded])]
    refine hK.out _ _ hHeld (fun hHeld => ?_)
    clear hK K
    try simp only [Act.put, putA, putB, putC]
    refine tkR 15 ⟨some 28, .unOp .not 4 (.tmp 27), 4, _, #[⟨14, .data⟩, ⟨8, .guard⟩], some (8, false)⟩ hHeld ?_
    try simp only [Act.put, putA, putB, putC]
    refine tkL 16 ⟨some 29, .pick (.tmp 21) (.const (.bool true)) (.tmp 28), 4, _, #[⟨8, .data⟩, ⟨15, .data⟩], none⟩ ?_ hHeld ?yyB16 ?rrB16
    case yyB16 => (intro w hSw; (try dsimp only at hSw); go_simp; try with_reducible rfl)
    try simp only [Act.put, putA, putB, putC]
    refine tkL 17 ⟨some 30, .move (.tmp 29), 4, _, #[⟨16, .data⟩, ⟨14, .chain⟩], none⟩ ?_ hHeld ?yyB17 ?rrB17
    case yyB17 => (intro w hSw; (try dsimp only at hSw); go_simp; try with_reducible rfl)
    try simp only [Act.put, putA, putB, putC]
    refine tkR 18 ⟨some 31, .move (.tmp 0), 39, _, #[⟨17, .guard⟩], some (17, false)⟩ hHeld ?_
    try simp only [Act.put, putA, putB, putC]
    refine tkR 19 ⟨some 32, .nilCheck (.tmp 31), 0, _, #[⟨18, .data⟩, ⟨17, .guard⟩], some (17, false)⟩ hHeld ?_
    try simp only [Act.put, putA, putB, putC]
    refine tkR 20 ⟨some 33, .fieldAddr 68 (.tmp 32) 0, 0, _, #[⟨19, .data⟩, ⟨17, .guard⟩], some (17, false)⟩ hHeld ?_
    try simp only [Act.put, putA, putB, putC]
    refine tkR 21 ⟨some 34, .fieldAddr 46 (.tmp 3) 3, 0, _, #[⟨17, .guard⟩], some (17, false)⟩ hHeld ?_
    try simp only [Act.put, putA, putB, putC]
    refine tkR 22 ⟨some 35, .load 3 (.tmp 34), 3, _, #[⟨21, .data⟩, ⟨17, .guard⟩], some (17, false)⟩ hHeld ?_
    try simp only [Act.put, putA, putB, putC]
    refine wpAnyH_ready (rs := [23]) (by kernel_rfl) (by simp) ?_
    refine AllReadyH.cons (o := ⟨some 36, .call { callee := .value (.func 47), args := #[.tmp 33, .tmp 35], argTypes := #[60, 3] }, 4, _, #[⟨20, .data⟩, ⟨22, .data⟩, ⟨17, .chain⟩, ⟨17, .guard⟩], some (17, false)⟩) rfl (fun K hK => ?_) AllReadyH.nil
    rw [if_neg (by simp [Region.wanted, yielded])]
    refine hK.out _ _ hHeld (fun hHeld => ?_)
    clear hK K
    try simp only [Act.put, putA, putB, putC]
    refine tkR 24 ⟨some 37, .unOp .not 4 (.tmp 36), 4, _, #[⟨23, .data⟩, ⟨17, .guard⟩], some (17, false)⟩ hHeld ?_
    try simp only [Act.put, putA, putB, putC]
    refine tkL 25 ⟨some 38, .pick (.tmp 30) (.const (.bool true)) (.tmp 37), 4, _, #[⟨17, .data⟩, ⟨24, .data⟩], none⟩ ?_ hHeld ?yyB25 ?rrB25
    case yyB25 => (intro w hSw; (try dsimp only at hSw); go_simp; try with_reducible rfl)
    try simp only [Act.put, putA, putB, putC]
    refine wpAnyH_done (by kernel_rfl) ?_ _
    go_wp2
    go_ret
    exact ⟨ret_bool (by simp [hnm]), N, (h.ext (hE1'.trans hcur)).mono (by omega), fun e => (by simp [hnm] at e), fun _ => rfl, NStep.ext N (hE1'.trans hcur)⟩
  cases xb
  · go_wp2_with fail
    have HK : Hid (∀ W, Ext w1 W → W.cell? ⟨w.heap.size, 1, none⟩ = some (.string kind) ∧ W.cell? ⟨w.heap.size, 2, none⟩ = some (.int .i64 x) ∧ W.cell? ⟨w.heap.size, 3, none⟩ = some (.int .i64 y)) := hbx
    have hcur : Ext w1 w1.drew := (Ext.refl _).drew
    refine wp_region_held_drew (S := (fun W => W.cell? ⟨w.heap.size, 1, none⟩ = some (.string kind) ∧ W.cell? ⟨w.heap.size, 2, none⟩ = some (.int .i64 x) ∧ W.cell? ⟨w.heap.size, 3, none⟩ = some (.int .i64 y))) (by kernel_rfl) (HK.out _ hcur) (fun hHeld => ?_)
    refine tkL 0 ⟨some 13, .move (.tmp 6), 4, _, #[], none⟩ ?_ hHeld ?yyC0 ?rrC0
    case yyC0 => (intro w hSw; (try dsimp only at hSw); go_simp; try with_reducible rfl)
    try simp only [Act.put, putA, putB, putC]
    refine tkL 1 ⟨some 14, .unOp .not 4 (.tmp 13), 4, _, #[⟨0, .data⟩], none⟩ ?_ hHeld ?yyC1 ?rrC1
    case yyC1 => (intro w hSw; (try dsimp only at hSw); go_simp; try with_reducible rfl)
    try simp only [Act.put, putA, putB, putC]
    refine tkL 2 ⟨some 15, .move (.tmp 14), 4, _, #[⟨1, .data⟩], none⟩ ?_ hHeld ?yyC2 ?rrC2
    case yyC2 => (intro w hSw; (try dsimp only at hSw); go_simp; try with_reducible rfl)
    try simp only [Act.put, putA, putB, putC]
    refine tkL 3 ⟨some 16, .fieldAddr 46 (.tmp 3) 1, 0, _, #[⟨2, .guard⟩], some (2, false)⟩ ?_ hHeld ?yyC3 ?rrC3
    case yyC3 => (intro w hSw; (try dsimp only at hSw); go_simp; try with_reducible rfl)
    try simp only [Act.put, putA, putB, putC]
    refine tkL 4 ⟨some 17, .load 9 (.tmp 16), 9, _, #[⟨3, .data⟩, ⟨2, .guard⟩], some (2, false)⟩ ?_ hHeld ?yyC4 ?rrC4
    case yyC4 => (intro w hSw; (try dsimp only at hSw); go_simp; try with_reducible rfl)
    try simp only [Act.put, putA, putB, putC]
    refine wpAnyH_ready (rs := [5]) (by kernel_rfl) (by simp) ?_
    refine AllReadyH.cons (o := ⟨some 18, .call { callee := .value (.func 46), args := #[.tmp 17], argTypes := #[9] }, 4, _, #[⟨4, .data⟩, ⟨2, .chain⟩, ⟨2, .guard⟩], some (2, false)⟩) rfl (fun K hK => ?_) AllReadyH.nil
    go_simp
    refine (implNameOk_any _ _ hks).mono ?_
    rintro e w5 ⟨rfl, hw⟩
    rw [hw, hnm]
    clear hw w5
    go_wp2_with fail
    refine hK.out _ _ (HK.out _ hcur) (fun hHeld => ?_)
    clear hK K
    try simp only [Act.put, putA, putB, putC]
    refine tkL 6 ⟨some 19, .unOp .not 4 (.tmp 18), 4, _, #[⟨5, .data⟩, ⟨2, .guard⟩], some (2, false)⟩ ?_ hHeld ?yyC6 ?rrC6
    case yyC6 => (intro w hSw; (try dsimp only at hSw); go_simp; try with_reducible rfl)
    try simp only [Act.put, putA, putB, putC]
    refine tkL 7 ⟨some 20, .pick (.tmp 15) (.const (.bool true)) (.tmp 19), 4, _, #[⟨2, .data⟩, ⟨6, .data⟩], none⟩ ?_ hHeld ?yyC7 ?rrC7
    case yyC7 => (intro w hSw; (try dsimp only at hSw); go_simp; try with_reducible rfl)
    try simp only [Act.put, putA, putB, putC]
    refine tkL 8 ⟨some 21, .move (.tmp 20), 4, _, #[⟨7, .data⟩, ⟨5, .chain⟩], none⟩ ?_ hHeld ?yyC8 ?rrC8
    case yyC8 => (intro w hSw; (try dsimp only at hSw); go_simp; try with_reducible rfl)
    try simp only [Act.put, putA, putB, putC]
    refine tkL 9 ⟨some 22, .move (.tmp 0), 39, _, #[⟨8, .guard⟩], some (8, false)⟩ ?_ hHeld ?yyC9 ?rrC9
    case yyC9 => (intro w hSw; (try dsimp only at hSw); go_simp; try with_reducible rfl)
    try simp only [Act.put, putA, putB, putC]
    refine tkL 10 ⟨some 23, .nilCheck (.tmp 22), 0, _, #[⟨9, .data⟩, ⟨8, .guard⟩], some (8, false)⟩ ?_ hHeld ?yyC10 ?rrC10
    case yyC10 => (intro w hSw; (try dsimp only at hSw); go_simp; try with_reducible rfl)
    try simp only [Act.put, putA, putB, putC]
    refine tkL 11 ⟨some 24, .fieldAddr 68 (.tmp 23) 0, 0, _, #[⟨10, .data⟩, ⟨8, .guard⟩], some (8, false)⟩ ?_ hHeld ?yyC11 ?rrC11
    case yyC11 => (intro w hSw; (try dsimp only at hSw); go_simp; try with_reducible rfl)
    try simp only [Act.put, putA, putB, putC]
    refine tkL 12 ⟨some 25, .fieldAddr 46 (.tmp 3) 2, 0, _, #[⟨8, .guard⟩], some (8, false)⟩ ?_ hHeld ?yyC12 ?rrC12
    case yyC12 => (intro w hSw; (try dsimp only at hSw); go_simp; try with_reducible rfl)
    try simp only [Act.put, putA, putB, putC]
    refine tkL 13 ⟨some 26, .load 3 (.tmp 25), 3, _, #[⟨12, .data⟩, ⟨8, .guard⟩], some (8, false)⟩ ?_ hHeld ?yyC13 ?rrC13
    case yyC13 => (intro w hSw; (try dsimp only at hSw); go_simp; try with_reducible rfl)
    try simp only [Act.put, putA, putB, putC]
    refine wpAnyH_ready (rs := [14]) (by kernel_rfl) (by simp) ?_
    refine AllReadyH.cons (o := ⟨some 27, .call { callee := .value (.func 47), args := #[.tmp 24, .tmp 26], argTypes := #[60, 3] }, 4, _, #[⟨11, .data⟩, ⟨13, .data⟩, ⟨8, .chain⟩, ⟨8, .guard⟩], some (8, false)⟩) rfl (fun K hK => ?_) AllReadyH.nil
    go_simp
    refine (hhx _ hcur).mono ?_
    rintro e w6 ⟨rfl, hE6⟩
    replace hcur := hcur.trans hE6
    go_wp2_with fail
    refine hK.out _ _ (HK.out _ hcur) (fun hHeld => ?_)
    clear hK K
    try simp only [Act.put, putA, putB, putC]
    refine tkL 15 ⟨some 28, .unOp .not 4 (.tmp 27), 4, _, #[⟨14, .data⟩, ⟨8, .guard⟩], some (8, false)⟩ ?_ hHeld ?yyC15 ?rrC15
    case yyC15 => (intro w hSw; (try dsimp only at hSw); go_simp; try with_reducible rfl)
    try simp only [Act.put, putA, putB, putC]
    refine tkL 16 ⟨some 29, .pick (.tmp 21) (.const (.bool true)) (.tmp 28), 4, _, #[⟨8, .data⟩, ⟨15, .data⟩], none⟩ ?_ hHeld ?yyC16 ?rrC16
    case yyC16 => (intro w hSw; (try dsimp only at hSw); go_simp; try with_reducible rfl)
    try simp only [Act.put, putA, putB, putC]
    refine tkL 17 ⟨some 30, .move (.tmp 29), 4, _, #[⟨16, .data⟩, ⟨14, .chain⟩], none⟩ ?_ hHeld ?yyC17 ?rrC17
    case yyC17 => (intro w hSw; (try dsimp only at hSw); go_simp; try with_reducible rfl)
    try simp only [Act.put, putA, putB, putC]
    refine tkR 18 ⟨some 31, .move (.tmp 0), 39, _, #[⟨17, .guard⟩], some (17, false)⟩ hHeld ?_
    try simp only [Act.put, putA, putB, putC]
    refine tkR 19 ⟨some 32, .nilCheck (.tmp 31), 0, _, #[⟨18, .data⟩, ⟨17, .guard⟩], some (17, false)⟩ hHeld ?_
    try simp only [Act.put, putA, putB, putC]
    refine tkR 20 ⟨some 33, .fieldAddr 68 (.tmp 32) 0, 0, _, #[⟨19, .data⟩, ⟨17, .guard⟩], some (17, false)⟩ hHeld ?_
    try simp only [Act.put, putA, putB, putC]
    refine tkR 21 ⟨some 34, .fieldAddr 46 (.tmp 3) 3, 0, _, #[⟨17, .guard⟩], some (17, false)⟩ hHeld ?_
    try simp only [Act.put, putA, putB, putC]
    refine tkR 22 ⟨some 35, .load 3 (.tmp 34), 3, _, #[⟨21, .data⟩, ⟨17, .guard⟩], some (17, false)⟩ hHeld ?_
    try simp only [Act.put, putA, putB, putC]
    refine wpAnyH_ready (rs := [23]) (by kernel_rfl) (by simp) ?_
    refine AllReadyH.cons (o := ⟨some 36, .call { callee := .value (.func 47), args := #[.tmp 33, .tmp 35], argTypes := #[60, 3] }, 4, _, #[⟨20, .data⟩, ⟨22, .data⟩, ⟨17, .chain⟩, ⟨17, .guard⟩], some (17, false)⟩) rfl (fun K hK => ?_) AllReadyH.nil
    rw [if_neg (by simp [Region.wanted, yielded])]
    refine hK.out _ _ hHeld (fun hHeld => ?_)
    clear hK K
    try simp only [Act.put, putA, putB, putC]
    refine tkR 24 ⟨some 37, .unOp .not 4 (.tmp 36), 4, _, #[⟨23, .data⟩, ⟨17, .guard⟩], some (17, false)⟩ hHeld ?_
    try simp only [Act.put, putA, putB, putC]
    refine tkL 25 ⟨some 38, .pick (.tmp 30) (.const (.bool true)) (.tmp 37), 4, _, #[⟨17, .data⟩, ⟨24, .data⟩], none⟩ ?_ hHeld ?yyC25 ?rrC25
    case yyC25 => (intro w hSw; (try dsimp only at hSw); go_simp; try with_reducible rfl)
    try simp only [Act.put, putA, putB, putC]
    refine wpAnyH_done (by kernel_rfl) ?_ _
    go_wp2
    go_ret
    exact ⟨ret_bool (by simp [hnm]), N, (h.ext (hE1'.trans hcur)).mono (by omega), fun e => (by simp [hnm] at e), fun _ => rfl, NStep.ext N (hE1'.trans hcur)⟩
  cases yb
  · go_wp2_with fail
    have HK : Hid (∀ W, Ext w1 W → W.cell? ⟨w.heap.size, 1, none⟩ = some (.string kind) ∧ W.cell? ⟨w.heap.size, 2, none⟩ = some (.int .i64 x) ∧ W.cell? ⟨w.heap.size, 3, none⟩ = some (.int .i64 y)) := hbx
    have hcur : Ext w1 w1.drew := (Ext.refl _).drew
    refine wp_region_held_drew (S := (fun W => W.cell? ⟨w.heap.size, 1, none⟩ = some (.string kind) ∧ W.cell? ⟨w.heap.size, 2, none⟩ = some (.int .i64 x) ∧ W.cell? ⟨w.heap.size, 3, none⟩ = some (.int .i64 y))) (by kernel_rfl) (HK.out _ hcur) (fun hHeld => ?_)
    refine tkL 0 ⟨some 13, .move (.tmp 6), 4, _, #[], none⟩ ?_ hHeld ?yyD0 ?rrD0
    case yyD0 => (intro w hSw; (try dsimp only at hSw); go_simp; try with_reducible rfl)
    try simp only [Act.put, putA, putB, putC]
    refine tkL 1 ⟨some 14, .unOp .not 4 (.tmp 13), 4, _, #[⟨0, .data⟩], none⟩ ?_ hHeld ?yyD1 ?rrD1
    case yyD1 => (intro w hSw; (try dsimp only at hSw); go_simp; try with_reducible rfl)
    try simp only [Act.put, putA, putB, putC]
    refine tkL 2 ⟨some 15, .move (.tmp 14), 4, _, #[⟨1, .data⟩], none⟩ ?_ hHeld ?yyD2 ?rrD2
    case yyD2 => (intro w hSw; (try dsimp only at hSw); go_simp; try with_reducible rfl)
    try simp only [Act.put, putA, putB, putC]
    refine tkL 3 ⟨some 16, .fieldAddr 46 (.tmp 3) 1, 0, _, #[⟨2, .guard⟩], some (2, false)⟩ ?_ hHeld ?yyD3 ?rrD3
    case yyD3 => (intro w hSw; (try dsimp only at hSw); go_simp; try with_reducible rfl)
    try simp only [Act.put, putA, putB, putC]
    refine tkL 4 ⟨some 17, .load 9 (.tmp 16), 9, _, #[⟨3, .data⟩, ⟨2, .guard⟩], some (2, false)⟩ ?_ hHeld ?yyD4 ?rrD4
    case yyD4 => (intro w hSw; (try dsimp only at hSw); go_simp; try with_reducible rfl)
    try simp only [Act.put, putA, putB, putC]
    refine wpAnyH_ready (rs := [5]) (by kernel_rfl) (by simp) ?_
    refine AllReadyH.cons (o := ⟨some 18, .call { callee := .value (.func 46), args := #[.tmp 17], argTypes := #[9] }, 4, _, #[⟨4, .data⟩, ⟨2, .chain⟩, ⟨2, .guard⟩], some (2, false)⟩) rfl (fun K hK => ?_) AllReadyH.nil
    go_simp
    refine (implNameOk_any _ _ hks).mono ?_
    rintro e w5 ⟨rfl, hw⟩
    rw [hw, hnm]
    clear hw w5
    go_wp2_with fail
    refine hK.out _ _ (HK.out _ hcur) (fun hHeld => ?_)
    clear hK K
    try simp only [Act.put, putA, putB, putC]
    refine tkL 6 ⟨some 19, .unOp .not 4 (.tmp 18), 4, _, #[⟨5, .data⟩, ⟨2, .guard⟩], some (2, false)⟩ ?_ hHeld ?yyD6 ?rrD6
    case yyD6 => (intro w hSw; (try dsimp only at hSw); go_simp; try with_reducible rfl)
    try simp only [Act.put, putA, putB, putC]
    refine tkL 7 ⟨some 20, .pick (.tmp 15) (.const (.bool true)) (.tmp 19), 4, _, #[⟨2, .data⟩, ⟨6, .data⟩], none⟩ ?_ hHeld ?yyD7 ?rrD7
    case yyD7 => (intro w hSw; (try dsimp only at hSw); go_simp; try with_reducible rfl)
    try simp only [Act.put, putA, putB, putC]
    refine tkL 8 ⟨some 21, .move (.tmp 20), 4, _, #[⟨7, .data⟩, ⟨5, .chain⟩], none⟩ ?_ hHeld ?yyD8 ?rrD8
    case yyD8 => (intro w hSw; (try dsimp only at hSw); go_simp; try with_reducible rfl)
    try simp only [Act.put, putA, putB, putC]
    refine tkL 9 ⟨some 22, .move (.tmp 0), 39, _, #[⟨8, .guard⟩], some (8, false)⟩ ?_ hHeld ?yyD9 ?rrD9
    case yyD9 => (intro w hSw; (try dsimp only at hSw); go_simp; try with_reducible rfl)
    try simp only [Act.put, putA, putB, putC]
    refine tkL 10 ⟨some 23, .nilCheck (.tmp 22), 0, _, #[⟨9, .data⟩, ⟨8, .guard⟩], some (8, false)⟩ ?_ hHeld ?yyD10 ?rrD10
    case yyD10 => (intro w hSw; (try dsimp only at hSw); go_simp; try with_reducible rfl)
    try simp only [Act.put, putA, putB, putC]
    refine tkL 11 ⟨some 24, .fieldAddr 68 (.tmp 23) 0, 0, _, #[⟨10, .data⟩, ⟨8, .guard⟩], some (8, false)⟩ ?_ hHeld ?yyD11 ?rrD11
    case yyD11 => (intro w hSw; (try dsimp only at hSw); go_simp; try with_reducible rfl)
    try simp only [Act.put, putA, putB, putC]
    refine tkL 12 ⟨some 25, .fieldAddr 46 (.tmp 3) 2, 0, _, #[⟨8, .guard⟩], some (8, false)⟩ ?_ hHeld ?yyD12 ?rrD12
    case yyD12 => (intro w hSw; (try dsimp only at hSw); go_simp; try with_reducible rfl)
    try simp only [Act.put, putA, putB, putC]
    refine tkL 13 ⟨some 26, .load 3 (.tmp 25), 3, _, #[⟨12, .data⟩, ⟨8, .guard⟩], some (8, false)⟩ ?_ hHeld ?yyD13 ?rrD13
    case yyD13 => (intro w hSw; (try dsimp only at hSw); go_simp; try with_reducible rfl)
    try simp only [Act.put, putA, putB, putC]
    refine wpAnyH_ready (rs := [14]) (by kernel_rfl) (by simp) ?_
    refine AllReadyH.cons (o := ⟨some 27, .call { callee := .value (.func 47), args := #[.tmp 24, .tmp 26], argTypes := #[60, 3] }, 4, _, #[⟨11, .data⟩, ⟨13, .data⟩, ⟨8, .chain⟩, ⟨8, .guard⟩], some (8, false)⟩) rfl (fun K hK => ?_) AllReadyH.nil
    go_simp
    refine (hhx _ hcur).mono ?_
    rintro e w6 ⟨rfl, hE6⟩
    replace hcur := hcur.trans hE6
    go_wp2_with fail
    refine hK.out _ _ (HK.out _ hcur) (fun hHeld => ?_)
    clear hK K
    try simp only [Act.put, putA, putB, putC]
    refine tkL 15 ⟨some 28, .unOp .not 4 (.tmp 27), 4, _, #[⟨14, .data⟩, ⟨8, .guard⟩], some (8, false)⟩ ?_ hHeld ?yyD15 ?rrD15
    case yyD15 => (intro w hSw; (try dsimp only at hSw); go_simp; try with_reducible rfl)
    try simp only [Act.put, putA, putB, putC]
    refine tkL 16 ⟨some 29, .pick (.tmp 21) (.const (.bool true)) (.tmp 28), 4, _, #[⟨8, .data⟩, ⟨15, .data⟩], none⟩ ?_ hHeld ?yyD16 ?rrD16
    case yyD16 => (intro w hSw; (try dsimp only at hSw); go_simp; try with_reducible rfl)
    try simp only [Act.put, putA, putB, putC]
    refine tkL 17 ⟨some 30, .move (.tmp 29), 4, _, #[⟨16, .data⟩, ⟨14, .chain⟩], none⟩ ?_ hHeld ?yyD17 ?rrD17
    case yyD17 => (intro w hSw; (try dsimp only at hSw); go_simp; try with_reducible rfl)
    try simp only [Act.put, putA, putB, putC]
    refine tkL 18 ⟨some 31, .move (.tmp 0), 39, _, #[⟨17, .guard⟩], some (17, false)⟩ ?_ hHeld ?yyD18 ?rrD18
    case yyD18 => (intro w hSw; (try dsimp only at hSw); go_simp; try with_reducible rfl)
    try simp only [Act.put, putA, putB, putC]
    refine tkL 19 ⟨some 32, .nilCheck (.tmp 31), 0, _, #[⟨18, .data⟩, ⟨17, .guard⟩], some (17, false)⟩ ?_ hHeld ?yyD19 ?rrD19
    case yyD19 => (intro w hSw; (try dsimp only at hSw); go_simp; try with_reducible rfl)
    try simp only [Act.put, putA, putB, putC]
    refine tkL 20 ⟨some 33, .fieldAddr 68 (.tmp 32) 0, 0, _, #[⟨19, .data⟩, ⟨17, .guard⟩], some (17, false)⟩ ?_ hHeld ?yyD20 ?rrD20
    case yyD20 => (intro w hSw; (try dsimp only at hSw); go_simp; try with_reducible rfl)
    try simp only [Act.put, putA, putB, putC]
    refine tkL 21 ⟨some 34, .fieldAddr 46 (.tmp 3) 3, 0, _, #[⟨17, .guard⟩], some (17, false)⟩ ?_ hHeld ?yyD21 ?rrD21
    case yyD21 => (intro w hSw; (try dsimp only at hSw); go_simp; try with_reducible rfl)
    try simp only [Act.put, putA, putB, putC]
    refine tkL 22 ⟨some 35, .load 3 (.tmp 34), 3, _, #[⟨21, .data⟩, ⟨17, .guard⟩], some (17, false)⟩ ?_ hHeld ?yyD22 ?rrD22
    case yyD22 => (intro w hSw; (try dsimp only at hSw); go_simp; try with_reducible rfl)
    try simp only [Act.put, putA, putB, putC]
    refine wpAnyH_ready (rs := [23]) (by kernel_rfl) (by simp) ?_
    refine AllReadyH.cons (o := ⟨some 36, .call { callee := .value (.func 47), args := #[.tmp 33, .tmp 35], argTypes := #[60, 3] }, 4, _, #[⟨20, .data⟩, ⟨22, .data⟩, ⟨17, .chain⟩, ⟨17, .guard⟩], some (17, false)⟩) rfl (fun K hK => ?_) AllReadyH.nil
    go_simp
    refine (hhy _ hcur).mono ?_
    rintro e w7 ⟨rfl, hE7⟩
    replace hcur := hcur.trans hE7
    go_wp2_with fail
    refine hK.out _ _ (HK.out _ hcur) (fun hHeld => ?_)
    clear hK K
    try simp only [Act.put, putA, putB, putC]
    refine tkL 24 ⟨some 37, .unOp .not 4 (.tmp 36), 4, _, #[⟨23, .data⟩, ⟨17, .guard⟩], some (17, false)⟩ ?_ hHeld ?yyD24 ?rrD24
    case yyD24 => (intro w hSw; (try dsimp only at hSw); go_simp; try with_reducible rfl)
    try simp only [Act.put, putA, putB, putC]
    refine tkL 25 ⟨some 38, .pick (.tmp 30) (.const (.bool true)) (.tmp 37), 4, _, #[⟨17, .data⟩, ⟨24, .data⟩], none⟩ ?_ hHeld ?yyD25 ?rrD25
    case yyD25 => (intro w hSw; (try dsimp only at hSw); go_simp; try with_reducible rfl)
    try simp only [Act.put, putA, putB, putC]
    refine wpAnyH_done (by kernel_rfl) ?_ _
    go_wp2
    go_ret
    exact ⟨ret_bool (by simp [hnm]), N, (h.ext (hE1'.trans hcur)).mono (by omega), fun e => (by simp [hnm] at e), fun _ => rfl, NStep.ext N (hE1'.trans hcur)⟩
  go_wp2_with fail
  have HK : Hid (∀ W, Ext w1 W → W.cell? ⟨w.heap.size, 1, none⟩ = some (.string kind) ∧ W.cell? ⟨w.heap.size, 2, none⟩ = some (.int .i64 x) ∧ W.cell? ⟨w.heap.size, 3, none⟩ = some (.int .i64 y)) := hbx
  have hcur : Ext w1 w1.drew := (Ext.refl _).drew
  refine wp_region_held_drew (S := (fun W => W.cell? ⟨w.heap.size, 1, none⟩ = some (.string kind) ∧ W.cell? ⟨w.heap.size, 2, none⟩ = some (.int .i64 x) ∧ W.cell? ⟨w.heap.size, 3, none⟩ = some (.int .i64 y))) (by kernel_rfl) (HK.out _ hcur) (fun hHeld => ?_)
  refine tkL 0 ⟨some 13, .move (.tmp 6), 4, _, #[], none⟩ ?_ hHeld ?yyE0 ?rrE0
  case yyE0 => (intro w hSw; (try dsimp only at hSw); go_simp; try with_reducible rfl)
  try simp only [Act.put, putA, putB, putC]
  refine tkL 1 ⟨some 14, .unOp .not 4 (.tmp 13), 4, _, #[⟨0, .data⟩], none⟩ ?_ hHeld ?yyE1 ?rrE1
  case yyE1 => (intro w hSw; (try dsimp only at hSw); go_simp; try with_reducible rfl)
  try simp only [Act.put, putA, putB, putC]
  refine tkL 2 ⟨some 15, .move (.tmp 14), 4, _, #[⟨1, .data⟩], none⟩ ?_ hHeld ?yyE2 ?rrE2
  case yyE2 => (intro w hSw; (try dsimp only at hSw); go_simp; try with_reducible rfl)
  try simp only [Act.put, putA, putB, putC]
  refine tkL 3 ⟨some 16, .fieldAddr 46 (.tmp 3) 1, 0, _, #[⟨2, .guard⟩], some (2, false)⟩ ?_ hHeld ?yyE3 ?rrE3
  case yyE3 => (intro w hSw; (try dsimp only at hSw); go_simp; try with_reducible rfl)
  try simp only [Act.put, putA, putB, putC]
  refine tkL 4 ⟨some 17, .load 9 (.tmp 16), 9, _, #[⟨3, .data⟩, ⟨2, .guard⟩], some (2, false)⟩ ?_ hHeld ?yyE4 ?rrE4
  case yyE4 => (intro w hSw; (try dsimp only at hSw); go_simp; try with_reducible rfl)
  try simp only [Act.put, putA, putB, putC]
  refine wpAnyH_ready (rs := [5]) (by kernel_rfl) (by simp) ?_
  refine AllReadyH.cons (o := ⟨some 18, .call { callee := .value (.func 46), args := #[.tmp 17], argTypes := #[9] }, 4, _, #[⟨4, .data⟩, ⟨2, .chain⟩, ⟨2, .guard⟩], some (2, false)⟩) rfl (fun K hK => ?_) AllReadyH.nil
  go_simp
  refine (implNameOk_any _ _ hks).mono ?_
  rintro e w5 ⟨rfl, hw⟩
  rw [hw, hnm]
  clear hw w5
  go_wp2_with fail
  refine hK.out _ _ (HK.out _ hcur) (fun hHeld => ?_)
  clear hK K
  try simp only [Act.put, putA, putB, putC]
  refine tkL 6 ⟨some 19, .unOp .not 4 (.tmp 18), 4, _, #[⟨5, .data⟩, ⟨2, .guard⟩], some (2, false)⟩ ?_ hHeld ?yyE6 ?rrE6
  case yyE6 => (intro w hSw; (try dsimp only at hSw); go_simp; try with_reducible rfl)
  try simp only [Act.put, putA, putB, putC]
  refine tkL 7 ⟨some 20, .pick (.tmp 15) (.const (.bool true)) (.tmp 19), 4, _, #[⟨2, .data⟩, ⟨6, .data⟩], none⟩ ?_ hHeld ?yyE7 ?rrE7
  case yyE7 => (intro w hSw; (try dsimp only at hSw); go_simp; try with_reducible rfl)
  try simp only [Act.put, putA, putB, putC]
  refine tkL 8 ⟨some 21, .move (.tmp 20), 4, _, #[⟨7, .data⟩, ⟨5, .chain⟩], none⟩ ?_ hHeld ?yyE8 ?rrE8
  case yyE8 => (intro w hSw; (try dsimp only at hSw); go_simp; try with_reducible rfl)
  try simp only [Act.put, putA, putB, putC]
  refine tkL 9 ⟨some 22, .move (.tmp 0), 39, _, #[⟨8, .guard⟩], some (8, false)⟩ ?_ hHeld ?yyE9 ?rrE9
  case yyE9 => (intro w hSw; (try dsimp only at hSw); go_simp; try with_reducible rfl)
  try simp only [Act.put, putA, putB, putC]
  refine tkL 10 ⟨some 23, .nilCheck (.tmp 22), 0, _, #[⟨9, .data⟩, ⟨8, .guard⟩], some (8, false)⟩ ?_ hHeld ?yyE10 ?rrE10
  case yyE10 => (intro w hSw; (try dsimp only at hSw); go_simp; try with_reducible rfl)
  try simp only [Act.put, putA, putB, putC]
  refine tkL 11 ⟨some 24, .fieldAddr 68 (.tmp 23) 0, 0, _, #[⟨10, .data⟩, ⟨8, .guard⟩], some (8, false)⟩ ?_ hHeld ?yyE11 ?rrE11
  case yyE11 => (intro w hSw; (try dsimp only at hSw); go_simp; try with_reducible rfl)
  try simp only [Act.put, putA, putB, putC]
  refine tkL 12 ⟨some 25, .fieldAddr 46 (.tmp 3) 2, 0, _, #[⟨8, .guard⟩], some (8, false)⟩ ?_ hHeld ?yyE12 ?rrE12
  case yyE12 => (intro w hSw; (try dsimp only at hSw); go_simp; try with_reducible rfl)
  try simp only [Act.put, putA, putB, putC]
  refine tkL 13 ⟨some 26, .load 3 (.tmp 25), 3, _, #[⟨12, .data⟩, ⟨8, .guard⟩], some (8, false)⟩ ?_ hHeld ?yyE13 ?rrE13
  case yyE13 => (intro w hSw; (try dsimp only at hSw); go_simp; try with_reducible rfl)
  try simp only [Act.put, putA, putB, putC]
  refine wpAnyH_ready (rs := [14]) (by kernel_rfl) (by simp) ?_
  refine AllReadyH.cons (o := ⟨some 27, .call { callee := .value (.func 47), args := #[.tmp 24, .tmp 26], argTypes := #[60, 3] }, 4, _, #[⟨11, .data⟩, ⟨13, .data⟩, ⟨8, .chain⟩, ⟨8, .guard⟩], some (8, false)⟩) rfl (fun K hK => ?_) AllReadyH.nil
  go_simp
  refine (hhx _ hcur).mono ?_
  rintro e w6 ⟨rfl, hE6⟩
  replace hcur := hcur.trans hE6
  go_wp2_with fail
  refine hK.out _ _ (HK.out _ hcur) (fun hHeld => ?_)
  clear hK K
  try simp only [Act.put, putA, putB, putC]
  refine tkL 15 ⟨some 28, .unOp .not 4 (.tmp 27), 4, _, #[⟨14, .data⟩, ⟨8, .guard⟩], some (8, false)⟩ ?_ hHeld ?yyE15 ?rrE15
  case yyE15 => (intro w hSw; (try dsimp only at hSw); go_simp; try with_reducible rfl)
  try simp only [Act.put, putA, putB, putC]
  refine tkL 16 ⟨some 29, .pick (.tmp 21) (.const (.bool true)) (.tmp 28), 4, _, #[⟨8, .data⟩, ⟨15, .data⟩], none⟩ ?_ hHeld ?yyE16 ?rrE16
  case yyE16 => (intro w hSw; (try dsimp only at hSw); go_simp; try with_reducible rfl)
  try simp only [Act.put, putA, putB, putC]
  refine tkL 17 ⟨some 30, .move (.tmp 29), 4, _, #[⟨16, .data⟩, ⟨14, .chain⟩], none⟩ ?_ hHeld ?yyE17 ?rrE17
  case yyE17 => (intro w hSw; (try dsimp only at hSw); go_simp; try with_reducible rfl)
  try simp only [Act.put, putA, putB, putC]
  refine tkL 18 ⟨some 31, .move (.tmp 0), 39, _, #[⟨17, .guard⟩], some (17, false)⟩ ?_ hHeld ?yyE18 ?rrE18
  case yyE18 => (intro w hSw; (try dsimp only at hSw); go_simp; try with_reducible rfl)
  try simp only [Act.put, putA, putB, putC]
  refine tkL 19 ⟨some 32, .nilCheck (.tmp 31), 0, _, #[⟨18, .data⟩, ⟨17, .guard⟩], some (17, false)⟩ ?_ hHeld ?yyE19 ?rrE19
  case yyE19 => (intro w hSw; (try dsimp only at hSw); go_simp; try with_reducible rfl)
  try simp only [Act.put, putA, putB, putC]
  refine tkL 20 ⟨some 33, .fieldAddr 68 (.tmp 32) 0, 0, _, #[⟨19, .data⟩, ⟨17, .guard⟩], some (17, false)⟩ ?_ hHeld ?yyE20 ?rrE20
  case yyE20 => (intro w hSw; (try dsimp only at hSw); go_simp; try with_reducible rfl)
  try simp only [Act.put, putA, putB, putC]
  refine tkL 21 ⟨some 34, .fieldAddr 46 (.tmp 3) 3, 0, _, #[⟨17, .guard⟩], some (17, false)⟩ ?_ hHeld ?yyE21 ?rrE21
  case yyE21 => (intro w hSw; (try dsimp only at hSw); go_simp; try with_reducible rfl)
  try simp only [Act.put, putA, putB, putC]
  refine tkL 22 ⟨some 35, .load 3 (.tmp 34), 3, _, #[⟨21, .data⟩, ⟨17, .guard⟩], some (17, false)⟩ ?_ hHeld ?yyE22 ?rrE22
  case yyE22 => (intro w hSw; (try dsimp only at hSw); go_simp; try with_reducible rfl)
  try simp only [Act.put, putA, putB, putC]
  refine wpAnyH_ready (rs := [23]) (by kernel_rfl) (by simp) ?_
  refine AllReadyH.cons (o := ⟨some 36, .call { callee := .value (.func 47), args := #[.tmp 33, .tmp 35], argTypes := #[60, 3] }, 4, _, #[⟨20, .data⟩, ⟨22, .data⟩, ⟨17, .chain⟩, ⟨17, .guard⟩], some (17, false)⟩) rfl (fun K hK => ?_) AllReadyH.nil
  go_simp
  refine (hhy _ hcur).mono ?_
  rintro e w7 ⟨rfl, hE7⟩
  replace hcur := hcur.trans hE7
  go_wp2_with fail
  refine hK.out _ _ (HK.out _ hcur) (fun hHeld => ?_)
  clear hK K
  try simp only [Act.put, putA, putB, putC]
  refine tkL 24 ⟨some 37, .unOp .not 4 (.tmp 36), 4, _, #[⟨23, .data⟩, ⟨17, .guard⟩], some (17, false)⟩ ?_ hHeld ?yyE24 ?rrE24
  case yyE24 => (intro w hSw; (try dsimp only at hSw); go_simp; try with_reducible rfl)
  try simp only [Act.put, putA, putB, putC]
  refine tkL 25 ⟨some 38, .pick (.tmp 30) (.const (.bool true)) (.tmp 37), 4, _, #[⟨17, .data⟩, ⟨24, .data⟩], none⟩ ?_ hHeld ?yyE25 ?rrE25
  case yyE25 => (intro w hSw; (try dsimp only at hSw); go_simp; try with_reducible rfl)
  try simp only [Act.put, putA, putB, putC]
  refine wpAnyH_done (by kernel_rfl) ?_ _
  have hE7w : Ext w w7 := hE1'.trans hcur
  obtain ⟨b1, b2, b3⟩ := hbx _ hcur
  obtain ⟨b0, b4, fz⟩ := hbx0 _ hcur
  have fz4 := fz 4
  go_upto_region 5 with fail
  obtain ⟨DP, OP⟩ := hDP (by simp)
  clear hDP hbx hbx0 hhx hhy
  simp only [World.size_alloc] at DP OP
  have hnot : ¬ New (w.heap.size + 1) w1.heap.size w.heap.size := fun h => by have := h.1; omega
  replace DP := (DP.ext hcur).setCell (p := ⟨w.heap.size, 4, none⟩) hnot (.slice a2 l2 k2)
  replace OP := (OP.ext hcur).setCell (p := ⟨w.heap.size, 4, none⟩) hnot (.slice a2 l2 k2)
  have hEb : Ext w (w7.setCell ⟨w.heap.size, 4, none⟩ (.slice a2 l2 k2)) := hE7w.setCell (Nat.le_refl _) _
  have d0 : (w7.setCell ⟨w.heap.size, 4, none⟩ (.slice a2 l2 k2)).cell? ⟨w.heap.size, 0, none⟩ = some (.int .i64 id) := by simp [go_sem, b0]
  have d1 : (w7.setCell ⟨w.heap.size, 4, none⟩ (.slice a2 l2 k2)).cell? ⟨w.heap.size, 1, none⟩ = some (.string kind) := by simp [go_sem, b1]
  have d2 : (w7.setCell ⟨w.heap.size, 4, none⟩ (.slice a2 l2 k2)).cell? ⟨w.heap.size, 2, none⟩ = some (.int .i64 x) := by simp [go_sem, b2]
  have d3 : (w7.setCell ⟨w.heap.size, 4, none⟩ (.slice a2 l2 k2)).cell? ⟨w.heap.size, 3, none⟩ = some (.int .i64 y) := by simp [go_sem, b3]
  have d4 : (w7.setCell ⟨w.heap.size, 4, none⟩ (.slice a2 l2 k2)).cell? ⟨w.heap.size, 4, none⟩ = some (.slice a2 l2 k2) := by simp [go_sem, b4]
  have hbs : w1.heap.size ≤ (w7.setCell ⟨w.heap.size, 4, none⟩ (.slice a2 l2 k2)).heap.size := by have := hcur.le; simpa using this
  clear b0 b1 b2 b3 b4 fz fz4 hcur
  generalize w7.setCell ⟨w.heap.size, 4, none⟩ (.slice a2 l2 k2) = Wb at *
  have hbR : ¬ NetR N w.heap.size := fun hx => by have := (NetR.lt h hx).2; omega
  have HK : Hid (∀ W, Chg (NetR N) Wb W → W.cell? ⟨w.heap.size, 0, none⟩ = some (.int .i64 id) ∧ W.cell? ⟨w.heap.size, 1, none⟩ = some (.string kind) ∧ W.cell? ⟨w.heap.size, 2, none⟩ = some (.int .i64 x) ∧ W.cell? ⟨w.heap.size, 3, none⟩ = some (.int .i64 y) ∧ W.cell? ⟨w.heap.size, 4, none⟩ = some (.slice a2 l2 k2)) := fun W hW => by
    have hx : ∀ k, W.cell? ⟨w.heap.size, k, none⟩ = Wb.cell? ⟨w.heap.size, k, none⟩ := fun k => hW.cell (by omega) hbR
    simp only [hx]
    exact ⟨d0, d1, d2, d3, d4⟩
  have hcur : Chg (NetR N) Wb Wb.drew := Chg.of_ext (Ext.refl _).drew
  refine wp_region_held_drew (S := (fun W => W.cell? ⟨w.heap.size, 0, none⟩ = some (.int .i64 id) ∧ W.cell? ⟨w.heap.size, 1, none⟩ = some (.string kind) ∧ W.cell? ⟨w.heap.size, 2, none⟩ = some (.int .i64 x) ∧ W.cell? ⟨w.heap.size, 3, none⟩ = some (.int .i64 y) ∧ W.cell? ⟨w.heap.size, 4, none⟩ = some (.slice a2 l2 k2))) (by kernel_rfl) (HK.out _ hcur) (fun hHeld => ?_)
  refine tkL 0 ⟨some 41, .move (.tmp 0), 39, _, #[], none⟩ ?_ hHeld ?yyP0 ?rrP0
  case yyP0 => (intro w hSw; (try dsimp only at hSw); go_simp; try with_reducible rfl)
  try simp only [Act.put, putA, putB, putC]
  refine tkL 1 ⟨some 42, .nilCheck (.tmp 41), 0, _, #[⟨0, .data⟩], none⟩ ?_ hHeld ?yyP1 ?rrP1
  case yyP1 => (intro w hSw; (try dsimp only at hSw); go_simp; try with_reducible rfl)
  try simp only [Act.put, putA, putB, putC]
  refine tkL 2 ⟨some 43, .fieldAddr 68 (.tmp 42) 1, 0, _, #[⟨1, .data⟩], none⟩ ?_ hHeld ?yyP2 ?rrP2
  case yyP2 => (intro w hSw; (try dsimp only at hSw); go_simp; try with_reducible rfl)
  try simp only [Act.put, putA, putB, putC]
  refine tkL 3 ⟨some 44, .fieldAddr 46 (.tmp 3) 0, 0, _, #[], none⟩ ?_ hHeld ?yyP3 ?rrP3
  case yyP3 => (intro w hSw; (try dsimp only at hSw); go_simp; try with_reducible rfl)
  try simp only [Act.put, putA, putB, putC]
  refine tkL 4 ⟨some 45, .load 3 (.tmp 44), 3, _, #[⟨3, .data⟩], none⟩ ?_ hHeld ?yyP4 ?rrP4
  case yyP4 => (intro w hSw; (try dsimp only at hSw); go_simp; try with_reducible rfl)
  try simp only [Act.put, putA, putB, putC]
  refine tkL 5 ⟨some 46, .load 46 (.tmp 3), 46, _, #[], none⟩ ?_ hHeld ?yyP5 ?rrP5
  case yyP5 => (intro w hSw; (try dsimp only at hSw); go_simp; try with_reducible rfl)
  try simp only [Act.put, putA, putB, putC]
  refine wpAnyH_ready (rs := [6]) (by kernel_rfl) (by simp) ?_
  refine AllReadyH.cons (o := ⟨some 47, .call { callee := .value (.func 48), args := #[.tmp 43, .tmp 45, .tmp 46], argTypes := #[64, 3, 46] }, 4, _, #[⟨2, .data⟩, ⟨4, .data⟩, ⟨5, .data⟩], none⟩) rfl (fun K hK => ?_) AllReadyH.nil
  go_simp
  refine (hput _ hEb.drew _ _ _ (by first | exact hcP rfl | exact hcP trivial)).mono ?_
  rintro e w3 ⟨rfl, N1, hN1, hy1, hn1, hst1⟩
  replace hcur := hcur.trans hst1.chg
  go_wp2_with fail
  refine hK.out _ _ (HK.out _ hcur) (fun hHeld => ?_)
  clear hK K
  try simp only [Act.put, putA, putB, putC]
  refine tkL 7 ⟨some 48, .unOp .not 4 (.tmp 47), 4, _, #[⟨6, .data⟩], none⟩ ?_ hHeld ?yyP7 ?rrP7
  case yyP7 => (intro w hSw; (try dsimp only at hSw); go_simp; try with_reducible rfl)
  try simp only [Act.put, putA, putB, putC]
  refine wpAnyH_done (by kernel_rfl) ?_ _
  cases ob
  · go_wp2
    go_ret
    first | exact ⟨ret_bool (by simp), N1, hN1.mono (by omega), fun e => (by simp at e), fun _ => hn1 (by simp), (NStep.ext N hEb.drew).trans hst1⟩ | exact ⟨ret_bool (by simp), N1, hN1.mono (by omega), hn1 (by simp), (NStep.ext N hEb.drew).trans hst1⟩
  · obtain ⟨v', e1⟩ := hy1 (by simp)
    have hnb1 : N1.nb = N.nb := by rw [e1]; rfl
    have hmb1 : N1.mb = N.mb := by rw [e1]; rfl
    have E1 : Hid (N1 = (N.push .e v' id).put .e id (.agg #[.int .i64 id, .string kind, .int .i64 x, .int .i64 y, .slice a2 l2 k2])) := e1
    clear e1
    have hbN1 : ¬ NetR N1 w.heap.size := fun hx => (hst1.own _ hx).elim hbR (fun e => by have : Wb.heap.size ≤ w.heap.size := e; omega)
    have hblt1 : w.heap.size < w3.heap.size := by have := hcur.size; omega
    obtain ⟨hb10, _, hb12, hb13, _⟩ := HK.out _ hcur
    clear hy1 hn1 HK d0 d1 d2 d3 d4 hput
    go_upto_region 7 with fail
    obtain ⟨rao, rco, hrowo⟩ := hN1.shape (ownRow .o x)
    have hll := hN1.len (ownRow .o x)
    have hN1d := hN1.ext (Ext.refl w3).drew
    have hroo := hN1d.own (ownRow .o x)
    rw [hrowo] at hroo
    have hcn : w3.cell? ⟨N.nb, 6, none⟩ = some (.map (some (N.mb .o))) := by have := hN1.c6; rw [hnb1, hmb1] at this; exact this
    have hrnb : ∀ z, (N1.rows (ownRow .o x)).ownBlock = some z → z ≠ N.nb := fun z hz => by rw [← hnb1]; exact hN1.row_nb _ hz
    have hmnb : N.nb ≠ N.mb .o := by have := hN1.mb_nb .o; rw [hnb1, hmb1] at this; exact Ne.symm this
    have hbxm : w.heap.size ≠ N.mb .o := fun e => hbN1 (.inr (.inl ⟨.o, by rw [hmb1]; exact e⟩))
    have hbxr : (N1.rows (ownRow .o x)).ownBlock ≠ some w.heap.size := fun e => hbN1 (.inr (.inr ⟨_, e⟩))
    have hnlt := hN1.nb_lt
    rw [hnb1] at hnlt
    have hlk := fun (W : World) (hW : Ext w3.drew W) => ((hN1d.ext hW).maps .o).look Tryz.underlying66 (zeroInts W) xwf false
    simp only [Bool.false_eq_true, if_false, hN1.look .o (by simp)] at hlk
    rw [hrowo] at hrnb hbxr
    rw [hmb1, hrowo] at hlk
    generalize hleno : (N1.lists (ownRow .o x)).length = leno at *
    have HK : Hid (∀ W, Chg (fun z => z = N.mb .o ∨ (Value.slice rao leno rco).ownBlock = some z) w3.drew W → W.cell? ⟨N.nb, 6, none⟩ = some (.map (some (N.mb .o))) ∧ W.cell? ⟨w.heap.size, 0, none⟩ = some (.int .i64 id) ∧ W.cell? ⟨w.heap.size, 2, none⟩ = some (.int .i64 x)) := fun W hW => by
      have hcx : ∀ k, W.cell? ⟨w.heap.size, k, none⟩ = w3.cell? ⟨w.heap.size, k, none⟩ := fun k => hW.cell hblt1 (fun hz => hz.elim hbxm hbxr)
      exact ⟨(hW.cell hnlt (fun hz => hz.elim hmnb (fun e => hrnb _ e rfl))).trans hcn, (hcx 0).trans hb10, (hcx 2).trans hb12⟩
    have hcur : Chg (fun z => z = N.mb .o ∨ (Value.slice rao leno rco).ownBlock = some z) w3.drew w3.drew := Chg.refl _ _
    have hszd : base ≤ w3.drew.heap.size := Nat.le_trans hN1.lo (Nat.le_of_lt hN1d.nb_lt |> fun h => by rw [hnb1] at h ⊢; exact h)
    refine wp_region_held_drew (S := (fun W => W.cell? ⟨N.nb, 6, none⟩ = some (.map (some (N.mb .o))) ∧ W.cell? ⟨w.heap.size, 0, none⟩ = some (.int .i64 id) ∧ W.cell? ⟨w.heap.size, 2, none⟩ = some (.int .i64 x))) (by kernel_rfl) (HK.out _ hcur) (fun hHeld => ?_)
    refine tkL 0 ⟨some 49, .move (.tmp 0), 39, _, #[], none⟩ ?_ hHeld ?yyG70 ?rrG70
    case yyG70 => (intro w hSw; (try dsimp only at hSw); go_simp; try with_reducible rfl)
    try simp only [Act.put, putA, putB, putC]
    refine tkL 1 ⟨some 50, .nilCheck (.tmp 49), 0, _, #[⟨0, .data⟩], none⟩ ?_ hHeld ?yyG71 ?rrG71
    case yyG71 => (intro w hSw; (try dsimp only at hSw); go_simp; try with_reducible rfl)
    try simp only [Act.put, putA, putB, putC]
    refine tkL 2 ⟨some 51, .fieldAddr 68 (.tmp 50) 2, 0, _, #[⟨1, .data⟩], none⟩ ?_ hHeld ?yyG72 ?rrG72
    case yyG72 => (intro w hSw; (try dsimp only at hSw); go_simp; try with_reducible rfl)
    try simp only [Act.put, putA, putB, putC]
    refine tkL 3 ⟨some 52, .load 66 (.tmp 51), 66, _, #[⟨2, .data⟩], none⟩ ?_ hHeld ?yyG73 ?rrG73
    case yyG73 => (intro w hSw; (try dsimp only at hSw); go_simp; try with_reducible rfl)
    try simp only [Act.put, putA, putB, putC]
    refine tkL 4 ⟨some 53, .fieldAddr 46 (.tmp 3) 2, 0, _, #[], none⟩ ?_ hHeld ?yyG74 ?rrG74
    case yyG74 => (intro w hSw; (try dsimp only at hSw); go_simp; try with_reducible rfl)
    try simp only [Act.put, putA, putB, putC]
    refine tkL 5 ⟨some 54, .load 3 (.tmp 53), 3, _, #[⟨4, .data⟩], none⟩ ?_ hHeld ?yyG75 ?rrG75
    case yyG75 => (intro w hSw; (try dsimp only at hSw); go_simp; try with_reducible rfl)
    try simp only [Act.put, putA, putB, putC]
    refine tkL 6 ⟨some 55, .move (.tmp 0), 39, _, #[], none⟩ ?_ hHeld ?yyG76 ?rrG76
    case yyG76 => (intro w hSw; (try dsimp only at hSw); go_simp; try with_reducible rfl)
    try simp only [Act.put, putA, putB, putC]
    refine tkL 7 ⟨some 56, .nilCheck (.tmp 55), 0, _, #[⟨6, .data⟩], none⟩ ?_ hHeld ?yyG77 ?rrG77
    case yyG77 => (intro w hSw; (try dsimp only at hSw); go_simp; try with_reducible rfl)
    try simp only [Act.put, putA, putB, putC]
    refine tkL 8 ⟨some 57, .fieldAddr 68 (.tmp 56) 2, 0, _, #[⟨7, .data⟩], none⟩ ?_ hHeld ?yyG78 ?rrG78
    case yyG78 => (intro w hSw; (try dsimp only at hSw); go_simp; try with_reducible rfl)
    try simp only [Act.put, putA, putB, putC]
    refine tkL 9 ⟨some 58, .load 66 (.tmp 57), 66, _, #[⟨8, .data⟩], none⟩ ?_ hHeld ?yyG79 ?rrG79
    case yyG79 => (intro w hSw; (try dsimp only at hSw); go_simp; try with_reducible rfl)
    try simp only [Act.put, putA, putB, putC]
    refine tkL 10 ⟨some 59, .fieldAddr 46 (.tmp 3) 2, 0, _, #[], none⟩ ?_ hHeld ?yyG710 ?rrG710
    case yyG710 => (intro w hSw; (try dsimp only at hSw); go_simp; try with_reducible rfl)
    try simp only [Act.put, putA, putB, putC]
    refine tkL 11 ⟨some 60, .load 3 (.tmp 59), 3, _, #[⟨10, .data⟩], none⟩ ?_ hHeld ?yyG711 ?rrG711
    case yyG711 => (intro w hSw; (try dsimp only at hSw); go_simp; try with_reducible rfl)
    try simp only [Act.put, putA, putB, putC]
    refine tkL 13 ⟨some 62, .fieldAddr 46 (.tmp 3) 0, 0, _, #[], none⟩ ?_ hHeld ?yyG713 ?rrG713
    case yyG713 => (intro w hSw; (try dsimp only at hSw); go_simp; try with_reducible rfl)
    try simp only [Act.put, putA, putB, putC]
    refine tkL 14 ⟨some 63, .load 3 (.tmp 62), 3, _, #[⟨13, .data⟩], none⟩ ?_ hHeld ?yyG714 ?rrG714
    case yyG714 => (intro w hSw; (try dsimp only at hSw); go_simp; try with_reducible rfl)
    try simp only [Act.put, putA, putB, putC]
    generalize hWd : w3.drew = Wo at *
    refine wpAnyH_ready (rs := [12, 15]) (by kernel_rfl) (by simp) ?_
    refine AllReadyH.cons (o := ⟨some 61, .lookup 66 (.tmp 58) (.tmp 60) false, 29, _, #[⟨9, .data⟩, ⟨11, .data⟩], none⟩) rfl (fun K hK => ?_) (AllReadyH.cons (o := ⟨some 64, .buildSlice 29 1 #[(0, .tmp 63)], 29, _, #[⟨14, .data⟩], none⟩) rfl (fun K hK => ?_) (AllReadyH.nil))
    · have hlk1 := hlk Wo (Ext.refl _)
      go_simp
      refine hK.out _ _ (HK.out _ hcur) (fun hHeld => ?_)
      clear hK K
      try simp only [Act.put, putA, putB, putC]
      refine wpAnyH_ready (rs := [15]) (by kernel_rfl) (by simp) ?_
      refine AllReadyH.cons (o := ⟨some 64, .buildSlice 29 1 #[(0, .tmp 63)], 29, _, #[⟨14, .data⟩], none⟩) rfl (fun K hK => ?_) (AllReadyH.nil)
      go_simp
      refine hK.out _ _ (HK.out _ (Chg.of_ext ((Ext.refl _).alloc _))) (fun hHeld => ?_)
      clear hK K
      try simp only [Act.put, putA, putB, putC]
      refine wpAnyH_ready (rs := [16]) (by kernel_rfl) (by simp) ?_
      refine AllReadyH.cons (o := ⟨some 65, .call { callee := .builtin .append, args := #[.tmp 61, .tmp 64], argTypes := #[29, 29] }, 29, _, #[⟨12, .data⟩, ⟨15, .data⟩], none⟩) rfl (fun K hK => ?_) (AllReadyH.nil)
      refine step_append_lies _ (by rfl) _ _ _ (by rfl) base 3 i0 _ 1 8 Tryz.underlying29 hi hz0 hz1 hz2 rfl (by omega) (.slice rao leno rco) leno _ (by rfl) (hroo.alloc _) ⟨Wo.heap.size, 0, none⟩ 1 1 [.int .i64 id] (by rfl) (by rfl) (cell_one_new _ _ _) (by simp [Value.oneCell']) (by omega) (by unfold maxLen; omega) (by omega) (by simp; omega) (Wo.heap.size + 1) (by simp) ?_
      intro go capo w9o hown9 hgrow9 hat9 hlt9
      obtain ⟨obo, hput9, hNxo, hstxo, hoth9⟩ := NetIn.grows hN1d .o (by simp) xwf hrowo (x := id) (obj := .cells #[.int .i64 id] 3) (g := go) (cap := capo) (by rw [hleno]; exact hown9) (by exact hgrow9) (by rcases hat9 with e | e; exact .inl e; exact .inr (by rw [e]; simp))
      rw [hleno] at hput9 hNxo hstxo
      rw [hmb1] at hput9 hNxo hstxo hoth9
      have hcur9 : Chg (fun z => z = N.mb .o ∨ (Value.slice rao leno rco).ownBlock = some z) Wo w9o := (Chg.of_ext ((Ext.refl _).alloc _)).grown hgrow9 (fun b hb => .inr hb)
      refine hK.out _ _ (HK.out _ hcur9) (fun hHeld => ?_)
      clear hK K
      try simp only [Act.put, putA, putB, putC]
      refine wpAnyH_ready (rs := [17]) (by kernel_rfl) (by simp) ?_
      refine AllReadyH.cons (o := ⟨none, .mapUpdate 66 (.tmp 52) (.tmp 54) (.tmp 65), 0, _, #[⟨3, .data⟩, ⟨5, .data⟩, ⟨16, .data⟩, ⟨16, .chain⟩, ⟨0, .phase⟩, ⟨1, .phase⟩, ⟨2, .phase⟩, ⟨3, .phase⟩, ⟨4, .phase⟩, ⟨5, .phase⟩, ⟨6, .phase⟩, ⟨7, .phase⟩, ⟨8, .phase⟩, ⟨9, .phase⟩, ⟨10, .phase⟩, ⟨11, .phase⟩, ⟨12, .phase⟩, ⟨13, .phase⟩, ⟨14, .phase⟩, ⟨15, .phase⟩, ⟨16, .phase⟩], none⟩) rfl (fun K hK => ?_) (AllReadyH.nil)
      go_simp
      refine hK.out _ _ (HK.out _ (hcur9.setBlock (.inl rfl) obo hoth9)) (fun hHeld => ?_)
      clear hK K
      try simp only [Act.put, putA, putB, putC]
      refine wpAnyH_done (by kernel_rfl) ?_ _
      clear hlk1
      clear hlk HK hHeld hcur9 hcur hoth9 hput9 hgrow9 hown9 hat9
      generalize hwx : setBlock w9o (N.mb .o) obo = w4 at *
      obtain ⟨N2, e2⟩ : ∃ N2, N2 = (N1.push (ownRow .o x) (.slice (some ⟨go, 0, none⟩) (leno + 1) capo) id).put .o x (.slice (some ⟨go, 0, none⟩) (leno + 1) capo) := ⟨_, rfl⟩
      rw [← e2] at hNxo hstxo
      have hnb2 : N2.nb = N.nb := by rw [e2]; exact hnb1
      have hmb2 : N2.mb = N.mb := by rw [e2]; exact hmb1
      have hst2 : NStep w3 N1 w4 N2 := (NStep.ext N1 (by rw [← hWd]; exact (Ext.refl _).drew)).trans hstxo
      have hN2 := hNxo
      have hbN2 : ¬ NetR N2 w.heap.size := fun hx => (hst2.own _ hx).elim hbN1 (fun e => by omega)
      have hblt2 := Nat.lt_of_lt_of_le hblt1 hst2.chg.size
      have hb20 := (hst2.chg.cell (o := 0) hblt1 hbN1).trans hb10
      have hb23 := (hst2.chg.cell (o := 3) hblt1 hbN1).trans hb13
      have E2 : Hid (N2 = (N1.push (ownRow .o x) (.slice (some ⟨go, 0, none⟩) (leno + 1) capo) id).put .o x (.slice (some ⟨go, 0, none⟩) (leno + 1) capo)) := e2
      clear e2 hNxo hstxo hwx hWd hll hN1d hroo hcn hrnb hmnb hbxm hbxr hnlt hszd
      go_upto_region 8 with fail
      obtain ⟨rai, rci, hrowi⟩ := hN2.shape (ownRow .i y)
      have hll := hN2.len (ownRow .i y)
      have hN2d := hN2.ext (Ext.refl w4).drew
      have hroi := hN2d.own (ownRow .i y)
      rw [hrowi] at hroi
      have hcn : w4.cell? ⟨N.nb, 7, none⟩ = some (.map (some (N.mb .i))) := by have := hN2.c7; rw [hnb2, hmb2] at this; exact this
      have hrnb : ∀ z, (N2.rows (ownRow .i y)).ownBlock = some z → z ≠ N.nb := fun z hz => by rw [← hnb2]; exact hN2.row_nb _ hz
      have hmnb : N.nb ≠ N.mb .i := by have := hN2.mb_nb .i; rw [hnb2, hmb2] at this; exact Ne.symm this
      have hbxm : w.heap.size ≠ N.mb .i := fun e => hbN2 (.inr (.inl ⟨.i, by rw [hmb2]; exact e⟩))
      have hbxr : (N2.rows (ownRow .i y)).ownBlock ≠ some w.heap.size := fun e => hbN2 (.inr (.inr ⟨_, e⟩))
      have hnlt := hN2.nb_lt
      rw [hnb2] at hnlt
      have hlk := fun (W : World) (hW : Ext w4.drew W) => ((hN2d.ext hW).maps .i).look Tryz.underlying66 (zeroInts W) ywf false
      simp only [Bool.false_eq_true, if_false, hN2.look .i (by simp)] at hlk
      rw [hrowi] at hrnb hbxr
      rw [hmb2, hrowi] at hlk
      generalize hleni : (N2.lists (ownRow .i y)).length = leni at *
      have HK : Hid (∀ W, Chg (fun z => z = N.mb .i ∨ (Value.slice rai leni rci).ownBlock = some z) w4.drew W → W.cell? ⟨N.nb, 7, none⟩ = some (.map (some (N.mb .i))) ∧ W.cell? ⟨w.heap.size, 0, none⟩ = some (.int .i64 id) ∧ W.cell? ⟨w.heap.size, 3, none⟩ = some (.int .i64 y)) := fun W hW => by
        have hcx : ∀ k, W.cell? ⟨w.heap.size, k, none⟩ = w4.cell? ⟨w.heap.size, k, none⟩ := fun k => hW.cell hblt2 (fun hz => hz.elim hbxm hbxr)
        exact ⟨(hW.cell hnlt (fun hz => hz.elim hmnb (fun e => hrnb _ e rfl))).trans hcn, (hcx 0).trans hb20, (hcx 3).trans hb23⟩
      have hcur : Chg (fun z => z = N.mb .i ∨ (Value.slice rai leni rci).ownBlock = some z) w4.drew w4.drew := Chg.refl _ _
      have hszd : base ≤ w4.drew.heap.size := Nat.le_trans hN2.lo (Nat.le_of_lt hN2d.nb_lt |> fun h => by rw [hnb2] at h ⊢; exact h)
      refine wp_region_held_drew (S := (fun W => W.cell? ⟨N.nb, 7, none⟩ = some (.map (some (N.mb .i))) ∧ W.cell? ⟨w.heap.size, 0, none⟩ = some (.int .i64 id) ∧ W.cell? ⟨w.heap.size, 3, none⟩ = some (.int .i64 y))) (by kernel_rfl) (HK.out _ hcur) (fun hHeld => ?_)
      refine tkL 0 ⟨some 66, .move (.tmp 0), 39, _, #[], none⟩ ?_ hHeld ?yyG8a0 ?rrG8a0
      case yyG8a0 => (intro w hSw; (try dsimp only at hSw); go_simp; try with_reducible rfl)
      try simp only [Act.put, putA, putB, putC]
      refine tkL 1 ⟨some 67, .nilCheck (.tmp 66), 0, _, #[⟨0, .data⟩], none⟩ ?_ hHeld ?yyG8a1 ?rrG8a1
      case yyG8a1 => (intro w hSw; (try dsimp only at hSw); go_simp; try with_reducible rfl)
      try simp only [Act.put, putA, putB, putC]
      refine tkL 2 ⟨some 68, .fieldAddr 68 (.tmp 67) 3, 0, _, #[⟨1, .data⟩], none⟩ ?_ hHeld ?yyG8a2 ?rrG8a2
      case yyG8a2 => (intro w hSw; (try dsimp only at hSw); go_simp; try with_reducible rfl)
      try simp only [Act.put, putA, putB, putC]
      refine tkL 3 ⟨some 69, .load 66 (.tmp 68), 66, _, #[⟨2, .data⟩], none⟩ ?_ hHeld ?yyG8a3 ?rrG8a3
      case yyG8a3 => (intro w hSw; (try dsimp only at hSw); go_simp; try with_reducible rfl)
      try simp only [Act.put, putA, putB, putC]
      refine tkL 4 ⟨some 70, .fieldAddr 46 (.tmp 3) 3, 0, _, #[], none⟩ ?_ hHeld ?yyG8a4 ?rrG8a4
      case yyG8a4 => (intro w hSw; (try dsimp only at hSw); go_simp; try with_reducible rfl)
      try simp only [Act.put, putA, putB, putC]
      refine tkL 5 ⟨some 71, .load 3 (.tmp 70), 3, _, #[⟨4, .data⟩], none⟩ ?_ hHeld ?yyG8a5 ?rrG8a5
      case yyG8a5 => (intro w hSw; (try dsimp only at hSw); go_simp; try with_reducible rfl)
      try simp only [Act.put, putA, putB, putC]
      refine tkL 6 ⟨some 72, .move (.tmp 0), 39, _, #[], none⟩ ?_ hHeld ?yyG8a6 ?rrG8a6
      case yyG8a6 => (intro w hSw; (try dsimp only at hSw); go_simp; try with_reducible rfl)
      try simp only [Act.put, putA, putB, putC]
      refine tkL 7 ⟨some 73, .nilCheck (.tmp 72), 0, _, #[⟨6, .data⟩], none⟩ ?_ hHeld ?yyG8a7 ?rrG8a7
      case yyG8a7 => (intro w hSw; (try dsimp only at hSw); go_simp; try with_reducible rfl)
      try simp only [Act.put, putA, putB, putC]
      refine tkL 8 ⟨some 74, .fieldAddr 68 (.tmp 73) 3, 0, _, #[⟨7, .data⟩], none⟩ ?_ hHeld ?yyG8a8 ?rrG8a8
      case yyG8a8 => (intro w hSw; (try dsimp only at hSw); go_simp; try with_reducible rfl)
      try simp only [Act.put, putA, putB, putC]
      refine tkL 9 ⟨some 75, .load 66 (.tmp 74), 66, _, #[⟨8, .data⟩], none⟩ ?_ hHeld ?yyG8a9 ?rrG8a9
      case yyG8a9 => (intro w hSw; (try dsimp only at hSw); go_simp; try with_reducible rfl)
      try simp only [Act.put, putA, putB, putC]
      refine tkL 10 ⟨some 76, .fieldAddr 46 (.tmp 3) 3, 0, _, #[], none⟩ ?_ hHeld ?yyG8a10 ?rrG8a10
      case yyG8a10 => (intro w hSw; (try dsimp only at hSw); go_simp; try with_reducible rfl)
      try simp only [Act.put, putA, putB, putC]
      refine tkL 11 ⟨some 77, .load 3 (.tmp 76), 3, _, #[⟨10, .data⟩], none⟩ ?_ hHeld ?yyG8a11 ?rrG8a11
      case yyG8a11 => (intro w hSw; (try dsimp only at hSw); go_simp; try with_reducible rfl)
      try simp only [Act.put, putA, putB, putC]
      refine tkL 13 ⟨some 79, .fieldAddr 46 (.tmp 3) 0, 0, _, #[], none⟩ ?_ hHeld ?yyG8a13 ?rrG8a13
      case yyG8a13 => (intro w hSw; (try dsimp only at hSw); go_simp; try with_reducible rfl)
      try simp only [Act.put, putA, putB, putC]
      refine tkL 14 ⟨some 80, .load 3 (.tmp 79), 3, _, #[⟨13, .data⟩], none⟩ ?_ hHeld ?yyG8a14 ?rrG8a14
      case yyG8a14 => (intro w hSw; (try dsimp only at hSw); go_simp; try with_reducible rfl)
      try simp only [Act.put, putA, putB, putC]
      generalize hWd : w4.drew = Wi at *
      refine wpAnyH_ready (rs := [12, 15]) (by kernel_rfl) (by simp) ?_
      refine AllReadyH.cons (o := ⟨some 78, .lookup 66 (.tmp 75) (.tmp 77) false, 29, _, #[⟨9, .data⟩, ⟨11, .data⟩], none⟩) rfl (fun K hK => ?_) (AllReadyH.cons (o := ⟨some 81, .buildSlice 29 1 #[(0, .tmp 80)], 29, _, #[⟨14, .data⟩], none⟩) rfl (fun K hK => ?_) (AllReadyH.nil))
      · have hlk1 := hlk Wi (Ext.refl _)
        go_simp
        refine hK.out _ _ (HK.out _ hcur) (fun hHeld => ?_)
        clear hK K
        try simp only [Act.put, putA, putB, putC]
        refine wpAnyH_ready (rs := [15]) (by kernel_rfl) (by simp) ?_
        refine AllReadyH.cons (o := ⟨some 81, .buildSlice 29 1 #[(0, .tmp 80)], 29, _, #[⟨14, .data⟩], none⟩) rfl (fun K hK => ?_) (AllReadyH.nil)
        go_simp
        refine hK.out _ _ (HK.out _ (Chg.of_ext ((Ext.refl _).alloc _))) (fun hHeld => ?_)
        clear hK K
        try simp only [Act.put, putA, putB, putC]
        refine wpAnyH_ready (rs := [16]) (by kernel_rfl) (by simp) ?_
        refine AllReadyH.cons (o := ⟨some 82, .call { callee := .builtin .append, args := #[.tmp 78, .tmp 81], argTypes := #[29, 29] }, 29, _, #[⟨12, .data⟩, ⟨15, .data⟩], none⟩) rfl (fun K hK => ?_) (AllReadyH.nil)
        refine step_append_lies _ (by rfl) _ _ _ (by rfl) base 3 i0 _ 1 8 Tryz.underlying29 hi hz0 hz1 hz2 rfl (by omega) (.slice rai leni rci) leni _ (by rfl) (hroi.alloc _) ⟨Wi.heap.size, 0, none⟩ 1 1 [.int .i64 id] (by rfl) (by rfl) (cell_one_new _ _ _) (by simp [Value.oneCell']) (by omega) (by unfold maxLen; omega) (by omega) (by simp; omega) (Wi.heap.size + 1) (by simp) ?_
        intro gi capi w9i hown9 hgrow9 hat9 hlt9
        obtain ⟨obi, hput9, hNxi, hstxi, hoth9⟩ := NetIn.grows hN2d .i (by simp) ywf hrowi (x := id) (obj := .cells #[.int .i64 id] 3) (g := gi) (cap := capi) (by rw [hleni]; exact hown9) (by exact hgrow9) (by rcases hat9 with e | e; exact .inl e; exact .inr (by rw [e]; simp))
        rw [hleni] at hput9 hNxi hstxi
        rw [hmb2] at hput9 hNxi hstxi hoth9
        have hcur9 : Chg (fun z => z = N.mb .i ∨ (Value.slice rai leni rci).ownBlock = some z) Wi w9i := (Chg.of_ext ((Ext.refl _).alloc _)).grown hgrow9 (fun b hb => .inr hb)
        refine hK.out _ _ (HK.out _ hcur9) (fun hHeld => ?_)
        clear hK K
        try simp only [Act.put, putA, putB, putC]
        refine wpAnyH_ready (rs := [17]) (by kernel_rfl) (by simp) ?_
        refine AllReadyH.cons (o := ⟨none, .mapUpdate 66 (.tmp 69) (.tmp 71) (.tmp 82), 0, _, #[⟨3, .data⟩, ⟨5, .data⟩, ⟨16, .data⟩, ⟨16, .chain⟩, ⟨0, .phase⟩, ⟨1, .phase⟩, ⟨2, .phase⟩, ⟨3, .phase⟩, ⟨4, .phase⟩, ⟨5, .phase⟩, ⟨6, .phase⟩, ⟨7, .phase⟩, ⟨8, .phase⟩, ⟨9, .phase⟩, ⟨10, .phase⟩, ⟨11, .phase⟩, ⟨12, .phase⟩, ⟨13, .phase⟩, ⟨14, .phase⟩, ⟨15, .phase⟩, ⟨16, .phase⟩], none⟩) rfl (fun K hK => ?_) (AllReadyH.nil)
        go_simp
        refine hK.out _ _ (HK.out _ (hcur9.setBlock (.inl rfl) obi hoth9)) (fun hHeld => ?_)
        clear hK K
        try simp only [Act.put, putA, putB, putC]
        refine wpAnyH_done (by kernel_rfl) ?_ _
        clear hlk1
        clear hlk HK hHeld hcur9 hcur hoth9 hput9 hgrow9 hown9 hat9
        generalize hwx : setBlock w9i (N.mb .i) obi = w5 at *
        obtain ⟨N3, e3⟩ : ∃ N3, N3 = (N2.push (ownRow .i y) (.slice (some ⟨gi, 0, none⟩) (leni + 1) capi) id).put .i y (.slice (some ⟨gi, 0, none⟩) (leni + 1) capi) := ⟨_, rfl⟩
        rw [← e3] at hNxi hstxi
        have hnb3 : N3.nb = N.nb := by rw [e3]; exact hnb2
        have hmb3 : N3.mb = N.mb := by rw [e3]; exact hmb2
        have hst3 : NStep w4 N2 w5 N3 := (NStep.ext N2 (by rw [← hWd]; exact (Ext.refl _).drew)).trans hstxi
        have hN3 := hNxi
        have hbN3 : ¬ NetR N3 w.heap.size := fun hx => (hst3.own _ hx).elim hbN2 (fun e => by omega)
        have hblt3 := Nat.lt_of_lt_of_le hblt2 hst3.chg.size
        have hb30 := (hst3.chg.cell (o := 0) hblt2 hbN2).trans hb20
        have hb33 := (hst3.chg.cell (o := 3) hblt2 hbN2).trans hb23
        have E3 : Hid (N3 = (N2.push (ownRow .i y) (.slice (some ⟨gi, 0, none⟩) (leni + 1) capi) id).put .i y (.slice (some ⟨gi, 0, none⟩) (leni + 1) capi)) := e3
        clear e3 hNxi hstxi hwx hWd hll hN2d hroi hcn hrnb hmnb hbxm hbxr hnlt hszd
        have hstA := (((NStep.ext N (Ext.refl Wb).drew).trans hst1).trans hst2).trans hst3
        have hcar : ∀ b, New (w.heap.size + 1) w1.heap.size b → b < Wb.heap.size → w5.heap[b]? = Wb.heap[b]? := fun b hb hl => hstA.chg.block b hl (fun hx => by have := (NetR.lt h hx).2; have := hb.1; omega)
        have hmono : ∀ b, New (w.heap.size + 1) w1.heap.size b → New w.heap.size w1.heap.size b := fun b hb => ⟨by have := hb.1; omega, hb.2⟩
        have DPf := (DP.carry hstA.chg.size hcar).mono hmono
        have OPf := (OP.carry hstA.chg.size hcar).mono hmono
        have hszf := hstA.chg.size
        have hall : ∃ v' uP vo vi m, N3 = ((((((N.push .e v' id).put .e id (.agg #[.int .i64 id, .string kind, .int .i64 x, .int .i64 y, uP])).push (.o x) vo id).put .o x vo).push (.i y) vi id).put .i y vi) ∧ w.heap.size ≤ m ∧ m ≤ w5.heap.size ∧ (DIn (New w.heap.size m) w5 dP uP ∧ Own w5 dP (New w.heap.size m) uP) ∧ ∀ z, NetR N3 z → NetR N z ∨ m ≤ z :=
          ⟨v', _, _, _, w1.heap.size, by rw [E3.out, E2.out, E1.out]; rfl, by omega, by omega, ⟨DPf, OPf⟩, fun z hz => (hstA.own z hz).imp_right (Nat.le_trans hbs)⟩
        have HA : Hid _ := hall
        have HS : Hid _ := (NStep.ext N hEb).trans hstA
        clear hall DPf OPf hcar hmono hstA
        go_wp2
        go_ret
        first | exact ⟨ret_bool (by simp [hnm]), N3, hN3, fun _ => HA.out, fun e => (by simp [hnm] at e), HS.out⟩ | exact ⟨ret_bool (by simp [hnm]), N3, hN3, HA.out, HS.out⟩
      · have hlk1 := hlk _ ((Ext.refl Wi).alloc (.cells #[.int .i64 id] 3))
        go_simp
        refine hK.out _ _ (HK.out _ (Chg.of_ext ((Ext.refl _).alloc _))) (fun hHeld => ?_)
        clear hK K
        try simp only [Act.put, putA, putB, putC]
        refine wpAnyH_ready (rs := [12]) (by kernel_rfl) (by simp) ?_
        refine AllReadyH.cons (o := ⟨some 78, .lookup 66 (.tmp 75) (.tmp 77) false, 29, _, #[⟨9, .data⟩, ⟨11, .data⟩], none⟩) rfl (fun K hK => ?_) (AllReadyH.nil)
        go_simp
        refine hK.out _ _ (HK.out _ (Chg.of_ext ((Ext.refl _).alloc _))) (fun hHeld => ?_)
        clear hK K
        try simp only [Act.put, putA, putB, putC]
        refine wpAnyH_ready (rs := [16]) (by kernel_rfl) (by simp) ?_
        refine AllReadyH.cons (o := ⟨some 82, .call { callee := .builtin .append, args := #[.tmp 78, .tmp 81], argTypes := #[29, 29] }, 29, _, #[⟨12, .data⟩, ⟨15, .data⟩], none⟩) rfl (fun K hK => ?_) (AllReadyH.nil)
        refine step_append_lies _ (by rfl) _ _ _ (by rfl) base 3 i0 _ 1 8 Tryz.underlying29 hi hz0 hz1 hz2 rfl (by omega) (.slice rai leni rci) leni _ (by rfl) (hroi.alloc _) ⟨Wi.heap.size, 0, none⟩ 1 1 [.int .i64 id] (by rfl) (by rfl) (cell_one_new _ _ _) (by simp [Value.oneCell']) (by omega) (by unfold maxLen; omega) (by omega) (by simp; omega) (Wi.heap.size + 1) (by simp) ?_
        intro gi capi w9i hown9 hgrow9 hat9 hlt9
        obtain ⟨obi, hput9, hNxi, hstxi, hoth9⟩ := NetIn.grows hN2d .i (by simp) ywf hrowi (x := id) (obj := .cells #[.int .i64 id] 3) (g := gi) (cap := capi) (by rw [hleni]; exact hown9) (by exact hgrow9) (by rcases hat9 with e | e; exact .inl e; exact .inr (by rw [e]; simp))
        rw [hleni] at hput9 hNxi hstxi
        rw [hmb2] at hput9 hNxi hstxi hoth9
        have hcur9 : Chg (fun z => z = N.mb .i ∨ (Value.slice rai leni rci).ownBlock = some z) Wi w9i := (Chg.of_ext ((Ext.refl _).alloc _)).grown hgrow9 (fun b hb => .inr hb)
        refine hK.out _ _ (HK.out _ hcur9) (fun hHeld => ?_)
        clear hK K
        try simp only [Act.put, putA, putB, putC]
        refine wpAnyH_ready (rs := [17]) (by kernel_rfl) (by simp) ?_
        refine AllReadyH.cons (o := ⟨none, .mapUpdate 66 (.tmp 69) (.tmp 71) (.tmp 82), 0, _, #[⟨3, .data⟩, ⟨5, .data⟩, ⟨16, .data⟩, ⟨16, .chain⟩, ⟨0, .phase⟩, ⟨1, .phase⟩, ⟨2, .phase⟩, ⟨3, .phase⟩, ⟨4, .phase⟩, ⟨5, .phase⟩, ⟨6, .phase⟩, ⟨7, .phase⟩, ⟨8, .phase⟩, ⟨9, .phase⟩, ⟨10, .phase⟩, ⟨11, .phase⟩, ⟨12, .phase⟩, ⟨13, .phase⟩, ⟨14, .phase⟩, ⟨15, .phase⟩, ⟨16, .phase⟩], none⟩) rfl (fun K hK => ?_) (AllReadyH.nil)
        go_simp
        refine hK.out _ _ (HK.out _ (hcur9.setBlock (.inl rfl) obi hoth9)) (fun hHeld => ?_)
        clear hK K
        try simp only [Act.put, putA, putB, putC]
        refine wpAnyH_done (by kernel_rfl) ?_ _
        clear hlk1
        clear hlk HK hHeld hcur9 hcur hoth9 hput9 hgrow9 hown9 hat9
        generalize hwx : setBlock w9i (N.mb .i) obi = w5 at *
        obtain ⟨N3, e3⟩ : ∃ N3, N3 = (N2.push (ownRow .i y) (.slice (some ⟨gi, 0, none⟩) (leni + 1) capi) id).put .i y (.slice (some ⟨gi, 0, none⟩) (leni + 1) capi) := ⟨_, rfl⟩
        rw [← e3] at hNxi hstxi
        have hnb3 : N3.nb = N.nb := by rw [e3]; exact hnb2
        have hmb3 : N3.mb = N.mb := by rw [e3]; exact hmb2
        have hst3 : NStep w4 N2 w5 N3 := (NStep.ext N2 (by rw [← hWd]; exact (Ext.refl _).drew)).trans hstxi
        have hN3 := hNxi
        have hbN3 : ¬ NetR N3 w.heap.size := fun hx => (hst3.own _ hx).elim hbN2 (fun e => by omega)
        have hblt3 := Nat.lt_of_lt_of_le hblt2 hst3.chg.size
        have hb30 := (hst3.chg.cell (o := 0) hblt2 hbN2).trans hb20
        have hb33 := (hst3.chg.cell (o := 3) hblt2 hbN2).trans hb23
        have E3 : Hid (N3 = (N2.push (ownRow .i y) (.slice (some ⟨gi, 0, none⟩) (leni + 1) capi) id).put .i y (.slice (some ⟨gi, 0, none⟩) (leni + 1) capi)) := e3
        clear e3 hNxi hstxi hwx hWd hll hN2d hroi hcn hrnb hmnb hbxm hbxr hnlt hszd
        have hstA := (((NStep.ext N (Ext.refl Wb).drew).trans hst1).trans hst2).trans hst3
        have hcar : ∀ b, New (w.heap.size + 1) w1.heap.size b → b < Wb.heap.size → w5.heap[b]? = Wb.heap[b]? := fun b hb hl => hstA.chg.block b hl (fun hx => by have := (NetR.lt h hx).2; have := hb.1; omega)
        have hmono : ∀ b, New (w.heap.size + 1) w1.heap.size b → New w.heap.size w1.heap.size b := fun b hb => ⟨by have := hb.1; omega, hb.2⟩
        have DPf := (DP.carry hstA.chg.size hcar).mono hmono
        have OPf := (OP.carry hstA.chg.size hcar).mono hmono
        have hszf := hstA.chg.size
        have hall : ∃ v' uP vo vi m, N3 = ((((((N.push .e v' id).put .e id (.agg #[.int .i64 id, .string kind, .int .i64 x, .int .i64 y, uP])).push (.o x) vo id).put .o x vo).push (.i y) vi id).put .i y vi) ∧ w.heap.size ≤ m ∧ m ≤ w5.heap.size ∧ (DIn (New w.heap.size m) w5 dP uP ∧ Own w5 dP (New w.heap.size m) uP) ∧ ∀ z, NetR N3 z → NetR N z ∨ m ≤ z :=
          ⟨v', _, _, _, w1.heap.size, by rw [E3.out, E2.out, E1.out]; rfl, by omega, by omega, ⟨DPf, OPf⟩, fun z hz => (hstA.own z hz).imp_right (Nat.le_trans hbs)⟩
        have HA : Hid _ := hall
        have HS : Hid _ := (NStep.ext N hEb).trans hstA
        clear hall DPf OPf hcar hmono hstA
        go_wp2
        go_ret
        first | exact ⟨ret_bool (by simp [hnm]), N3, hN3, fun _ => HA.out, fun e => (by simp [hnm] at e), HS.out⟩ | exact ⟨ret_bool (by simp [hnm]), N3, hN3, HA.out, HS.out⟩
    · have hlk1 := hlk _ ((Ext.refl Wo).alloc (.cells #[.int .i64 id] 3))
      go_simp
      refine hK.out _ _ (HK.out _ (Chg.of_ext ((Ext.refl _).alloc _))) (fun hHeld => ?_)
      clear hK K
      try simp only [Act.put, putA, putB, putC]
      refine wpAnyH_ready (rs := [12]) (by kernel_rfl) (by simp) ?_
      refine AllReadyH.cons (o := ⟨some 61, .lookup 66 (.tmp 58) (.tmp 60) false, 29, _, #[⟨9, .data⟩, ⟨11, .data⟩], none⟩) rfl (fun K hK => ?_) (AllReadyH.nil)
      go_simp
      refine hK.out _ _ (HK.out _ (Chg.of_ext ((Ext.refl _).alloc _))) (fun hHeld => ?_)
      clear hK K
      try simp only [Act.put, putA, putB, putC]
      refine wpAnyH_ready (rs := [16]) (by kernel_rfl) (by simp) ?_
      refine AllReadyH.cons (o := ⟨some 65, .call { callee := .builtin .append, args := #[.tmp 61, .tmp 64], argTypes := #[29, 29] }, 29, _, #[⟨12, .data⟩, ⟨15, .data⟩], none⟩) rfl (fun K hK => ?_) (AllReadyH.nil)
      refine step_append_lies _ (by rfl) _ _ _ (by rfl) base 3 i0 _ 1 8 Tryz.underlying29 hi hz0 hz1 hz2 rfl (by omega) (.slice rao leno rco) leno _ (by rfl) (hroo.alloc _) ⟨Wo.heap.size, 0, none⟩ 1 1 [.int .i64 id] (by rfl) (by rfl) (cell_one_new _ _ _) (by simp [Value.oneCell']) (by omega) (by unfold maxLen; omega) (by omega) (by simp; omega) (Wo.heap.size + 1) (by simp) ?_
      intro go capo w9o hown9 hgrow9 hat9 hlt9
      obtain ⟨obo, hput9, hNxo, hstxo, hoth9⟩ := NetIn.grows hN1d .o (by simp) xwf hrowo (x := id) (obj := .cells #[.int .i64 id] 3) (g := go) (cap := capo) (by rw [hleno]; exact hown9) (by exact hgrow9) (by rcases hat9 with e | e; exact .inl e; exact .inr (by rw [e]; simp))
      rw [hleno] at hput9 hNxo hstxo
      rw [hmb1] at hput9 hNxo hstxo hoth9
      have hcur9 : Chg (fun z => z = N.mb .o ∨ (Value.slice rao leno rco).ownBlock = some z) Wo w9o := (Chg.of_ext ((Ext.refl _).alloc _)).grown hgrow9 (fun b hb => .inr hb)
      refine hK.out _ _ (HK.out _ hcur9) (fun hHeld => ?_)
      clear hK K
      try simp only [Act.put, putA, putB, putC]
      refine wpAnyH_ready (rs := [17]) (by kernel_rfl) (by simp) ?_
      refine AllReadyH.cons (o := ⟨none, .mapUpdate 66 (.tmp 52) (.tmp 54) (.tmp 65), 0, _, #[⟨3, .data⟩, ⟨5, .data⟩, ⟨16, .data⟩, ⟨16, .chain⟩, ⟨0, .phase⟩, ⟨1, .phase⟩, ⟨2, .phase⟩, ⟨3, .phase⟩, ⟨4, .phase⟩, ⟨5, .phase⟩, ⟨6, .phase⟩, ⟨7, .phase⟩, ⟨8, .phase⟩, ⟨9, .phase⟩, ⟨10, .phase⟩, ⟨11, .phase⟩, ⟨12, .phase⟩, ⟨13, .phase⟩, ⟨14, .phase⟩, ⟨15, .phase⟩, ⟨16, .phase⟩], none⟩) rfl (fun K hK => ?_) (AllReadyH.nil)
      go_simp
      refine hK.out _ _ (HK.out _ (hcur9.setBlock (.inl rfl) obo hoth9)) (fun hHeld => ?_)
      clear hK K
      try simp only [Act.put, putA, putB, putC]
      refine wpAnyH_done (by kernel_rfl) ?_ _
      clear hlk1
      clear hlk HK hHeld hcur9 hcur hoth9 hput9 hgrow9 hown9 hat9
      generalize hwx : setBlock w9o (N.mb .o) obo = w4 at *
      obtain ⟨N2, e2⟩ : ∃ N2, N2 = (N1.push (ownRow .o x) (.slice (some ⟨go, 0, none⟩) (leno + 1) capo) id).put .o x (.slice (some ⟨go, 0, none⟩) (leno + 1) capo) := ⟨_, rfl⟩
      rw [← e2] at hNxo hstxo
      have hnb2 : N2.nb = N.nb := by rw [e2]; exact hnb1
      have hmb2 : N2.mb = N.mb := by rw [e2]; exact hmb1
      have hst2 : NStep w3 N1 w4 N2 := (NStep.ext N1 (by rw [← hWd]; exact (Ext.refl _).drew)).trans hstxo
      have hN2 := hNxo
      have hbN2 : ¬ NetR N2 w.heap.size := fun hx => (hst2.own _ hx).elim hbN1 (fun e => by omega)
      have hblt2 := Nat.lt_of_lt_of_le hblt1 hst2.chg.size
      have hb20 := (hst2.chg.cell (o := 0) hblt1 hbN1).trans hb10
      have hb23 := (hst2.chg.cell (o := 3) hblt1 hbN1).trans hb13
      have E2 : Hid (N2 = (N1.push (ownRow .o x) (.slice (some ⟨go, 0, none⟩) (leno + 1) capo) id).put .o x (.slice (some ⟨go, 0, none⟩) (leno + 1) capo)) := e2
      clear e2 hNxo hstxo hwx hWd hll hN1d hroo hcn hrnb hmnb hbxm hbxr hnlt hszd
      go_upto_region 8 with fail
      obtain ⟨rai, rci, hrowi⟩ := hN2.shape (ownRow .i y)
      have hll := hN2.len (ownRow .i y)
      have hN2d := hN2.ext (Ext.refl w4).drew
      have hroi := hN2d.own (ownRow .i y)
      rw [hrowi] at hroi
      have hcn : w4.cell? ⟨N.nb, 7, none⟩ = some (.map (some (N.mb .i))) := by have := hN2.c7; rw [hnb2, hmb2] at this; exact this
      have hrnb : ∀ z, (N2.rows (ownRow .i y)).ownBlock = some z → z ≠ N.nb := fun z hz => by rw [← hnb2]; exact hN2.row_nb _ hz
      have hmnb : N.nb ≠ N.mb .i := by have := hN2.mb_nb .i; rw [hnb2, hmb2] at this; exact Ne.symm this
      have hbxm : w.heap.size ≠ N.mb .i := fun e => hbN2 (.inr (.inl ⟨.i, by rw [hmb2]; exact e⟩))
      have hbxr : (N2.rows (ownRow .i y)).ownBlock ≠ some w.heap.size := fun e => hbN2 (.inr (.inr ⟨_, e⟩))
      have hnlt := hN2.nb_lt
      rw [hnb2] at hnlt
      have hlk := fun (W : World) (hW : Ext w4.drew W) => ((hN2d.ext hW).maps .i).look Tryz.underlying66 (zeroInts W) ywf false
      simp only [Bool.false_eq_true, if_false, hN2.look .i (by simp)] at hlk
      rw [hrowi] at hrnb hbxr
      rw [hmb2, hrowi] at hlk
      generalize hleni : (N2.lists (ownRow .i y)).length = leni at *
      have HK : Hid (∀ W, Chg (fun z => z = N.mb .i ∨ (Value.slice rai leni rci).ownBlock = some z) w4.drew W → W.cell? ⟨N.nb, 7, none⟩ = some (.map (some (N.mb .i))) ∧ W.cell? ⟨w.heap.size, 0, none⟩ = some (.int .i64 id) ∧ W.cell? ⟨w.heap.size, 3, none⟩ = some (.int .i64 y)) := fun W hW => by
        have hcx : ∀ k, W.cell? ⟨w.heap.size, k, none⟩ = w4.cell? ⟨w.heap.size, k, none⟩ := fun k => hW.cell hblt2 (fun hz => hz.elim hbxm hbxr)
        exact ⟨(hW.cell hnlt (fun hz => hz.elim hmnb (fun e => hrnb _ e rfl))).trans hcn, (hcx 0).trans hb20, (hcx 3).trans hb23⟩
      have hcur : Chg (fun z => z = N.mb .i ∨ (Value.slice rai leni rci).ownBlock = some z) w4.drew w4.drew := Chg.refl _ _
      have hszd : base ≤ w4.drew.heap.size := Nat.le_trans hN2.lo (Nat.le_of_lt hN2d.nb_lt |> fun h => by rw [hnb2] at h ⊢; exact h)
      refine wp_region_held_drew (S := (fun W => W.cell? ⟨N.nb, 7, none⟩ = some (.map (some (N.mb .i))) ∧ W.cell? ⟨w.heap.size, 0, none⟩ = some (.int .i64 id) ∧ W.cell? ⟨w.heap.size, 3, none⟩ = some (.int .i64 y))) (by kernel_rfl) (HK.out _ hcur) (fun hHeld => ?_)
      refine tkL 0 ⟨some 66, .move (.tmp 0), 39, _, #[], none⟩ ?_ hHeld ?yyG8b0 ?rrG8b0
      case yyG8b0 => (intro w hSw; (try dsimp only at hSw); go_simp; try with_reducible rfl)
      try simp only [Act.put, putA, putB, putC]
      refine tkL 1 ⟨some 67, .nilCheck (.tmp 66), 0, _, #[⟨0, .data⟩], none⟩ ?_ hHeld ?yyG8b1 ?rrG8b1
      case yyG8b1 => (intro w hSw; (try dsimp only at hSw); go_simp; try with_reducible rfl)
      try simp only [Act.put, putA, putB, putC]
      refine tkL 2 ⟨some 68, .fieldAddr 68 (.tmp 67) 3, 0, _, #[⟨1, .data⟩], none⟩ ?_ hHeld ?yyG8b2 ?rrG8b2
      case yyG8b2 => (intro w hSw; (try dsimp only at hSw); go_simp; try with_reducible rfl)
      try simp only [Act.put, putA, putB, putC]
      refine tkL 3 ⟨some 69, .load 66 (.tmp 68), 66, _, #[⟨2, .data⟩], none⟩ ?_ hHeld ?yyG8b3 ?rrG8b3
      case yyG8b3 => (intro w hSw; (try dsimp only at hSw); go_simp; try with_reducible rfl)
      try simp only [Act.put, putA, putB, putC]
      refine tkL 4 ⟨some 70, .fieldAddr 46 (.tmp 3) 3, 0, _, #[], none⟩ ?_ hHeld ?yyG8b4 ?rrG8b4
      case yyG8b4 => (intro w hSw; (try dsimp only at hSw); go_simp; try with_reducible rfl)
      try simp only [Act.put, putA, putB, putC]
      refine tkL 5 ⟨some 71, .load 3 (.tmp 70), 3, _, #[⟨4, .data⟩], none⟩ ?_ hHeld ?yyG8b5 ?rrG8b5
      case yyG8b5 => (intro w hSw; (try dsimp only at hSw); go_simp; try with_reducible rfl)
      try simp only [Act.put, putA, putB, putC]
      refine tkL 6 ⟨some 72, .move (.tmp 0), 39, _, #[], none⟩ ?_ hHeld ?yyG8b6 ?rrG8b6
      case yyG8b6 => (intro w hSw; (try dsimp only at hSw); go_simp; try with_reducible rfl)
      try simp only [Act.put, putA, putB, putC]
      refine tkL 7 ⟨some 73, .nilCheck (.tmp 72), 0, _, #[⟨6, .data⟩], none⟩ ?_ hHeld ?yyG8b7 ?rrG8b7
      case yyG8b7 => (intro w hSw; (try dsimp only at hSw); go_simp; try with_reducible rfl)
      try simp only [Act.put, putA, putB, putC]
      refine tkL 8 ⟨some 74, .fieldAddr 68 (.tmp 73) 3, 0, _, #[⟨7, .data⟩], none⟩ ?_ hHeld ?yyG8b8 ?rrG8b8
      case yyG8b8 => (intro w hSw; (try dsimp only at hSw); go_simp; try with_reducible rfl)
      try simp only [Act.put, putA, putB, putC]
      refine tkL 9 ⟨some 75, .load 66 (.tmp 74), 66, _, #[⟨8, .data⟩], none⟩ ?_ hHeld ?yyG8b9 ?rrG8b9
      case yyG8b9 => (intro w hSw; (try dsimp only at hSw); go_simp; try with_reducible rfl)
      try simp only [Act.put, putA, putB, putC]
      refine tkL 10 ⟨some 76, .fieldAddr 46 (.tmp 3) 3, 0, _, #[], none⟩ ?_ hHeld ?yyG8b10 ?rrG8b10
      case yyG8b10 => (intro w hSw; (try dsimp only at hSw); go_simp; try with_reducible rfl)
      try simp only [Act.put, putA, putB, putC]
      refine tkL 11 ⟨some 77, .load 3 (.tmp 76), 3, _, #[⟨10, .data⟩], none⟩ ?_ hHeld ?yyG8b11 ?rrG8b11
      case yyG8b11 => (intro w hSw; (try dsimp only at hSw); go_simp; try with_reducible rfl)
      try simp only [Act.put, putA, putB, putC]
      refine tkL 13 ⟨some 79, .fieldAddr 46 (.tmp 3) 0, 0, _, #[], none⟩ ?_ hHeld ?yyG8b13 ?rrG8b13
      case yyG8b13 => (intro w hSw; (try dsimp only at hSw); go_simp; try with_reducible rfl)
      try simp only [Act.put, putA, putB, putC]
      refine tkL 14 ⟨some 80, .load 3 (.tmp 79), 3, _, #[⟨13, .data⟩], none⟩ ?_ hHeld ?yyG8b14 ?rrG8b14
      case yyG8b14 => (intro w hSw; (try dsimp only at hSw); go_simp; try with_reducible rfl)
      try simp only [Act.put, putA, putB, putC]
      generalize hWd : w4.drew = Wi at *
      refine wpAnyH_ready (rs := [12, 15]) (by kernel_rfl) (by simp) ?_
      refine AllReadyH.cons (o := ⟨some 78, .lookup 66 (.tmp 75) (.tmp 77) false, 29, _, #[⟨9, .data⟩, ⟨11, .data⟩], none⟩) rfl (fun K hK => ?_) (AllReadyH.cons (o := ⟨some 81, .buildSlice 29 1 #[(0, .tmp 80)], 29, _, #[⟨14, .data⟩], none⟩) rfl (fun K hK => ?_) (AllReadyH.nil))
      · have hlk1 := hlk Wi (Ext.refl _)
        go_simp
        refine hK.out _ _ (HK.out _ hcur) (fun hHeld => ?_)
        clear hK K
        try simp only [Act.put, putA, putB, putC]
        refine wpAnyH_ready (rs := [15]) (by kernel_rfl) (by simp) ?_
        refine AllReadyH.cons (o := ⟨some 81, .buildSlice 29 1 #[(0, .tmp 80)], 29, _, #[⟨14, .data⟩], none⟩) rfl (fun K hK => ?_) (AllReadyH.nil)
        go_simp
        refine hK.out _ _ (HK.out _ (Chg.of_ext ((Ext.refl _).alloc _))) (fun hHeld => ?_)
        clear hK K
        try simp only [Act.put, putA, putB, putC]
        refine wpAnyH_ready (rs := [16]) (by kernel_rfl) (by simp) ?_
        refine AllReadyH.cons (o := ⟨some 82, .call { callee := .builtin .append, args := #[.tmp 78, .tmp 81], argTypes := #[29, 29] }, 29, _, #[⟨12, .data⟩, ⟨15, .data⟩], none⟩) rfl (fun K hK => ?_) (AllReadyH.nil)
        refine step_append_lies _ (by rfl) _ _ _ (by rfl) base 3 i0 _ 1 8 Tryz.underlying29 hi hz0 hz1 hz2 rfl (by omega) (.slice rai leni rci) leni _ (by rfl) (hroi.alloc _) ⟨Wi.heap.size, 0, none⟩ 1 1 [.int .i64 id] (by rfl) (by rfl) (cell_one_new _ _ _) (by simp [Value.oneCell']) (by omega) (by unfold maxLen; omega) (by omega) (by simp; omega) (Wi.heap.size + 1) (by simp) ?_
        intro gi capi w9i hown9 hgrow9 hat9 hlt9
        obtain ⟨obi, hput9, hNxi, hstxi, hoth9⟩ := NetIn.grows hN2d .i (by simp) ywf hrowi (x := id) (obj := .cells #[.int .i64 id] 3) (g := gi) (cap := capi) (by rw [hleni]; exact hown9) (by exact hgrow9) (by rcases hat9 with e | e; exact .inl e; exact .inr (by rw [e]; simp))
        rw [hleni] at hput9 hNxi hstxi
        rw [hmb2] at hput9 hNxi hstxi hoth9
        have hcur9 : Chg (fun z => z = N.mb .i ∨ (Value.slice rai leni rci).ownBlock = some z) Wi w9i := (Chg.of_ext ((Ext.refl _).alloc _)).grown hgrow9 (fun b hb => .inr hb)
        refine hK.out _ _ (HK.out _ hcur9) (fun hHeld => ?_)
        clear hK K
        try simp only [Act.put, putA, putB, putC]
        refine wpAnyH_ready (rs := [17]) (by kernel_rfl) (by simp) ?_
        refine AllReadyH.cons (o := ⟨none, .mapUpdate 66 (.tmp 69) (.tmp 71) (.tmp 82), 0, _, #[⟨3, .data⟩, ⟨5, .data⟩, ⟨16, .data⟩, ⟨16, .chain⟩, ⟨0, .phase⟩, ⟨1, .phase⟩, ⟨2, .phase⟩, ⟨3, .phase⟩, ⟨4, .phase⟩, ⟨5, .phase⟩, ⟨6, .phase⟩, ⟨7, .phase⟩, ⟨8, .phase⟩, ⟨9, .phase⟩, ⟨10, .phase⟩, ⟨11, .phase⟩, ⟨12, .phase⟩, ⟨13, .phase⟩, ⟨14, .phase⟩, ⟨15, .phase⟩, ⟨16, .phase⟩], none⟩) rfl (fun K hK => ?_) (AllReadyH.nil)
        go_simp
        refine hK.out _ _ (HK.out _ (hcur9.setBlock (.inl rfl) obi hoth9)) (fun hHeld => ?_)
        clear hK K
        try simp only [Act.put, putA, putB, putC]
        refine wpAnyH_done (by kernel_rfl) ?_ _
        clear hlk1
        clear hlk HK hHeld hcur9 hcur hoth9 hput9 hgrow9 hown9 hat9
        generalize hwx : setBlock w9i (N.mb .i) obi = w5 at *
        obtain ⟨N3, e3⟩ : ∃ N3, N3 = (N2.push (ownRow .i y) (.slice (some ⟨gi, 0, none⟩) (leni + 1) capi) id).put .i y (.slice (some ⟨gi, 0, none⟩) (leni + 1) capi) := ⟨_, rfl⟩
        rw [← e3] at hNxi hstxi
        have hnb3 : N3.nb = N.nb := by rw [e3]; exact hnb2
        have hmb3 : N3.mb = N.mb := by rw [e3]; exact hmb2
        have hst3 : NStep w4 N2 w5 N3 := (NStep.ext N2 (by rw [← hWd]; exact (Ext.refl _).drew)).trans hstxi
        have hN3 := hNxi
        have hbN3 : ¬ NetR N3 w.heap.size := fun hx => (hst3.own _ hx).elim hbN2 (fun e => by omega)
        have hblt3 := Nat.lt_of_lt_of_le hblt2 hst3.chg.size
        have hb30 := (hst3.chg.cell (o := 0) hblt2 hbN2).trans hb20
        have hb33 := (hst3.chg.cell (o := 3) hblt2 hbN2).trans hb23
        have E3 : Hid (N3 = (N2.push (ownRow .i y) (.slice (some ⟨gi, 0, none⟩) (leni + 1) capi) id).put .i y (.slice (some ⟨gi, 0, none⟩) (leni + 1) capi)) := e3
        clear e3 hNxi hstxi hwx hWd hll hN2d hroi hcn hrnb hmnb hbxm hbxr hnlt hszd
        have hstA := (((NStep.ext N (Ext.refl Wb).drew).trans hst1).trans hst2).trans hst3
        have hcar : ∀ b, New (w.heap.size + 1) w1.heap.size b → b < Wb.heap.size → w5.heap[b]? = Wb.heap[b]? := fun b hb hl => hstA.chg.block b hl (fun hx => by have := (NetR.lt h hx).2; have := hb.1; omega)
        have hmono : ∀ b, New (w.heap.size + 1) w1.heap.size b → New w.heap.size w1.heap.size b := fun b hb => ⟨by have := hb.1; omega, hb.2⟩
        have DPf := (DP.carry hstA.chg.size hcar).mono hmono
        have OPf := (OP.carry hstA.chg.size hcar).mono hmono
        have hszf := hstA.chg.size
        have hall : ∃ v' uP vo vi m, N3 = ((((((N.push .e v' id).put .e id (.agg #[.int .i64 id, .string kind, .int .i64 x, .int .i64 y, uP])).push (.o x) vo id).put .o x vo).push (.i y) vi id).put .i y vi) ∧ w.heap.size ≤ m ∧ m ≤ w5.heap.size ∧ (DIn (New w.heap.size m) w5 dP uP ∧ Own w5 dP (New w.heap.size m) uP) ∧ ∀ z, NetR N3 z → NetR N z ∨ m ≤ z :=
          ⟨v', _, _, _, w1.heap.size, by rw [E3.out, E2.out, E1.out]; rfl, by omega, by omega, ⟨DPf, OPf⟩, fun z hz => (hstA.own z hz).imp_right (Nat.le_trans hbs)⟩
        have HA : Hid _ := hall
        have HS : Hid _ := (NStep.ext N hEb).trans hstA
        clear hall DPf OPf hcar hmono hstA
        go_wp2
        go_ret
        first | exact ⟨ret_bool (by simp [hnm]), N3, hN3, fun _ => HA.out, fun e => (by simp [hnm] at e), HS.out⟩ | exact ⟨ret_bool (by simp [hnm]), N3, hN3, HA.out, HS.out⟩
      · have hlk1 := hlk _ ((Ext.refl Wi).alloc (.cells #[.int .i64 id] 3))
        go_simp
        refine hK.out _ _ (HK.out _ (Chg.of_ext ((Ext.refl _).alloc _))) (fun hHeld => ?_)
        clear hK K
        try simp only [Act.put, putA, putB, putC]
        refine wpAnyH_ready (rs := [12]) (by kernel_rfl) (by simp) ?_
        refine AllReadyH.cons (o := ⟨some 78, .lookup 66 (.tmp 75) (.tmp 77) false, 29, _, #[⟨9, .data⟩, ⟨11, .data⟩], none⟩) rfl (fun K hK => ?_) (AllReadyH.nil)
        go_simp
        refine hK.out _ _ (HK.out _ (Chg.of_ext ((Ext.refl _).alloc _))) (fun hHeld => ?_)
        clear hK K
        try simp only [Act.put, putA, putB, putC]
        refine wpAnyH_ready (rs := [16]) (by kernel_rfl) (by simp) ?_
        refine AllReadyH.cons (o := ⟨some 82, .call { callee := .builtin .append, args := #[.tmp 78, .tmp 81], argTypes := #[29, 29] }, 29, _, #[⟨12, .data⟩, ⟨15, .data⟩], none⟩) rfl (fun K hK => ?_) (AllReadyH.nil)
        refine step_append_lies _ (by rfl) _ _ _ (by rfl) base 3 i0 _ 1 8 Tryz.underlying29 hi hz0 hz1 hz2 rfl (by omega) (.slice rai leni rci) leni _ (by rfl) (hroi.alloc _) ⟨Wi.heap.size, 0, none⟩ 1 1 [.int .i64 id] (by rfl) (by rfl) (cell_one_new _ _ _) (by simp [Value.oneCell']) (by omega) (by unfold maxLen; omega) (by omega) (by simp; omega) (Wi.heap.size + 1) (by simp) ?_
        intro gi capi w9i hown9 hgrow9 hat9 hlt9
        obtain ⟨obi, hput9, hNxi, hstxi, hoth9⟩ := NetIn.grows hN2d .i (by simp) ywf hrowi (x := id) (obj := .cells #[.int .i64 id] 3) (g := gi) (cap := capi) (by rw [hleni]; exact hown9) (by exact hgrow9) (by rcases hat9 with e | e; exact .inl e; exact .inr (by rw [e]; simp))
        rw [hleni] at hput9 hNxi hstxi
        rw [hmb2] at hput9 hNxi hstxi hoth9
        have hcur9 : Chg (fun z => z = N.mb .i ∨ (Value.slice rai leni rci).ownBlock = some z) Wi w9i := (Chg.of_ext ((Ext.refl _).alloc _)).grown hgrow9 (fun b hb => .inr hb)
        refine hK.out _ _ (HK.out _ hcur9) (fun hHeld => ?_)
        clear hK K
        try simp only [Act.put, putA, putB, putC]
        refine wpAnyH_ready (rs := [17]) (by kernel_rfl) (by simp) ?_
        refine AllReadyH.cons (o := ⟨none, .mapUpdate 66 (.tmp 69) (.tmp 71) (.tmp 82), 0, _, #[⟨3, .data⟩, ⟨5, .data⟩, ⟨16, .data⟩, ⟨16, .chain⟩, ⟨0, .phase⟩, ⟨1, .phase⟩, ⟨2, .phase⟩, ⟨3, .phase⟩, ⟨4, .phase⟩, ⟨5, .phase⟩, ⟨6, .phase⟩, ⟨7, .phase⟩, ⟨8, .phase⟩, ⟨9, .phase⟩, ⟨10, .phase⟩, ⟨11, .phase⟩, ⟨12, .phase⟩, ⟨13, .phase⟩, ⟨14, .phase⟩, ⟨15, .phase⟩, ⟨16, .phase⟩], none⟩) rfl (fun K hK => ?_) (AllReadyH.nil)
        go_simp
        refine hK.out _ _ (HK.out _ (hcur9.setBlock (.inl rfl) obi hoth9)) (fun hHeld => ?_)
        clear hK K
        try simp only [Act.put, putA, putB, putC]
        refine wpAnyH_done (by kernel_rfl) ?_ _
        clear hlk1
        clear hlk HK hHeld hcur9 hcur hoth9 hput9 hgrow9 hown9 hat9
        generalize hwx : setBlock w9i (N.mb .i) obi = w5 at *
        obtain ⟨N3, e3⟩ : ∃ N3, N3 = (N2.push (ownRow .i y) (.slice (some ⟨gi, 0, none⟩) (leni + 1) capi) id).put .i y (.slice (some ⟨gi, 0, none⟩) (leni + 1) capi) := ⟨_, rfl⟩
        rw [← e3] at hNxi hstxi
        have hnb3 : N3.nb = N.nb := by rw [e3]; exact hnb2
        have hmb3 : N3.mb = N.mb := by rw [e3]; exact hmb2
        have hst3 : NStep w4 N2 w5 N3 := (NStep.ext N2 (by rw [← hWd]; exact (Ext.refl _).drew)).trans hstxi
        have hN3 := hNxi
        have hbN3 : ¬ NetR N3 w.heap.size := fun hx => (hst3.own _ hx).elim hbN2 (fun e => by omega)
        have hblt3 := Nat.lt_of_lt_of_le hblt2 hst3.chg.size
        have hb30 := (hst3.chg.cell (o := 0) hblt2 hbN2).trans hb20
        have hb33 := (hst3.chg.cell (o := 3) hblt2 hbN2).trans hb23
        have E3 : Hid (N3 = (N2.push (ownRow .i y) (.slice (some ⟨gi, 0, none⟩) (leni + 1) capi) id).put .i y (.slice (some ⟨gi, 0, none⟩) (leni + 1) capi)) := e3
        clear e3 hNxi hstxi hwx hWd hll hN2d hroi hcn hrnb hmnb hbxm hbxr hnlt hszd
        have hstA := (((NStep.ext N (Ext.refl Wb).drew).trans hst1).trans hst2).trans hst3
        have hcar : ∀ b, New (w.heap.size + 1) w1.heap.size b → b < Wb.heap.size → w5.heap[b]? = Wb.heap[b]? := fun b hb hl => hstA.chg.block b hl (fun hx => by have := (NetR.lt h hx).2; have := hb.1; omega)
        have hmono : ∀ b, New (w.heap.size + 1) w1.heap.size b → New w.heap.size w1.heap.size b := fun b hb => ⟨by have := hb.1; omega, hb.2⟩
        have DPf := (DP.carry hstA.chg.size hcar).mono hmono
        have OPf := (OP.carry hstA.chg.size hcar).mono hmono
        have hszf := hstA.chg.size
        have hall : ∃ v' uP vo vi m, N3 = ((((((N.push .e v' id).put .e id (.agg #[.int .i64 id, .string kind, .int .i64 x, .int .i64 y, uP])).push (.o x) vo id).put .o x vo).push (.i y) vi id).put .i y vi) ∧ w.heap.size ≤ m ∧ m ≤ w5.heap.size ∧ (DIn (New w.heap.size m) w5 dP uP ∧ Own w5 dP (New w.heap.size m) uP) ∧ ∀ z, NetR N3 z → NetR N z ∨ m ≤ z :=
          ⟨v', _, _, _, w1.heap.size, by rw [E3.out, E2.out, E1.out]; rfl, by omega, by omega, ⟨DPf, OPf⟩, fun z hz => (hstA.own z hz).imp_right (Nat.le_trans hbs)⟩
        have HA : Hid _ := hall
        have HS : Hid _ := (NStep.ext N hEb).trans hstA
        clear hall DPf OPf hcar hmono hstA
        go_wp2
        go_ret
        first | exact ⟨ret_bool (by simp [hnm]), N3, hN3, fun _ => HA.out, fun e => (by simp [hnm] at e), HS.out⟩ | exact ⟨ret_bool (by simp [hnm]), N3, hN3, HA.out, HS.out⟩
end Go.Proofs.YtbhmblkappmfjaaGreat

/- How a net begins. -/
namespace Go.Proofs.YtbhmblkappmfjaaGreat
open Go.RowKit Go.Deep

set_option maxHeartbeats 400000 in
theorem newTableN_any (n : Int) (w : World) : Calls Tryz.prog 24 #[.int .i64 n] w fun e w' => ∃ B, e = .returned (.agg #[.slice none 0 0, .map (some B), .int .i64 n]) ∧ w.heap.size ≤ B ∧ (∀ val, MapF w' B [] val) ∧ Ext w w' := by
  have hmm := @run_makeMap Tryz.prog
  have hM := fun o val => MapF.new (w.alloc o) val
  simp only [World.size_alloc] at hM
  go_enter Tryz.func24, Tryz.ntmps24
  go_wp2
  exact bodyPost_ret (v := .agg #[.slice none 0 0, .map (some (w.heap.size + 1)), .int .i64 n]) (by simp [results, Tryz.results24, go_sem]) rfl ⟨_, rfl, by omega, hM _, ((Ext.refl _).alloc _).alloc _⟩
set_option maxHeartbeats 400000 in
theorem newTableE_any (n : Int) (w : World) : Calls Tryz.prog 25 #[.int .i64 n] w fun e w' => ∃ B, e = .returned (.agg #[.slice none 0 0, .map (some B), .int .i64 n]) ∧ w.heap.size ≤ B ∧ (∀ val, MapF w' B [] val) ∧ Ext w w' := by
  have hmm := @run_makeMap Tryz.prog
  have hM := fun o val => MapF.new (w.alloc o) val
  simp only [World.size_alloc] at hM
  go_enter Tryz.func25, Tryz.ntmps25
  go_wp2
  exact bodyPost_ret (v := .agg #[.slice none 0 0, .map (some (w.heap.size + 1)), .int .i64 n]) (by simp [results, Tryz.results25, go_sem]) rfl ⟨_, rfl, by omega, hM _, ((Ext.refl _).alloc _).alloc _⟩

/-- A net without anything. -/
def net0 (mN mE mO mI nb : Nat) (nn ne : Int) : NetD where
  rows := fun _ => .slice none 0 0
  lists := fun _ => []
  mb := fun j => match j with | .n => mN | .e => mE | .o => mO | .i => mI
  keys := fun _ => []
  val := fun _ _ => undef
  nn := nn
  ne := ne
  nb := nb
theorem lists_e (N : NetD) (v' : Value) (id : Int) (u : Value) (x y : Int) (vo vi : Value) : ((((((N.push .e v' id).put .e id u).push (.o x) vo id).put .o x vo).push (.i y) vi id).put .i y vi).lists .e = N.lists .e ++ [id] := by
  simp [NetD.push, NetD.put, upd]
theorem keys_n (N : NetD) (v' : Value) (id : Int) (u : Value) (x y : Int) (vo vi : Value) : ((((((N.push .e v' id).put .e id u).push (.o x) vo id).put .o x vo).push (.i y) vi id).put .i y vi).keys .n = N.keys .n := by
  simp [NetD.push, NetD.put, upd]
theorem keys_e (N : NetD) (v' : Value) (id : Int) (u : Value) (x y : Int) (vo vi : Value) : ((((((N.push .e v' id).put .e id u).push (.o x) vo id).put .o x vo).push (.i y) vi id).put .i y vi).keys .e = putKeys (N.keys .e) id := by
  simp [NetD.push, NetD.put, upd]
theorem lists_n (N : NetD) (v' : Value) (id : Int) (u : Value) (x y : Int) (vo vi : Value) : ((((((N.push .e v' id).put .e id u).push (.o x) vo id).put .o x vo).push (.i y) vi id).put .i y vi).lists .n = N.lists .n := by
  simp [NetD.push, NetD.put, upd]
theorem val_n (N : NetD) (v' : Value) (id : Int) (u : Value) (x y : Int) (vo vi : Value) : ((((((N.push .e v' id).put .e id u).push (.o x) vo id).put .o x vo).push (.i y) vi id).put .i y vi).val .n = N.val .n := by
  simp [NetD.push, NetD.put, upd]
theorem val_e (N : NetD) (v' : Value) (id : Int) (u : Value) (x y : Int) (vo vi : Value) : ((((((N.push .e v' id).put .e id u).push (.o x) vo id).put .o x vo).push (.i y) vi id).put .i y vi).val .e = putVal (N.val .e) id u := by
  simp [NetD.push, NetD.put, upd]
theorem NetIn.low {w : World} {base base' c : Nat} {N : NetD} (h : NetIn w base c N) (e : base' ≤ base) : NetIn w base' c N :=
  ⟨h.blk, Nat.le_trans e h.lo, fun r => (h.own r).mono e, h.len, h.sep, h.maps, fun j => Nat.le_trans e (h.mlo j), h.minj, h.outs, h.ins, h.shp⟩
theorem net0_in {W : World} {base mN mE mO mI : Nat} {nn ne : Int} (hN : ∀ val, MapF W mN [] val) (hE : ∀ val, MapF W mE [] val) (hO : ∀ val, MapF W mO [] val) (hI : ∀ val, MapF W mI [] val) (bN : base ≤ mN) (bE : base ≤ mE) (bO : base ≤ mO) (bI : base ≤ mI) (hb : base ≤ W.heap.size)
    (d1 : mN ≠ mE) (d2 : mN ≠ mO) (d3 : mN ≠ mI) (d4 : mE ≠ mO) (d5 : mE ≠ mI) (d6 : mO ≠ mI) :
    NetIn (W.alloc (.cells #[.slice none 0 0, .map (some mN), .int .i64 nn, .slice none 0 0, .map (some mE), .int .i64 ne, .map (some mO), .map (some mI)] 68)) base 0 (net0 mN mE mO mI W.heap.size nn ne) := by
  refine ⟨heap_alloc_new W _, hb, fun r => World.ownsRow_nil _ _ _ _, fun r => Nat.le_refl _, fun r r' _ x h => (by cases h), fun j => ?_, fun j => ?_, fun j j' e => ?_, fun k => ?_, fun k => ?_, fun j k hk => ?_⟩
  · cases j
    · exact (hN _).ext ((Ext.refl _).alloc _)
    · exact (hE _).ext ((Ext.refl _).alloc _)
    · exact (hO _).ext ((Ext.refl _).alloc _)
    · exact (hI _).ext ((Ext.refl _).alloc _)
  · cases j <;> assumption
  · cases j <;> cases j' <;> first | rfl | exact absurd e d1 | exact absurd e d2 | exact absurd e d3 | exact absurd e d4 | exact absurd e d5 | exact absurd e d6 | exact absurd e.symm d1 | exact absurd e.symm d2 | exact absurd e.symm d3 | exact absurd e.symm d4 | exact absurd e.symm d5 | exact absurd e.symm d6
  · rw [if_neg (by simp [net0])]; rfl
  · rw [if_neg (by simp [net0])]; rfl
  · simp [net0] at hk
end Go.Proofs.YtbhmblkappmfjaaGreat
