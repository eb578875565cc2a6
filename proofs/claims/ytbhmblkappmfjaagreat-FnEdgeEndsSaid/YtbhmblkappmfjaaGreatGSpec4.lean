/- What spec.GraphOk answers. -/
import Derived.Test.YtbhmblkappmfjaaGreatTk
import Derived.Test.YtbhmblkappmfjaaGreatGSpec3
import Derived.Deep.DeepCutAuto
namespace Go.Proofs.YtbhmblkappmfjaaGreat
open Go.RowKit Go.Deep Go.WideShapes

def nodeB (f : Nat → Nat → D) (nx : Int) (i : Nat) : Bool := inB (f i 0).int! 0 (IntKind.i64.wrap (nx - 1)) && labelsB (f i 1) && propsB (f i 2) && (i == 0 || decide ((f (i - 1) 0).int! < (f i 0).int!))
def edgeB (f : Nat → Nat → D) (d0 : D) (nx : Int) (i : Nat) : Bool := inB (f i 0).int! 0 (IntKind.i64.wrap (nx - 1)) && nameB (f i 1).str! && propsB (f i 4) && hasId d0 (f i 2).int! && hasId d0 (f i 3).int! && (i == 0 || decide ((f (i - 1) 0).int! < (f i 0).int!))
/-- A graph is ok. -/
def graphB (d0 d1 : D) (x2 x3 : Int) : Bool := (List.range d0.len!).all (nodeB d0.at! x2) && (List.range d1.len!).all (edgeB d1.at! d0 x3) && (decide (d0.len! ≤ 12) && decide (d1.len! ≤ 16) && inB x2 0 1000000000 && inB x3 0 1000000000)

set_option maxRecDepth 100000 in
set_option maxHeartbeats 8000000 in
theorem specGraphOk_any (S : Nat → Prop) (d0 d1 : D) (c0 c1 : Value) (x2 x3 : Int) (w : World) (H0 : Has d0 (.list 4)) (h0 : DIn S w d0 c0) (H1 : Has d1 (.list 5)) (h1 : DIn S w d1 c1) :
    Calls Tryz.prog 6 #[.agg #[c0, c1, .int .i64 x2, .int .i64 x3]] w fun e w' => e = .returned (.bool (graphB d0 d1 x2 x3)) ∧ Ext w w' := by
  have h0a := h0
  have hnode := fun (W : World) (hW : Ext w W) (id : Int) (hc1 : ∃ a l c, c1 = .slice a l c) => l2Node_any S d0 c0 c1 x2 x3 id W H0 (h0.ext hW) hc1
  have HG : Hid (graphB d0 d1 x2 x3 = ((List.range d0.len!).all (nodeB d0.at! x2) && (List.range d1.len!).all (edgeB d1.at! d0 x3) && (decide (d0.len! ≤ 12) && decide (d1.len! ≤ 16) && inB x2 0 1000000000 && inB x3 0 1000000000))) := rfl
  obtain ⟨len0, f0, hd0e, HR0⟩ := H0.list
  obtain ⟨len1, f1, hd1e, HR1⟩ := H1.list
  have hL0 : d0.len! = len0 := by rw [hd0e]; rfl
  have hL1 : d1.len! = len1 := by rw [hd1e]; rfl
  have hF0 : d0.at! = f0 := by rw [hd0e]; rfl
  have hF1 : d1.at! = f1 := by rw [hd1e]; rfl
  rw [hL0, hL1, hF0, hF1] at HG
  rw [hd0e] at h0a
  rw [hd1e] at h1
  change DIn S w (.list 3 len0 f0) c0 at h0a
  change DIn S w (.list 5 len1 f1) c1 at h1
  obtain ⟨a0, cap0, rfl, hm0⟩ := h0a.list_eq
  obtain ⟨a1, cap1, rfl, hm1⟩ := h1.list_eq
  unfold maxLen at hm0 hm1
  have hnode' : ∀ (W : World), Ext w W → ∀ id : Int, Calls Tryz.prog 15 #[.agg #[.slice a0 len0 cap0, .slice a1 len1 cap1, .int .i64 x2, .int .i64 x3], .int .i64 id] W fun e w' => ∃ r : Int, e = .returned (.int .i64 r) ∧ decide (r < 0) = !hasId d0 id ∧ Ext W w' := fun W hW id => (hnode W hW id ⟨_, _, _, rfl⟩).mono fun e w' ⟨he, hE⟩ => ⟨_, he, findI_neg _ _, hE⟩
  clear hnode hL0 hL1 hF0 hF1 hd0e hd1e H0 h0 H1
  have hbad0 : ∀ k, k < len0 → nodeB f0 x2 k = false → graphB d0 d1 x2 x3 = false := fun k hk h => by rw [HG.out, all_no hk h]; rfl
  have hbad1 : ∀ k, k < len1 → edgeB f1 d0 x3 k = false → graphB d0 d1 x2 x3 = false := fun k hk h => by rw [HG.out, all_no hk h, Bool.and_false]; rfl
  go_enter Tryz.func6, Tryz.ntmps6
  go_wp2
  generalize hW0 : w.alloc _ = W0
  have hE0 : Ext w W0 := by subst hW0; exact (Ext.refl _).alloc _
  have hgx : ∀ W, Ext W0 W → W.cell? ⟨w.heap.size, 0, none⟩ = some (.slice a0 len0 cap0) ∧ W.cell? ⟨w.heap.size, 1, none⟩ = some (.slice a1 len1 cap1) ∧ W.cell? ⟨w.heap.size, 2, none⟩ = some (.int .i64 x2) ∧ W.cell? ⟨w.heap.size, 3, none⟩ = some (.int .i64 x3) := fun W hW => by subst hW0; exact ⟨box_cell hW 0 _ rfl, box_cell hW 1 _ rfl, box_cell hW 2 _ rfl, box_cell hW 3 _ rfl⟩
  have hsz0 : w.heap.size < W0.heap.size := by subst hW0; simp
  clear hW0
  go_loopw [3] (fun i wr => ∃ k : Nat, k ≤ len0 ∧ i = .int .i64 k ∧ Ext W0 wr ∧ ∀ j, j < k → nodeB f0 x2 j = true) (fun i _ => len0 - (intOf i).toNat)
  case atStart => exact ⟨0, Nat.zero_le _, rfl, Ext.refl _, fun j h => by omega⟩
  case round =>
    obtain ⟨k, hk, rfl, hE, hno⟩ := hrel
    obtain ⟨g0, g1, g2, g3⟩ := hgx wr hE
    by_cases hlt : k < len0
    · obtain ⟨cap2, b, off, C, hsl, _, hb, ec, hx⟩ := (h0a.ext (hE0.trans hE)).at hlt
      cases hsl
      have HR := HR0 k hlt
      obtain ⟨qx0, qhd0⟩ := (show Has (f0 k 0) .int from HR 0 (by decide)).int
      have qh0 := hx 0 (by decide)
      have qe0 := ec 0 (by decide)
      rw [qhd0] at qh0
      obtain ⟨qy0, qz0⟩ := qh0.int_eq
      rw [qy0] at qe0
      clear qy0
      have qH1 : Has (f0 k 1) (.list 0) := HR 1 (by decide)
      have qh1 := hx 1 (by decide)
      have qe1 := ec 1 (by decide)
      have qH2 : Has (f0 k 2) (.list 3) := HR 2 (by decide)
      have qh2 := hx 2 (by decide)
      have qe2 := ec 2 (by decide)
      simp only [Nat.add_zero] at qe0
      clear hx ec
      obtain ⟨aa, lc, ll, _, hDa, hC1, _, _⟩ := list_shape qH1 qh1
      obtain ⟨ba, bc, bl, _, hDb, hC2, _, _⟩ := list_shape qH2 qh2
      rw [hC1] at qe1 qh1
      rw [hC2] at qe2 qh2
      clear hDa hDb hC1 hC2 HR
      obtain ⟨y0, hy0⟩ : ∃ y0, y0 = qx0 := ⟨_, rfl⟩
      rw [← hy0] at qe0 qhd0
      clear hy0
      have hLk : Hid (nodeB f0 x2 k = (inB y0 0 (IntKind.i64.wrap (x2 - 1)) && labelsB (f0 k 1) && propsB (f0 k 2) && (k == 0 || decide ((f0 (k - 1) 0).int! < y0)))) := by show _ = _; rw [nodeB, qhd0]; rfl
      go_wp2_with fail
      generalize hW1 : wr.alloc _ = W1
      have hE1 : Ext wr W1 := by subst hW1; exact (Ext.refl _).alloc _
      have hnx : ∀ W, Ext W1 W → W.cell? ⟨wr.heap.size, 0, none⟩ = some (.int .i64 y0) ∧ W.cell? ⟨wr.heap.size, 1, none⟩ = some (.slice aa ll lc) ∧ W.cell? ⟨wr.heap.size, 2, none⟩ = some (.slice ba bl bc) := fun W hW => by subst hW1; exact ⟨box_cell hW 0 _ rfl, box_cell hW 1 _ rfl, box_cell hW 2 _ rfl⟩
      clear hW1
      have hB : Ext W0 W1 := hE.trans hE1
      have hA : Ext w W1 := hE0.trans hB
      have hall : ∀ W, Ext W1 W → (W.cell? ⟨w.heap.size, 0, none⟩ = some (.slice (some ⟨b, off, none⟩) len0 cap0) ∧ W.cell? ⟨w.heap.size, 1, none⟩ = some (.slice a1 len1 cap1) ∧ W.cell? ⟨w.heap.size, 2, none⟩ = some (.int .i64 x2) ∧ W.cell? ⟨w.heap.size, 3, none⟩ = some (.int .i64 x3)) ∧ W.cell? ⟨wr.heap.size, 0, none⟩ = some (.int .i64 y0) ∧ W.cell? ⟨wr.heap.size, 1, none⟩ = some (.slice aa ll lc) ∧ W.cell? ⟨wr.heap.size, 2, none⟩ = some (.slice ba bl bc) := fun W hW => ⟨hgx W (hB.trans hW), hnx W hW⟩
      have hlab := fun (W : World) (hW : Ext W1 W) => l2Labels_any (f0 k 1) qH1 S _ W (qh1.ext (hE1.trans hW))
      have hprp := fun (W : World) (hW : Ext W1 W) => l2Props_any (f0 k 2) qH2 S _ W (qh2.ext (hE1.trans hW))
      have hbk := hbad0 k hlt
      clear g0 g1 g2 g3 qe0 qe1 qe2 hgx hnx
      generalize labelsB (f0 k 1) = lb at hLk hlab
      generalize propsB (f0 k 2) = pb at hLk hprp
      generalize hib : inB y0 0 (IntKind.i64.wrap (x2 - 1)) = ib at hLk
      cases ib
      · have hfin : Hid (graphB d0 d1 x2 x3 = false) := hbk (by rw [hLk.out]; rfl)
        have HK : Hid (∀ W, Ext W1 W → (W.cell? ⟨w.heap.size, 0, none⟩ = some (.slice (some ⟨b, off, none⟩) len0 cap0) ∧ W.cell? ⟨w.heap.size, 1, none⟩ = some (.slice a1 len1 cap1) ∧ W.cell? ⟨w.heap.size, 2, none⟩ = some (.int .i64 x2) ∧ W.cell? ⟨w.heap.size, 3, none⟩ = some (.int .i64 x3)) ∧ W.cell? ⟨wr.heap.size, 0, none⟩ = some (.int .i64 y0) ∧ W.cell? ⟨wr.heap.size, 1, none⟩ = some (.slice aa ll lc) ∧ W.cell? ⟨wr.heap.size, 2, none⟩ = some (.slice ba bl bc)) := hall
        have hcur : Ext W1 W1.drew := (Ext.refl _).drew
        refine wp_region_held_drew (S := (fun W => (W.cell? ⟨w.heap.size, 0, none⟩ = some (.slice (some ⟨b, off, none⟩) len0 cap0) ∧ W.cell? ⟨w.heap.size, 1, none⟩ = some (.slice a1 len1 cap1) ∧ W.cell? ⟨w.heap.size, 2, none⟩ = some (.int .i64 x2) ∧ W.cell? ⟨w.heap.size, 3, none⟩ = some (.int .i64 x3)) ∧ W.cell? ⟨wr.heap.size, 0, none⟩ = some (.int .i64 y0) ∧ W.cell? ⟨wr.heap.size, 1, none⟩ = some (.slice aa ll lc) ∧ W.cell? ⟨wr.heap.size, 2, none⟩ = some (.slice ba bl bc))) (by kernel_rfl) (HK.out _ hcur) (fun hHeld => ?_)
        refine tkL 0 ⟨some 19, .fieldAddr 34 (.tmp 4) 0, 0, _, #[], none⟩ ?_ hHeld ?yyA0 ?rrA0
        case yyA0 => (intro w hSw; (try dsimp only at hSw); go_simp; try with_reducible rfl)
        try simp only [Act.put, putA, putB, putC]
        refine tkL 1 ⟨some 20, .load 3 (.tmp 19), 3, _, #[⟨0, .data⟩], none⟩ ?_ hHeld ?yyA1 ?rrA1
        case yyA1 => (intro w hSw; (try dsimp only at hSw); go_simp; try with_reducible rfl)
        try simp only [Act.put, putA, putB, putC]
        refine tkL 2 ⟨some 21, .fieldAddr 26 (.tmp 1) 2, 0, _, #[], none⟩ ?_ hHeld ?yyA2 ?rrA2
        case yyA2 => (intro w hSw; (try dsimp only at hSw); go_simp; try with_reducible rfl)
        try simp only [Act.put, putA, putB, putC]
        refine tkL 3 ⟨some 22, .load 3 (.tmp 21), 3, _, #[⟨2, .data⟩], none⟩ ?_ hHeld ?yyA3 ?rrA3
        case yyA3 => (intro w hSw; (try dsimp only at hSw); go_simp; try with_reducible rfl)
        try simp only [Act.put, putA, putB, putC]
        refine tkL 4 ⟨some 23, .binOp .sub 3 (.tmp 22) (.const (.int .i64 1)) 3, 3, _, #[⟨3, .data⟩], none⟩ ?_ hHeld ?yyA4 ?rrA4
        case yyA4 => (intro w hSw; (try dsimp only at hSw); go_simp; try with_reducible rfl)
        try simp only [Act.put, putA, putB, putC]
        refine wpAnyH_ready (rs := [5]) (by kernel_rfl) (by simp) ?_
        refine AllReadyH.cons (o := ⟨some 24, .call { callee := .value (.func 11), args := #[.tmp 20, .const (.int .i64 0), .tmp 23], argTypes := #[3, 3, 3] }, 4, _, #[⟨1, .data⟩, ⟨4, .data⟩], none⟩) rfl (fun K hK => ?_) AllReadyH.nil
        go_simp
        refine (l1In_any _ _ _ _).mono ?_
        rintro e w5 ⟨rfl, rfl⟩
        rw [hib]
        go_wp2_with fail
        refine hK.out _ _ (HK.out _ hcur) (fun hHeld => ?_)
        clear hK K
        try simp only [Act.put, putA, putB, putC]
        refine tkL 6 ⟨some 25, .unOp .not 4 (.tmp 24), 4, _, #[⟨5, .data⟩], none⟩ ?_ hHeld ?yyA6 ?rrA6
        case yyA6 => (intro w hSw; (try dsimp only at hSw); go_simp; try with_reducible rfl)
        try simp only [Act.put, putA, putB, putC]
        refine tkL 7 ⟨some 26, .move (.tmp 25), 4, _, #[⟨6, .data⟩, ⟨5, .chain⟩], none⟩ ?_ hHeld ?yyA7 ?rrA7
        case yyA7 => (intro w hSw; (try dsimp only at hSw); go_simp; try with_reducible rfl)
        try simp only [Act.put, putA, putB, putC]
        refine tkR 8 ⟨some 27, .fieldAddr 34 (.tmp 4) 1, 0, _, #[⟨7, .guard⟩], some (7, false)⟩ hHeld ?_
        try simp only [Act.put, putA, putB, putC]
        refine tkR 9 ⟨some 28, .load 31 (.tmp 27), 31, _, #[⟨8, .data⟩, ⟨7, .guard⟩], some (7, false)⟩ hHeld ?_
        try simp only [Act.put, putA, putB, putC]
        refine wpAnyH_ready (rs := [10]) (by kernel_rfl) (by simp) ?_
        refine AllReadyH.cons (o := ⟨some 29, .call { callee := .value (.func 12), args := #[.tmp 28], argTypes := #[31] }, 4, _, #[⟨9, .data⟩, ⟨7, .chain⟩, ⟨7, .guard⟩], some (7, false)⟩) rfl (fun K hK => ?_) AllReadyH.nil
        rw [if_neg (by simp [Region.wanted, yielded])]
        refine hK.out _ _ hHeld (fun hHeld => ?_)
        clear hK K
        try simp only [Act.put, putA, putB, putC]
        refine tkR 11 ⟨some 30, .unOp .not 4 (.tmp 29), 4, _, #[⟨10, .data⟩, ⟨7, .guard⟩], some (7, false)⟩ hHeld ?_
        try simp only [Act.put, putA, putB, putC]
        refine tkL 12 ⟨some 31, .pick (.tmp 26) (.const (.bool true)) (.tmp 30), 4, _, #[⟨7, .data⟩, ⟨11, .data⟩], none⟩ ?_ hHeld ?yyA12 ?rrA12
        case yyA12 => (intro w hSw; (try dsimp only at hSw); go_simp; try with_reducible rfl)
        try simp only [Act.put, putA, putB, putC]
        refine tkL 13 ⟨some 32, .move (.tmp 31), 4, _, #[⟨12, .data⟩, ⟨10, .chain⟩], none⟩ ?_ hHeld ?yyA13 ?rrA13
        case yyA13 => (intro w hSw; (try dsimp only at hSw); go_simp; try with_reducible rfl)
        try simp only [Act.put, putA, putB, putC]
        refine tkR 14 ⟨some 33, .fieldAddr 34 (.tmp 4) 2, 0, _, #[⟨13, .guard⟩], some (13, false)⟩ hHeld ?_
        try simp only [Act.put, putA, putB, putC]
        refine tkR 15 ⟨some 34, .load 32 (.tmp 33), 32, _, #[⟨14, .data⟩, ⟨13, .guard⟩], some (13, false)⟩ hHeld ?_
        try simp only [Act.put, putA, putB, putC]
        refine wpAnyH_ready (rs := [16]) (by kernel_rfl) (by simp) ?_
        refine AllReadyH.cons (o := ⟨some 35, .call { callee := .value (.func 13), args := #[.tmp 34], argTypes := #[32] }, 4, _, #[⟨15, .data⟩, ⟨13, .chain⟩, ⟨13, .guard⟩], some (13, false)⟩) rfl (fun K hK => ?_) AllReadyH.nil
        rw [if_neg (by simp [Region.wanted, yielded])]
        refine hK.out _ _ hHeld (fun hHeld => ?_)
        clear hK K
        try simp only [Act.put, putA, putB, putC]
        refine tkR 17 ⟨some 36, .unOp .not 4 (.tmp 35), 4, _, #[⟨16, .data⟩, ⟨13, .guard⟩], some (13, false)⟩ hHeld ?_
        try simp only [Act.put, putA, putB, putC]
        refine tkL 18 ⟨some 37, .pick (.tmp 32) (.const (.bool true)) (.tmp 36), 4, _, #[⟨13, .data⟩, ⟨17, .data⟩], none⟩ ?_ hHeld ?yyA18 ?rrA18
        case yyA18 => (intro w hSw; (try dsimp only at hSw); go_simp; try with_reducible rfl)
        try simp only [Act.put, putA, putB, putC]
        refine tkL 19 ⟨some 38, .move (.tmp 37), 4, _, #[⟨18, .data⟩, ⟨16, .chain⟩], none⟩ ?_ hHeld ?yyA19 ?rrA19
        case yyA19 => (intro w hSw; (try dsimp only at hSw); go_simp; try with_reducible rfl)
        try simp only [Act.put, putA, putB, putC]
        refine tkR 20 ⟨some 39, .move (.tmp 3), 3, _, #[⟨19, .guard⟩], some (19, false)⟩ hHeld ?_
        try simp only [Act.put, putA, putB, putC]
        refine tkR 21 ⟨some 40, .binOp .gtr 3 (.tmp 39) (.const (.int .i64 0)) 3, 4, _, #[⟨20, .data⟩, ⟨19, .guard⟩], some (19, false)⟩ hHeld ?_
        try simp only [Act.put, putA, putB, putC]
        refine tkR 22 ⟨some 41, .move (.tmp 40), 4, _, #[⟨21, .data⟩, ⟨19, .chain⟩, ⟨19, .guard⟩], some (19, false)⟩ hHeld ?_
        try simp only [Act.put, putA, putB, putC]
        refine tkR 23 ⟨some 42, .fieldAddr 26 (.tmp 1) 0, 0, _, #[⟨22, .guard⟩], some (22, true)⟩ hHeld ?_
        try simp only [Act.put, putA, putB, putC]
        refine tkR 24 ⟨some 43, .load 23 (.tmp 42), 23, _, #[⟨23, .data⟩, ⟨22, .guard⟩], some (22, true)⟩ hHeld ?_
        try simp only [Act.put, putA, putB, putC]
        refine tkR 25 ⟨some 44, .move (.tmp 3), 3, _, #[⟨22, .guard⟩], some (22, true)⟩ hHeld ?_
        try simp only [Act.put, putA, putB, putC]
        refine tkR 26 ⟨some 45, .binOp .sub 3 (.tmp 44) (.const (.int .i64 1)) 3, 3, _, #[⟨25, .data⟩, ⟨22, .guard⟩], some (22, true)⟩ hHeld ?_
        try simp only [Act.put, putA, putB, putC]
        refine tkR 27 ⟨some 46, .indexAddr 23 (.tmp 43) (.tmp 45), 0, _, #[⟨24, .data⟩, ⟨26, .data⟩, ⟨22, .guard⟩], some (22, true)⟩ hHeld ?_
        try simp only [Act.put, putA, putB, putC]
        refine tkR 28 ⟨some 47, .fieldAddr 34 (.tmp 46) 0, 0, _, #[⟨27, .data⟩, ⟨22, .guard⟩], some (22, true)⟩ hHeld ?_
        try simp only [Act.put, putA, putB, putC]
        refine tkR 29 ⟨some 48, .load 3 (.tmp 47), 3, _, #[⟨28, .data⟩, ⟨22, .guard⟩], some (22, true)⟩ hHeld ?_
        try simp only [Act.put, putA, putB, putC]
        refine tkR 30 ⟨some 49, .fieldAddr 34 (.tmp 4) 0, 0, _, #[⟨22, .guard⟩], some (22, true)⟩ hHeld ?_
        try simp only [Act.put, putA, putB, putC]
        refine tkR 31 ⟨some 50, .load 3 (.tmp 49), 3, _, #[⟨30, .data⟩, ⟨22, .guard⟩], some (22, true)⟩ hHeld ?_
        try simp only [Act.put, putA, putB, putC]
        refine tkR 32 ⟨some 51, .binOp .geq 3 (.tmp 48) (.tmp 50) 3, 4, _, #[⟨29, .data⟩, ⟨31, .data⟩, ⟨22, .guard⟩], some (22, true)⟩ hHeld ?_
        try simp only [Act.put, putA, putB, putC]
        refine tkR 33 ⟨some 52, .pick (.tmp 41) (.tmp 51) (.const (.bool false)), 4, _, #[⟨22, .data⟩, ⟨32, .data⟩, ⟨19, .guard⟩], some (19, false)⟩ hHeld ?_
        try simp only [Act.put, putA, putB, putC]
        refine tkL 34 ⟨some 53, .pick (.tmp 38) (.const (.bool true)) (.tmp 52), 4, _, #[⟨19, .data⟩, ⟨33, .data⟩], none⟩ ?_ hHeld ?yyA34 ?rrA34
        case yyA34 => (intro w hSw; (try dsimp only at hSw); go_simp; try with_reducible rfl)
        try simp only [Act.put, putA, putB, putC]
        refine wpAnyH_done (by kernel_rfl) ?_ _
        go_wp2
        go_ret
        exact ⟨ret_bool hfin.out.symm, hA.trans hcur⟩
      cases lb
      · have hfin : Hid (graphB d0 d1 x2 x3 = false) := hbk (by rw [hLk.out]; rfl)
        have HK : Hid (∀ W, Ext W1 W → (W.cell? ⟨w.heap.size, 0, none⟩ = some (.slice (some ⟨b, off, none⟩) len0 cap0) ∧ W.cell? ⟨w.heap.size, 1, none⟩ = some (.slice a1 len1 cap1) ∧ W.cell? ⟨w.heap.size, 2, none⟩ = some (.int .i64 x2) ∧ W.cell? ⟨w.heap.size, 3, none⟩ = some (.int .i64 x3)) ∧ W.cell? ⟨wr.heap.size, 0, none⟩ = some (.int .i64 y0) ∧ W.cell? ⟨wr.heap.size, 1, none⟩ = some (.slice aa ll lc) ∧ W.cell? ⟨wr.heap.size, 2, none⟩ = some (.slice ba bl bc)) := hall
        have hcur : Ext W1 W1.drew := (Ext.refl _).drew
        refine wp_region_held_drew (S := (fun W => (W.cell? ⟨w.heap.size, 0, none⟩ = some (.slice (some ⟨b, off, none⟩) len0 cap0) ∧ W.cell? ⟨w.heap.size, 1, none⟩ = some (.slice a1 len1 cap1) ∧ W.cell? ⟨w.heap.size, 2, none⟩ = some (.int .i64 x2) ∧ W.cell? ⟨w.heap.size, 3, none⟩ = some (.int .i64 x3)) ∧ W.cell? ⟨wr.heap.size, 0, none⟩ = some (.int .i64 y0) ∧ W.cell? ⟨wr.heap.size, 1, none⟩ = some (.slice aa ll lc) ∧ W.cell? ⟨wr.heap.size, 2, none⟩ = some (.slice ba bl bc))) (by kernel_rfl) (HK.out _ hcur) (fun hHeld => ?_)
        refine tkL 0 ⟨some 19, .fieldAddr 34 (.tmp 4) 0, 0, _, #[], none⟩ ?_ hHeld ?yyB0 ?rrB0
        case yyB0 => (intro w hSw; (try dsimp only at hSw); go_simp; try with_reducible rfl)
        try simp only [Act.put, putA, putB, putC]
        refine tkL 1 ⟨some 20, .load 3 (.tmp 19), 3, _, #[⟨0, .data⟩], none⟩ ?_ hHeld ?yyB1 ?rrB1
        case yyB1 => (intro w hSw; (try dsimp only at hSw); go_simp; try with_reducible rfl)
        try simp only [Act.put, putA, putB, putC]
        refine tkL 2 ⟨some 21, .fieldAddr 26 (.tmp 1) 2, 0, _, #[], none⟩ ?_ hHeld ?yyB2 ?rrB2
        case yyB2 => (intro w hSw; (try dsimp only at hSw); go_simp; try with_reducible rfl)
        try simp only [Act.put, putA, putB, putC]
        refine tkL 3 ⟨some 22, .load 3 (.tmp 21), 3, _, #[⟨2, .data⟩], none⟩ ?_ hHeld ?yyB3 ?rrB3
        case yyB3 => (intro w hSw; (try dsimp only at hSw); go_simp; try with_reducible rfl)
        try simp only [Act.put, putA, putB, putC]
        refine tkL 4 ⟨some 23, .binOp .sub 3 (.tmp 22) (.const (.int .i64 1)) 3, 3, _, #[⟨3, .data⟩], none⟩ ?_ hHeld ?yyB4 ?rrB4
        case yyB4 => (intro w hSw; (try dsimp only at hSw); go_simp; try with_reducible rfl)
        try simp only [Act.put, putA, putB, putC]
        refine wpAnyH_ready (rs := [5]) (by kernel_rfl) (by simp) ?_
        refine AllReadyH.cons (o := ⟨some 24, .call { callee := .value (.func 11), args := #[.tmp 20, .const (.int .i64 0), .tmp 23], argTypes := #[3, 3, 3] }, 4, _, #[⟨1, .data⟩, ⟨4, .data⟩], none⟩) rfl (fun K hK => ?_) AllReadyH.nil
        go_simp
        refine (l1In_any _ _ _ _).mono ?_
        rintro e w5 ⟨rfl, rfl⟩
        rw [hib]
        go_wp2_with fail
        refine hK.out _ _ (HK.out _ hcur) (fun hHeld => ?_)
        clear hK K
        try simp only [Act.put, putA, putB, putC]
        refine tkL 6 ⟨some 25, .unOp .not 4 (.tmp 24), 4, _, #[⟨5, .data⟩], none⟩ ?_ hHeld ?yyB6 ?rrB6
        case yyB6 => (intro w hSw; (try dsimp only at hSw); go_simp; try with_reducible rfl)
        try simp only [Act.put, putA, putB, putC]
        refine tkL 7 ⟨some 26, .move (.tmp 25), 4, _, #[⟨6, .data⟩, ⟨5, .chain⟩], none⟩ ?_ hHeld ?yyB7 ?rrB7
        case yyB7 => (intro w hSw; (try dsimp only at hSw); go_simp; try with_reducible rfl)
        try simp only [Act.put, putA, putB, putC]
        refine tkL 8 ⟨some 27, .fieldAddr 34 (.tmp 4) 1, 0, _, #[⟨7, .guard⟩], some (7, false)⟩ ?_ hHeld ?yyB8 ?rrB8
        case yyB8 => (intro w hSw; (try dsimp only at hSw); go_simp; try with_reducible rfl)
        try simp only [Act.put, putA, putB, putC]
        refine tkL 9 ⟨some 28, .load 31 (.tmp 27), 31, _, #[⟨8, .data⟩, ⟨7, .guard⟩], some (7, false)⟩ ?_ hHeld ?yyB9 ?rrB9
        case yyB9 => (intro w hSw; (try dsimp only at hSw); go_simp; try with_reducible rfl)
        try simp only [Act.put, putA, putB, putC]
        refine wpAnyH_ready (rs := [10]) (by kernel_rfl) (by simp) ?_
        refine AllReadyH.cons (o := ⟨some 29, .call { callee := .value (.func 12), args := #[.tmp 28], argTypes := #[31] }, 4, _, #[⟨9, .data⟩, ⟨7, .chain⟩, ⟨7, .guard⟩], some (7, false)⟩) rfl (fun K hK => ?_) AllReadyH.nil
        go_simp
        refine (hlab _ hcur).mono ?_
        rintro e w6 ⟨rfl, hE6⟩
        replace hcur := hcur.trans hE6
        go_wp2_with fail
        refine hK.out _ _ (HK.out _ hcur) (fun hHeld => ?_)
        clear hK K
        try simp only [Act.put, putA, putB, putC]
        refine tkL 11 ⟨some 30, .unOp .not 4 (.tmp 29), 4, _, #[⟨10, .data⟩, ⟨7, .guard⟩], some (7, false)⟩ ?_ hHeld ?yyB11 ?rrB11
        case yyB11 => (intro w hSw; (try dsimp only at hSw); go_simp; try with_reducible rfl)
        try simp only [Act.put, putA, putB, putC]
        refine tkL 12 ⟨some 31, .pick (.tmp 26) (.const (.bool true)) (.tmp 30), 4, _, #[⟨7, .data⟩, ⟨11, .data⟩], none⟩ ?_ hHeld ?yyB12 ?rrB12
        case yyB12 => (intro w hSw; (try dsimp only at hSw); go_simp; try with_reducible rfl)
        try simp only [Act.put, putA, putB, putC]
        refine tkL 13 ⟨some 32, .move (.tmp 31), 4, _, #[⟨12, .data⟩, ⟨10, .chain⟩], none⟩ ?_ hHeld ?yyB13 ?rrB13
        case yyB13 => (intro w hSw; (try dsimp only at hSw); go_simp; try with_reducible rfl)
        try simp only [Act.put, putA, putB, putC]
        refine tkR 14 ⟨some 33, .fieldAddr 34 (.tmp 4) 2, 0, _, #[⟨13, .guard⟩], some (13, false)⟩ hHeld ?_
        try simp only [Act.put, putA, putB, putC]
        refine tkR 15 ⟨some 34, .load 32 (.tmp 33), 32, _, #[⟨14, .data⟩, ⟨13, .guard⟩], some (13, false)⟩ hHeld ?_
        try simp only [Act.put, putA, putB, putC]
        refine wpAnyH_ready (rs := [16]) (by kernel_rfl) (by simp) ?_
        refine AllReadyH.cons (o := ⟨some 35, .call { callee := .value (.func 13), args := #[.tmp 34], argTypes := #[32] }, 4, _, #[⟨15, .data⟩, ⟨13, .chain⟩, ⟨13, .guard⟩], some (13, false)⟩) rfl (fun K hK => ?_) AllReadyH.nil
        rw [if_neg (by simp [Region.wanted, yielded])]
        refine hK.out _ _ hHeld (fun hHeld => ?_)
        clear hK K
        try simp only [Act.put, putA, putB, putC]
        refine tkR 17 ⟨some 36, .unOp .not 4 (.tmp 35), 4, _, #[⟨16, .data⟩, ⟨13, .guard⟩], some (13, false)⟩ hHeld ?_
        try simp only [Act.put, putA, putB, putC]
        refine tkL 18 ⟨some 37, .pick (.tmp 32) (.const (.bool true)) (.tmp 36), 4, _, #[⟨13, .data⟩, ⟨17, .data⟩], none⟩ ?_ hHeld ?yyB18 ?rrB18
        case yyB18 => (intro w hSw; (try dsimp only at hSw); go_simp; try with_reducible rfl)
        try simp only [Act.put, putA, putB, putC]
        refine tkL 19 ⟨some 38, .move (.tmp 37), 4, _, #[⟨18, .data⟩, ⟨16, .chain⟩], none⟩ ?_ hHeld ?yyB19 ?rrB19
        case yyB19 => (intro w hSw; (try dsimp only at hSw); go_simp; try with_reducible rfl)
        try simp only [Act.put, putA, putB, putC]
        refine tkR 20 ⟨some 39, .move (.tmp 3), 3, _, #[⟨19, .guard⟩], some (19, false)⟩ hHeld ?_
        try simp only [Act.put, putA, putB, putC]
        refine tkR 21 ⟨some 40, .binOp .gtr 3 (.tmp 39) (.const (.int .i64 0)) 3, 4, _, #[⟨20, .data⟩, ⟨19, .guard⟩], some (19, false)⟩ hHeld ?_
        try simp only [Act.put, putA, putB, putC]
        refine tkR 22 ⟨some 41, .move (.tmp 40), 4, _, #[⟨21, .data⟩, ⟨19, .chain⟩, ⟨19, .guard⟩], some (19, false)⟩ hHeld ?_
        try simp only [Act.put, putA, putB, putC]
        refine tkR 23 ⟨some 42, .fieldAddr 26 (.tmp 1) 0, 0, _, #[⟨22, .guard⟩], some (22, true)⟩ hHeld ?_
        try simp only [Act.put, putA, putB, putC]
        refine tkR 24 ⟨some 43, .load 23 (.tmp 42), 23, _, #[⟨23, .data⟩, ⟨22, .guard⟩], some (22, true)⟩ hHeld ?_
        try simp only [Act.put, putA, putB, putC]
        refine tkR 25 ⟨some 44, .move (.tmp 3), 3, _, #[⟨22, .guard⟩], some (22, true)⟩ hHeld ?_
        try simp only [Act.put, putA, putB, putC]
        refine tkR 26 ⟨some 45, .binOp .sub 3 (.tmp 44) (.const (.int .i64 1)) 3, 3, _, #[⟨25, .data⟩, ⟨22, .guard⟩], some (22, true)⟩ hHeld ?_
        try simp only [Act.put, putA, putB, putC]
        refine tkR 27 ⟨some 46, .indexAddr 23 (.tmp 43) (.tmp 45), 0, _, #[⟨24, .data⟩, ⟨26, .data⟩, ⟨22, .guard⟩], some (22, true)⟩ hHeld ?_
        try simp only [Act.put, putA, putB, putC]
        refine tkR 28 ⟨some 47, .fieldAddr 34 (.tmp 46) 0, 0, _, #[⟨27, .data⟩, ⟨22, .guard⟩], some (22, true)⟩ hHeld ?_
        try simp only [Act.put, putA, putB, putC]
        refine tkR 29 ⟨some 48, .load 3 (.tmp 47), 3, _, #[⟨28, .data⟩, ⟨22, .guard⟩], some (22, true)⟩ hHeld ?_
        try simp only [Act.put, putA, putB, putC]
        refine tkR 30 ⟨some 49, .fieldAddr 34 (.tmp 4) 0, 0, _, #[⟨22, .guard⟩], some (22, true)⟩ hHeld ?_
        try simp only [Act.put, putA, putB, putC]
        refine tkR 31 ⟨some 50, .load 3 (.tmp 49), 3, _, #[⟨30, .data⟩, ⟨22, .guard⟩], some (22, true)⟩ hHeld ?_
        try simp only [Act.put, putA, putB, putC]
        refine tkR 32 ⟨some 51, .binOp .geq 3 (.tmp 48) (.tmp 50) 3, 4, _, #[⟨29, .data⟩, ⟨31, .data⟩, ⟨22, .guard⟩], some (22, true)⟩ hHeld ?_
        try simp only [Act.put, putA, putB, putC]
        refine tkR 33 ⟨some 52, .pick (.tmp 41) (.tmp 51) (.const (.bool false)), 4, _, #[⟨22, .data⟩, ⟨32, .data⟩, ⟨19, .guard⟩], some (19, false)⟩ hHeld ?_
        try simp only [Act.put, putA, putB, putC]
        refine tkL 34 ⟨some 53, .pick (.tmp 38) (.const (.bool true)) (.tmp 52), 4, _, #[⟨19, .data⟩, ⟨33, .data⟩], none⟩ ?_ hHeld ?yyB34 ?rrB34
        case yyB34 => (intro w hSw; (try dsimp only at hSw); go_simp; try with_reducible rfl)
        try simp only [Act.put, putA, putB, putC]
        refine wpAnyH_done (by kernel_rfl) ?_ _
        go_wp2
        go_ret
        exact ⟨ret_bool hfin.out.symm, hA.trans hcur⟩
      cases pb
      · have hfin : Hid (graphB d0 d1 x2 x3 = false) := hbk (by rw [hLk.out]; rfl)
        have HK : Hid (∀ W, Ext W1 W → (W.cell? ⟨w.heap.size, 0, none⟩ = some (.slice (some ⟨b, off, none⟩) len0 cap0) ∧ W.cell? ⟨w.heap.size, 1, none⟩ = some (.slice a1 len1 cap1) ∧ W.cell? ⟨w.heap.size, 2, none⟩ = some (.int .i64 x2) ∧ W.cell? ⟨w.heap.size, 3, none⟩ = some (.int .i64 x3)) ∧ W.cell? ⟨wr.heap.size, 0, none⟩ = some (.int .i64 y0) ∧ W.cell? ⟨wr.heap.size, 1, none⟩ = some (.slice aa ll lc) ∧ W.cell? ⟨wr.heap.size, 2, none⟩ = some (.slice ba bl bc)) := hall
        have hcur : Ext W1 W1.drew := (Ext.refl _).drew
        refine wp_region_held_drew (S := (fun W => (W.cell? ⟨w.heap.size, 0, none⟩ = some (.slice (some ⟨b, off, none⟩) len0 cap0) ∧ W.cell? ⟨w.heap.size, 1, none⟩ = some (.slice a1 len1 cap1) ∧ W.cell? ⟨w.heap.size, 2, none⟩ = some (.int .i64 x2) ∧ W.cell? ⟨w.heap.size, 3, none⟩ = some (.int .i64 x3)) ∧ W.cell? ⟨wr.heap.size, 0, none⟩ = some (.int .i64 y0) ∧ W.cell? ⟨wr.heap.size, 1, none⟩ = some (.slice aa ll lc) ∧ W.cell? ⟨wr.heap.size, 2, none⟩ = some (.slice ba bl bc))) (by kernel_rfl) (HK.out _ hcur) (fun hHeld => ?_)
        refine tkL 0 ⟨some 19, .fieldAddr 34 (.tmp 4) 0, 0, _, #[], none⟩ ?_ hHeld ?yyC0 ?rrC0
        case yyC0 => (intro w hSw; (try dsimp only at hSw); go_simp; try with_reducible rfl)
        try simp only [Act.put, putA, putB, putC]
        refine tkL 1 ⟨some 20, .load 3 (.tmp 19), 3, _, #[⟨0, .data⟩], none⟩ ?_ hHeld ?yyC1 ?rrC1
        case yyC1 => (intro w hSw; (try dsimp only at hSw); go_simp; try with_reducible rfl)
        try simp only [Act.put, putA, putB, putC]
        refine tkL 2 ⟨some 21, .fieldAddr 26 (.tmp 1) 2, 0, _, #[], none⟩ ?_ hHeld ?yyC2 ?rrC2
        case yyC2 => (intro w hSw; (try dsimp only at hSw); go_simp; try with_reducible rfl)
        try simp only [Act.put, putA, putB, putC]
        refine tkL 3 ⟨some 22, .load 3 (.tmp 21), 3, _, #[⟨2, .data⟩], none⟩ ?_ hHeld ?yyC3 ?rrC3
        case yyC3 => (intro w hSw; (try dsimp only at hSw); go_simp; try with_reducible rfl)
        try simp only [Act.put, putA, putB, putC]
        refine tkL 4 ⟨some 23, .binOp .sub 3 (.tmp 22) (.const (.int .i64 1)) 3, 3, _, #[⟨3, .data⟩], none⟩ ?_ hHeld ?yyC4 ?rrC4
        case yyC4 => (intro w hSw; (try dsimp only at hSw); go_simp; try with_reducible rfl)
        try simp only [Act.put, putA, putB, putC]
        refine wpAnyH_ready (rs := [5]) (by kernel_rfl) (by simp) ?_
        refine AllReadyH.cons (o := ⟨some 24, .call { callee := .value (.func 11), args := #[.tmp 20, .const (.int .i64 0), .tmp 23], argTypes := #[3, 3, 3] }, 4, _, #[⟨1, .data⟩, ⟨4, .data⟩], none⟩) rfl (fun K hK => ?_) AllReadyH.nil
        go_simp
        refine (l1In_any _ _ _ _).mono ?_
        rintro e w5 ⟨rfl, rfl⟩
        rw [hib]
        go_wp2_with fail
        refine hK.out _ _ (HK.out _ hcur) (fun hHeld => ?_)
        clear hK K
        try simp only [Act.put, putA, putB, putC]
        refine tkL 6 ⟨some 25, .unOp .not 4 (.tmp 24), 4, _, #[⟨5, .data⟩], none⟩ ?_ hHeld ?yyC6 ?rrC6
        case yyC6 => (intro w hSw; (try dsimp only at hSw); go_simp; try with_reducible rfl)
        try simp only [Act.put, putA, putB, putC]
        refine tkL 7 ⟨some 26, .move (.tmp 25), 4, _, #[⟨6, .data⟩, ⟨5, .chain⟩], none⟩ ?_ hHeld ?yyC7 ?rrC7
        case yyC7 => (intro w hSw; (try dsimp only at hSw); go_simp; try with_reducible rfl)
        try simp only [Act.put, putA, putB, putC]
        refine tkL 8 ⟨some 27, .fieldAddr 34 (.tmp 4) 1, 0, _, #[⟨7, .guard⟩], some (7, false)⟩ ?_ hHeld ?yyC8 ?rrC8
        case yyC8 => (intro w hSw; (try dsimp only at hSw); go_simp; try with_reducible rfl)
        try simp only [Act.put, putA, putB, putC]
        refine tkL 9 ⟨some 28, .load 31 (.tmp 27), 31, _, #[⟨8, .data⟩, ⟨7, .guard⟩], some (7, false)⟩ ?_ hHeld ?yyC9 ?rrC9
        case yyC9 => (intro w hSw; (try dsimp only at hSw); go_simp; try with_reducible rfl)
        try simp only [Act.put, putA, putB, putC]
        refine wpAnyH_ready (rs := [10]) (by kernel_rfl) (by simp) ?_
        refine AllReadyH.cons (o := ⟨some 29, .call { callee := .value (.func 12), args := #[.tmp 28], argTypes := #[31] }, 4, _, #[⟨9, .data⟩, ⟨7, .chain⟩, ⟨7, .guard⟩], some (7, false)⟩) rfl (fun K hK => ?_) AllReadyH.nil
        go_simp
        refine (hlab _ hcur).mono ?_
        rintro e w6 ⟨rfl, hE6⟩
        replace hcur := hcur.trans hE6
        go_wp2_with fail
        refine hK.out _ _ (HK.out _ hcur) (fun hHeld => ?_)
        clear hK K
        try simp only [Act.put, putA, putB, putC]
        refine tkL 11 ⟨some 30, .unOp .not 4 (.tmp 29), 4, _, #[⟨10, .data⟩, ⟨7, .guard⟩], some (7, false)⟩ ?_ hHeld ?yyC11 ?rrC11
        case yyC11 => (intro w hSw; (try dsimp only at hSw); go_simp; try with_reducible rfl)
        try simp only [Act.put, putA, putB, putC]
        refine tkL 12 ⟨some 31, .pick (.tmp 26) (.const (.bool true)) (.tmp 30), 4, _, #[⟨7, .data⟩, ⟨11, .data⟩], none⟩ ?_ hHeld ?yyC12 ?rrC12
        case yyC12 => (intro w hSw; (try dsimp only at hSw); go_simp; try with_reducible rfl)
        try simp only [Act.put, putA, putB, putC]
        refine tkL 13 ⟨some 32, .move (.tmp 31), 4, _, #[⟨12, .data⟩, ⟨10, .chain⟩], none⟩ ?_ hHeld ?yyC13 ?rrC13
        case yyC13 => (intro w hSw; (try dsimp only at hSw); go_simp; try with_reducible rfl)
        try simp only [Act.put, putA, putB, putC]
        refine tkL 14 ⟨some 33, .fieldAddr 34 (.tmp 4) 2, 0, _, #[⟨13, .guard⟩], some (13, false)⟩ ?_ hHeld ?yyC14 ?rrC14
        case yyC14 => (intro w hSw; (try dsimp only at hSw); go_simp; try with_reducible rfl)
        try simp only [Act.put, putA, putB, putC]
        refine tkL 15 ⟨some 34, .load 32 (.tmp 33), 32, _, #[⟨14, .data⟩, ⟨13, .guard⟩], some (13, false)⟩ ?_ hHeld ?yyC15 ?rrC15
        case yyC15 => (intro w hSw; (try dsimp only at hSw); go_simp; try with_reducible rfl)
        try simp only [Act.put, putA, putB, putC]
        refine wpAnyH_ready (rs := [16]) (by kernel_rfl) (by simp) ?_
        refine AllReadyH.cons (o := ⟨some 35, .call { callee := .value (.func 13), args := #[.tmp 34], argTypes := #[32] }, 4, _, #[⟨15, .data⟩, ⟨13, .chain⟩, ⟨13, .guard⟩], some (13, false)⟩) rfl (fun K hK => ?_) AllReadyH.nil
        go_simp
        refine (hprp _ hcur).mono ?_
        rintro e w7 ⟨rfl, hE7⟩
        replace hcur := hcur.trans hE7
        go_wp2_with fail
        refine hK.out _ _ (HK.out _ hcur) (fun hHeld => ?_)
        clear hK K
        try simp only [Act.put, putA, putB, putC]
        refine tkL 17 ⟨some 36, .unOp .not 4 (.tmp 35), 4, _, #[⟨16, .data⟩, ⟨13, .guard⟩], some (13, false)⟩ ?_ hHeld ?yyC17 ?rrC17
        case yyC17 => (intro w hSw; (try dsimp only at hSw); go_simp; try with_reducible rfl)
        try simp only [Act.put, putA, putB, putC]
        refine tkL 18 ⟨some 37, .pick (.tmp 32) (.const (.bool true)) (.tmp 36), 4, _, #[⟨13, .data⟩, ⟨17, .data⟩], none⟩ ?_ hHeld ?yyC18 ?rrC18
        case yyC18 => (intro w hSw; (try dsimp only at hSw); go_simp; try with_reducible rfl)
        try simp only [Act.put, putA, putB, putC]
        refine tkL 19 ⟨some 38, .move (.tmp 37), 4, _, #[⟨18, .data⟩, ⟨16, .chain⟩], none⟩ ?_ hHeld ?yyC19 ?rrC19
        case yyC19 => (intro w hSw; (try dsimp only at hSw); go_simp; try with_reducible rfl)
        try simp only [Act.put, putA, putB, putC]
        refine tkR 20 ⟨some 39, .move (.tmp 3), 3, _, #[⟨19, .guard⟩], some (19, false)⟩ hHeld ?_
        try simp only [Act.put, putA, putB, putC]
        refine tkR 21 ⟨some 40, .binOp .gtr 3 (.tmp 39) (.const (.int .i64 0)) 3, 4, _, #[⟨20, .data⟩, ⟨19, .guard⟩], some (19, false)⟩ hHeld ?_
        try simp only [Act.put, putA, putB, putC]
        refine tkR 22 ⟨some 41, .move (.tmp 40), 4, _, #[⟨21, .data⟩, ⟨19, .chain⟩, ⟨19, .guard⟩], some (19, false)⟩ hHeld ?_
        try simp only [Act.put, putA, putB, putC]
        refine tkR 23 ⟨some 42, .fieldAddr 26 (.tmp 1) 0, 0, _, #[⟨22, .guard⟩], some (22, true)⟩ hHeld ?_
        try simp only [Act.put, putA, putB, putC]
        refine tkR 24 ⟨some 43, .load 23 (.tmp 42), 23, _, #[⟨23, .data⟩, ⟨22, .guard⟩], some (22, true)⟩ hHeld ?_
        try simp only [Act.put, putA, putB, putC]
        refine tkR 25 ⟨some 44, .move (.tmp 3), 3, _, #[⟨22, .guard⟩], some (22, true)⟩ hHeld ?_
        try simp only [Act.put, putA, putB, putC]
        refine tkR 26 ⟨some 45, .binOp .sub 3 (.tmp 44) (.const (.int .i64 1)) 3, 3, _, #[⟨25, .data⟩, ⟨22, .guard⟩], some (22, true)⟩ hHeld ?_
        try simp only [Act.put, putA, putB, putC]
        refine tkR 27 ⟨some 46, .indexAddr 23 (.tmp 43) (.tmp 45), 0, _, #[⟨24, .data⟩, ⟨26, .data⟩, ⟨22, .guard⟩], some (22, true)⟩ hHeld ?_
        try simp only [Act.put, putA, putB, putC]
        refine tkR 28 ⟨some 47, .fieldAddr 34 (.tmp 46) 0, 0, _, #[⟨27, .data⟩, ⟨22, .guard⟩], some (22, true)⟩ hHeld ?_
        try simp only [Act.put, putA, putB, putC]
        refine tkR 29 ⟨some 48, .load 3 (.tmp 47), 3, _, #[⟨28, .data⟩, ⟨22, .guard⟩], some (22, true)⟩ hHeld ?_
        try simp only [Act.put, putA, putB, putC]
        refine tkR 30 ⟨some 49, .fieldAddr 34 (.tmp 4) 0, 0, _, #[⟨22, .guard⟩], some (22, true)⟩ hHeld ?_
        try simp only [Act.put, putA, putB, putC]
        refine tkR 31 ⟨some 50, .load 3 (.tmp 49), 3, _, #[⟨30, .data⟩, ⟨22, .guard⟩], some (22, true)⟩ hHeld ?_
        try simp only [Act.put, putA, putB, putC]
        refine tkR 32 ⟨some 51, .binOp .geq 3 (.tmp 48) (.tmp 50) 3, 4, _, #[⟨29, .data⟩, ⟨31, .data⟩, ⟨22, .guard⟩], some (22, true)⟩ hHeld ?_
        try simp only [Act.put, putA, putB, putC]
        refine tkR 33 ⟨some 52, .pick (.tmp 41) (.tmp 51) (.const (.bool false)), 4, _, #[⟨22, .data⟩, ⟨32, .data⟩, ⟨19, .guard⟩], some (19, false)⟩ hHeld ?_
        try simp only [Act.put, putA, putB, putC]
        refine tkL 34 ⟨some 53, .pick (.tmp 38) (.const (.bool true)) (.tmp 52), 4, _, #[⟨19, .data⟩, ⟨33, .data⟩], none⟩ ?_ hHeld ?yyC34 ?rrC34
        case yyC34 => (intro w hSw; (try dsimp only at hSw); go_simp; try with_reducible rfl)
        try simp only [Act.put, putA, putB, putC]
        refine wpAnyH_done (by kernel_rfl) ?_ _
        go_wp2
        go_ret
        exact ⟨ret_bool hfin.out.symm, hA.trans hcur⟩
      by_cases hk0 : k = 0
      · subst hk0
        have hok : Hid (nodeB f0 x2 0 = true) := by show _ = _; rw [hLk.out]; rfl
        have HK : Hid (∀ W, Ext W1 W → (W.cell? ⟨w.heap.size, 0, none⟩ = some (.slice (some ⟨b, off, none⟩) len0 cap0) ∧ W.cell? ⟨w.heap.size, 1, none⟩ = some (.slice a1 len1 cap1) ∧ W.cell? ⟨w.heap.size, 2, none⟩ = some (.int .i64 x2) ∧ W.cell? ⟨w.heap.size, 3, none⟩ = some (.int .i64 x3)) ∧ W.cell? ⟨wr.heap.size, 0, none⟩ = some (.int .i64 y0) ∧ W.cell? ⟨wr.heap.size, 1, none⟩ = some (.slice aa ll lc) ∧ W.cell? ⟨wr.heap.size, 2, none⟩ = some (.slice ba bl bc)) := hall
        have hcur : Ext W1 W1.drew := (Ext.refl _).drew
        refine wp_region_held_drew (S := (fun W => (W.cell? ⟨w.heap.size, 0, none⟩ = some (.slice (some ⟨b, off, none⟩) len0 cap0) ∧ W.cell? ⟨w.heap.size, 1, none⟩ = some (.slice a1 len1 cap1) ∧ W.cell? ⟨w.heap.size, 2, none⟩ = some (.int .i64 x2) ∧ W.cell? ⟨w.heap.size, 3, none⟩ = some (.int .i64 x3)) ∧ W.cell? ⟨wr.heap.size, 0, none⟩ = some (.int .i64 y0) ∧ W.cell? ⟨wr.heap.size, 1, none⟩ = some (.slice aa ll lc) ∧ W.cell? ⟨wr.heap.size, 2, none⟩ = some (.slice ba bl bc))) (by kernel_rfl) (HK.out _ hcur) (fun hHeld => ?_)
        refine tkL 0 ⟨some 19, .fieldAddr 34 (.tmp 4) 0, 0, _, #[], none⟩ ?_ hHeld ?yyD0 ?rrD0
        case yyD0 => (intro w hSw; (try dsimp only at hSw); go_simp; try with_reducible rfl)
        try simp only [Act.put, putA, putB, putC]
        refine tkL 1 ⟨some 20, .load 3 (.tmp 19), 3, _, #[⟨0, .data⟩], none⟩ ?_ hHeld ?yyD1 ?rrD1
        case yyD1 => (intro w hSw; (try dsimp only at hSw); go_simp; try with_reducible rfl)
        try simp only [Act.put, putA, putB, putC]
        refine tkL 2 ⟨some 21, .fieldAddr 26 (.tmp 1) 2, 0, _, #[], none⟩ ?_ hHeld ?yyD2 ?rrD2
        case yyD2 => (intro w hSw; (try dsimp only at hSw); go_simp; try with_reducible rfl)
        try simp only [Act.put, putA, putB, putC]
        refine tkL 3 ⟨some 22, .load 3 (.tmp 21), 3, _, #[⟨2, .data⟩], none⟩ ?_ hHeld ?yyD3 ?rrD3
        case yyD3 => (intro w hSw; (try dsimp only at hSw); go_simp; try with_reducible rfl)
        try simp only [Act.put, putA, putB, putC]
        refine tkL 4 ⟨some 23, .binOp .sub 3 (.tmp 22) (.const (.int .i64 1)) 3, 3, _, #[⟨3, .data⟩], none⟩ ?_ hHeld ?yyD4 ?rrD4
        case yyD4 => (intro w hSw; (try dsimp only at hSw); go_simp; try with_reducible rfl)
        try simp only [Act.put, putA, putB, putC]
        refine wpAnyH_ready (rs := [5]) (by kernel_rfl) (by simp) ?_
        refine AllReadyH.cons (o := ⟨some 24, .call { callee := .value (.func 11), args := #[.tmp 20, .const (.int .i64 0), .tmp 23], argTypes := #[3, 3, 3] }, 4, _, #[⟨1, .data⟩, ⟨4, .data⟩], none⟩) rfl (fun K hK => ?_) AllReadyH.nil
        go_simp
        refine (l1In_any _ _ _ _).mono ?_
        rintro e w5 ⟨rfl, rfl⟩
        rw [hib]
        go_wp2_with fail
        refine hK.out _ _ (HK.out _ hcur) (fun hHeld => ?_)
        clear hK K
        try simp only [Act.put, putA, putB, putC]
        refine tkL 6 ⟨some 25, .unOp .not 4 (.tmp 24), 4, _, #[⟨5, .data⟩], none⟩ ?_ hHeld ?yyD6 ?rrD6
        case yyD6 => (intro w hSw; (try dsimp only at hSw); go_simp; try with_reducible rfl)
        try simp only [Act.put, putA, putB, putC]
        refine tkL 7 ⟨some 26, .move (.tmp 25), 4, _, #[⟨6, .data⟩, ⟨5, .chain⟩], none⟩ ?_ hHeld ?yyD7 ?rrD7
        case yyD7 => (intro w hSw; (try dsimp only at hSw); go_simp; try with_reducible rfl)
        try simp only [Act.put, putA, putB, putC]
        refine tkL 8 ⟨some 27, .fieldAddr 34 (.tmp 4) 1, 0, _, #[⟨7, .guard⟩], some (7, false)⟩ ?_ hHeld ?yyD8 ?rrD8
        case yyD8 => (intro w hSw; (try dsimp only at hSw); go_simp; try with_reducible rfl)
        try simp only [Act.put, putA, putB, putC]
        refine tkL 9 ⟨some 28, .load 31 (.tmp 27), 31, _, #[⟨8, .data⟩, ⟨7, .guard⟩], some (7, false)⟩ ?_ hHeld ?yyD9 ?rrD9
        case yyD9 => (intro w hSw; (try dsimp only at hSw); go_simp; try with_reducible rfl)
        try simp only [Act.put, putA, putB, putC]
        refine wpAnyH_ready (rs := [10]) (by kernel_rfl) (by simp) ?_
        refine AllReadyH.cons (o := ⟨some 29, .call { callee := .value (.func 12), args := #[.tmp 28], argTypes := #[31] }, 4, _, #[⟨9, .data⟩, ⟨7, .chain⟩, ⟨7, .guard⟩], some (7, false)⟩) rfl (fun K hK => ?_) AllReadyH.nil
        go_simp
        refine (hlab _ hcur).mono ?_
        rintro e w6 ⟨rfl, hE6⟩
        replace hcur := hcur.trans hE6
        go_wp2_with fail
        refine hK.out _ _ (HK.out _ hcur) (fun hHeld => ?_)
        clear hK K
        try simp only [Act.put, putA, putB, putC]
        refine tkL 11 ⟨some 30, .unOp .not 4 (.tmp 29), 4, _, #[⟨10, .data⟩, ⟨7, .guard⟩], some (7, false)⟩ ?_ hHeld ?yyD11 ?rrD11
        case yyD11 => (intro w hSw; (try dsimp only at hSw); go_simp; try with_reducible rfl)
        try simp only [Act.put, putA, putB, putC]
        refine tkL 12 ⟨some 31, .pick (.tmp 26) (.const (.bool true)) (.tmp 30), 4, _, #[⟨7, .data⟩, ⟨11, .data⟩], none⟩ ?_ hHeld ?yyD12 ?rrD12
        case yyD12 => (intro w hSw; (try dsimp only at hSw); go_simp; try with_reducible rfl)
        try simp only [Act.put, putA, putB, putC]
        refine tkL 13 ⟨some 32, .move (.tmp 31), 4, _, #[⟨12, .data⟩, ⟨10, .chain⟩], none⟩ ?_ hHeld ?yyD13 ?rrD13
        case yyD13 => (intro w hSw; (try dsimp only at hSw); go_simp; try with_reducible rfl)
        try simp only [Act.put, putA, putB, putC]
        refine tkL 14 ⟨some 33, .fieldAddr 34 (.tmp 4) 2, 0, _, #[⟨13, .guard⟩], some (13, false)⟩ ?_ hHeld ?yyD14 ?rrD14
        case yyD14 => (intro w hSw; (try dsimp only at hSw); go_simp; try with_reducible rfl)
        try simp only [Act.put, putA, putB, putC]
        refine tkL 15 ⟨some 34, .load 32 (.tmp 33), 32, _, #[⟨14, .data⟩, ⟨13, .guard⟩], some (13, false)⟩ ?_ hHeld ?yyD15 ?rrD15
        case yyD15 => (intro w hSw; (try dsimp only at hSw); go_simp; try with_reducible rfl)
        try simp only [Act.put, putA, putB, putC]
        refine wpAnyH_ready (rs := [16]) (by kernel_rfl) (by simp) ?_
        refine AllReadyH.cons (o := ⟨some 35, .call { callee := .value (.func 13), args := #[.tmp 34], argTypes := #[32] }, 4, _, #[⟨15, .data⟩, ⟨13, .chain⟩, ⟨13, .guard⟩], some (13, false)⟩) rfl (fun K hK => ?_) AllReadyH.nil
        go_simp
        refine (hprp _ hcur).mono ?_
        rintro e w7 ⟨rfl, hE7⟩
        replace hcur := hcur.trans hE7
        go_wp2_with fail
        refine hK.out _ _ (HK.out _ hcur) (fun hHeld => ?_)
        clear hK K
        try simp only [Act.put, putA, putB, putC]
        refine tkL 17 ⟨some 36, .unOp .not 4 (.tmp 35), 4, _, #[⟨16, .data⟩, ⟨13, .guard⟩], some (13, false)⟩ ?_ hHeld ?yyD17 ?rrD17
        case yyD17 => (intro w hSw; (try dsimp only at hSw); go_simp; try with_reducible rfl)
        try simp only [Act.put, putA, putB, putC]
        refine tkL 18 ⟨some 37, .pick (.tmp 32) (.const (.bool true)) (.tmp 36), 4, _, #[⟨13, .data⟩, ⟨17, .data⟩], none⟩ ?_ hHeld ?yyD18 ?rrD18
        case yyD18 => (intro w hSw; (try dsimp only at hSw); go_simp; try with_reducible rfl)
        try simp only [Act.put, putA, putB, putC]
        refine tkL 19 ⟨some 38, .move (.tmp 37), 4, _, #[⟨18, .data⟩, ⟨16, .chain⟩], none⟩ ?_ hHeld ?yyD19 ?rrD19
        case yyD19 => (intro w hSw; (try dsimp only at hSw); go_simp; try with_reducible rfl)
        try simp only [Act.put, putA, putB, putC]
        refine tkL 20 ⟨some 39, .move (.tmp 3), 3, _, #[⟨19, .guard⟩], some (19, false)⟩ ?_ hHeld ?yyD20 ?rrD20
        case yyD20 => (intro w hSw; (try dsimp only at hSw); go_simp; try with_reducible rfl)
        try simp only [Act.put, putA, putB, putC]
        refine tkL 21 ⟨some 40, .binOp .gtr 3 (.tmp 39) (.const (.int .i64 0)) 3, 4, _, #[⟨20, .data⟩, ⟨19, .guard⟩], some (19, false)⟩ ?_ hHeld ?yyD21 ?rrD21
        case yyD21 => (intro w hSw; (try dsimp only at hSw); go_simp; try with_reducible rfl)
        try simp only [Act.put, putA, putB, putC]
        refine tkL 22 ⟨some 41, .move (.tmp 40), 4, _, #[⟨21, .data⟩, ⟨19, .chain⟩, ⟨19, .guard⟩], some (19, false)⟩ ?_ hHeld ?yyD22 ?rrD22
        case yyD22 => (intro w hSw; (try dsimp only at hSw); go_simp; try with_reducible rfl)
        try simp only [Act.put, putA, putB, putC]
        refine tkR 23 ⟨some 42, .fieldAddr 26 (.tmp 1) 0, 0, _, #[⟨22, .guard⟩], some (22, true)⟩ hHeld ?_
        try simp only [Act.put, putA, putB, putC]
        refine tkR 24 ⟨some 43, .load 23 (.tmp 42), 23, _, #[⟨23, .data⟩, ⟨22, .guard⟩], some (22, true)⟩ hHeld ?_
        try simp only [Act.put, putA, putB, putC]
        refine tkR 25 ⟨some 44, .move (.tmp 3), 3, _, #[⟨22, .guard⟩], some (22, true)⟩ hHeld ?_
        try simp only [Act.put, putA, putB, putC]
        refine tkR 26 ⟨some 45, .binOp .sub 3 (.tmp 44) (.const (.int .i64 1)) 3, 3, _, #[⟨25, .data⟩, ⟨22, .guard⟩], some (22, true)⟩ hHeld ?_
        try simp only [Act.put, putA, putB, putC]
        refine tkR 27 ⟨some 46, .indexAddr 23 (.tmp 43) (.tmp 45), 0, _, #[⟨24, .data⟩, ⟨26, .data⟩, ⟨22, .guard⟩], some (22, true)⟩ hHeld ?_
        try simp only [Act.put, putA, putB, putC]
        refine tkR 28 ⟨some 47, .fieldAddr 34 (.tmp 46) 0, 0, _, #[⟨27, .data⟩, ⟨22, .guard⟩], some (22, true)⟩ hHeld ?_
        try simp only [Act.put, putA, putB, putC]
        refine tkR 29 ⟨some 48, .load 3 (.tmp 47), 3, _, #[⟨28, .data⟩, ⟨22, .guard⟩], some (22, true)⟩ hHeld ?_
        try simp only [Act.put, putA, putB, putC]
        refine tkR 30 ⟨some 49, .fieldAddr 34 (.tmp 4) 0, 0, _, #[⟨22, .guard⟩], some (22, true)⟩ hHeld ?_
        try simp only [Act.put, putA, putB, putC]
        refine tkR 31 ⟨some 50, .load 3 (.tmp 49), 3, _, #[⟨30, .data⟩, ⟨22, .guard⟩], some (22, true)⟩ hHeld ?_
        try simp only [Act.put, putA, putB, putC]
        refine tkR 32 ⟨some 51, .binOp .geq 3 (.tmp 48) (.tmp 50) 3, 4, _, #[⟨29, .data⟩, ⟨31, .data⟩, ⟨22, .guard⟩], some (22, true)⟩ hHeld ?_
        try simp only [Act.put, putA, putB, putC]
        refine tkL 33 ⟨some 52, .pick (.tmp 41) (.tmp 51) (.const (.bool false)), 4, _, #[⟨22, .data⟩, ⟨32, .data⟩, ⟨19, .guard⟩], some (19, false)⟩ ?_ hHeld ?yyD33 ?rrD33
        case yyD33 => (intro w hSw; (try dsimp only at hSw); go_simp; try with_reducible rfl)
        try simp only [Act.put, putA, putB, putC]
        refine tkL 34 ⟨some 53, .pick (.tmp 38) (.const (.bool true)) (.tmp 52), 4, _, #[⟨19, .data⟩, ⟨33, .data⟩], none⟩ ?_ hHeld ?yyD34 ?rrD34
        case yyD34 => (intro w hSw; (try dsimp only at hSw); go_simp; try with_reducible rfl)
        try simp only [Act.put, putA, putB, putC]
        refine wpAnyH_done (by kernel_rfl) ?_ _
        go_wp2
        go_roundw
        case rel => exact ⟨1, by omega, by go_num, hB.trans hcur, upto_succ hno hok.out⟩
        case measure => simp [intOf]; omega
      · obtain ⟨m, rfl⟩ : ∃ m, k = m + 1 := ⟨k - 1, by omega⟩
        obtain ⟨cap3, b3, off3, C3, hsl, _, hb3, ec3, hx3⟩ := (h0a.ext hA).at (i := m) (by omega)
        cases hsl
        have HR := HR0 m (by omega)
        obtain ⟨xp, hdp⟩ := (show Has (f0 m 0) .int from HR 0 (by decide)).int
        have r1 := hx3 0 (by decide)
        have r0 := ec3 0 (by decide)
        rw [hdp] at r1
        rw [r1.int_eq.1] at r0
        simp only [Nat.add_zero] at r0
        clear hx3 ec3 HR r1
        have hLk2 : Hid (nodeB f0 x2 (m + 1) = decide (xp < y0)) := by show _ = _; rw [hLk.out]; simp [hdp, D.int!]
        have i0 : 0 ≤ (m : Int) + 1 := by omega
        have i2 : (m : Int) < (len0 : Int) := by omega
        have iw : IntKind.i64.wrap (m : Int) = m := wrap_i64 (by omega) (by omega)
        have HK : Hid (∀ W, Ext W1 W → ((W.cell? ⟨w.heap.size, 0, none⟩ = some (.slice (some ⟨b, off, none⟩) len0 cap0) ∧ W.cell? ⟨w.heap.size, 1, none⟩ = some (.slice a1 len1 cap1) ∧ W.cell? ⟨w.heap.size, 2, none⟩ = some (.int .i64 x2) ∧ W.cell? ⟨w.heap.size, 3, none⟩ = some (.int .i64 x3)) ∧ W.cell? ⟨wr.heap.size, 0, none⟩ = some (.int .i64 y0) ∧ W.cell? ⟨wr.heap.size, 1, none⟩ = some (.slice aa ll lc) ∧ W.cell? ⟨wr.heap.size, 2, none⟩ = some (.slice ba bl bc)) ∧ W.cell? ⟨b, off + m * 3, none⟩ = some (.int .i64 xp)) := fun W hW => ⟨hall W hW, by rw [hW.cell hb3]; exact r0⟩
        have hcur : Ext W1 W1.drew := (Ext.refl _).drew
        refine wp_region_held_drew (S := (fun W => ((W.cell? ⟨w.heap.size, 0, none⟩ = some (.slice (some ⟨b, off, none⟩) len0 cap0) ∧ W.cell? ⟨w.heap.size, 1, none⟩ = some (.slice a1 len1 cap1) ∧ W.cell? ⟨w.heap.size, 2, none⟩ = some (.int .i64 x2) ∧ W.cell? ⟨w.heap.size, 3, none⟩ = some (.int .i64 x3)) ∧ W.cell? ⟨wr.heap.size, 0, none⟩ = some (.int .i64 y0) ∧ W.cell? ⟨wr.heap.size, 1, none⟩ = some (.slice aa ll lc) ∧ W.cell? ⟨wr.heap.size, 2, none⟩ = some (.slice ba bl bc)) ∧ W.cell? ⟨b, off + m * 3, none⟩ = some (.int .i64 xp))) (by kernel_rfl) (HK.out _ hcur) (fun hHeld => ?_)
        refine tkL 0 ⟨some 19, .fieldAddr 34 (.tmp 4) 0, 0, _, #[], none⟩ ?_ hHeld ?yyE0 ?rrE0
        case yyE0 => (intro w hSw; (try dsimp only at hSw); go_simp; try with_reducible rfl)
        try simp only [Act.put, putA, putB, putC]
        refine tkL 1 ⟨some 20, .load 3 (.tmp 19), 3, _, #[⟨0, .data⟩], none⟩ ?_ hHeld ?yyE1 ?rrE1
        case yyE1 => (intro w hSw; (try dsimp only at hSw); go_simp; try with_reducible rfl)
        try simp only [Act.put, putA, putB, putC]
        refine tkL 2 ⟨some 21, .fieldAddr 26 (.tmp 1) 2, 0, _, #[], none⟩ ?_ hHeld ?yyE2 ?rrE2
        case yyE2 => (intro w hSw; (try dsimp only at hSw); go_simp; try with_reducible rfl)
        try simp only [Act.put, putA, putB, putC]
        refine tkL 3 ⟨some 22, .load 3 (.tmp 21), 3, _, #[⟨2, .data⟩], none⟩ ?_ hHeld ?yyE3 ?rrE3
        case yyE3 => (intro w hSw; (try dsimp only at hSw); go_simp; try with_reducible rfl)
        try simp only [Act.put, putA, putB, putC]
        refine tkL 4 ⟨some 23, .binOp .sub 3 (.tmp 22) (.const (.int .i64 1)) 3, 3, _, #[⟨3, .data⟩], none⟩ ?_ hHeld ?yyE4 ?rrE4
        case yyE4 => (intro w hSw; (try dsimp only at hSw); go_simp; try with_reducible rfl)
        try simp only [Act.put, putA, putB, putC]
        refine wpAnyH_ready (rs := [5]) (by kernel_rfl) (by simp) ?_
        refine AllReadyH.cons (o := ⟨some 24, .call { callee := .value (.func 11), args := #[.tmp 20, .const (.int .i64 0), .tmp 23], argTypes := #[3, 3, 3] }, 4, _, #[⟨1, .data⟩, ⟨4, .data⟩], none⟩) rfl (fun K hK => ?_) AllReadyH.nil
        go_simp
        refine (l1In_any _ _ _ _).mono ?_
        rintro e w5 ⟨rfl, rfl⟩
        rw [hib]
        go_wp2_with fail
        refine hK.out _ _ (HK.out _ hcur) (fun hHeld => ?_)
        clear hK K
        try simp only [Act.put, putA, putB, putC]
        refine tkL 6 ⟨some 25, .unOp .not 4 (.tmp 24), 4, _, #[⟨5, .data⟩], none⟩ ?_ hHeld ?yyE6 ?rrE6
        case yyE6 => (intro w hSw; (try dsimp only at hSw); go_simp; try with_reducible rfl)
        try simp only [Act.put, putA, putB, putC]
        refine tkL 7 ⟨some 26, .move (.tmp 25), 4, _, #[⟨6, .data⟩, ⟨5, .chain⟩], none⟩ ?_ hHeld ?yyE7 ?rrE7
        case yyE7 => (intro w hSw; (try dsimp only at hSw); go_simp; try with_reducible rfl)
        try simp only [Act.put, putA, putB, putC]
        refine tkL 8 ⟨some 27, .fieldAddr 34 (.tmp 4) 1, 0, _, #[⟨7, .guard⟩], some (7, false)⟩ ?_ hHeld ?yyE8 ?rrE8
        case yyE8 => (intro w hSw; (try dsimp only at hSw); go_simp; try with_reducible rfl)
        try simp only [Act.put, putA, putB, putC]
        refine tkL 9 ⟨some 28, .load 31 (.tmp 27), 31, _, #[⟨8, .data⟩, ⟨7, .guard⟩], some (7, false)⟩ ?_ hHeld ?yyE9 ?rrE9
        case yyE9 => (intro w hSw; (try dsimp only at hSw); go_simp; try with_reducible rfl)
        try simp only [Act.put, putA, putB, putC]
        refine wpAnyH_ready (rs := [10]) (by kernel_rfl) (by simp) ?_
        refine AllReadyH.cons (o := ⟨some 29, .call { callee := .value (.func 12), args := #[.tmp 28], argTypes := #[31] }, 4, _, #[⟨9, .data⟩, ⟨7, .chain⟩, ⟨7, .guard⟩], some (7, false)⟩) rfl (fun K hK => ?_) AllReadyH.nil
        go_simp
        refine (hlab _ hcur).mono ?_
        rintro e w6 ⟨rfl, hE6⟩
        replace hcur := hcur.trans hE6
        go_wp2_with fail
        refine hK.out _ _ (HK.out _ hcur) (fun hHeld => ?_)
        clear hK K
        try simp only [Act.put, putA, putB, putC]
        refine tkL 11 ⟨some 30, .unOp .not 4 (.tmp 29), 4, _, #[⟨10, .data⟩, ⟨7, .guard⟩], some (7, false)⟩ ?_ hHeld ?yyE11 ?rrE11
        case yyE11 => (intro w hSw; (try dsimp only at hSw); go_simp; try with_reducible rfl)
        try simp only [Act.put, putA, putB, putC]
        refine tkL 12 ⟨some 31, .pick (.tmp 26) (.const (.bool true)) (.tmp 30), 4, _, #[⟨7, .data⟩, ⟨11, .data⟩], none⟩ ?_ hHeld ?yyE12 ?rrE12
        case yyE12 => (intro w hSw; (try dsimp only at hSw); go_simp; try with_reducible rfl)
        try simp only [Act.put, putA, putB, putC]
        refine tkL 13 ⟨some 32, .move (.tmp 31), 4, _, #[⟨12, .data⟩, ⟨10, .chain⟩], none⟩ ?_ hHeld ?yyE13 ?rrE13
        case yyE13 => (intro w hSw; (try dsimp only at hSw); go_simp; try with_reducible rfl)
        try simp only [Act.put, putA, putB, putC]
        refine tkL 14 ⟨some 33, .fieldAddr 34 (.tmp 4) 2, 0, _, #[⟨13, .guard⟩], some (13, false)⟩ ?_ hHeld ?yyE14 ?rrE14
        case yyE14 => (intro w hSw; (try dsimp only at hSw); go_simp; try with_reducible rfl)
        try simp only [Act.put, putA, putB, putC]
        refine tkL 15 ⟨some 34, .load 32 (.tmp 33), 32, _, #[⟨14, .data⟩, ⟨13, .guard⟩], some (13, false)⟩ ?_ hHeld ?yyE15 ?rrE15
        case yyE15 => (intro w hSw; (try dsimp only at hSw); go_simp; try with_reducible rfl)
        try simp only [Act.put, putA, putB, putC]
        refine wpAnyH_ready (rs := [16]) (by kernel_rfl) (by simp) ?_
        refine AllReadyH.cons (o := ⟨some 35, .call { callee := .value (.func 13), args := #[.tmp 34], argTypes := #[32] }, 4, _, #[⟨15, .data⟩, ⟨13, .chain⟩, ⟨13, .guard⟩], some (13, false)⟩) rfl (fun K hK => ?_) AllReadyH.nil
        go_simp
        refine (hprp _ hcur).mono ?_
        rintro e w7 ⟨rfl, hE7⟩
        replace hcur := hcur.trans hE7
        go_wp2_with fail
        refine hK.out _ _ (HK.out _ hcur) (fun hHeld => ?_)
        clear hK K
        try simp only [Act.put, putA, putB, putC]
        refine tkL 17 ⟨some 36, .unOp .not 4 (.tmp 35), 4, _, #[⟨16, .data⟩, ⟨13, .guard⟩], some (13, false)⟩ ?_ hHeld ?yyE17 ?rrE17
        case yyE17 => (intro w hSw; (try dsimp only at hSw); go_simp; try with_reducible rfl)
        try simp only [Act.put, putA, putB, putC]
        refine tkL 18 ⟨some 37, .pick (.tmp 32) (.const (.bool true)) (.tmp 36), 4, _, #[⟨13, .data⟩, ⟨17, .data⟩], none⟩ ?_ hHeld ?yyE18 ?rrE18
        case yyE18 => (intro w hSw; (try dsimp only at hSw); go_simp; try with_reducible rfl)
        try simp only [Act.put, putA, putB, putC]
        refine tkL 19 ⟨some 38, .move (.tmp 37), 4, _, #[⟨18, .data⟩, ⟨16, .chain⟩], none⟩ ?_ hHeld ?yyE19 ?rrE19
        case yyE19 => (intro w hSw; (try dsimp only at hSw); go_simp; try with_reducible rfl)
        try simp only [Act.put, putA, putB, putC]
        refine tkL 20 ⟨some 39, .move (.tmp 3), 3, _, #[⟨19, .guard⟩], some (19, false)⟩ ?_ hHeld ?yyE20 ?rrE20
        case yyE20 => (intro w hSw; (try dsimp only at hSw); go_simp; try with_reducible rfl)
        try simp only [Act.put, putA, putB, putC]
        refine tkL 21 ⟨some 40, .binOp .gtr 3 (.tmp 39) (.const (.int .i64 0)) 3, 4, _, #[⟨20, .data⟩, ⟨19, .guard⟩], some (19, false)⟩ ?_ hHeld ?yyE21 ?rrE21
        case yyE21 => (intro w hSw; (try dsimp only at hSw); go_simp; try with_reducible rfl)
        try simp only [Act.put, putA, putB, putC]
        refine tkL 22 ⟨some 41, .move (.tmp 40), 4, _, #[⟨21, .data⟩, ⟨19, .chain⟩, ⟨19, .guard⟩], some (19, false)⟩ ?_ hHeld ?yyE22 ?rrE22
        case yyE22 => (intro w hSw; (try dsimp only at hSw); go_simp; try with_reducible rfl)
        try simp only [Act.put, putA, putB, putC]
        refine tkL 23 ⟨some 42, .fieldAddr 26 (.tmp 1) 0, 0, _, #[⟨22, .guard⟩], some (22, true)⟩ ?_ hHeld ?yyE23 ?rrE23
        case yyE23 => (intro w hSw; (try dsimp only at hSw); go_simp; try with_reducible rfl)
        try simp only [Act.put, putA, putB, putC]
        refine tkL 24 ⟨some 43, .load 23 (.tmp 42), 23, _, #[⟨23, .data⟩, ⟨22, .guard⟩], some (22, true)⟩ ?_ hHeld ?yyE24 ?rrE24
        case yyE24 => (intro w hSw; (try dsimp only at hSw); go_simp; try with_reducible rfl)
        try simp only [Act.put, putA, putB, putC]
        refine tkL 25 ⟨some 44, .move (.tmp 3), 3, _, #[⟨22, .guard⟩], some (22, true)⟩ ?_ hHeld ?yyE25 ?rrE25
        case yyE25 => (intro w hSw; (try dsimp only at hSw); go_simp; try with_reducible rfl)
        try simp only [Act.put, putA, putB, putC]
        refine tkL 26 ⟨some 45, .binOp .sub 3 (.tmp 44) (.const (.int .i64 1)) 3, 3, _, #[⟨25, .data⟩, ⟨22, .guard⟩], some (22, true)⟩ ?_ hHeld ?yyE26 ?rrE26
        case yyE26 => (intro w hSw; (try dsimp only at hSw); go_simp; try with_reducible rfl)
        try simp only [Act.put, putA, putB, putC]
        refine tkL 27 ⟨some 46, .indexAddr 23 (.tmp 43) (.tmp 45), 0, _, #[⟨24, .data⟩, ⟨26, .data⟩, ⟨22, .guard⟩], some (22, true)⟩ ?_ hHeld ?yyE27 ?rrE27
        case yyE27 => (intro w hSw; (try dsimp only at hSw); go_simp; try with_reducible rfl)
        try simp only [Act.put, putA, putB, putC]
        refine tkL 28 ⟨some 47, .fieldAddr 34 (.tmp 46) 0, 0, _, #[⟨27, .data⟩, ⟨22, .guard⟩], some (22, true)⟩ ?_ hHeld ?yyE28 ?rrE28
        case yyE28 => (intro w hSw; (try dsimp only at hSw); go_simp; try with_reducible rfl)
        try simp only [Act.put, putA, putB, putC]
        refine tkL 29 ⟨some 48, .load 3 (.tmp 47), 3, _, #[⟨28, .data⟩, ⟨22, .guard⟩], some (22, true)⟩ ?_ hHeld ?yyE29 ?rrE29
        case yyE29 => (intro w hSw; (try dsimp only at hSw); go_simp; try with_reducible rfl)
        try simp only [Act.put, putA, putB, putC]
        refine tkL 30 ⟨some 49, .fieldAddr 34 (.tmp 4) 0, 0, _, #[⟨22, .guard⟩], some (22, true)⟩ ?_ hHeld ?yyE30 ?rrE30
        case yyE30 => (intro w hSw; (try dsimp only at hSw); go_simp; try with_reducible rfl)
        try simp only [Act.put, putA, putB, putC]
        refine tkL 31 ⟨some 50, .load 3 (.tmp 49), 3, _, #[⟨30, .data⟩, ⟨22, .guard⟩], some (22, true)⟩ ?_ hHeld ?yyE31 ?rrE31
        case yyE31 => (intro w hSw; (try dsimp only at hSw); go_simp; try with_reducible rfl)
        try simp only [Act.put, putA, putB, putC]
        refine tkL 32 ⟨some 51, .binOp .geq 3 (.tmp 48) (.tmp 50) 3, 4, _, #[⟨29, .data⟩, ⟨31, .data⟩, ⟨22, .guard⟩], some (22, true)⟩ ?_ hHeld ?yyE32 ?rrE32
        case yyE32 => (intro w hSw; (try dsimp only at hSw); go_simp; try with_reducible rfl)
        try simp only [Act.put, putA, putB, putC]
        refine tkL 33 ⟨some 52, .pick (.tmp 41) (.tmp 51) (.const (.bool false)), 4, _, #[⟨22, .data⟩, ⟨32, .data⟩, ⟨19, .guard⟩], some (19, false)⟩ ?_ hHeld ?yyE33 ?rrE33
        case yyE33 => (intro w hSw; (try dsimp only at hSw); go_simp; try with_reducible rfl)
        try simp only [Act.put, putA, putB, putC]
        refine tkL 34 ⟨some 53, .pick (.tmp 38) (.const (.bool true)) (.tmp 52), 4, _, #[⟨19, .data⟩, ⟨33, .data⟩], none⟩ ?_ hHeld ?yyE34 ?rrE34
        case yyE34 => (intro w hSw; (try dsimp only at hSw); go_simp; try with_reducible rfl)
        try simp only [Act.put, putA, putB, putC]
        refine wpAnyH_done (by kernel_rfl) ?_ _
        by_cases hcmp : xp < y0
        · have hok : Hid (nodeB f0 x2 (m + 1) = true) := by show _ = _; rw [hLk2.out]; exact decide_eq_true hcmp
          go_wp2
          go_roundw
          case rel => exact ⟨m + 1 + 1, by omega, by go_num, hB.trans hcur, upto_succ hno hok.out⟩
          case measure => simp [intOf]; omega
        · have hfin : Hid (graphB d0 d1 x2 x3 = false) := hbk (by rw [hLk2.out]; exact decide_eq_false hcmp)
          go_wp2
          go_ret
          exact ⟨ret_bool hfin.out.symm, hA.trans hcur⟩
    · have hkx : k = len0 := by omega
      subst hkx
      have hn0 : Hid ((List.range k).all (nodeB f0 x2) = true) := all_yes hno
      clear hno hbad0
      obtain ⟨we, hwe⟩ : ∃ we, we = wr := ⟨_, rfl⟩
      rw [← hwe] at hE g0 g1 g2 g3 ⊢
      clear hwe
      go_wp2
      go_loopw [5] (fun i wr => ∃ j : Nat, j ≤ len1 ∧ i = .int .i64 j ∧ Ext W0 wr ∧ ∀ i, i < j → edgeB f1 d0 x3 i = true) (fun i _ => len1 - (intOf i).toNat)
      case atStart => exact ⟨0, Nat.zero_le _, rfl, hE, fun j h => by omega⟩
      case round =>
        clear g0 g1 g2 g3 hE
        obtain ⟨k2, hk2, rfl, hE, hno⟩ := hrel
        obtain ⟨g0, g1, g2, g3⟩ := hgx wr hE
        by_cases hlt : k2 < len1
        · obtain ⟨cap2, b, off, C, hsl, _, hb, ec, hx⟩ := (h1.ext (hE0.trans hE)).at hlt
          cases hsl
          have HR := HR1 k2 hlt
          obtain ⟨qx0, qhd0⟩ := (show Has (f1 k2 0) .int from HR 0 (by decide)).int
          have qh0 := hx 0 (by decide)
          have qe0 := ec 0 (by decide)
          rw [qhd0] at qh0
          obtain ⟨qy0, qz0⟩ := qh0.int_eq
          rw [qy0] at qe0
          clear qy0
          obtain ⟨qx1, qhd1⟩ := (show Has (f1 k2 1) .str from HR 1 (by decide)).str
          have qh1 := hx 1 (by decide)
          have qe1 := ec 1 (by decide)
          rw [qhd1] at qh1
          obtain ⟨qy1, qz1⟩ := qh1.str_eq
          rw [qy1] at qe1
          clear qy1
          obtain ⟨qx2, qhd2⟩ := (show Has (f1 k2 2) .int from HR 2 (by decide)).int
          have qh2 := hx 2 (by decide)
          have qe2 := ec 2 (by decide)
          rw [qhd2] at qh2
          obtain ⟨qy2, qz2⟩ := qh2.int_eq
          rw [qy2] at qe2
          clear qy2
          obtain ⟨qx3, qhd3⟩ := (show Has (f1 k2 3) .int from HR 3 (by decide)).int
          have qh3 := hx 3 (by decide)
          have qe3 := ec 3 (by decide)
          rw [qhd3] at qh3
          obtain ⟨qy3, qz3⟩ := qh3.int_eq
          rw [qy3] at qe3
          clear qy3
          have qH4 : Has (f1 k2 4) (.list 3) := HR 4 (by decide)
          have qh4 := hx 4 (by decide)
          have qe4 := ec 4 (by decide)
          simp only [Nat.add_zero] at qe0
          clear hx ec
          obtain ⟨ba, bc, bl, _, hDb, hC4, _, _⟩ := list_shape qH4 qh4
          rw [hC4] at qe4 qh4
          clear hDb hC4 HR
          obtain ⟨y0, hy0⟩ : ∃ y0, y0 = qx0 := ⟨_, rfl⟩
          obtain ⟨y1, hy1⟩ : ∃ y1, y1 = qx1 := ⟨_, rfl⟩
          obtain ⟨y2, hy2⟩ : ∃ y2, y2 = qx2 := ⟨_, rfl⟩
          obtain ⟨y3, hy3⟩ : ∃ y3, y3 = qx3 := ⟨_, rfl⟩
          rw [← hy0] at qe0 qhd0
          rw [← hy1] at qe1 qhd1 qz1
          rw [← hy2] at qe2 qhd2
          rw [← hy3] at qe3 qhd3
          clear hy0 hy1 hy2 hy3
          have hLk : Hid (edgeB f1 d0 x3 k2 = (inB y0 0 (IntKind.i64.wrap (x3 - 1)) && nameB y1 && propsB (f1 k2 4) && hasId d0 y2 && hasId d0 y3 && (k2 == 0 || decide ((f1 (k2 - 1) 0).int! < y0)))) := by show _ = _; rw [edgeB, qhd0, qhd1, qhd2, qhd3]; rfl
          go_wp2_with fail
          generalize hW1 : wr.alloc _ = W1
          have hE1 : Ext wr W1 := by subst hW1; exact (Ext.refl _).alloc _
          have hnx : ∀ W, Ext W1 W → W.cell? ⟨wr.heap.size, 0, none⟩ = some (.int .i64 y0) ∧ W.cell? ⟨wr.heap.size, 1, none⟩ = some (.string y1) ∧ W.cell? ⟨wr.heap.size, 2, none⟩ = some (.int .i64 y2) ∧ W.cell? ⟨wr.heap.size, 3, none⟩ = some (.int .i64 y3) ∧ W.cell? ⟨wr.heap.size, 4, none⟩ = some (.slice ba bl bc) := fun W hW => by subst hW1; exact ⟨box_cell hW 0 _ rfl, box_cell hW 1 _ rfl, box_cell hW 2 _ rfl, box_cell hW 3 _ rfl, box_cell hW 4 _ rfl⟩
          clear hW1
          have hB : Ext W0 W1 := hE.trans hE1
          have hA : Ext w W1 := hE0.trans hB
          have hall : ∀ W, Ext W1 W → (W.cell? ⟨w.heap.size, 0, none⟩ = some (.slice a0 k cap0) ∧ W.cell? ⟨w.heap.size, 1, none⟩ = some (.slice (some ⟨b, off, none⟩) len1 cap1) ∧ W.cell? ⟨w.heap.size, 2, none⟩ = some (.int .i64 x2) ∧ W.cell? ⟨w.heap.size, 3, none⟩ = some (.int .i64 x3)) ∧ W.cell? ⟨wr.heap.size, 0, none⟩ = some (.int .i64 y0) ∧ W.cell? ⟨wr.heap.size, 1, none⟩ = some (.string y1) ∧ W.cell? ⟨wr.heap.size, 2, none⟩ = some (.int .i64 y2) ∧ W.cell? ⟨wr.heap.size, 3, none⟩ = some (.int .i64 y3) ∧ W.cell? ⟨wr.heap.size, 4, none⟩ = some (.slice ba bl bc) := fun W hW => ⟨hgx W (hB.trans hW), hnx W hW⟩
          have hnam := fun (W : World) => l2Name_any y1 W qz1
          have hprp := fun (W : World) (hW : Ext W1 W) => l2Props_any (f1 k2 4) qH4 S _ W (qh4.ext (hE1.trans hW))
          have hn2 := fun (W : World) (hW : Ext W1 W) => hnode' W (hA.trans hW) y2
          have hn3 := fun (W : World) (hW : Ext W1 W) => hnode' W (hA.trans hW) y3
          have hbk := hbad1 k2 hlt
          clear g0 g1 g2 g3 qe0 qe1 qe2 qe3 qe4 hgx hnx hbad1 hnode'
          generalize nameB y1 = lb at hLk hnam
          generalize propsB (f1 k2 4) = pb at hLk hprp
          generalize hasId d0 y2 = fb at hLk hn2
          generalize hasId d0 y3 = tb at hLk hn3
          generalize hib : inB y0 0 (IntKind.i64.wrap (x3 - 1)) = ib at hLk
          cases ib
          · have hfin : Hid (graphB d0 d1 x2 x3 = false) := hbk (by rw [hLk.out]; rfl)
            have HK : Hid (∀ W, Ext W1 W → (W.cell? ⟨w.heap.size, 0, none⟩ = some (.slice a0 k cap0) ∧ W.cell? ⟨w.heap.size, 1, none⟩ = some (.slice (some ⟨b, off, none⟩) len1 cap1) ∧ W.cell? ⟨w.heap.size, 2, none⟩ = some (.int .i64 x2) ∧ W.cell? ⟨w.heap.size, 3, none⟩ = some (.int .i64 x3)) ∧ W.cell? ⟨wr.heap.size, 0, none⟩ = some (.int .i64 y0) ∧ W.cell? ⟨wr.heap.size, 1, none⟩ = some (.string y1) ∧ W.cell? ⟨wr.heap.size, 2, none⟩ = some (.int .i64 y2) ∧ W.cell? ⟨wr.heap.size, 3, none⟩ = some (.int .i64 y3) ∧ W.cell? ⟨wr.heap.size, 4, none⟩ = some (.slice ba bl bc)) := hall
            have hcur : Ext W1 W1.drew := (Ext.refl _).drew
            refine wp_region_held_drew (S := (fun W => (W.cell? ⟨w.heap.size, 0, none⟩ = some (.slice a0 k cap0) ∧ W.cell? ⟨w.heap.size, 1, none⟩ = some (.slice (some ⟨b, off, none⟩) len1 cap1) ∧ W.cell? ⟨w.heap.size, 2, none⟩ = some (.int .i64 x2) ∧ W.cell? ⟨w.heap.size, 3, none⟩ = some (.int .i64 x3)) ∧ W.cell? ⟨wr.heap.size, 0, none⟩ = some (.int .i64 y0) ∧ W.cell? ⟨wr.heap.size, 1, none⟩ = some (.string y1) ∧ W.cell? ⟨wr.heap.size, 2, none⟩ = some (.int .i64 y2) ∧ W.cell? ⟨wr.heap.size, 3, none⟩ = some (.int .i64 y3) ∧ W.cell? ⟨wr.heap.size, 4, none⟩ = some (.slice ba bl bc))) (by kernel_rfl) (HK.out _ hcur) (fun hHeld => ?_)
            refine tkL 0 ⟨some 66, .fieldAddr 46 (.tmp 6) 0, 0, _, #[], none⟩ ?_ hHeld ?yyEa0 ?rrEa0
            case yyEa0 => (intro w hSw; (try dsimp only at hSw); go_simp; try with_reducible rfl)
            try simp only [Act.put, putA, putB, putC]
            refine tkL 1 ⟨some 67, .load 3 (.tmp 66), 3, _, #[⟨0, .data⟩], none⟩ ?_ hHeld ?yyEa1 ?rrEa1
            case yyEa1 => (intro w hSw; (try dsimp only at hSw); go_simp; try with_reducible rfl)
            try simp only [Act.put, putA, putB, putC]
            refine tkL 2 ⟨some 68, .fieldAddr 26 (.tmp 1) 3, 0, _, #[], none⟩ ?_ hHeld ?yyEa2 ?rrEa2
            case yyEa2 => (intro w hSw; (try dsimp only at hSw); go_simp; try with_reducible rfl)
            try simp only [Act.put, putA, putB, putC]
            refine tkL 3 ⟨some 69, .load 3 (.tmp 68), 3, _, #[⟨2, .data⟩], none⟩ ?_ hHeld ?yyEa3 ?rrEa3
            case yyEa3 => (intro w hSw; (try dsimp only at hSw); go_simp; try with_reducible rfl)
            try simp only [Act.put, putA, putB, putC]
            refine tkL 4 ⟨some 70, .binOp .sub 3 (.tmp 69) (.const (.int .i64 1)) 3, 3, _, #[⟨3, .data⟩], none⟩ ?_ hHeld ?yyEa4 ?rrEa4
            case yyEa4 => (intro w hSw; (try dsimp only at hSw); go_simp; try with_reducible rfl)
            try simp only [Act.put, putA, putB, putC]
            refine wpAnyH_ready (rs := [5]) (by kernel_rfl) (by simp) ?_
            refine AllReadyH.cons (o := ⟨some 71, .call { callee := .value (.func 11), args := #[.tmp 67, .const (.int .i64 0), .tmp 70], argTypes := #[3, 3, 3] }, 4, _, #[⟨1, .data⟩, ⟨4, .data⟩], none⟩) rfl (fun K hK => ?_) AllReadyH.nil
            go_simp
            refine (l1In_any _ _ _ _).mono ?_
            rintro e w5 ⟨rfl, rfl⟩
            rw [hib]
            go_wp2_with fail
            refine hK.out _ _ (HK.out _ hcur) (fun hHeld => ?_)
            clear hK K
            try simp only [Act.put, putA, putB, putC]
            refine tkL 6 ⟨some 72, .unOp .not 4 (.tmp 71), 4, _, #[⟨5, .data⟩], none⟩ ?_ hHeld ?yyEa6 ?rrEa6
            case yyEa6 => (intro w hSw; (try dsimp only at hSw); go_simp; try with_reducible rfl)
            try simp only [Act.put, putA, putB, putC]
            refine tkL 7 ⟨some 73, .move (.tmp 72), 4, _, #[⟨6, .data⟩, ⟨5, .chain⟩], none⟩ ?_ hHeld ?yyEa7 ?rrEa7
            case yyEa7 => (intro w hSw; (try dsimp only at hSw); go_simp; try with_reducible rfl)
            try simp only [Act.put, putA, putB, putC]
            refine tkR 8 ⟨some 74, .fieldAddr 46 (.tmp 6) 1, 0, _, #[⟨7, .guard⟩], some (7, false)⟩ hHeld ?_
            try simp only [Act.put, putA, putB, putC]
            refine tkR 9 ⟨some 75, .load 9 (.tmp 74), 9, _, #[⟨8, .data⟩, ⟨7, .guard⟩], some (7, false)⟩ hHeld ?_
            try simp only [Act.put, putA, putB, putC]
            refine wpAnyH_ready (rs := [10]) (by kernel_rfl) (by simp) ?_
            refine AllReadyH.cons (o := ⟨some 76, .call { callee := .value (.func 14), args := #[.tmp 75], argTypes := #[9] }, 4, _, #[⟨9, .data⟩, ⟨7, .chain⟩, ⟨7, .guard⟩], some (7, false)⟩) rfl (fun K hK => ?_) AllReadyH.nil
            rw [if_neg (by simp [Region.wanted, yielded])]
            refine hK.out _ _ hHeld (fun hHeld => ?_)
            clear hK K
            try simp only [Act.put, putA, putB, putC]
            refine tkR 11 ⟨some 77, .unOp .not 4 (.tmp 76), 4, _, #[⟨10, .data⟩, ⟨7, .guard⟩], some (7, false)⟩ hHeld ?_
            try simp only [Act.put, putA, putB, putC]
            refine tkL 12 ⟨some 78, .pick (.tmp 73) (.const (.bool true)) (.tmp 77), 4, _, #[⟨7, .data⟩, ⟨11, .data⟩], none⟩ ?_ hHeld ?yyEa12 ?rrEa12
            case yyEa12 => (intro w hSw; (try dsimp only at hSw); go_simp; try with_reducible rfl)
            try simp only [Act.put, putA, putB, putC]
            refine tkL 13 ⟨some 79, .move (.tmp 78), 4, _, #[⟨12, .data⟩, ⟨10, .chain⟩], none⟩ ?_ hHeld ?yyEa13 ?rrEa13
            case yyEa13 => (intro w hSw; (try dsimp only at hSw); go_simp; try with_reducible rfl)
            try simp only [Act.put, putA, putB, putC]
            refine tkR 14 ⟨some 80, .fieldAddr 46 (.tmp 6) 4, 0, _, #[⟨13, .guard⟩], some (13, false)⟩ hHeld ?_
            try simp only [Act.put, putA, putB, putC]
            refine tkR 15 ⟨some 81, .load 32 (.tmp 80), 32, _, #[⟨14, .data⟩, ⟨13, .guard⟩], some (13, false)⟩ hHeld ?_
            try simp only [Act.put, putA, putB, putC]
            refine wpAnyH_ready (rs := [16]) (by kernel_rfl) (by simp) ?_
            refine AllReadyH.cons (o := ⟨some 82, .call { callee := .value (.func 13), args := #[.tmp 81], argTypes := #[32] }, 4, _, #[⟨15, .data⟩, ⟨13, .chain⟩, ⟨13, .guard⟩], some (13, false)⟩) rfl (fun K hK => ?_) AllReadyH.nil
            rw [if_neg (by simp [Region.wanted, yielded])]
            refine hK.out _ _ hHeld (fun hHeld => ?_)
            clear hK K
            try simp only [Act.put, putA, putB, putC]
            refine tkR 17 ⟨some 83, .unOp .not 4 (.tmp 82), 4, _, #[⟨16, .data⟩, ⟨13, .guard⟩], some (13, false)⟩ hHeld ?_
            try simp only [Act.put, putA, putB, putC]
            refine tkL 18 ⟨some 84, .pick (.tmp 79) (.const (.bool true)) (.tmp 83), 4, _, #[⟨13, .data⟩, ⟨17, .data⟩], none⟩ ?_ hHeld ?yyEa18 ?rrEa18
            case yyEa18 => (intro w hSw; (try dsimp only at hSw); go_simp; try with_reducible rfl)
            try simp only [Act.put, putA, putB, putC]
            refine tkL 19 ⟨some 85, .move (.tmp 84), 4, _, #[⟨18, .data⟩, ⟨16, .chain⟩], none⟩ ?_ hHeld ?yyEa19 ?rrEa19
            case yyEa19 => (intro w hSw; (try dsimp only at hSw); go_simp; try with_reducible rfl)
            try simp only [Act.put, putA, putB, putC]
            refine tkR 20 ⟨some 86, .load 26 (.tmp 1), 26, _, #[⟨19, .guard⟩], some (19, false)⟩ hHeld ?_
            try simp only [Act.put, putA, putB, putC]
            refine tkR 21 ⟨some 87, .fieldAddr 46 (.tmp 6) 2, 0, _, #[⟨19, .guard⟩], some (19, false)⟩ hHeld ?_
            try simp only [Act.put, putA, putB, putC]
            refine tkR 22 ⟨some 88, .load 3 (.tmp 87), 3, _, #[⟨21, .data⟩, ⟨19, .guard⟩], some (19, false)⟩ hHeld ?_
            try simp only [Act.put, putA, putB, putC]
            refine wpAnyH_ready (rs := [23]) (by kernel_rfl) (by simp) ?_
            refine AllReadyH.cons (o := ⟨some 89, .call { callee := .value (.func 15), args := #[.tmp 86, .tmp 88], argTypes := #[26, 3] }, 3, _, #[⟨20, .data⟩, ⟨22, .data⟩, ⟨19, .chain⟩, ⟨19, .guard⟩], some (19, false)⟩) rfl (fun K hK => ?_) AllReadyH.nil
            rw [if_neg (by simp [Region.wanted, yielded])]
            refine hK.out _ _ hHeld (fun hHeld => ?_)
            clear hK K
            try simp only [Act.put, putA, putB, putC]
            refine tkR 24 ⟨some 90, .binOp .lss 3 (.tmp 89) (.const (.int .i64 0)) 3, 4, _, #[⟨23, .data⟩, ⟨19, .guard⟩], some (19, false)⟩ hHeld ?_
            try simp only [Act.put, putA, putB, putC]
            refine tkL 25 ⟨some 91, .pick (.tmp 85) (.const (.bool true)) (.tmp 90), 4, _, #[⟨19, .data⟩, ⟨24, .data⟩], none⟩ ?_ hHeld ?yyEa25 ?rrEa25
            case yyEa25 => (intro w hSw; (try dsimp only at hSw); go_simp; try with_reducible rfl)
            try simp only [Act.put, putA, putB, putC]
            refine tkL 26 ⟨some 92, .move (.tmp 91), 4, _, #[⟨25, .data⟩, ⟨23, .chain⟩], none⟩ ?_ hHeld ?yyEa26 ?rrEa26
            case yyEa26 => (intro w hSw; (try dsimp only at hSw); go_simp; try with_reducible rfl)
            try simp only [Act.put, putA, putB, putC]
            refine tkR 27 ⟨some 93, .load 26 (.tmp 1), 26, _, #[⟨26, .guard⟩], some (26, false)⟩ hHeld ?_
            try simp only [Act.put, putA, putB, putC]
            refine tkR 28 ⟨some 94, .fieldAddr 46 (.tmp 6) 3, 0, _, #[⟨26, .guard⟩], some (26, false)⟩ hHeld ?_
            try simp only [Act.put, putA, putB, putC]
            refine tkR 29 ⟨some 95, .load 3 (.tmp 94), 3, _, #[⟨28, .data⟩, ⟨26, .guard⟩], some (26, false)⟩ hHeld ?_
            try simp only [Act.put, putA, putB, putC]
            refine wpAnyH_ready (rs := [30]) (by kernel_rfl) (by simp) ?_
            refine AllReadyH.cons (o := ⟨some 96, .call { callee := .value (.func 15), args := #[.tmp 93, .tmp 95], argTypes := #[26, 3] }, 3, _, #[⟨27, .data⟩, ⟨29, .data⟩, ⟨26, .chain⟩, ⟨26, .guard⟩], some (26, false)⟩) rfl (fun K hK => ?_) AllReadyH.nil
            rw [if_neg (by simp [Region.wanted, yielded])]
            refine hK.out _ _ hHeld (fun hHeld => ?_)
            clear hK K
            try simp only [Act.put, putA, putB, putC]
            refine tkR 31 ⟨some 97, .binOp .lss 3 (.tmp 96) (.const (.int .i64 0)) 3, 4, _, #[⟨30, .data⟩, ⟨26, .guard⟩], some (26, false)⟩ hHeld ?_
            try simp only [Act.put, putA, putB, putC]
            refine tkL 32 ⟨some 98, .pick (.tmp 92) (.const (.bool true)) (.tmp 97), 4, _, #[⟨26, .data⟩, ⟨31, .data⟩], none⟩ ?_ hHeld ?yyEa32 ?rrEa32
            case yyEa32 => (intro w hSw; (try dsimp only at hSw); go_simp; try with_reducible rfl)
            try simp only [Act.put, putA, putB, putC]
            refine tkL 33 ⟨some 99, .move (.tmp 98), 4, _, #[⟨32, .data⟩, ⟨30, .chain⟩], none⟩ ?_ hHeld ?yyEa33 ?rrEa33
            case yyEa33 => (intro w hSw; (try dsimp only at hSw); go_simp; try with_reducible rfl)
            try simp only [Act.put, putA, putB, putC]
            refine tkR 34 ⟨some 100, .move (.tmp 5), 3, _, #[⟨33, .guard⟩], some (33, false)⟩ hHeld ?_
            try simp only [Act.put, putA, putB, putC]
            refine tkR 35 ⟨some 101, .binOp .gtr 3 (.tmp 100) (.const (.int .i64 0)) 3, 4, _, #[⟨34, .data⟩, ⟨33, .guard⟩], some (33, false)⟩ hHeld ?_
            try simp only [Act.put, putA, putB, putC]
            refine tkR 36 ⟨some 102, .move (.tmp 101), 4, _, #[⟨35, .data⟩, ⟨33, .chain⟩, ⟨33, .guard⟩], some (33, false)⟩ hHeld ?_
            try simp only [Act.put, putA, putB, putC]
            refine tkR 37 ⟨some 103, .fieldAddr 26 (.tmp 1) 1, 0, _, #[⟨36, .guard⟩], some (36, true)⟩ hHeld ?_
            try simp only [Act.put, putA, putB, putC]
            refine tkR 38 ⟨some 104, .load 24 (.tmp 103), 24, _, #[⟨37, .data⟩, ⟨36, .guard⟩], some (36, true)⟩ hHeld ?_
            try simp only [Act.put, putA, putB, putC]
            refine tkR 39 ⟨some 105, .move (.tmp 5), 3, _, #[⟨36, .guard⟩], some (36, true)⟩ hHeld ?_
            try simp only [Act.put, putA, putB, putC]
            refine tkR 40 ⟨some 106, .binOp .sub 3 (.tmp 105) (.const (.int .i64 1)) 3, 3, _, #[⟨39, .data⟩, ⟨36, .guard⟩], some (36, true)⟩ hHeld ?_
            try simp only [Act.put, putA, putB, putC]
            refine tkR 41 ⟨some 107, .indexAddr 24 (.tmp 104) (.tmp 106), 0, _, #[⟨38, .data⟩, ⟨40, .data⟩, ⟨36, .guard⟩], some (36, true)⟩ hHeld ?_
            try simp only [Act.put, putA, putB, putC]
            refine tkR 42 ⟨some 108, .fieldAddr 46 (.tmp 107) 0, 0, _, #[⟨41, .data⟩, ⟨36, .guard⟩], some (36, true)⟩ hHeld ?_
            try simp only [Act.put, putA, putB, putC]
            refine tkR 43 ⟨some 109, .load 3 (.tmp 108), 3, _, #[⟨42, .data⟩, ⟨36, .guard⟩], some (36, true)⟩ hHeld ?_
            try simp only [Act.put, putA, putB, putC]
            refine tkR 44 ⟨some 110, .fieldAddr 46 (.tmp 6) 0, 0, _, #[⟨36, .guard⟩], some (36, true)⟩ hHeld ?_
            try simp only [Act.put, putA, putB, putC]
            refine tkR 45 ⟨some 111, .load 3 (.tmp 110), 3, _, #[⟨44, .data⟩, ⟨36, .guard⟩], some (36, true)⟩ hHeld ?_
            try simp only [Act.put, putA, putB, putC]
            refine tkR 46 ⟨some 112, .binOp .geq 3 (.tmp 109) (.tmp 111) 3, 4, _, #[⟨43, .data⟩, ⟨45, .data⟩, ⟨36, .guard⟩], some (36, true)⟩ hHeld ?_
            try simp only [Act.put, putA, putB, putC]
            refine tkR 47 ⟨some 113, .pick (.tmp 102) (.tmp 112) (.const (.bool false)), 4, _, #[⟨36, .data⟩, ⟨46, .data⟩, ⟨33, .guard⟩], some (33, false)⟩ hHeld ?_
            try simp only [Act.put, putA, putB, putC]
            refine tkL 48 ⟨some 114, .pick (.tmp 99) (.const (.bool true)) (.tmp 113), 4, _, #[⟨33, .data⟩, ⟨47, .data⟩], none⟩ ?_ hHeld ?yyEa48 ?rrEa48
            case yyEa48 => (intro w hSw; (try dsimp only at hSw); go_simp; try with_reducible rfl)
            try simp only [Act.put, putA, putB, putC]
            refine wpAnyH_done (by kernel_rfl) ?_ _
            go_wp2
            go_ret
            exact ⟨ret_bool hfin.out.symm, hA.trans hcur⟩
          cases lb
          · have hfin : Hid (graphB d0 d1 x2 x3 = false) := hbk (by rw [hLk.out]; rfl)
            have HK : Hid (∀ W, Ext W1 W → (W.cell? ⟨w.heap.size, 0, none⟩ = some (.slice a0 k cap0) ∧ W.cell? ⟨w.heap.size, 1, none⟩ = some (.slice (some ⟨b, off, none⟩) len1 cap1) ∧ W.cell? ⟨w.heap.size, 2, none⟩ = some (.int .i64 x2) ∧ W.cell? ⟨w.heap.size, 3, none⟩ = some (.int .i64 x3)) ∧ W.cell? ⟨wr.heap.size, 0, none⟩ = some (.int .i64 y0) ∧ W.cell? ⟨wr.heap.size, 1, none⟩ = some (.string y1) ∧ W.cell? ⟨wr.heap.size, 2, none⟩ = some (.int .i64 y2) ∧ W.cell? ⟨wr.heap.size, 3, none⟩ = some (.int .i64 y3) ∧ W.cell? ⟨wr.heap.size, 4, none⟩ = some (.slice ba bl bc)) := hall
            have hcur : Ext W1 W1.drew := (Ext.refl _).drew
            refine wp_region_held_drew (S := (fun W => (W.cell? ⟨w.heap.size, 0, none⟩ = some (.slice a0 k cap0) ∧ W.cell? ⟨w.heap.size, 1, none⟩ = some (.slice (some ⟨b, off, none⟩) len1 cap1) ∧ W.cell? ⟨w.heap.size, 2, none⟩ = some (.int .i64 x2) ∧ W.cell? ⟨w.heap.size, 3, none⟩ = some (.int .i64 x3)) ∧ W.cell? ⟨wr.heap.size, 0, none⟩ = some (.int .i64 y0) ∧ W.cell? ⟨wr.heap.size, 1, none⟩ = some (.string y1) ∧ W.cell? ⟨wr.heap.size, 2, none⟩ = some (.int .i64 y2) ∧ W.cell? ⟨wr.heap.size, 3, none⟩ = some (.int .i64 y3) ∧ W.cell? ⟨wr.heap.size, 4, none⟩ = some (.slice ba bl bc))) (by kernel_rfl) (HK.out _ hcur) (fun hHeld => ?_)
            refine tkL 0 ⟨some 66, .fieldAddr 46 (.tmp 6) 0, 0, _, #[], none⟩ ?_ hHeld ?yyEb0 ?rrEb0
            case yyEb0 => (intro w hSw; (try dsimp only at hSw); go_simp; try with_reducible rfl)
            try simp only [Act.put, putA, putB, putC]
            refine tkL 1 ⟨some 67, .load 3 (.tmp 66), 3, _, #[⟨0, .data⟩], none⟩ ?_ hHeld ?yyEb1 ?rrEb1
            case yyEb1 => (intro w hSw; (try dsimp only at hSw); go_simp; try with_reducible rfl)
            try simp only [Act.put, putA, putB, putC]
            refine tkL 2 ⟨some 68, .fieldAddr 26 (.tmp 1) 3, 0, _, #[], none⟩ ?_ hHeld ?yyEb2 ?rrEb2
            case yyEb2 => (intro w hSw; (try dsimp only at hSw); go_simp; try with_reducible rfl)
            try simp only [Act.put, putA, putB, putC]
            refine tkL 3 ⟨some 69, .load 3 (.tmp 68), 3, _, #[⟨2, .data⟩], none⟩ ?_ hHeld ?yyEb3 ?rrEb3
            case yyEb3 => (intro w hSw; (try dsimp only at hSw); go_simp; try with_reducible rfl)
            try simp only [Act.put, putA, putB, putC]
            refine tkL 4 ⟨some 70, .binOp .sub 3 (.tmp 69) (.const (.int .i64 1)) 3, 3, _, #[⟨3, .data⟩], none⟩ ?_ hHeld ?yyEb4 ?rrEb4
            case yyEb4 => (intro w hSw; (try dsimp only at hSw); go_simp; try with_reducible rfl)
            try simp only [Act.put, putA, putB, putC]
            refine wpAnyH_ready (rs := [5]) (by kernel_rfl) (by simp) ?_
            refine AllReadyH.cons (o := ⟨some 71, .call { callee := .value (.func 11), args := #[.tmp 67, .const (.int .i64 0), .tmp 70], argTypes := #[3, 3, 3] }, 4, _, #[⟨1, .data⟩, ⟨4, .data⟩], none⟩) rfl (fun K hK => ?_) AllReadyH.nil
            go_simp
            refine (l1In_any _ _ _ _).mono ?_
            rintro e w5 ⟨rfl, rfl⟩
            rw [hib]
            go_wp2_with fail
            refine hK.out _ _ (HK.out _ hcur) (fun hHeld => ?_)
            clear hK K
            try simp only [Act.put, putA, putB, putC]
            refine tkL 6 ⟨some 72, .unOp .not 4 (.tmp 71), 4, _, #[⟨5, .data⟩], none⟩ ?_ hHeld ?yyEb6 ?rrEb6
            case yyEb6 => (intro w hSw; (try dsimp only at hSw); go_simp; try with_reducible rfl)
            try simp only [Act.put, putA, putB, putC]
            refine tkL 7 ⟨some 73, .move (.tmp 72), 4, _, #[⟨6, .data⟩, ⟨5, .chain⟩], none⟩ ?_ hHeld ?yyEb7 ?rrEb7
            case yyEb7 => (intro w hSw; (try dsimp only at hSw); go_simp; try with_reducible rfl)
            try simp only [Act.put, putA, putB, putC]
            refine tkL 8 ⟨some 74, .fieldAddr 46 (.tmp 6) 1, 0, _, #[⟨7, .guard⟩], some (7, false)⟩ ?_ hHeld ?yyEb8 ?rrEb8
            case yyEb8 => (intro w hSw; (try dsimp only at hSw); go_simp; try with_reducible rfl)
            try simp only [Act.put, putA, putB, putC]
            refine tkL 9 ⟨some 75, .load 9 (.tmp 74), 9, _, #[⟨8, .data⟩, ⟨7, .guard⟩], some (7, false)⟩ ?_ hHeld ?yyEb9 ?rrEb9
            case yyEb9 => (intro w hSw; (try dsimp only at hSw); go_simp; try with_reducible rfl)
            try simp only [Act.put, putA, putB, putC]
            refine wpAnyH_ready (rs := [10]) (by kernel_rfl) (by simp) ?_
            refine AllReadyH.cons (o := ⟨some 76, .call { callee := .value (.func 14), args := #[.tmp 75], argTypes := #[9] }, 4, _, #[⟨9, .data⟩, ⟨7, .chain⟩, ⟨7, .guard⟩], some (7, false)⟩) rfl (fun K hK => ?_) AllReadyH.nil
            go_simp
            refine (hnam _).mono ?_
            rintro e w6 ⟨rfl, hE6⟩
            replace hcur := hcur.trans hE6
            go_wp2_with fail
            refine hK.out _ _ (HK.out _ hcur) (fun hHeld => ?_)
            clear hK K
            try simp only [Act.put, putA, putB, putC]
            refine tkL 11 ⟨some 77, .unOp .not 4 (.tmp 76), 4, _, #[⟨10, .data⟩, ⟨7, .guard⟩], some (7, false)⟩ ?_ hHeld ?yyEb11 ?rrEb11
            case yyEb11 => (intro w hSw; (try dsimp only at hSw); go_simp; try with_reducible rfl)
            try simp only [Act.put, putA, putB, putC]
            refine tkL 12 ⟨some 78, .pick (.tmp 73) (.const (.bool true)) (.tmp 77), 4, _, #[⟨7, .data⟩, ⟨11, .data⟩], none⟩ ?_ hHeld ?yyEb12 ?rrEb12
            case yyEb12 => (intro w hSw; (try dsimp only at hSw); go_simp; try with_reducible rfl)
            try simp only [Act.put, putA, putB, putC]
            refine tkL 13 ⟨some 79, .move (.tmp 78), 4, _, #[⟨12, .data⟩, ⟨10, .chain⟩], none⟩ ?_ hHeld ?yyEb13 ?rrEb13
            case yyEb13 => (intro w hSw; (try dsimp only at hSw); go_simp; try with_reducible rfl)
            try simp only [Act.put, putA, putB, putC]
            refine tkR 14 ⟨some 80, .fieldAddr 46 (.tmp 6) 4, 0, _, #[⟨13, .guard⟩], some (13, false)⟩ hHeld ?_
            try simp only [Act.put, putA, putB, putC]
            refine tkR 15 ⟨some 81, .load 32 (.tmp 80), 32, _, #[⟨14, .data⟩, ⟨13, .guard⟩], some (13, false)⟩ hHeld ?_
            try simp only [Act.put, putA, putB, putC]
            refine wpAnyH_ready (rs := [16]) (by kernel_rfl) (by simp) ?_
            refine AllReadyH.cons (o := ⟨some 82, .call { callee := .value (.func 13), args := #[.tmp 81], argTypes := #[32] }, 4, _, #[⟨15, .data⟩, ⟨13, .chain⟩, ⟨13, .guard⟩], some (13, false)⟩) rfl (fun K hK => ?_) AllReadyH.nil
            rw [if_neg (by simp [Region.wanted, yielded])]
            refine hK.out _ _ hHeld (fun hHeld => ?_)
            clear hK K
            try simp only [Act.put, putA, putB, putC]
            refine tkR 17 ⟨some 83, .unOp .not 4 (.tmp 82), 4, _, #[⟨16, .data⟩, ⟨13, .guard⟩], some (13, false)⟩ hHeld ?_
            try simp only [Act.put, putA, putB, putC]
            refine tkL 18 ⟨some 84, .pick (.tmp 79) (.const (.bool true)) (.tmp 83), 4, _, #[⟨13, .data⟩, ⟨17, .data⟩], none⟩ ?_ hHeld ?yyEb18 ?rrEb18
            case yyEb18 => (intro w hSw; (try dsimp only at hSw); go_simp; try with_reducible rfl)
            try simp only [Act.put, putA, putB, putC]
            refine tkL 19 ⟨some 85, .move (.tmp 84), 4, _, #[⟨18, .data⟩, ⟨16, .chain⟩], none⟩ ?_ hHeld ?yyEb19 ?rrEb19
            case yyEb19 => (intro w hSw; (try dsimp only at hSw); go_simp; try with_reducible rfl)
            try simp only [Act.put, putA, putB, putC]
            refine tkR 20 ⟨some 86, .load 26 (.tmp 1), 26, _, #[⟨19, .guard⟩], some (19, false)⟩ hHeld ?_
            try simp only [Act.put, putA, putB, putC]
            refine tkR 21 ⟨some 87, .fieldAddr 46 (.tmp 6) 2, 0, _, #[⟨19, .guard⟩], some (19, false)⟩ hHeld ?_
            try simp only [Act.put, putA, putB, putC]
            refine tkR 22 ⟨some 88, .load 3 (.tmp 87), 3, _, #[⟨21, .data⟩, ⟨19, .guard⟩], some (19, false)⟩ hHeld ?_
            try simp only [Act.put, putA, putB, putC]
            refine wpAnyH_ready (rs := [23]) (by kernel_rfl) (by simp) ?_
            refine AllReadyH.cons (o := ⟨some 89, .call { callee := .value (.func 15), args := #[.tmp 86, .tmp 88], argTypes := #[26, 3] }, 3, _, #[⟨20, .data⟩, ⟨22, .data⟩, ⟨19, .chain⟩, ⟨19, .guard⟩], some (19, false)⟩) rfl (fun K hK => ?_) AllReadyH.nil
            rw [if_neg (by simp [Region.wanted, yielded])]
            refine hK.out _ _ hHeld (fun hHeld => ?_)
            clear hK K
            try simp only [Act.put, putA, putB, putC]
            refine tkR 24 ⟨some 90, .binOp .lss 3 (.tmp 89) (.const (.int .i64 0)) 3, 4, _, #[⟨23, .data⟩, ⟨19, .guard⟩], some (19, false)⟩ hHeld ?_
            try simp only [Act.put, putA, putB, putC]
            refine tkL 25 ⟨some 91, .pick (.tmp 85) (.const (.bool true)) (.tmp 90), 4, _, #[⟨19, .data⟩, ⟨24, .data⟩], none⟩ ?_ hHeld ?yyEb25 ?rrEb25
            case yyEb25 => (intro w hSw; (try dsimp only at hSw); go_simp; try with_reducible rfl)
            try simp only [Act.put, putA, putB, putC]
            refine tkL 26 ⟨some 92, .move (.tmp 91), 4, _, #[⟨25, .data⟩, ⟨23, .chain⟩], none⟩ ?_ hHeld ?yyEb26 ?rrEb26
            case yyEb26 => (intro w hSw; (try dsimp only at hSw); go_simp; try with_reducible rfl)
            try simp only [Act.put, putA, putB, putC]
            refine tkR 27 ⟨some 93, .load 26 (.tmp 1), 26, _, #[⟨26, .guard⟩], some (26, false)⟩ hHeld ?_
            try simp only [Act.put, putA, putB, putC]
            refine tkR 28 ⟨some 94, .fieldAddr 46 (.tmp 6) 3, 0, _, #[⟨26, .guard⟩], some (26, false)⟩ hHeld ?_
            try simp only [Act.put, putA, putB, putC]
            refine tkR 29 ⟨some 95, .load 3 (.tmp 94), 3, _, #[⟨28, .data⟩, ⟨26, .guard⟩], some (26, false)⟩ hHeld ?_
            try simp only [Act.put, putA, putB, putC]
            refine wpAnyH_ready (rs := [30]) (by kernel_rfl) (by simp) ?_
            refine AllReadyH.cons (o := ⟨some 96, .call { callee := .value (.func 15), args := #[.tmp 93, .tmp 95], argTypes := #[26, 3] }, 3, _, #[⟨27, .data⟩, ⟨29, .data⟩, ⟨26, .chain⟩, ⟨26, .guard⟩], some (26, false)⟩) rfl (fun K hK => ?_) AllReadyH.nil
            rw [if_neg (by simp [Region.wanted, yielded])]
            refine hK.out _ _ hHeld (fun hHeld => ?_)
            clear hK K
            try simp only [Act.put, putA, putB, putC]
            refine tkR 31 ⟨some 97, .binOp .lss 3 (.tmp 96) (.const (.int .i64 0)) 3, 4, _, #[⟨30, .data⟩, ⟨26, .guard⟩], some (26, false)⟩ hHeld ?_
            try simp only [Act.put, putA, putB, putC]
            refine tkL 32 ⟨some 98, .pick (.tmp 92) (.const (.bool true)) (.tmp 97), 4, _, #[⟨26, .data⟩, ⟨31, .data⟩], none⟩ ?_ hHeld ?yyEb32 ?rrEb32
            case yyEb32 => (intro w hSw; (try dsimp only at hSw); go_simp; try with_reducible rfl)
            try simp only [Act.put, putA, putB, putC]
            refine tkL 33 ⟨some 99, .move (.tmp 98), 4, _, #[⟨32, .data⟩, ⟨30, .chain⟩], none⟩ ?_ hHeld ?yyEb33 ?rrEb33
            case yyEb33 => (intro w hSw; (try dsimp only at hSw); go_simp; try with_reducible rfl)
            try simp only [Act.put, putA, putB, putC]
            refine tkR 34 ⟨some 100, .move (.tmp 5), 3, _, #[⟨33, .guard⟩], some (33, false)⟩ hHeld ?_
            try simp only [Act.put, putA, putB, putC]
            refine tkR 35 ⟨some 101, .binOp .gtr 3 (.tmp 100) (.const (.int .i64 0)) 3, 4, _, #[⟨34, .data⟩, ⟨33, .guard⟩], some (33, false)⟩ hHeld ?_
            try simp only [Act.put, putA, putB, putC]
            refine tkR 36 ⟨some 102, .move (.tmp 101), 4, _, #[⟨35, .data⟩, ⟨33, .chain⟩, ⟨33, .guard⟩], some (33, false)⟩ hHeld ?_
            try simp only [Act.put, putA, putB, putC]
            refine tkR 37 ⟨some 103, .fieldAddr 26 (.tmp 1) 1, 0, _, #[⟨36, .guard⟩], some (36, true)⟩ hHeld ?_
            try simp only [Act.put, putA, putB, putC]
            refine tkR 38 ⟨some 104, .load 24 (.tmp 103), 24, _, #[⟨37, .data⟩, ⟨36, .guard⟩], some (36, true)⟩ hHeld ?_
            try simp only [Act.put, putA, putB, putC]
            refine tkR 39 ⟨some 105, .move (.tmp 5), 3, _, #[⟨36, .guard⟩], some (36, true)⟩ hHeld ?_
            try simp only [Act.put, putA, putB, putC]
            refine tkR 40 ⟨some 106, .binOp .sub 3 (.tmp 105) (.const (.int .i64 1)) 3, 3, _, #[⟨39, .data⟩, ⟨36, .guard⟩], some (36, true)⟩ hHeld ?_
            try simp only [Act.put, putA, putB, putC]
            refine tkR 41 ⟨some 107, .indexAddr 24 (.tmp 104) (.tmp 106), 0, _, #[⟨38, .data⟩, ⟨40, .data⟩, ⟨36, .guard⟩], some (36, true)⟩ hHeld ?_
            try simp only [Act.put, putA, putB, putC]
            refine tkR 42 ⟨some 108, .fieldAddr 46 (.tmp 107) 0, 0, _, #[⟨41, .data⟩, ⟨36, .guard⟩], some (36, true)⟩ hHeld ?_
            try simp only [Act.put, putA, putB, putC]
            refine tkR 43 ⟨some 109, .load 3 (.tmp 108), 3, _, #[⟨42, .data⟩, ⟨36, .guard⟩], some (36, true)⟩ hHeld ?_
            try simp only [Act.put, putA, putB, putC]
            refine tkR 44 ⟨some 110, .fieldAddr 46 (.tmp 6) 0, 0, _, #[⟨36, .guard⟩], some (36, true)⟩ hHeld ?_
            try simp only [Act.put, putA, putB, putC]
            refine tkR 45 ⟨some 111, .load 3 (.tmp 110), 3, _, #[⟨44, .data⟩, ⟨36, .guard⟩], some (36, true)⟩ hHeld ?_
            try simp only [Act.put, putA, putB, putC]
            refine tkR 46 ⟨some 112, .binOp .geq 3 (.tmp 109) (.tmp 111) 3, 4, _, #[⟨43, .data⟩, ⟨45, .data⟩, ⟨36, .guard⟩], some (36, true)⟩ hHeld ?_
            try simp only [Act.put, putA, putB, putC]
            refine tkR 47 ⟨some 113, .pick (.tmp 102) (.tmp 112) (.const (.bool false)), 4, _, #[⟨36, .data⟩, ⟨46, .data⟩, ⟨33, .guard⟩], some (33, false)⟩ hHeld ?_
            try simp only [Act.put, putA, putB, putC]
            refine tkL 48 ⟨some 114, .pick (.tmp 99) (.const (.bool true)) (.tmp 113), 4, _, #[⟨33, .data⟩, ⟨47, .data⟩], none⟩ ?_ hHeld ?yyEb48 ?rrEb48
            case yyEb48 => (intro w hSw; (try dsimp only at hSw); go_simp; try with_reducible rfl)
            try simp only [Act.put, putA, putB, putC]
            refine wpAnyH_done (by kernel_rfl) ?_ _
            go_wp2
            go_ret
            exact ⟨ret_bool hfin.out.symm, hA.trans hcur⟩
          cases pb
          · have hfin : Hid (graphB d0 d1 x2 x3 = false) := hbk (by rw [hLk.out]; rfl)
            have HK : Hid (∀ W, Ext W1 W → (W.cell? ⟨w.heap.size, 0, none⟩ = some (.slice a0 k cap0) ∧ W.cell? ⟨w.heap.size, 1, none⟩ = some (.slice (some ⟨b, off, none⟩) len1 cap1) ∧ W.cell? ⟨w.heap.size, 2, none⟩ = some (.int .i64 x2) ∧ W.cell? ⟨w.heap.size, 3, none⟩ = some (.int .i64 x3)) ∧ W.cell? ⟨wr.heap.size, 0, none⟩ = some (.int .i64 y0) ∧ W.cell? ⟨wr.heap.size, 1, none⟩ = some (.string y1) ∧ W.cell? ⟨wr.heap.size, 2, none⟩ = some (.int .i64 y2) ∧ W.cell? ⟨wr.heap.size, 3, none⟩ = some (.int .i64 y3) ∧ W.cell? ⟨wr.heap.size, 4, none⟩ = some (.slice ba bl bc)) := hall
            have hcur : Ext W1 W1.drew := (Ext.refl _).drew
            refine wp_region_held_drew (S := (fun W => (W.cell? ⟨w.heap.size, 0, none⟩ = some (.slice a0 k cap0) ∧ W.cell? ⟨w.heap.size, 1, none⟩ = some (.slice (some ⟨b, off, none⟩) len1 cap1) ∧ W.cell? ⟨w.heap.size, 2, none⟩ = some (.int .i64 x2) ∧ W.cell? ⟨w.heap.size, 3, none⟩ = some (.int .i64 x3)) ∧ W.cell? ⟨wr.heap.size, 0, none⟩ = some (.int .i64 y0) ∧ W.cell? ⟨wr.heap.size, 1, none⟩ = some (.string y1) ∧ W.cell? ⟨wr.heap.size, 2, none⟩ = some (.int .i64 y2) ∧ W.cell? ⟨wr.heap.size, 3, none⟩ = some (.int .i64 y3) ∧ W.cell? ⟨wr.heap.size, 4, none⟩ = some (.slice ba bl bc))) (by kernel_rfl) (HK.out _ hcur) (fun hHeld => ?_)
            refine tkL 0 ⟨some 66, .fieldAddr 46 (.tmp 6) 0, 0, _, #[], none⟩ ?_ hHeld ?yyEc0 ?rrEc0
            case yyEc0 => (intro w hSw; (try dsimp only at hSw); go_simp; try with_reducible rfl)
            try simp only [Act.put, putA, putB, putC]
            refine tkL 1 ⟨some 67, .load 3 (.tmp 66), 3, _, #[⟨0, .data⟩], none⟩ ?_ hHeld ?yyEc1 ?rrEc1
            case yyEc1 => (intro w hSw; (try dsimp only at hSw); go_simp; try with_reducible rfl)
            try simp only [Act.put, putA, putB, putC]
            refine tkL 2 ⟨some 68, .fieldAddr 26 (.tmp 1) 3, 0, _, #[], none⟩ ?_ hHeld ?yyEc2 ?rrEc2
            case yyEc2 => (intro w hSw; (try dsimp only at hSw); go_simp; try with_reducible rfl)
            try simp only [Act.put, putA, putB, putC]
            refine tkL 3 ⟨some 69, .load 3 (.tmp 68), 3, _, #[⟨2, .data⟩], none⟩ ?_ hHeld ?yyEc3 ?rrEc3
            case yyEc3 => (intro w hSw; (try dsimp only at hSw); go_simp; try with_reducible rfl)
            try simp only [Act.put, putA, putB, putC]
            refine tkL 4 ⟨some 70, .binOp .sub 3 (.tmp 69) (.const (.int .i64 1)) 3, 3, _, #[⟨3, .data⟩], none⟩ ?_ hHeld ?yyEc4 ?rrEc4
            case yyEc4 => (intro w hSw; (try dsimp only at hSw); go_simp; try with_reducible rfl)
            try simp only [Act.put, putA, putB, putC]
            refine wpAnyH_ready (rs := [5]) (by kernel_rfl) (by simp) ?_
            refine AllReadyH.cons (o := ⟨some 71, .call { callee := .value (.func 11), args := #[.tmp 67, .const (.int .i64 0), .tmp 70], argTypes := #[3, 3, 3] }, 4, _, #[⟨1, .data⟩, ⟨4, .data⟩], none⟩) rfl (fun K hK => ?_) AllReadyH.nil
            go_simp
            refine (l1In_any _ _ _ _).mono ?_
            rintro e w5 ⟨rfl, rfl⟩
            rw [hib]
            go_wp2_with fail
            refine hK.out _ _ (HK.out _ hcur) (fun hHeld => ?_)
            clear hK K
            try simp only [Act.put, putA, putB, putC]
            refine tkL 6 ⟨some 72, .unOp .not 4 (.tmp 71), 4, _, #[⟨5, .data⟩], none⟩ ?_ hHeld ?yyEc6 ?rrEc6
            case yyEc6 => (intro w hSw; (try dsimp only at hSw); go_simp; try with_reducible rfl)
            try simp only [Act.put, putA, putB, putC]
            refine tkL 7 ⟨some 73, .move (.tmp 72), 4, _, #[⟨6, .data⟩, ⟨5, .chain⟩], none⟩ ?_ hHeld ?yyEc7 ?rrEc7
            case yyEc7 => (intro w hSw; (try dsimp only at hSw); go_simp; try with_reducible rfl)
            try simp only [Act.put, putA, putB, putC]
            refine tkL 8 ⟨some 74, .fieldAddr 46 (.tmp 6) 1, 0, _, #[⟨7, .guard⟩], some (7, false)⟩ ?_ hHeld ?yyEc8 ?rrEc8
            case yyEc8 => (intro w hSw; (try dsimp only at hSw); go_simp; try with_reducible rfl)
            try simp only [Act.put, putA, putB, putC]
            refine tkL 9 ⟨some 75, .load 9 (.tmp 74), 9, _, #[⟨8, .data⟩, ⟨7, .guard⟩], some (7, false)⟩ ?_ hHeld ?yyEc9 ?rrEc9
            case yyEc9 => (intro w hSw; (try dsimp only at hSw); go_simp; try with_reducible rfl)
            try simp only [Act.put, putA, putB, putC]
            refine wpAnyH_ready (rs := [10]) (by kernel_rfl) (by simp) ?_
            refine AllReadyH.cons (o := ⟨some 76, .call { callee := .value (.func 14), args := #[.tmp 75], argTypes := #[9] }, 4, _, #[⟨9, .data⟩, ⟨7, .chain⟩, ⟨7, .guard⟩], some (7, false)⟩) rfl (fun K hK => ?_) AllReadyH.nil
            go_simp
            refine (hnam _).mono ?_
            rintro e w6 ⟨rfl, hE6⟩
            replace hcur := hcur.trans hE6
            go_wp2_with fail
            refine hK.out _ _ (HK.out _ hcur) (fun hHeld => ?_)
            clear hK K
            try simp only [Act.put, putA, putB, putC]
            refine tkL 11 ⟨some 77, .unOp .not 4 (.tmp 76), 4, _, #[⟨10, .data⟩, ⟨7, .guard⟩], some (7, false)⟩ ?_ hHeld ?yyEc11 ?rrEc11
            case yyEc11 => (intro w hSw; (try dsimp only at hSw); go_simp; try with_reducible rfl)
            try simp only [Act.put, putA, putB, putC]
            refine tkL 12 ⟨some 78, .pick (.tmp 73) (.const (.bool true)) (.tmp 77), 4, _, #[⟨7, .data⟩, ⟨11, .data⟩], none⟩ ?_ hHeld ?yyEc12 ?rrEc12
            case yyEc12 => (intro w hSw; (try dsimp only at hSw); go_simp; try with_reducible rfl)
            try simp only [Act.put, putA, putB, putC]
            refine tkL 13 ⟨some 79, .move (.tmp 78), 4, _, #[⟨12, .data⟩, ⟨10, .chain⟩], none⟩ ?_ hHeld ?yyEc13 ?rrEc13
            case yyEc13 => (intro w hSw; (try dsimp only at hSw); go_simp; try with_reducible rfl)
            try simp only [Act.put, putA, putB, putC]
            refine tkL 14 ⟨some 80, .fieldAddr 46 (.tmp 6) 4, 0, _, #[⟨13, .guard⟩], some (13, false)⟩ ?_ hHeld ?yyEc14 ?rrEc14
            case yyEc14 => (intro w hSw; (try dsimp only at hSw); go_simp; try with_reducible rfl)
            try simp only [Act.put, putA, putB, putC]
            refine tkL 15 ⟨some 81, .load 32 (.tmp 80), 32, _, #[⟨14, .data⟩, ⟨13, .guard⟩], some (13, false)⟩ ?_ hHeld ?yyEc15 ?rrEc15
            case yyEc15 => (intro w hSw; (try dsimp only at hSw); go_simp; try with_reducible rfl)
            try simp only [Act.put, putA, putB, putC]
            refine wpAnyH_ready (rs := [16]) (by kernel_rfl) (by simp) ?_
            refine AllReadyH.cons (o := ⟨some 82, .call { callee := .value (.func 13), args := #[.tmp 81], argTypes := #[32] }, 4, _, #[⟨15, .data⟩, ⟨13, .chain⟩, ⟨13, .guard⟩], some (13, false)⟩) rfl (fun K hK => ?_) AllReadyH.nil
            go_simp
            refine (hprp _ hcur).mono ?_
            rintro e w7 ⟨rfl, hE7⟩
            replace hcur := hcur.trans hE7
            go_wp2_with fail
            refine hK.out _ _ (HK.out _ hcur) (fun hHeld => ?_)
            clear hK K
            try simp only [Act.put, putA, putB, putC]
            refine tkL 17 ⟨some 83, .unOp .not 4 (.tmp 82), 4, _, #[⟨16, .data⟩, ⟨13, .guard⟩], some (13, false)⟩ ?_ hHeld ?yyEc17 ?rrEc17
            case yyEc17 => (intro w hSw; (try dsimp only at hSw); go_simp; try with_reducible rfl)
            try simp only [Act.put, putA, putB, putC]
            refine tkL 18 ⟨some 84, .pick (.tmp 79) (.const (.bool true)) (.tmp 83), 4, _, #[⟨13, .data⟩, ⟨17, .data⟩], none⟩ ?_ hHeld ?yyEc18 ?rrEc18
            case yyEc18 => (intro w hSw; (try dsimp only at hSw); go_simp; try with_reducible rfl)
            try simp only [Act.put, putA, putB, putC]
            refine tkL 19 ⟨some 85, .move (.tmp 84), 4, _, #[⟨18, .data⟩, ⟨16, .chain⟩], none⟩ ?_ hHeld ?yyEc19 ?rrEc19
            case yyEc19 => (intro w hSw; (try dsimp only at hSw); go_simp; try with_reducible rfl)
            try simp only [Act.put, putA, putB, putC]
            refine tkR 20 ⟨some 86, .load 26 (.tmp 1), 26, _, #[⟨19, .guard⟩], some (19, false)⟩ hHeld ?_
            try simp only [Act.put, putA, putB, putC]
            refine tkR 21 ⟨some 87, .fieldAddr 46 (.tmp 6) 2, 0, _, #[⟨19, .guard⟩], some (19, false)⟩ hHeld ?_
            try simp only [Act.put, putA, putB, putC]
            refine tkR 22 ⟨some 88, .load 3 (.tmp 87), 3, _, #[⟨21, .data⟩, ⟨19, .guard⟩], some (19, false)⟩ hHeld ?_
            try simp only [Act.put, putA, putB, putC]
            refine wpAnyH_ready (rs := [23]) (by kernel_rfl) (by simp) ?_
            refine AllReadyH.cons (o := ⟨some 89, .call { callee := .value (.func 15), args := #[.tmp 86, .tmp 88], argTypes := #[26, 3] }, 3, _, #[⟨20, .data⟩, ⟨22, .data⟩, ⟨19, .chain⟩, ⟨19, .guard⟩], some (19, false)⟩) rfl (fun K hK => ?_) AllReadyH.nil
            rw [if_neg (by simp [Region.wanted, yielded])]
            refine hK.out _ _ hHeld (fun hHeld => ?_)
            clear hK K
            try simp only [Act.put, putA, putB, putC]
            refine tkR 24 ⟨some 90, .binOp .lss 3 (.tmp 89) (.const (.int .i64 0)) 3, 4, _, #[⟨23, .data⟩, ⟨19, .guard⟩], some (19, false)⟩ hHeld ?_
            try simp only [Act.put, putA, putB, putC]
            refine tkL 25 ⟨some 91, .pick (.tmp 85) (.const (.bool true)) (.tmp 90), 4, _, #[⟨19, .data⟩, ⟨24, .data⟩], none⟩ ?_ hHeld ?yyEc25 ?rrEc25
            case yyEc25 => (intro w hSw; (try dsimp only at hSw); go_simp; try with_reducible rfl)
            try simp only [Act.put, putA, putB, putC]
            refine tkL 26 ⟨some 92, .move (.tmp 91), 4, _, #[⟨25, .data⟩, ⟨23, .chain⟩], none⟩ ?_ hHeld ?yyEc26 ?rrEc26
            case yyEc26 => (intro w hSw; (try dsimp only at hSw); go_simp; try with_reducible rfl)
            try simp only [Act.put, putA, putB, putC]
            refine tkR 27 ⟨some 93, .load 26 (.tmp 1), 26, _, #[⟨26, .guard⟩], some (26, false)⟩ hHeld ?_
            try simp only [Act.put, putA, putB, putC]
            refine tkR 28 ⟨some 94, .fieldAddr 46 (.tmp 6) 3, 0, _, #[⟨26, .guard⟩], some (26, false)⟩ hHeld ?_
            try simp only [Act.put, putA, putB, putC]
            refine tkR 29 ⟨some 95, .load 3 (.tmp 94), 3, _, #[⟨28, .data⟩, ⟨26, .guard⟩], some (26, false)⟩ hHeld ?_
            try simp only [Act.put, putA, putB, putC]
            refine wpAnyH_ready (rs := [30]) (by kernel_rfl) (by simp) ?_
            refine AllReadyH.cons (o := ⟨some 96, .call { callee := .value (.func 15), args := #[.tmp 93, .tmp 95], argTypes := #[26, 3] }, 3, _, #[⟨27, .data⟩, ⟨29, .data⟩, ⟨26, .chain⟩, ⟨26, .guard⟩], some (26, false)⟩) rfl (fun K hK => ?_) AllReadyH.nil
            rw [if_neg (by simp [Region.wanted, yielded])]
            refine hK.out _ _ hHeld (fun hHeld => ?_)
            clear hK K
            try simp only [Act.put, putA, putB, putC]
            refine tkR 31 ⟨some 97, .binOp .lss 3 (.tmp 96) (.const (.int .i64 0)) 3, 4, _, #[⟨30, .data⟩, ⟨26, .guard⟩], some (26, false)⟩ hHeld ?_
            try simp only [Act.put, putA, putB, putC]
            refine tkL 32 ⟨some 98, .pick (.tmp 92) (.const (.bool true)) (.tmp 97), 4, _, #[⟨26, .data⟩, ⟨31, .data⟩], none⟩ ?_ hHeld ?yyEc32 ?rrEc32
            case yyEc32 => (intro w hSw; (try dsimp only at hSw); go_simp; try with_reducible rfl)
            try simp only [Act.put, putA, putB, putC]
            refine tkL 33 ⟨some 99, .move (.tmp 98), 4, _, #[⟨32, .data⟩, ⟨30, .chain⟩], none⟩ ?_ hHeld ?yyEc33 ?rrEc33
            case yyEc33 => (intro w hSw; (try dsimp only at hSw); go_simp; try with_reducible rfl)
            try simp only [Act.put, putA, putB, putC]
            refine tkR 34 ⟨some 100, .move (.tmp 5), 3, _, #[⟨33, .guard⟩], some (33, false)⟩ hHeld ?_
            try simp only [Act.put, putA, putB, putC]
            refine tkR 35 ⟨some 101, .binOp .gtr 3 (.tmp 100) (.const (.int .i64 0)) 3, 4, _, #[⟨34, .data⟩, ⟨33, .guard⟩], some (33, false)⟩ hHeld ?_
            try simp only [Act.put, putA, putB, putC]
            refine tkR 36 ⟨some 102, .move (.tmp 101), 4, _, #[⟨35, .data⟩, ⟨33, .chain⟩, ⟨33, .guard⟩], some (33, false)⟩ hHeld ?_
            try simp only [Act.put, putA, putB, putC]
            refine tkR 37 ⟨some 103, .fieldAddr 26 (.tmp 1) 1, 0, _, #[⟨36, .guard⟩], some (36, true)⟩ hHeld ?_
            try simp only [Act.put, putA, putB, putC]
            refine tkR 38 ⟨some 104, .load 24 (.tmp 103), 24, _, #[⟨37, .data⟩, ⟨36, .guard⟩], some (36, true)⟩ hHeld ?_
            try simp only [Act.put, putA, putB, putC]
            refine tkR 39 ⟨some 105, .move (.tmp 5), 3, _, #[⟨36, .guard⟩], some (36, true)⟩ hHeld ?_
            try simp only [Act.put, putA, putB, putC]
            refine tkR 40 ⟨some 106, .binOp .sub 3 (.tmp 105) (.const (.int .i64 1)) 3, 3, _, #[⟨39, .data⟩, ⟨36, .guard⟩], some (36, true)⟩ hHeld ?_
            try simp only [Act.put, putA, putB, putC]
            refine tkR 41 ⟨some 107, .indexAddr 24 (.tmp 104) (.tmp 106), 0, _, #[⟨38, .data⟩, ⟨40, .data⟩, ⟨36, .guard⟩], some (36, true)⟩ hHeld ?_
            try simp only [Act.put, putA, putB, putC]
            refine tkR 42 ⟨some 108, .fieldAddr 46 (.tmp 107) 0, 0, _, #[⟨41, .data⟩, ⟨36, .guard⟩], some (36, true)⟩ hHeld ?_
            try simp only [Act.put, putA, putB, putC]
            refine tkR 43 ⟨some 109, .load 3 (.tmp 108), 3, _, #[⟨42, .data⟩, ⟨36, .guard⟩], some (36, true)⟩ hHeld ?_
            try simp only [Act.put, putA, putB, putC]
            refine tkR 44 ⟨some 110, .fieldAddr 46 (.tmp 6) 0, 0, _, #[⟨36, .guard⟩], some (36, true)⟩ hHeld ?_
            try simp only [Act.put, putA, putB, putC]
            refine tkR 45 ⟨some 111, .load 3 (.tmp 110), 3, _, #[⟨44, .data⟩, ⟨36, .guard⟩], some (36, true)⟩ hHeld ?_
            try simp only [Act.put, putA, putB, putC]
            refine tkR 46 ⟨some 112, .binOp .geq 3 (.tmp 109) (.tmp 111) 3, 4, _, #[⟨43, .data⟩, ⟨45, .data⟩, ⟨36, .guard⟩], some (36, true)⟩ hHeld ?_
            try simp only [Act.put, putA, putB, putC]
            refine tkR 47 ⟨some 113, .pick (.tmp 102) (.tmp 112) (.const (.bool false)), 4, _, #[⟨36, .data⟩, ⟨46, .data⟩, ⟨33, .guard⟩], some (33, false)⟩ hHeld ?_
            try simp only [Act.put, putA, putB, putC]
            refine tkL 48 ⟨some 114, .pick (.tmp 99) (.const (.bool true)) (.tmp 113), 4, _, #[⟨33, .data⟩, ⟨47, .data⟩], none⟩ ?_ hHeld ?yyEc48 ?rrEc48
            case yyEc48 => (intro w hSw; (try dsimp only at hSw); go_simp; try with_reducible rfl)
            try simp only [Act.put, putA, putB, putC]
            refine wpAnyH_done (by kernel_rfl) ?_ _
            go_wp2
            go_ret
            exact ⟨ret_bool hfin.out.symm, hA.trans hcur⟩
          cases fb
          · have hfin : Hid (graphB d0 d1 x2 x3 = false) := hbk (by rw [hLk.out]; rfl)
            have HK : Hid (∀ W, Ext W1 W → (W.cell? ⟨w.heap.size, 0, none⟩ = some (.slice a0 k cap0) ∧ W.cell? ⟨w.heap.size, 1, none⟩ = some (.slice (some ⟨b, off, none⟩) len1 cap1) ∧ W.cell? ⟨w.heap.size, 2, none⟩ = some (.int .i64 x2) ∧ W.cell? ⟨w.heap.size, 3, none⟩ = some (.int .i64 x3)) ∧ W.cell? ⟨wr.heap.size, 0, none⟩ = some (.int .i64 y0) ∧ W.cell? ⟨wr.heap.size, 1, none⟩ = some (.string y1) ∧ W.cell? ⟨wr.heap.size, 2, none⟩ = some (.int .i64 y2) ∧ W.cell? ⟨wr.heap.size, 3, none⟩ = some (.int .i64 y3) ∧ W.cell? ⟨wr.heap.size, 4, none⟩ = some (.slice ba bl bc)) := hall
            have hcur : Ext W1 W1.drew := (Ext.refl _).drew
            refine wp_region_held_drew (S := (fun W => (W.cell? ⟨w.heap.size, 0, none⟩ = some (.slice a0 k cap0) ∧ W.cell? ⟨w.heap.size, 1, none⟩ = some (.slice (some ⟨b, off, none⟩) len1 cap1) ∧ W.cell? ⟨w.heap.size, 2, none⟩ = some (.int .i64 x2) ∧ W.cell? ⟨w.heap.size, 3, none⟩ = some (.int .i64 x3)) ∧ W.cell? ⟨wr.heap.size, 0, none⟩ = some (.int .i64 y0) ∧ W.cell? ⟨wr.heap.size, 1, none⟩ = some (.string y1) ∧ W.cell? ⟨wr.heap.size, 2, none⟩ = some (.int .i64 y2) ∧ W.cell? ⟨wr.heap.size, 3, none⟩ = some (.int .i64 y3) ∧ W.cell? ⟨wr.heap.size, 4, none⟩ = some (.slice ba bl bc))) (by kernel_rfl) (HK.out _ hcur) (fun hHeld => ?_)
            refine tkL 0 ⟨some 66, .fieldAddr 46 (.tmp 6) 0, 0, _, #[], none⟩ ?_ hHeld ?yyEd0 ?rrEd0
            case yyEd0 => (intro w hSw; (try dsimp only at hSw); go_simp; try with_reducible rfl)
            try simp only [Act.put, putA, putB, putC]
            refine tkL 1 ⟨some 67, .load 3 (.tmp 66), 3, _, #[⟨0, .data⟩], none⟩ ?_ hHeld ?yyEd1 ?rrEd1
            case yyEd1 => (intro w hSw; (try dsimp only at hSw); go_simp; try with_reducible rfl)
            try simp only [Act.put, putA, putB, putC]
            refine tkL 2 ⟨some 68, .fieldAddr 26 (.tmp 1) 3, 0, _, #[], none⟩ ?_ hHeld ?yyEd2 ?rrEd2
            case yyEd2 => (intro w hSw; (try dsimp only at hSw); go_simp; try with_reducible rfl)
            try simp only [Act.put, putA, putB, putC]
            refine tkL 3 ⟨some 69, .load 3 (.tmp 68), 3, _, #[⟨2, .data⟩], none⟩ ?_ hHeld ?yyEd3 ?rrEd3
            case yyEd3 => (intro w hSw; (try dsimp only at hSw); go_simp; try with_reducible rfl)
            try simp only [Act.put, putA, putB, putC]
            refine tkL 4 ⟨some 70, .binOp .sub 3 (.tmp 69) (.const (.int .i64 1)) 3, 3, _, #[⟨3, .data⟩], none⟩ ?_ hHeld ?yyEd4 ?rrEd4
            case yyEd4 => (intro w hSw; (try dsimp only at hSw); go_simp; try with_reducible rfl)
            try simp only [Act.put, putA, putB, putC]
            refine wpAnyH_ready (rs := [5]) (by kernel_rfl) (by simp) ?_
            refine AllReadyH.cons (o := ⟨some 71, .call { callee := .value (.func 11), args := #[.tmp 67, .const (.int .i64 0), .tmp 70], argTypes := #[3, 3, 3] }, 4, _, #[⟨1, .data⟩, ⟨4, .data⟩], none⟩) rfl (fun K hK => ?_) AllReadyH.nil
            go_simp
            refine (l1In_any _ _ _ _).mono ?_
            rintro e w5 ⟨rfl, rfl⟩
            rw [hib]
            go_wp2_with fail
            refine hK.out _ _ (HK.out _ hcur) (fun hHeld => ?_)
            clear hK K
            try simp only [Act.put, putA, putB, putC]
            refine tkL 6 ⟨some 72, .unOp .not 4 (.tmp 71), 4, _, #[⟨5, .data⟩], none⟩ ?_ hHeld ?yyEd6 ?rrEd6
            case yyEd6 => (intro w hSw; (try dsimp only at hSw); go_simp; try with_reducible rfl)
            try simp only [Act.put, putA, putB, putC]
            refine tkL 7 ⟨some 73, .move (.tmp 72), 4, _, #[⟨6, .data⟩, ⟨5, .chain⟩], none⟩ ?_ hHeld ?yyEd7 ?rrEd7
            case yyEd7 => (intro w hSw; (try dsimp only at hSw); go_simp; try with_reducible rfl)
            try simp only [Act.put, putA, putB, putC]
            refine tkL 8 ⟨some 74, .fieldAddr 46 (.tmp 6) 1, 0, _, #[⟨7, .guard⟩], some (7, false)⟩ ?_ hHeld ?yyEd8 ?rrEd8
            case yyEd8 => (intro w hSw; (try dsimp only at hSw); go_simp; try with_reducible rfl)
            try simp only [Act.put, putA, putB, putC]
            refine tkL 9 ⟨some 75, .load 9 (.tmp 74), 9, _, #[⟨8, .data⟩, ⟨7, .guard⟩], some (7, false)⟩ ?_ hHeld ?yyEd9 ?rrEd9
            case yyEd9 => (intro w hSw; (try dsimp only at hSw); go_simp; try with_reducible rfl)
            try simp only [Act.put, putA, putB, putC]
            refine wpAnyH_ready (rs := [10]) (by kernel_rfl) (by simp) ?_
            refine AllReadyH.cons (o := ⟨some 76, .call { callee := .value (.func 14), args := #[.tmp 75], argTypes := #[9] }, 4, _, #[⟨9, .data⟩, ⟨7, .chain⟩, ⟨7, .guard⟩], some (7, false)⟩) rfl (fun K hK => ?_) AllReadyH.nil
            go_simp
            refine (hnam _).mono ?_
            rintro e w6 ⟨rfl, hE6⟩
            replace hcur := hcur.trans hE6
            go_wp2_with fail
            refine hK.out _ _ (HK.out _ hcur) (fun hHeld => ?_)
            clear hK K
            try simp only [Act.put, putA, putB, putC]
            refine tkL 11 ⟨some 77, .unOp .not 4 (.tmp 76), 4, _, #[⟨10, .data⟩, ⟨7, .guard⟩], some (7, false)⟩ ?_ hHeld ?yyEd11 ?rrEd11
            case yyEd11 => (intro w hSw; (try dsimp only at hSw); go_simp; try with_reducible rfl)
            try simp only [Act.put, putA, putB, putC]
            refine tkL 12 ⟨some 78, .pick (.tmp 73) (.const (.bool true)) (.tmp 77), 4, _, #[⟨7, .data⟩, ⟨11, .data⟩], none⟩ ?_ hHeld ?yyEd12 ?rrEd12
            case yyEd12 => (intro w hSw; (try dsimp only at hSw); go_simp; try with_reducible rfl)
            try simp only [Act.put, putA, putB, putC]
            refine tkL 13 ⟨some 79, .move (.tmp 78), 4, _, #[⟨12, .data⟩, ⟨10, .chain⟩], none⟩ ?_ hHeld ?yyEd13 ?rrEd13
            case yyEd13 => (intro w hSw; (try dsimp only at hSw); go_simp; try with_reducible rfl)
            try simp only [Act.put, putA, putB, putC]
            refine tkL 14 ⟨some 80, .fieldAddr 46 (.tmp 6) 4, 0, _, #[⟨13, .guard⟩], some (13, false)⟩ ?_ hHeld ?yyEd14 ?rrEd14
            case yyEd14 => (intro w hSw; (try dsimp only at hSw); go_simp; try with_reducible rfl)
            try simp only [Act.put, putA, putB, putC]
            refine tkL 15 ⟨some 81, .load 32 (.tmp 80), 32, _, #[⟨14, .data⟩, ⟨13, .guard⟩], some (13, false)⟩ ?_ hHeld ?yyEd15 ?rrEd15
            case yyEd15 => (intro w hSw; (try dsimp only at hSw); go_simp; try with_reducible rfl)
            try simp only [Act.put, putA, putB, putC]
            refine wpAnyH_ready (rs := [16]) (by kernel_rfl) (by simp) ?_
            refine AllReadyH.cons (o := ⟨some 82, .call { callee := .value (.func 13), args := #[.tmp 81], argTypes := #[32] }, 4, _, #[⟨15, .data⟩, ⟨13, .chain⟩, ⟨13, .guard⟩], some (13, false)⟩) rfl (fun K hK => ?_) AllReadyH.nil
            go_simp
            refine (hprp _ hcur).mono ?_
            rintro e w7 ⟨rfl, hE7⟩
            replace hcur := hcur.trans hE7
            go_wp2_with fail
            refine hK.out _ _ (HK.out _ hcur) (fun hHeld => ?_)
            clear hK K
            try simp only [Act.put, putA, putB, putC]
            refine tkL 17 ⟨some 83, .unOp .not 4 (.tmp 82), 4, _, #[⟨16, .data⟩, ⟨13, .guard⟩], some (13, false)⟩ ?_ hHeld ?yyEd17 ?rrEd17
            case yyEd17 => (intro w hSw; (try dsimp only at hSw); go_simp; try with_reducible rfl)
            try simp only [Act.put, putA, putB, putC]
            refine tkL 18 ⟨some 84, .pick (.tmp 79) (.const (.bool true)) (.tmp 83), 4, _, #[⟨13, .data⟩, ⟨17, .data⟩], none⟩ ?_ hHeld ?yyEd18 ?rrEd18
            case yyEd18 => (intro w hSw; (try dsimp only at hSw); go_simp; try with_reducible rfl)
            try simp only [Act.put, putA, putB, putC]
            refine tkL 19 ⟨some 85, .move (.tmp 84), 4, _, #[⟨18, .data⟩, ⟨16, .chain⟩], none⟩ ?_ hHeld ?yyEd19 ?rrEd19
            case yyEd19 => (intro w hSw; (try dsimp only at hSw); go_simp; try with_reducible rfl)
            try simp only [Act.put, putA, putB, putC]
            refine tkL 20 ⟨some 86, .load 26 (.tmp 1), 26, _, #[⟨19, .guard⟩], some (19, false)⟩ ?_ hHeld ?yyEd20 ?rrEd20
            case yyEd20 => (intro w hSw; (try dsimp only at hSw); go_simp; try with_reducible rfl)
            try simp only [Act.put, putA, putB, putC]
            refine tkL 21 ⟨some 87, .fieldAddr 46 (.tmp 6) 2, 0, _, #[⟨19, .guard⟩], some (19, false)⟩ ?_ hHeld ?yyEd21 ?rrEd21
            case yyEd21 => (intro w hSw; (try dsimp only at hSw); go_simp; try with_reducible rfl)
            try simp only [Act.put, putA, putB, putC]
            refine tkL 22 ⟨some 88, .load 3 (.tmp 87), 3, _, #[⟨21, .data⟩, ⟨19, .guard⟩], some (19, false)⟩ ?_ hHeld ?yyEd22 ?rrEd22
            case yyEd22 => (intro w hSw; (try dsimp only at hSw); go_simp; try with_reducible rfl)
            try simp only [Act.put, putA, putB, putC]
            refine wpAnyH_ready (rs := [23]) (by kernel_rfl) (by simp) ?_
            refine AllReadyH.cons (o := ⟨some 89, .call { callee := .value (.func 15), args := #[.tmp 86, .tmp 88], argTypes := #[26, 3] }, 3, _, #[⟨20, .data⟩, ⟨22, .data⟩, ⟨19, .chain⟩, ⟨19, .guard⟩], some (19, false)⟩) rfl (fun K hK => ?_) AllReadyH.nil
            go_simp
            refine (hn2 _ hcur).mono ?_
            rintro e w8 ⟨r2, rfl, hr2, hE8⟩
            replace hcur := hcur.trans hE8
            replace hr2 : decide (r2 < 0) = true := hr2
            go_wp2_with fail
            refine hK.out _ _ (HK.out _ hcur) (fun hHeld => ?_)
            clear hK K
            try simp only [Act.put, putA, putB, putC]
            refine tkL 24 ⟨some 90, .binOp .lss 3 (.tmp 89) (.const (.int .i64 0)) 3, 4, _, #[⟨23, .data⟩, ⟨19, .guard⟩], some (19, false)⟩ ?_ hHeld ?yyEd24 ?rrEd24
            case yyEd24 => (intro w hSw; (try dsimp only at hSw); go_simp; try with_reducible rfl)
            try simp only [Act.put, putA, putB, putC]
            refine tkL 25 ⟨some 91, .pick (.tmp 85) (.const (.bool true)) (.tmp 90), 4, _, #[⟨19, .data⟩, ⟨24, .data⟩], none⟩ ?_ hHeld ?yyEd25 ?rrEd25
            case yyEd25 => (intro w hSw; (try dsimp only at hSw); go_simp; try with_reducible rfl)
            try simp only [Act.put, putA, putB, putC]
            refine tkL 26 ⟨some 92, .move (.tmp 91), 4, _, #[⟨25, .data⟩, ⟨23, .chain⟩], none⟩ ?_ hHeld ?yyEd26 ?rrEd26
            case yyEd26 => (intro w hSw; (try dsimp only at hSw); go_simp; try with_reducible rfl)
            try simp only [Act.put, putA, putB, putC]
            refine tkR 27 ⟨some 93, .load 26 (.tmp 1), 26, _, #[⟨26, .guard⟩], some (26, false)⟩ hHeld ?_
            try simp only [Act.put, putA, putB, putC]
            refine tkR 28 ⟨some 94, .fieldAddr 46 (.tmp 6) 3, 0, _, #[⟨26, .guard⟩], some (26, false)⟩ hHeld ?_
            try simp only [Act.put, putA, putB, putC]
            refine tkR 29 ⟨some 95, .load 3 (.tmp 94), 3, _, #[⟨28, .data⟩, ⟨26, .guard⟩], some (26, false)⟩ hHeld ?_
            try simp only [Act.put, putA, putB, putC]
            refine wpAnyH_ready (rs := [30]) (by kernel_rfl) (by simp) ?_
            refine AllReadyH.cons (o := ⟨some 96, .call { callee := .value (.func 15), args := #[.tmp 93, .tmp 95], argTypes := #[26, 3] }, 3, _, #[⟨27, .data⟩, ⟨29, .data⟩, ⟨26, .chain⟩, ⟨26, .guard⟩], some (26, false)⟩) rfl (fun K hK => ?_) AllReadyH.nil
            rw [if_neg (by simp [Region.wanted, yielded])]
            refine hK.out _ _ hHeld (fun hHeld => ?_)
            clear hK K
            try simp only [Act.put, putA, putB, putC]
            refine tkR 31 ⟨some 97, .binOp .lss 3 (.tmp 96) (.const (.int .i64 0)) 3, 4, _, #[⟨30, .data⟩, ⟨26, .guard⟩], some (26, false)⟩ hHeld ?_
            try simp only [Act.put, putA, putB, putC]
            refine tkL 32 ⟨some 98, .pick (.tmp 92) (.const (.bool true)) (.tmp 97), 4, _, #[⟨26, .data⟩, ⟨31, .data⟩], none⟩ ?_ hHeld ?yyEd32 ?rrEd32
            case yyEd32 => (intro w hSw; (try dsimp only at hSw); go_simp; try with_reducible rfl)
            try simp only [Act.put, putA, putB, putC]
            refine tkL 33 ⟨some 99, .move (.tmp 98), 4, _, #[⟨32, .data⟩, ⟨30, .chain⟩], none⟩ ?_ hHeld ?yyEd33 ?rrEd33
            case yyEd33 => (intro w hSw; (try dsimp only at hSw); go_simp; try with_reducible rfl)
            try simp only [Act.put, putA, putB, putC]
            refine tkR 34 ⟨some 100, .move (.tmp 5), 3, _, #[⟨33, .guard⟩], some (33, false)⟩ hHeld ?_
            try simp only [Act.put, putA, putB, putC]
            refine tkR 35 ⟨some 101, .binOp .gtr 3 (.tmp 100) (.const (.int .i64 0)) 3, 4, _, #[⟨34, .data⟩, ⟨33, .guard⟩], some (33, false)⟩ hHeld ?_
            try simp only [Act.put, putA, putB, putC]
            refine tkR 36 ⟨some 102, .move (.tmp 101), 4, _, #[⟨35, .data⟩, ⟨33, .chain⟩, ⟨33, .guard⟩], some (33, false)⟩ hHeld ?_
            try simp only [Act.put, putA, putB, putC]
            refine tkR 37 ⟨some 103, .fieldAddr 26 (.tmp 1) 1, 0, _, #[⟨36, .guard⟩], some (36, true)⟩ hHeld ?_
            try simp only [Act.put, putA, putB, putC]
            refine tkR 38 ⟨some 104, .load 24 (.tmp 103), 24, _, #[⟨37, .data⟩, ⟨36, .guard⟩], some (36, true)⟩ hHeld ?_
            try simp only [Act.put, putA, putB, putC]
            refine tkR 39 ⟨some 105, .move (.tmp 5), 3, _, #[⟨36, .guard⟩], some (36, true)⟩ hHeld ?_
            try simp only [Act.put, putA, putB, putC]
            refine tkR 40 ⟨some 106, .binOp .sub 3 (.tmp 105) (.const (.int .i64 1)) 3, 3, _, #[⟨39, .data⟩, ⟨36, .guard⟩], some (36, true)⟩ hHeld ?_
            try simp only [Act.put, putA, putB, putC]
            refine tkR 41 ⟨some 107, .indexAddr 24 (.tmp 104) (.tmp 106), 0, _, #[⟨38, .data⟩, ⟨40, .data⟩, ⟨36, .guard⟩], some (36, true)⟩ hHeld ?_
            try simp only [Act.put, putA, putB, putC]
            refine tkR 42 ⟨some 108, .fieldAddr 46 (.tmp 107) 0, 0, _, #[⟨41, .data⟩, ⟨36, .guard⟩], some (36, true)⟩ hHeld ?_
            try simp only [Act.put, putA, putB, putC]
            refine tkR 43 ⟨some 109, .load 3 (.tmp 108), 3, _, #[⟨42, .data⟩, ⟨36, .guard⟩], some (36, true)⟩ hHeld ?_
            try simp only [Act.put, putA, putB, putC]
            refine tkR 44 ⟨some 110, .fieldAddr 46 (.tmp 6) 0, 0, _, #[⟨36, .guard⟩], some (36, true)⟩ hHeld ?_
            try simp only [Act.put, putA, putB, putC]
            refine tkR 45 ⟨some 111, .load 3 (.tmp 110), 3, _, #[⟨44, .data⟩, ⟨36, .guard⟩], some (36, true)⟩ hHeld ?_
            try simp only [Act.put, putA, putB, putC]
            refine tkR 46 ⟨some 112, .binOp .geq 3 (.tmp 109) (.tmp 111) 3, 4, _, #[⟨43, .data⟩, ⟨45, .data⟩, ⟨36, .guard⟩], some (36, true)⟩ hHeld ?_
            try simp only [Act.put, putA, putB, putC]
            refine tkR 47 ⟨some 113, .pick (.tmp 102) (.tmp 112) (.const (.bool false)), 4, _, #[⟨36, .data⟩, ⟨46, .data⟩, ⟨33, .guard⟩], some (33, false)⟩ hHeld ?_
            try simp only [Act.put, putA, putB, putC]
            refine tkL 48 ⟨some 114, .pick (.tmp 99) (.const (.bool true)) (.tmp 113), 4, _, #[⟨33, .data⟩, ⟨47, .data⟩], none⟩ ?_ hHeld ?yyEd48 ?rrEd48
            case yyEd48 => (intro w hSw; (try dsimp only at hSw); go_simp; try with_reducible rfl)
            try simp only [Act.put, putA, putB, putC]
            refine wpAnyH_done (by kernel_rfl) ?_ _
            go_wp2
            go_ret
            exact ⟨ret_bool hfin.out.symm, hA.trans hcur⟩
          cases tb
          · have hfin : Hid (graphB d0 d1 x2 x3 = false) := hbk (by rw [hLk.out]; rfl)
            have HK : Hid (∀ W, Ext W1 W → (W.cell? ⟨w.heap.size, 0, none⟩ = some (.slice a0 k cap0) ∧ W.cell? ⟨w.heap.size, 1, none⟩ = some (.slice (some ⟨b, off, none⟩) len1 cap1) ∧ W.cell? ⟨w.heap.size, 2, none⟩ = some (.int .i64 x2) ∧ W.cell? ⟨w.heap.size, 3, none⟩ = some (.int .i64 x3)) ∧ W.cell? ⟨wr.heap.size, 0, none⟩ = some (.int .i64 y0) ∧ W.cell? ⟨wr.heap.size, 1, none⟩ = some (.string y1) ∧ W.cell? ⟨wr.heap.size, 2, none⟩ = some (.int .i64 y2) ∧ W.cell? ⟨wr.heap.size, 3, none⟩ = some (.int .i64 y3) ∧ W.cell? ⟨wr.heap.size, 4, none⟩ = some (.slice ba bl bc)) := hall
            have hcur : Ext W1 W1.drew := (Ext.refl _).drew
            refine wp_region_held_drew (S := (fun W => (W.cell? ⟨w.heap.size, 0, none⟩ = some (.slice a0 k cap0) ∧ W.cell? ⟨w.heap.size, 1, none⟩ = some (.slice (some ⟨b, off, none⟩) len1 cap1) ∧ W.cell? ⟨w.heap.size, 2, none⟩ = some (.int .i64 x2) ∧ W.cell? ⟨w.heap.size, 3, none⟩ = some (.int .i64 x3)) ∧ W.cell? ⟨wr.heap.size, 0, none⟩ = some (.int .i64 y0) ∧ W.cell? ⟨wr.heap.size, 1, none⟩ = some (.string y1) ∧ W.cell? ⟨wr.heap.size, 2, none⟩ = some (.int .i64 y2) ∧ W.cell? ⟨wr.heap.size, 3, none⟩ = some (.int .i64 y3) ∧ W.cell? ⟨wr.heap.size, 4, none⟩ = some (.slice ba bl bc))) (by kernel_rfl) (HK.out _ hcur) (fun hHeld => ?_)
            refine tkL 0 ⟨some 66, .fieldAddr 46 (.tmp 6) 0, 0, _, #[], none⟩ ?_ hHeld ?yyEe0 ?rrEe0
            case yyEe0 => (intro w hSw; (try dsimp only at hSw); go_simp; try with_reducible rfl)
            try simp only [Act.put, putA, putB, putC]
            refine tkL 1 ⟨some 67, .load 3 (.tmp 66), 3, _, #[⟨0, .data⟩], none⟩ ?_ hHeld ?yyEe1 ?rrEe1
            case yyEe1 => (intro w hSw; (try dsimp only at hSw); go_simp; try with_reducible rfl)
            try simp only [Act.put, putA, putB, putC]
            refine tkL 2 ⟨some 68, .fieldAddr 26 (.tmp 1) 3, 0, _, #[], none⟩ ?_ hHeld ?yyEe2 ?rrEe2
            case yyEe2 => (intro w hSw; (try dsimp only at hSw); go_simp; try with_reducible rfl)
            try simp only [Act.put, putA, putB, putC]
            refine tkL 3 ⟨some 69, .load 3 (.tmp 68), 3, _, #[⟨2, .data⟩], none⟩ ?_ hHeld ?yyEe3 ?rrEe3
            case yyEe3 => (intro w hSw; (try dsimp only at hSw); go_simp; try with_reducible rfl)
            try simp only [Act.put, putA, putB, putC]
            refine tkL 4 ⟨some 70, .binOp .sub 3 (.tmp 69) (.const (.int .i64 1)) 3, 3, _, #[⟨3, .data⟩], none⟩ ?_ hHeld ?yyEe4 ?rrEe4
            case yyEe4 => (intro w hSw; (try dsimp only at hSw); go_simp; try with_reducible rfl)
            try simp only [Act.put, putA, putB, putC]
            refine wpAnyH_ready (rs := [5]) (by kernel_rfl) (by simp) ?_
            refine AllReadyH.cons (o := ⟨some 71, .call { callee := .value (.func 11), args := #[.tmp 67, .const (.int .i64 0), .tmp 70], argTypes := #[3, 3, 3] }, 4, _, #[⟨1, .data⟩, ⟨4, .data⟩], none⟩) rfl (fun K hK => ?_) AllReadyH.nil
            go_simp
            refine (l1In_any _ _ _ _).mono ?_
            rintro e w5 ⟨rfl, rfl⟩
            rw [hib]
            go_wp2_with fail
            refine hK.out _ _ (HK.out _ hcur) (fun hHeld => ?_)
            clear hK K
            try simp only [Act.put, putA, putB, putC]
            refine tkL 6 ⟨some 72, .unOp .not 4 (.tmp 71), 4, _, #[⟨5, .data⟩], none⟩ ?_ hHeld ?yyEe6 ?rrEe6
            case yyEe6 => (intro w hSw; (try dsimp only at hSw); go_simp; try with_reducible rfl)
            try simp only [Act.put, putA, putB, putC]
            refine tkL 7 ⟨some 73, .move (.tmp 72), 4, _, #[⟨6, .data⟩, ⟨5, .chain⟩], none⟩ ?_ hHeld ?yyEe7 ?rrEe7
            case yyEe7 => (intro w hSw; (try dsimp only at hSw); go_simp; try with_reducible rfl)
            try simp only [Act.put, putA, putB, putC]
            refine tkL 8 ⟨some 74, .fieldAddr 46 (.tmp 6) 1, 0, _, #[⟨7, .guard⟩], some (7, false)⟩ ?_ hHeld ?yyEe8 ?rrEe8
            case yyEe8 => (intro w hSw; (try dsimp only at hSw); go_simp; try with_reducible rfl)
            try simp only [Act.put, putA, putB, putC]
            refine tkL 9 ⟨some 75, .load 9 (.tmp 74), 9, _, #[⟨8, .data⟩, ⟨7, .guard⟩], some (7, false)⟩ ?_ hHeld ?yyEe9 ?rrEe9
            case yyEe9 => (intro w hSw; (try dsimp only at hSw); go_simp; try with_reducible rfl)
            try simp only [Act.put, putA, putB, putC]
            refine wpAnyH_ready (rs := [10]) (by kernel_rfl) (by simp) ?_
            refine AllReadyH.cons (o := ⟨some 76, .call { callee := .value (.func 14), args := #[.tmp 75], argTypes := #[9] }, 4, _, #[⟨9, .data⟩, ⟨7, .chain⟩, ⟨7, .guard⟩], some (7, false)⟩) rfl (fun K hK => ?_) AllReadyH.nil
            go_simp
            refine (hnam _).mono ?_
            rintro e w6 ⟨rfl, hE6⟩
            replace hcur := hcur.trans hE6
            go_wp2_with fail
            refine hK.out _ _ (HK.out _ hcur) (fun hHeld => ?_)
            clear hK K
            try simp only [Act.put, putA, putB, putC]
            refine tkL 11 ⟨some 77, .unOp .not 4 (.tmp 76), 4, _, #[⟨10, .data⟩, ⟨7, .guard⟩], some (7, false)⟩ ?_ hHeld ?yyEe11 ?rrEe11
            case yyEe11 => (intro w hSw; (try dsimp only at hSw); go_simp; try with_reducible rfl)
            try simp only [Act.put, putA, putB, putC]
            refine tkL 12 ⟨some 78, .pick (.tmp 73) (.const (.bool true)) (.tmp 77), 4, _, #[⟨7, .data⟩, ⟨11, .data⟩], none⟩ ?_ hHeld ?yyEe12 ?rrEe12
            case yyEe12 => (intro w hSw; (try dsimp only at hSw); go_simp; try with_reducible rfl)
            try simp only [Act.put, putA, putB, putC]
            refine tkL 13 ⟨some 79, .move (.tmp 78), 4, _, #[⟨12, .data⟩, ⟨10, .chain⟩], none⟩ ?_ hHeld ?yyEe13 ?rrEe13
            case yyEe13 => (intro w hSw; (try dsimp only at hSw); go_simp; try with_reducible rfl)
            try simp only [Act.put, putA, putB, putC]
            refine tkL 14 ⟨some 80, .fieldAddr 46 (.tmp 6) 4, 0, _, #[⟨13, .guard⟩], some (13, false)⟩ ?_ hHeld ?yyEe14 ?rrEe14
            case yyEe14 => (intro w hSw; (try dsimp only at hSw); go_simp; try with_reducible rfl)
            try simp only [Act.put, putA, putB, putC]
            refine tkL 15 ⟨some 81, .load 32 (.tmp 80), 32, _, #[⟨14, .data⟩, ⟨13, .guard⟩], some (13, false)⟩ ?_ hHeld ?yyEe15 ?rrEe15
            case yyEe15 => (intro w hSw; (try dsimp only at hSw); go_simp; try with_reducible rfl)
            try simp only [Act.put, putA, putB, putC]
            refine wpAnyH_ready (rs := [16]) (by kernel_rfl) (by simp) ?_
            refine AllReadyH.cons (o := ⟨some 82, .call { callee := .value (.func 13), args := #[.tmp 81], argTypes := #[32] }, 4, _, #[⟨15, .data⟩, ⟨13, .chain⟩, ⟨13, .guard⟩], some (13, false)⟩) rfl (fun K hK => ?_) AllReadyH.nil
            go_simp
            refine (hprp _ hcur).mono ?_
            rintro e w7 ⟨rfl, hE7⟩
            replace hcur := hcur.trans hE7
            go_wp2_with fail
            refine hK.out _ _ (HK.out _ hcur) (fun hHeld => ?_)
            clear hK K
            try simp only [Act.put, putA, putB, putC]
            refine tkL 17 ⟨some 83, .unOp .not 4 (.tmp 82), 4, _, #[⟨16, .data⟩, ⟨13, .guard⟩], some (13, false)⟩ ?_ hHeld ?yyEe17 ?rrEe17
            case yyEe17 => (intro w hSw; (try dsimp only at hSw); go_simp; try with_reducible rfl)
            try simp only [Act.put, putA, putB, putC]
            refine tkL 18 ⟨some 84, .pick (.tmp 79) (.const (.bool true)) (.tmp 83), 4, _, #[⟨13, .data⟩, ⟨17, .data⟩], none⟩ ?_ hHeld ?yyEe18 ?rrEe18
            case yyEe18 => (intro w hSw; (try dsimp only at hSw); go_simp; try with_reducible rfl)
            try simp only [Act.put, putA, putB, putC]
            refine tkL 19 ⟨some 85, .move (.tmp 84), 4, _, #[⟨18, .data⟩, ⟨16, .chain⟩], none⟩ ?_ hHeld ?yyEe19 ?rrEe19
            case yyEe19 => (intro w hSw; (try dsimp only at hSw); go_simp; try with_reducible rfl)
            try simp only [Act.put, putA, putB, putC]
            refine tkL 20 ⟨some 86, .load 26 (.tmp 1), 26, _, #[⟨19, .guard⟩], some (19, false)⟩ ?_ hHeld ?yyEe20 ?rrEe20
            case yyEe20 => (intro w hSw; (try dsimp only at hSw); go_simp; try with_reducible rfl)
            try simp only [Act.put, putA, putB, putC]
            refine tkL 21 ⟨some 87, .fieldAddr 46 (.tmp 6) 2, 0, _, #[⟨19, .guard⟩], some (19, false)⟩ ?_ hHeld ?yyEe21 ?rrEe21
            case yyEe21 => (intro w hSw; (try dsimp only at hSw); go_simp; try with_reducible rfl)
            try simp only [Act.put, putA, putB, putC]
            refine tkL 22 ⟨some 88, .load 3 (.tmp 87), 3, _, #[⟨21, .data⟩, ⟨19, .guard⟩], some (19, false)⟩ ?_ hHeld ?yyEe22 ?rrEe22
            case yyEe22 => (intro w hSw; (try dsimp only at hSw); go_simp; try with_reducible rfl)
            try simp only [Act.put, putA, putB, putC]
            refine wpAnyH_ready (rs := [23]) (by kernel_rfl) (by simp) ?_
            refine AllReadyH.cons (o := ⟨some 89, .call { callee := .value (.func 15), args := #[.tmp 86, .tmp 88], argTypes := #[26, 3] }, 3, _, #[⟨20, .data⟩, ⟨22, .data⟩, ⟨19, .chain⟩, ⟨19, .guard⟩], some (19, false)⟩) rfl (fun K hK => ?_) AllReadyH.nil
            go_simp
            refine (hn2 _ hcur).mono ?_
            rintro e w8 ⟨r2, rfl, hr2, hE8⟩
            replace hcur := hcur.trans hE8
            replace hr2 : decide (r2 < 0) = false := hr2
            go_wp2_with fail
            refine hK.out _ _ (HK.out _ hcur) (fun hHeld => ?_)
            clear hK K
            try simp only [Act.put, putA, putB, putC]
            refine tkL 24 ⟨some 90, .binOp .lss 3 (.tmp 89) (.const (.int .i64 0)) 3, 4, _, #[⟨23, .data⟩, ⟨19, .guard⟩], some (19, false)⟩ ?_ hHeld ?yyEe24 ?rrEe24
            case yyEe24 => (intro w hSw; (try dsimp only at hSw); go_simp; try with_reducible rfl)
            try simp only [Act.put, putA, putB, putC]
            refine tkL 25 ⟨some 91, .pick (.tmp 85) (.const (.bool true)) (.tmp 90), 4, _, #[⟨19, .data⟩, ⟨24, .data⟩], none⟩ ?_ hHeld ?yyEe25 ?rrEe25
            case yyEe25 => (intro w hSw; (try dsimp only at hSw); go_simp; try with_reducible rfl)
            try simp only [Act.put, putA, putB, putC]
            refine tkL 26 ⟨some 92, .move (.tmp 91), 4, _, #[⟨25, .data⟩, ⟨23, .chain⟩], none⟩ ?_ hHeld ?yyEe26 ?rrEe26
            case yyEe26 => (intro w hSw; (try dsimp only at hSw); go_simp; try with_reducible rfl)
            try simp only [Act.put, putA, putB, putC]
            refine tkL 27 ⟨some 93, .load 26 (.tmp 1), 26, _, #[⟨26, .guard⟩], some (26, false)⟩ ?_ hHeld ?yyEe27 ?rrEe27
            case yyEe27 => (intro w hSw; (try dsimp only at hSw); go_simp; try with_reducible rfl)
            try simp only [Act.put, putA, putB, putC]
            refine tkL 28 ⟨some 94, .fieldAddr 46 (.tmp 6) 3, 0, _, #[⟨26, .guard⟩], some (26, false)⟩ ?_ hHeld ?yyEe28 ?rrEe28
            case yyEe28 => (intro w hSw; (try dsimp only at hSw); go_simp; try with_reducible rfl)
            try simp only [Act.put, putA, putB, putC]
            refine tkL 29 ⟨some 95, .load 3 (.tmp 94), 3, _, #[⟨28, .data⟩, ⟨26, .guard⟩], some (26, false)⟩ ?_ hHeld ?yyEe29 ?rrEe29
            case yyEe29 => (intro w hSw; (try dsimp only at hSw); go_simp; try with_reducible rfl)
            try simp only [Act.put, putA, putB, putC]
            refine wpAnyH_ready (rs := [30]) (by kernel_rfl) (by simp) ?_
            refine AllReadyH.cons (o := ⟨some 96, .call { callee := .value (.func 15), args := #[.tmp 93, .tmp 95], argTypes := #[26, 3] }, 3, _, #[⟨27, .data⟩, ⟨29, .data⟩, ⟨26, .chain⟩, ⟨26, .guard⟩], some (26, false)⟩) rfl (fun K hK => ?_) AllReadyH.nil
            go_simp
            refine (hn3 _ hcur).mono ?_
            rintro e w9 ⟨r3, rfl, hr3, hE9⟩
            replace hcur := hcur.trans hE9
            replace hr3 : decide (r3 < 0) = true := hr3
            go_wp2_with fail
            refine hK.out _ _ (HK.out _ hcur) (fun hHeld => ?_)
            clear hK K
            try simp only [Act.put, putA, putB, putC]
            refine tkL 31 ⟨some 97, .binOp .lss 3 (.tmp 96) (.const (.int .i64 0)) 3, 4, _, #[⟨30, .data⟩, ⟨26, .guard⟩], some (26, false)⟩ ?_ hHeld ?yyEe31 ?rrEe31
            case yyEe31 => (intro w hSw; (try dsimp only at hSw); go_simp; try with_reducible rfl)
            try simp only [Act.put, putA, putB, putC]
            refine tkL 32 ⟨some 98, .pick (.tmp 92) (.const (.bool true)) (.tmp 97), 4, _, #[⟨26, .data⟩, ⟨31, .data⟩], none⟩ ?_ hHeld ?yyEe32 ?rrEe32
            case yyEe32 => (intro w hSw; (try dsimp only at hSw); go_simp; try with_reducible rfl)
            try simp only [Act.put, putA, putB, putC]
            refine tkL 33 ⟨some 99, .move (.tmp 98), 4, _, #[⟨32, .data⟩, ⟨30, .chain⟩], none⟩ ?_ hHeld ?yyEe33 ?rrEe33
            case yyEe33 => (intro w hSw; (try dsimp only at hSw); go_simp; try with_reducible rfl)
            try simp only [Act.put, putA, putB, putC]
            refine tkR 34 ⟨some 100, .move (.tmp 5), 3, _, #[⟨33, .guard⟩], some (33, false)⟩ hHeld ?_
            try simp only [Act.put, putA, putB, putC]
            refine tkR 35 ⟨some 101, .binOp .gtr 3 (.tmp 100) (.const (.int .i64 0)) 3, 4, _, #[⟨34, .data⟩, ⟨33, .guard⟩], some (33, false)⟩ hHeld ?_
            try simp only [Act.put, putA, putB, putC]
            refine tkR 36 ⟨some 102, .move (.tmp 101), 4, _, #[⟨35, .data⟩, ⟨33, .chain⟩, ⟨33, .guard⟩], some (33, false)⟩ hHeld ?_
            try simp only [Act.put, putA, putB, putC]
            refine tkR 37 ⟨some 103, .fieldAddr 26 (.tmp 1) 1, 0, _, #[⟨36, .guard⟩], some (36, true)⟩ hHeld ?_
            try simp only [Act.put, putA, putB, putC]
            refine tkR 38 ⟨some 104, .load 24 (.tmp 103), 24, _, #[⟨37, .data⟩, ⟨36, .guard⟩], some (36, true)⟩ hHeld ?_
            try simp only [Act.put, putA, putB, putC]
            refine tkR 39 ⟨some 105, .move (.tmp 5), 3, _, #[⟨36, .guard⟩], some (36, true)⟩ hHeld ?_
            try simp only [Act.put, putA, putB, putC]
            refine tkR 40 ⟨some 106, .binOp .sub 3 (.tmp 105) (.const (.int .i64 1)) 3, 3, _, #[⟨39, .data⟩, ⟨36, .guard⟩], some (36, true)⟩ hHeld ?_
            try simp only [Act.put, putA, putB, putC]
            refine tkR 41 ⟨some 107, .indexAddr 24 (.tmp 104) (.tmp 106), 0, _, #[⟨38, .data⟩, ⟨40, .data⟩, ⟨36, .guard⟩], some (36, true)⟩ hHeld ?_
            try simp only [Act.put, putA, putB, putC]
            refine tkR 42 ⟨some 108, .fieldAddr 46 (.tmp 107) 0, 0, _, #[⟨41, .data⟩, ⟨36, .guard⟩], some (36, true)⟩ hHeld ?_
            try simp only [Act.put, putA, putB, putC]
            refine tkR 43 ⟨some 109, .load 3 (.tmp 108), 3, _, #[⟨42, .data⟩, ⟨36, .guard⟩], some (36, true)⟩ hHeld ?_
            try simp only [Act.put, putA, putB, putC]
            refine tkR 44 ⟨some 110, .fieldAddr 46 (.tmp 6) 0, 0, _, #[⟨36, .guard⟩], some (36, true)⟩ hHeld ?_
            try simp only [Act.put, putA, putB, putC]
            refine tkR 45 ⟨some 111, .load 3 (.tmp 110), 3, _, #[⟨44, .data⟩, ⟨36, .guard⟩], some (36, true)⟩ hHeld ?_
            try simp only [Act.put, putA, putB, putC]
            refine tkR 46 ⟨some 112, .binOp .geq 3 (.tmp 109) (.tmp 111) 3, 4, _, #[⟨43, .data⟩, ⟨45, .data⟩, ⟨36, .guard⟩], some (36, true)⟩ hHeld ?_
            try simp only [Act.put, putA, putB, putC]
            refine tkR 47 ⟨some 113, .pick (.tmp 102) (.tmp 112) (.const (.bool false)), 4, _, #[⟨36, .data⟩, ⟨46, .data⟩, ⟨33, .guard⟩], some (33, false)⟩ hHeld ?_
            try simp only [Act.put, putA, putB, putC]
            refine tkL 48 ⟨some 114, .pick (.tmp 99) (.const (.bool true)) (.tmp 113), 4, _, #[⟨33, .data⟩, ⟨47, .data⟩], none⟩ ?_ hHeld ?yyEe48 ?rrEe48
            case yyEe48 => (intro w hSw; (try dsimp only at hSw); go_simp; try with_reducible rfl)
            try simp only [Act.put, putA, putB, putC]
            refine wpAnyH_done (by kernel_rfl) ?_ _
            go_wp2
            go_ret
            exact ⟨ret_bool hfin.out.symm, hA.trans hcur⟩
          by_cases hk0 : k2 = 0
          · subst hk0
            have hok : Hid (edgeB f1 d0 x3 0 = true) := by show _ = _; rw [hLk.out]; rfl
            have HK : Hid (∀ W, Ext W1 W → (W.cell? ⟨w.heap.size, 0, none⟩ = some (.slice a0 k cap0) ∧ W.cell? ⟨w.heap.size, 1, none⟩ = some (.slice (some ⟨b, off, none⟩) len1 cap1) ∧ W.cell? ⟨w.heap.size, 2, none⟩ = some (.int .i64 x2) ∧ W.cell? ⟨w.heap.size, 3, none⟩ = some (.int .i64 x3)) ∧ W.cell? ⟨wr.heap.size, 0, none⟩ = some (.int .i64 y0) ∧ W.cell? ⟨wr.heap.size, 1, none⟩ = some (.string y1) ∧ W.cell? ⟨wr.heap.size, 2, none⟩ = some (.int .i64 y2) ∧ W.cell? ⟨wr.heap.size, 3, none⟩ = some (.int .i64 y3) ∧ W.cell? ⟨wr.heap.size, 4, none⟩ = some (.slice ba bl bc)) := hall
            have hcur : Ext W1 W1.drew := (Ext.refl _).drew
            refine wp_region_held_drew (S := (fun W => (W.cell? ⟨w.heap.size, 0, none⟩ = some (.slice a0 k cap0) ∧ W.cell? ⟨w.heap.size, 1, none⟩ = some (.slice (some ⟨b, off, none⟩) len1 cap1) ∧ W.cell? ⟨w.heap.size, 2, none⟩ = some (.int .i64 x2) ∧ W.cell? ⟨w.heap.size, 3, none⟩ = some (.int .i64 x3)) ∧ W.cell? ⟨wr.heap.size, 0, none⟩ = some (.int .i64 y0) ∧ W.cell? ⟨wr.heap.size, 1, none⟩ = some (.string y1) ∧ W.cell? ⟨wr.heap.size, 2, none⟩ = some (.int .i64 y2) ∧ W.cell? ⟨wr.heap.size, 3, none⟩ = some (.int .i64 y3) ∧ W.cell? ⟨wr.heap.size, 4, none⟩ = some (.slice ba bl bc))) (by kernel_rfl) (HK.out _ hcur) (fun hHeld => ?_)
            refine tkL 0 ⟨some 66, .fieldAddr 46 (.tmp 6) 0, 0, _, #[], none⟩ ?_ hHeld ?yyEf0 ?rrEf0
            case yyEf0 => (intro w hSw; (try dsimp only at hSw); go_simp; try with_reducible rfl)
            try simp only [Act.put, putA, putB, putC]
            refine tkL 1 ⟨some 67, .load 3 (.tmp 66), 3, _, #[⟨0, .data⟩], none⟩ ?_ hHeld ?yyEf1 ?rrEf1
            case yyEf1 => (intro w hSw; (try dsimp only at hSw); go_simp; try with_reducible rfl)
            try simp only [Act.put, putA, putB, putC]
            refine tkL 2 ⟨some 68, .fieldAddr 26 (.tmp 1) 3, 0, _, #[], none⟩ ?_ hHeld ?yyEf2 ?rrEf2
            case yyEf2 => (intro w hSw; (try dsimp only at hSw); go_simp; try with_reducible rfl)
            try simp only [Act.put, putA, putB, putC]
            refine tkL 3 ⟨some 69, .load 3 (.tmp 68), 3, _, #[⟨2, .data⟩], none⟩ ?_ hHeld ?yyEf3 ?rrEf3
            case yyEf3 => (intro w hSw; (try dsimp only at hSw); go_simp; try with_reducible rfl)
            try simp only [Act.put, putA, putB, putC]
            refine tkL 4 ⟨some 70, .binOp .sub 3 (.tmp 69) (.const (.int .i64 1)) 3, 3, _, #[⟨3, .data⟩], none⟩ ?_ hHeld ?yyEf4 ?rrEf4
            case yyEf4 => (intro w hSw; (try dsimp only at hSw); go_simp; try with_reducible rfl)
            try simp only [Act.put, putA, putB, putC]
            refine wpAnyH_ready (rs := [5]) (by kernel_rfl) (by simp) ?_
            refine AllReadyH.cons (o := ⟨some 71, .call { callee := .value (.func 11), args := #[.tmp 67, .const (.int .i64 0), .tmp 70], argTypes := #[3, 3, 3] }, 4, _, #[⟨1, .data⟩, ⟨4, .data⟩], none⟩) rfl (fun K hK => ?_) AllReadyH.nil
            go_simp
            refine (l1In_any _ _ _ _).mono ?_
            rintro e w5 ⟨rfl, rfl⟩
            rw [hib]
            go_wp2_with fail
            refine hK.out _ _ (HK.out _ hcur) (fun hHeld => ?_)
            clear hK K
            try simp only [Act.put, putA, putB, putC]
            refine tkL 6 ⟨some 72, .unOp .not 4 (.tmp 71), 4, _, #[⟨5, .data⟩], none⟩ ?_ hHeld ?yyEf6 ?rrEf6
            case yyEf6 => (intro w hSw; (try dsimp only at hSw); go_simp; try with_reducible rfl)
            try simp only [Act.put, putA, putB, putC]
            refine tkL 7 ⟨some 73, .move (.tmp 72), 4, _, #[⟨6, .data⟩, ⟨5, .chain⟩], none⟩ ?_ hHeld ?yyEf7 ?rrEf7
            case yyEf7 => (intro w hSw; (try dsimp only at hSw); go_simp; try with_reducible rfl)
            try simp only [Act.put, putA, putB, putC]
            refine tkL 8 ⟨some 74, .fieldAddr 46 (.tmp 6) 1, 0, _, #[⟨7, .guard⟩], some (7, false)⟩ ?_ hHeld ?yyEf8 ?rrEf8
            case yyEf8 => (intro w hSw; (try dsimp only at hSw); go_simp; try with_reducible rfl)
            try simp only [Act.put, putA, putB, putC]
            refine tkL 9 ⟨some 75, .load 9 (.tmp 74), 9, _, #[⟨8, .data⟩, ⟨7, .guard⟩], some (7, false)⟩ ?_ hHeld ?yyEf9 ?rrEf9
            case yyEf9 => (intro w hSw; (try dsimp only at hSw); go_simp; try with_reducible rfl)
            try simp only [Act.put, putA, putB, putC]
            refine wpAnyH_ready (rs := [10]) (by kernel_rfl) (by simp) ?_
            refine AllReadyH.cons (o := ⟨some 76, .call { callee := .value (.func 14), args := #[.tmp 75], argTypes := #[9] }, 4, _, #[⟨9, .data⟩, ⟨7, .chain⟩, ⟨7, .guard⟩], some (7, false)⟩) rfl (fun K hK => ?_) AllReadyH.nil
            go_simp
            refine (hnam _).mono ?_
            rintro e w6 ⟨rfl, hE6⟩
            replace hcur := hcur.trans hE6
            go_wp2_with fail
            refine hK.out _ _ (HK.out _ hcur) (fun hHeld => ?_)
            clear hK K
            try simp only [Act.put, putA, putB, putC]
            refine tkL 11 ⟨some 77, .unOp .not 4 (.tmp 76), 4, _, #[⟨10, .data⟩, ⟨7, .guard⟩], some (7, false)⟩ ?_ hHeld ?yyEf11 ?rrEf11
            case yyEf11 => (intro w hSw; (try dsimp only at hSw); go_simp; try with_reducible rfl)
            try simp only [Act.put, putA, putB, putC]
            refine tkL 12 ⟨some 78, .pick (.tmp 73) (.const (.bool true)) (.tmp 77), 4, _, #[⟨7, .data⟩, ⟨11, .data⟩], none⟩ ?_ hHeld ?yyEf12 ?rrEf12
            case yyEf12 => (intro w hSw; (try dsimp only at hSw); go_simp; try with_reducible rfl)
            try simp only [Act.put, putA, putB, putC]
            refine tkL 13 ⟨some 79, .move (.tmp 78), 4, _, #[⟨12, .data⟩, ⟨10, .chain⟩], none⟩ ?_ hHeld ?yyEf13 ?rrEf13
            case yyEf13 => (intro w hSw; (try dsimp only at hSw); go_simp; try with_reducible rfl)
            try simp only [Act.put, putA, putB, putC]
            refine tkL 14 ⟨some 80, .fieldAddr 46 (.tmp 6) 4, 0, _, #[⟨13, .guard⟩], some (13, false)⟩ ?_ hHeld ?yyEf14 ?rrEf14
            case yyEf14 => (intro w hSw; (try dsimp only at hSw); go_simp; try with_reducible rfl)
            try simp only [Act.put, putA, putB, putC]
            refine tkL 15 ⟨some 81, .load 32 (.tmp 80), 32, _, #[⟨14, .data⟩, ⟨13, .guard⟩], some (13, false)⟩ ?_ hHeld ?yyEf15 ?rrEf15
            case yyEf15 => (intro w hSw; (try dsimp only at hSw); go_simp; try with_reducible rfl)
            try simp only [Act.put, putA, putB, putC]
            refine wpAnyH_ready (rs := [16]) (by kernel_rfl) (by simp) ?_
            refine AllReadyH.cons (o := ⟨some 82, .call { callee := .value (.func 13), args := #[.tmp 81], argTypes := #[32] }, 4, _, #[⟨15, .data⟩, ⟨13, .chain⟩, ⟨13, .guard⟩], some (13, false)⟩) rfl (fun K hK => ?_) AllReadyH.nil
            go_simp
            refine (hprp _ hcur).mono ?_
            rintro e w7 ⟨rfl, hE7⟩
            replace hcur := hcur.trans hE7
            go_wp2_with fail
            refine hK.out _ _ (HK.out _ hcur) (fun hHeld => ?_)
            clear hK K
            try simp only [Act.put, putA, putB, putC]
            refine tkL 17 ⟨some 83, .unOp .not 4 (.tmp 82), 4, _, #[⟨16, .data⟩, ⟨13, .guard⟩], some (13, false)⟩ ?_ hHeld ?yyEf17 ?rrEf17
            case yyEf17 => (intro w hSw; (try dsimp only at hSw); go_simp; try with_reducible rfl)
            try simp only [Act.put, putA, putB, putC]
            refine tkL 18 ⟨some 84, .pick (.tmp 79) (.const (.bool true)) (.tmp 83), 4, _, #[⟨13, .data⟩, ⟨17, .data⟩], none⟩ ?_ hHeld ?yyEf18 ?rrEf18
            case yyEf18 => (intro w hSw; (try dsimp only at hSw); go_simp; try with_reducible rfl)
            try simp only [Act.put, putA, putB, putC]
            refine tkL 19 ⟨some 85, .move (.tmp 84), 4, _, #[⟨18, .data⟩, ⟨16, .chain⟩], none⟩ ?_ hHeld ?yyEf19 ?rrEf19
            case yyEf19 => (intro w hSw; (try dsimp only at hSw); go_simp; try with_reducible rfl)
            try simp only [Act.put, putA, putB, putC]
            refine tkL 20 ⟨some 86, .load 26 (.tmp 1), 26, _, #[⟨19, .guard⟩], some (19, false)⟩ ?_ hHeld ?yyEf20 ?rrEf20
            case yyEf20 => (intro w hSw; (try dsimp only at hSw); go_simp; try with_reducible rfl)
            try simp only [Act.put, putA, putB, putC]
            refine tkL 21 ⟨some 87, .fieldAddr 46 (.tmp 6) 2, 0, _, #[⟨19, .guard⟩], some (19, false)⟩ ?_ hHeld ?yyEf21 ?rrEf21
            case yyEf21 => (intro w hSw; (try dsimp only at hSw); go_simp; try with_reducible rfl)
            try simp only [Act.put, putA, putB, putC]
            refine tkL 22 ⟨some 88, .load 3 (.tmp 87), 3, _, #[⟨21, .data⟩, ⟨19, .guard⟩], some (19, false)⟩ ?_ hHeld ?yyEf22 ?rrEf22
            case yyEf22 => (intro w hSw; (try dsimp only at hSw); go_simp; try with_reducible rfl)
            try simp only [Act.put, putA, putB, putC]
            refine wpAnyH_ready (rs := [23]) (by kernel_rfl) (by simp) ?_
            refine AllReadyH.cons (o := ⟨some 89, .call { callee := .value (.func 15), args := #[.tmp 86, .tmp 88], argTypes := #[26, 3] }, 3, _, #[⟨20, .data⟩, ⟨22, .data⟩, ⟨19, .chain⟩, ⟨19, .guard⟩], some (19, false)⟩) rfl (fun K hK => ?_) AllReadyH.nil
            go_simp
            refine (hn2 _ hcur).mono ?_
            rintro e w8 ⟨r2, rfl, hr2, hE8⟩
            replace hcur := hcur.trans hE8
            replace hr2 : decide (r2 < 0) = false := hr2
            go_wp2_with fail
            refine hK.out _ _ (HK.out _ hcur) (fun hHeld => ?_)
            clear hK K
            try simp only [Act.put, putA, putB, putC]
            refine tkL 24 ⟨some 90, .binOp .lss 3 (.tmp 89) (.const (.int .i64 0)) 3, 4, _, #[⟨23, .data⟩, ⟨19, .guard⟩], some (19, false)⟩ ?_ hHeld ?yyEf24 ?rrEf24
            case yyEf24 => (intro w hSw; (try dsimp only at hSw); go_simp; try with_reducible rfl)
            try simp only [Act.put, putA, putB, putC]
            refine tkL 25 ⟨some 91, .pick (.tmp 85) (.const (.bool true)) (.tmp 90), 4, _, #[⟨19, .data⟩, ⟨24, .data⟩], none⟩ ?_ hHeld ?yyEf25 ?rrEf25
            case yyEf25 => (intro w hSw; (try dsimp only at hSw); go_simp; try with_reducible rfl)
            try simp only [Act.put, putA, putB, putC]
            refine tkL 26 ⟨some 92, .move (.tmp 91), 4, _, #[⟨25, .data⟩, ⟨23, .chain⟩], none⟩ ?_ hHeld ?yyEf26 ?rrEf26
            case yyEf26 => (intro w hSw; (try dsimp only at hSw); go_simp; try with_reducible rfl)
            try simp only [Act.put, putA, putB, putC]
            refine tkL 27 ⟨some 93, .load 26 (.tmp 1), 26, _, #[⟨26, .guard⟩], some (26, false)⟩ ?_ hHeld ?yyEf27 ?rrEf27
            case yyEf27 => (intro w hSw; (try dsimp only at hSw); go_simp; try with_reducible rfl)
            try simp only [Act.put, putA, putB, putC]
            refine tkL 28 ⟨some 94, .fieldAddr 46 (.tmp 6) 3, 0, _, #[⟨26, .guard⟩], some (26, false)⟩ ?_ hHeld ?yyEf28 ?rrEf28
            case yyEf28 => (intro w hSw; (try dsimp only at hSw); go_simp; try with_reducible rfl)
            try simp only [Act.put, putA, putB, putC]
            refine tkL 29 ⟨some 95, .load 3 (.tmp 94), 3, _, #[⟨28, .data⟩, ⟨26, .guard⟩], some (26, false)⟩ ?_ hHeld ?yyEf29 ?rrEf29
            case yyEf29 => (intro w hSw; (try dsimp only at hSw); go_simp; try with_reducible rfl)
            try simp only [Act.put, putA, putB, putC]
            refine wpAnyH_ready (rs := [30]) (by kernel_rfl) (by simp) ?_
            refine AllReadyH.cons (o := ⟨some 96, .call { callee := .value (.func 15), args := #[.tmp 93, .tmp 95], argTypes := #[26, 3] }, 3, _, #[⟨27, .data⟩, ⟨29, .data⟩, ⟨26, .chain⟩, ⟨26, .guard⟩], some (26, false)⟩) rfl (fun K hK => ?_) AllReadyH.nil
            go_simp
            refine (hn3 _ hcur).mono ?_
            rintro e w9 ⟨r3, rfl, hr3, hE9⟩
            replace hcur := hcur.trans hE9
            replace hr3 : decide (r3 < 0) = false := hr3
            go_wp2_with fail
            refine hK.out _ _ (HK.out _ hcur) (fun hHeld => ?_)
            clear hK K
            try simp only [Act.put, putA, putB, putC]
            refine tkL 31 ⟨some 97, .binOp .lss 3 (.tmp 96) (.const (.int .i64 0)) 3, 4, _, #[⟨30, .data⟩, ⟨26, .guard⟩], some (26, false)⟩ ?_ hHeld ?yyEf31 ?rrEf31
            case yyEf31 => (intro w hSw; (try dsimp only at hSw); go_simp; try with_reducible rfl)
            try simp only [Act.put, putA, putB, putC]
            refine tkL 32 ⟨some 98, .pick (.tmp 92) (.const (.bool true)) (.tmp 97), 4, _, #[⟨26, .data⟩, ⟨31, .data⟩], none⟩ ?_ hHeld ?yyEf32 ?rrEf32
            case yyEf32 => (intro w hSw; (try dsimp only at hSw); go_simp; try with_reducible rfl)
            try simp only [Act.put, putA, putB, putC]
            refine tkL 33 ⟨some 99, .move (.tmp 98), 4, _, #[⟨32, .data⟩, ⟨30, .chain⟩], none⟩ ?_ hHeld ?yyEf33 ?rrEf33
            case yyEf33 => (intro w hSw; (try dsimp only at hSw); go_simp; try with_reducible rfl)
            try simp only [Act.put, putA, putB, putC]
            refine tkL 34 ⟨some 100, .move (.tmp 5), 3, _, #[⟨33, .guard⟩], some (33, false)⟩ ?_ hHeld ?yyEf34 ?rrEf34
            case yyEf34 => (intro w hSw; (try dsimp only at hSw); go_simp; try with_reducible rfl)
            try simp only [Act.put, putA, putB, putC]
            refine tkL 35 ⟨some 101, .binOp .gtr 3 (.tmp 100) (.const (.int .i64 0)) 3, 4, _, #[⟨34, .data⟩, ⟨33, .guard⟩], some (33, false)⟩ ?_ hHeld ?yyEf35 ?rrEf35
            case yyEf35 => (intro w hSw; (try dsimp only at hSw); go_simp; try with_reducible rfl)
            try simp only [Act.put, putA, putB, putC]
            refine tkL 36 ⟨some 102, .move (.tmp 101), 4, _, #[⟨35, .data⟩, ⟨33, .chain⟩, ⟨33, .guard⟩], some (33, false)⟩ ?_ hHeld ?yyEf36 ?rrEf36
            case yyEf36 => (intro w hSw; (try dsimp only at hSw); go_simp; try with_reducible rfl)
            try simp only [Act.put, putA, putB, putC]
            refine tkR 37 ⟨some 103, .fieldAddr 26 (.tmp 1) 1, 0, _, #[⟨36, .guard⟩], some (36, true)⟩ hHeld ?_
            try simp only [Act.put, putA, putB, putC]
            refine tkR 38 ⟨some 104, .load 24 (.tmp 103), 24, _, #[⟨37, .data⟩, ⟨36, .guard⟩], some (36, true)⟩ hHeld ?_
            try simp only [Act.put, putA, putB, putC]
            refine tkR 39 ⟨some 105, .move (.tmp 5), 3, _, #[⟨36, .guard⟩], some (36, true)⟩ hHeld ?_
            try simp only [Act.put, putA, putB, putC]
            refine tkR 40 ⟨some 106, .binOp .sub 3 (.tmp 105) (.const (.int .i64 1)) 3, 3, _, #[⟨39, .data⟩, ⟨36, .guard⟩], some (36, true)⟩ hHeld ?_
            try simp only [Act.put, putA, putB, putC]
            refine tkR 41 ⟨some 107, .indexAddr 24 (.tmp 104) (.tmp 106), 0, _, #[⟨38, .data⟩, ⟨40, .data⟩, ⟨36, .guard⟩], some (36, true)⟩ hHeld ?_
            try simp only [Act.put, putA, putB, putC]
            refine tkR 42 ⟨some 108, .fieldAddr 46 (.tmp 107) 0, 0, _, #[⟨41, .data⟩, ⟨36, .guard⟩], some (36, true)⟩ hHeld ?_
            try simp only [Act.put, putA, putB, putC]
            refine tkR 43 ⟨some 109, .load 3 (.tmp 108), 3, _, #[⟨42, .data⟩, ⟨36, .guard⟩], some (36, true)⟩ hHeld ?_
            try simp only [Act.put, putA, putB, putC]
            refine tkR 44 ⟨some 110, .fieldAddr 46 (.tmp 6) 0, 0, _, #[⟨36, .guard⟩], some (36, true)⟩ hHeld ?_
            try simp only [Act.put, putA, putB, putC]
            refine tkR 45 ⟨some 111, .load 3 (.tmp 110), 3, _, #[⟨44, .data⟩, ⟨36, .guard⟩], some (36, true)⟩ hHeld ?_
            try simp only [Act.put, putA, putB, putC]
            refine tkR 46 ⟨some 112, .binOp .geq 3 (.tmp 109) (.tmp 111) 3, 4, _, #[⟨43, .data⟩, ⟨45, .data⟩, ⟨36, .guard⟩], some (36, true)⟩ hHeld ?_
            try simp only [Act.put, putA, putB, putC]
            refine tkL 47 ⟨some 113, .pick (.tmp 102) (.tmp 112) (.const (.bool false)), 4, _, #[⟨36, .data⟩, ⟨46, .data⟩, ⟨33, .guard⟩], some (33, false)⟩ ?_ hHeld ?yyEf47 ?rrEf47
            case yyEf47 => (intro w hSw; (try dsimp only at hSw); go_simp; try with_reducible rfl)
            try simp only [Act.put, putA, putB, putC]
            refine tkL 48 ⟨some 114, .pick (.tmp 99) (.const (.bool true)) (.tmp 113), 4, _, #[⟨33, .data⟩, ⟨47, .data⟩], none⟩ ?_ hHeld ?yyEf48 ?rrEf48
            case yyEf48 => (intro w hSw; (try dsimp only at hSw); go_simp; try with_reducible rfl)
            try simp only [Act.put, putA, putB, putC]
            refine wpAnyH_done (by kernel_rfl) ?_ _
            go_wp2
            go_roundw
            case rel => exact ⟨1, by omega, by go_num, hB.trans hcur, upto_succ hno hok.out⟩
            case measure => simp [intOf]; omega
          · obtain ⟨m, rfl⟩ : ∃ m, k2 = m + 1 := ⟨k2 - 1, by omega⟩
            obtain ⟨cap3, b3, off3, C3, hsl, _, hb3, ec3, hx3⟩ := (h1.ext hA).at (i := m) (by omega)
            cases hsl
            have HR := HR1 m (by omega)
            obtain ⟨xp, hdp⟩ := (show Has (f1 m 0) .int from HR 0 (by decide)).int
            have r1 := hx3 0 (by decide)
            have r0 := ec3 0 (by decide)
            rw [hdp] at r1
            rw [r1.int_eq.1] at r0
            simp only [Nat.add_zero] at r0
            clear hx3 ec3 HR r1
            have hLk2 : Hid (edgeB f1 d0 x3 (m + 1) = decide (xp < y0)) := by show _ = _; rw [hLk.out]; simp [hdp, D.int!]
            have i0 : 0 ≤ (m : Int) + 1 := by omega
            have i2 : (m : Int) < (len1 : Int) := by omega
            have iw : IntKind.i64.wrap (m : Int) = m := wrap_i64 (by omega) (by omega)
            have HK : Hid (∀ W, Ext W1 W → ((W.cell? ⟨w.heap.size, 0, none⟩ = some (.slice a0 k cap0) ∧ W.cell? ⟨w.heap.size, 1, none⟩ = some (.slice (some ⟨b, off, none⟩) len1 cap1) ∧ W.cell? ⟨w.heap.size, 2, none⟩ = some (.int .i64 x2) ∧ W.cell? ⟨w.heap.size, 3, none⟩ = some (.int .i64 x3)) ∧ W.cell? ⟨wr.heap.size, 0, none⟩ = some (.int .i64 y0) ∧ W.cell? ⟨wr.heap.size, 1, none⟩ = some (.string y1) ∧ W.cell? ⟨wr.heap.size, 2, none⟩ = some (.int .i64 y2) ∧ W.cell? ⟨wr.heap.size, 3, none⟩ = some (.int .i64 y3) ∧ W.cell? ⟨wr.heap.size, 4, none⟩ = some (.slice ba bl bc)) ∧ W.cell? ⟨b, off + m * 5, none⟩ = some (.int .i64 xp)) := fun W hW => ⟨hall W hW, by rw [hW.cell hb3]; exact r0⟩
            have hcur : Ext W1 W1.drew := (Ext.refl _).drew
            refine wp_region_held_drew (S := (fun W => ((W.cell? ⟨w.heap.size, 0, none⟩ = some (.slice a0 k cap0) ∧ W.cell? ⟨w.heap.size, 1, none⟩ = some (.slice (some ⟨b, off, none⟩) len1 cap1) ∧ W.cell? ⟨w.heap.size, 2, none⟩ = some (.int .i64 x2) ∧ W.cell? ⟨w.heap.size, 3, none⟩ = some (.int .i64 x3)) ∧ W.cell? ⟨wr.heap.size, 0, none⟩ = some (.int .i64 y0) ∧ W.cell? ⟨wr.heap.size, 1, none⟩ = some (.string y1) ∧ W.cell? ⟨wr.heap.size, 2, none⟩ = some (.int .i64 y2) ∧ W.cell? ⟨wr.heap.size, 3, none⟩ = some (.int .i64 y3) ∧ W.cell? ⟨wr.heap.size, 4, none⟩ = some (.slice ba bl bc)) ∧ W.cell? ⟨b, off + m * 5, none⟩ = some (.int .i64 xp))) (by kernel_rfl) (HK.out _ hcur) (fun hHeld => ?_)
            refine tkL 0 ⟨some 66, .fieldAddr 46 (.tmp 6) 0, 0, _, #[], none⟩ ?_ hHeld ?yyEg0 ?rrEg0
            case yyEg0 => (intro w hSw; (try dsimp only at hSw); go_simp; try with_reducible rfl)
            try simp only [Act.put, putA, putB, putC]
            refine tkL 1 ⟨some 67, .load 3 (.tmp 66), 3, _, #[⟨0, .data⟩], none⟩ ?_ hHeld ?yyEg1 ?rrEg1
            case yyEg1 => (intro w hSw; (try dsimp only at hSw); go_simp; try with_reducible rfl)
            try simp only [Act.put, putA, putB, putC]
            refine tkL 2 ⟨some 68, .fieldAddr 26 (.tmp 1) 3, 0, _, #[], none⟩ ?_ hHeld ?yyEg2 ?rrEg2
            case yyEg2 => (intro w hSw; (try dsimp only at hSw); go_simp; try with_reducible rfl)
            try simp only [Act.put, putA, putB, putC]
            refine tkL 3 ⟨some 69, .load 3 (.tmp 68), 3, _, #[⟨2, .data⟩], none⟩ ?_ hHeld ?yyEg3 ?rrEg3
            case yyEg3 => (intro w hSw; (try dsimp only at hSw); go_simp; try with_reducible rfl)
            try simp only [Act.put, putA, putB, putC]
            refine tkL 4 ⟨some 70, .binOp .sub 3 (.tmp 69) (.const (.int .i64 1)) 3, 3, _, #[⟨3, .data⟩], none⟩ ?_ hHeld ?yyEg4 ?rrEg4
            case yyEg4 => (intro w hSw; (try dsimp only at hSw); go_simp; try with_reducible rfl)
            try simp only [Act.put, putA, putB, putC]
            refine wpAnyH_ready (rs := [5]) (by kernel_rfl) (by simp) ?_
            refine AllReadyH.cons (o := ⟨some 71, .call { callee := .value (.func 11), args := #[.tmp 67, .const (.int .i64 0), .tmp 70], argTypes := #[3, 3, 3] }, 4, _, #[⟨1, .data⟩, ⟨4, .data⟩], none⟩) rfl (fun K hK => ?_) AllReadyH.nil
            go_simp
            refine (l1In_any _ _ _ _).mono ?_
            rintro e w5 ⟨rfl, rfl⟩
            rw [hib]
            go_wp2_with fail
            refine hK.out _ _ (HK.out _ hcur) (fun hHeld => ?_)
            clear hK K
            try simp only [Act.put, putA, putB, putC]
            refine tkL 6 ⟨some 72, .unOp .not 4 (.tmp 71), 4, _, #[⟨5, .data⟩], none⟩ ?_ hHeld ?yyEg6 ?rrEg6
            case yyEg6 => (intro w hSw; (try dsimp only at hSw); go_simp; try with_reducible rfl)
            try simp only [Act.put, putA, putB, putC]
            refine tkL 7 ⟨some 73, .move (.tmp 72), 4, _, #[⟨6, .data⟩, ⟨5, .chain⟩], none⟩ ?_ hHeld ?yyEg7 ?rrEg7
            case yyEg7 => (intro w hSw; (try dsimp only at hSw); go_simp; try with_reducible rfl)
            try simp only [Act.put, putA, putB, putC]
            refine tkL 8 ⟨some 74, .fieldAddr 46 (.tmp 6) 1, 0, _, #[⟨7, .guard⟩], some (7, false)⟩ ?_ hHeld ?yyEg8 ?rrEg8
            case yyEg8 => (intro w hSw; (try dsimp only at hSw); go_simp; try with_reducible rfl)
            try simp only [Act.put, putA, putB, putC]
            refine tkL 9 ⟨some 75, .load 9 (.tmp 74), 9, _, #[⟨8, .data⟩, ⟨7, .guard⟩], some (7, false)⟩ ?_ hHeld ?yyEg9 ?rrEg9
            case yyEg9 => (intro w hSw; (try dsimp only at hSw); go_simp; try with_reducible rfl)
            try simp only [Act.put, putA, putB, putC]
            refine wpAnyH_ready (rs := [10]) (by kernel_rfl) (by simp) ?_
            refine AllReadyH.cons (o := ⟨some 76, .call { callee := .value (.func 14), args := #[.tmp 75], argTypes := #[9] }, 4, _, #[⟨9, .data⟩, ⟨7, .chain⟩, ⟨7, .guard⟩], some (7, false)⟩) rfl (fun K hK => ?_) AllReadyH.nil
            go_simp
            refine (hnam _).mono ?_
            rintro e w6 ⟨rfl, hE6⟩
            replace hcur := hcur.trans hE6
            go_wp2_with fail
            refine hK.out _ _ (HK.out _ hcur) (fun hHeld => ?_)
            clear hK K
            try simp only [Act.put, putA, putB, putC]
            refine tkL 11 ⟨some 77, .unOp .not 4 (.tmp 76), 4, _, #[⟨10, .data⟩, ⟨7, .guard⟩], some (7, false)⟩ ?_ hHeld ?yyEg11 ?rrEg11
            case yyEg11 => (intro w hSw; (try dsimp only at hSw); go_simp; try with_reducible rfl)
            try simp only [Act.put, putA, putB, putC]
            refine tkL 12 ⟨some 78, .pick (.tmp 73) (.const (.bool true)) (.tmp 77), 4, _, #[⟨7, .data⟩, ⟨11, .data⟩], none⟩ ?_ hHeld ?yyEg12 ?rrEg12
            case yyEg12 => (intro w hSw; (try dsimp only at hSw); go_simp; try with_reducible rfl)
            try simp only [Act.put, putA, putB, putC]
            refine tkL 13 ⟨some 79, .move (.tmp 78), 4, _, #[⟨12, .data⟩, ⟨10, .chain⟩], none⟩ ?_ hHeld ?yyEg13 ?rrEg13
            case yyEg13 => (intro w hSw; (try dsimp only at hSw); go_simp; try with_reducible rfl)
            try simp only [Act.put, putA, putB, putC]
            refine tkL 14 ⟨some 80, .fieldAddr 46 (.tmp 6) 4, 0, _, #[⟨13, .guard⟩], some (13, false)⟩ ?_ hHeld ?yyEg14 ?rrEg14
            case yyEg14 => (intro w hSw; (try dsimp only at hSw); go_simp; try with_reducible rfl)
            try simp only [Act.put, putA, putB, putC]
            refine tkL 15 ⟨some 81, .load 32 (.tmp 80), 32, _, #[⟨14, .data⟩, ⟨13, .guard⟩], some (13, false)⟩ ?_ hHeld ?yyEg15 ?rrEg15
            case yyEg15 => (intro w hSw; (try dsimp only at hSw); go_simp; try with_reducible rfl)
            try simp only [Act.put, putA, putB, putC]
            refine wpAnyH_ready (rs := [16]) (by kernel_rfl) (by simp) ?_
            refine AllReadyH.cons (o := ⟨some 82, .call { callee := .value (.func 13), args := #[.tmp 81], argTypes := #[32] }, 4, _, #[⟨15, .data⟩, ⟨13, .chain⟩, ⟨13, .guard⟩], some (13, false)⟩) rfl (fun K hK => ?_) AllReadyH.nil
            go_simp
            refine (hprp _ hcur).mono ?_
            rintro e w7 ⟨rfl, hE7⟩
            replace hcur := hcur.trans hE7
            go_wp2_with fail
            refine hK.out _ _ (HK.out _ hcur) (fun hHeld => ?_)
            clear hK K
            try simp only [Act.put, putA, putB, putC]
            refine tkL 17 ⟨some 83, .unOp .not 4 (.tmp 82), 4, _, #[⟨16, .data⟩, ⟨13, .guard⟩], some (13, false)⟩ ?_ hHeld ?yyEg17 ?rrEg17
            case yyEg17 => (intro w hSw; (try dsimp only at hSw); go_simp; try with_reducible rfl)
            try simp only [Act.put, putA, putB, putC]
            refine tkL 18 ⟨some 84, .pick (.tmp 79) (.const (.bool true)) (.tmp 83), 4, _, #[⟨13, .data⟩, ⟨17, .data⟩], none⟩ ?_ hHeld ?yyEg18 ?rrEg18
            case yyEg18 => (intro w hSw; (try dsimp only at hSw); go_simp; try with_reducible rfl)
            try simp only [Act.put, putA, putB, putC]
            refine tkL 19 ⟨some 85, .move (.tmp 84), 4, _, #[⟨18, .data⟩, ⟨16, .chain⟩], none⟩ ?_ hHeld ?yyEg19 ?rrEg19
            case yyEg19 => (intro w hSw; (try dsimp only at hSw); go_simp; try with_reducible rfl)
            try simp only [Act.put, putA, putB, putC]
            refine tkL 20 ⟨some 86, .load 26 (.tmp 1), 26, _, #[⟨19, .guard⟩], some (19, false)⟩ ?_ hHeld ?yyEg20 ?rrEg20
            case yyEg20 => (intro w hSw; (try dsimp only at hSw); go_simp; try with_reducible rfl)
            try simp only [Act.put, putA, putB, putC]
            refine tkL 21 ⟨some 87, .fieldAddr 46 (.tmp 6) 2, 0, _, #[⟨19, .guard⟩], some (19, false)⟩ ?_ hHeld ?yyEg21 ?rrEg21
            case yyEg21 => (intro w hSw; (try dsimp only at hSw); go_simp; try with_reducible rfl)
            try simp only [Act.put, putA, putB, putC]
            refine tkL 22 ⟨some 88, .load 3 (.tmp 87), 3, _, #[⟨21, .data⟩, ⟨19, .guard⟩], some (19, false)⟩ ?_ hHeld ?yyEg22 ?rrEg22
            case yyEg22 => (intro w hSw; (try dsimp only at hSw); go_simp; try with_reducible rfl)
            try simp only [Act.put, putA, putB, putC]
            refine wpAnyH_ready (rs := [23]) (by kernel_rfl) (by simp) ?_
            refine AllReadyH.cons (o := ⟨some 89, .call { callee := .value (.func 15), args := #[.tmp 86, .tmp 88], argTypes := #[26, 3] }, 3, _, #[⟨20, .data⟩, ⟨22, .data⟩, ⟨19, .chain⟩, ⟨19, .guard⟩], some (19, false)⟩) rfl (fun K hK => ?_) AllReadyH.nil
            go_simp
            refine (hn2 _ hcur).mono ?_
            rintro e w8 ⟨r2, rfl, hr2, hE8⟩
            replace hcur := hcur.trans hE8
            replace hr2 : decide (r2 < 0) = false := hr2
            go_wp2_with fail
            refine hK.out _ _ (HK.out _ hcur) (fun hHeld => ?_)
            clear hK K
            try simp only [Act.put, putA, putB, putC]
            refine tkL 24 ⟨some 90, .binOp .lss 3 (.tmp 89) (.const (.int .i64 0)) 3, 4, _, #[⟨23, .data⟩, ⟨19, .guard⟩], some (19, false)⟩ ?_ hHeld ?yyEg24 ?rrEg24
            case yyEg24 => (intro w hSw; (try dsimp only at hSw); go_simp; try with_reducible rfl)
            try simp only [Act.put, putA, putB, putC]
            refine tkL 25 ⟨some 91, .pick (.tmp 85) (.const (.bool true)) (.tmp 90), 4, _, #[⟨19, .data⟩, ⟨24, .data⟩], none⟩ ?_ hHeld ?yyEg25 ?rrEg25
            case yyEg25 => (intro w hSw; (try dsimp only at hSw); go_simp; try with_reducible rfl)
            try simp only [Act.put, putA, putB, putC]
            refine tkL 26 ⟨some 92, .move (.tmp 91), 4, _, #[⟨25, .data⟩, ⟨23, .chain⟩], none⟩ ?_ hHeld ?yyEg26 ?rrEg26
            case yyEg26 => (intro w hSw; (try dsimp only at hSw); go_simp; try with_reducible rfl)
            try simp only [Act.put, putA, putB, putC]
            refine tkL 27 ⟨some 93, .load 26 (.tmp 1), 26, _, #[⟨26, .guard⟩], some (26, false)⟩ ?_ hHeld ?yyEg27 ?rrEg27
            case yyEg27 => (intro w hSw; (try dsimp only at hSw); go_simp; try with_reducible rfl)
            try simp only [Act.put, putA, putB, putC]
            refine tkL 28 ⟨some 94, .fieldAddr 46 (.tmp 6) 3, 0, _, #[⟨26, .guard⟩], some (26, false)⟩ ?_ hHeld ?yyEg28 ?rrEg28
            case yyEg28 => (intro w hSw; (try dsimp only at hSw); go_simp; try with_reducible rfl)
            try simp only [Act.put, putA, putB, putC]
            refine tkL 29 ⟨some 95, .load 3 (.tmp 94), 3, _, #[⟨28, .data⟩, ⟨26, .guard⟩], some (26, false)⟩ ?_ hHeld ?yyEg29 ?rrEg29
            case yyEg29 => (intro w hSw; (try dsimp only at hSw); go_simp; try with_reducible rfl)
            try simp only [Act.put, putA, putB, putC]
            refine wpAnyH_ready (rs := [30]) (by kernel_rfl) (by simp) ?_
            refine AllReadyH.cons (o := ⟨some 96, .call { callee := .value (.func 15), args := #[.tmp 93, .tmp 95], argTypes := #[26, 3] }, 3, _, #[⟨27, .data⟩, ⟨29, .data⟩, ⟨26, .chain⟩, ⟨26, .guard⟩], some (26, false)⟩) rfl (fun K hK => ?_) AllReadyH.nil
            go_simp
            refine (hn3 _ hcur).mono ?_
            rintro e w9 ⟨r3, rfl, hr3, hE9⟩
            replace hcur := hcur.trans hE9
            replace hr3 : decide (r3 < 0) = false := hr3
            go_wp2_with fail
            refine hK.out _ _ (HK.out _ hcur) (fun hHeld => ?_)
            clear hK K
            try simp only [Act.put, putA, putB, putC]
            refine tkL 31 ⟨some 97, .binOp .lss 3 (.tmp 96) (.const (.int .i64 0)) 3, 4, _, #[⟨30, .data⟩, ⟨26, .guard⟩], some (26, false)⟩ ?_ hHeld ?yyEg31 ?rrEg31
            case yyEg31 => (intro w hSw; (try dsimp only at hSw); go_simp; try with_reducible rfl)
            try simp only [Act.put, putA, putB, putC]
            refine tkL 32 ⟨some 98, .pick (.tmp 92) (.const (.bool true)) (.tmp 97), 4, _, #[⟨26, .data⟩, ⟨31, .data⟩], none⟩ ?_ hHeld ?yyEg32 ?rrEg32
            case yyEg32 => (intro w hSw; (try dsimp only at hSw); go_simp; try with_reducible rfl)
            try simp only [Act.put, putA, putB, putC]
            refine tkL 33 ⟨some 99, .move (.tmp 98), 4, _, #[⟨32, .data⟩, ⟨30, .chain⟩], none⟩ ?_ hHeld ?yyEg33 ?rrEg33
            case yyEg33 => (intro w hSw; (try dsimp only at hSw); go_simp; try with_reducible rfl)
            try simp only [Act.put, putA, putB, putC]
            refine tkL 34 ⟨some 100, .move (.tmp 5), 3, _, #[⟨33, .guard⟩], some (33, false)⟩ ?_ hHeld ?yyEg34 ?rrEg34
            case yyEg34 => (intro w hSw; (try dsimp only at hSw); go_simp; try with_reducible rfl)
            try simp only [Act.put, putA, putB, putC]
            refine tkL 35 ⟨some 101, .binOp .gtr 3 (.tmp 100) (.const (.int .i64 0)) 3, 4, _, #[⟨34, .data⟩, ⟨33, .guard⟩], some (33, false)⟩ ?_ hHeld ?yyEg35 ?rrEg35
            case yyEg35 => (intro w hSw; (try dsimp only at hSw); go_simp; try with_reducible rfl)
            try simp only [Act.put, putA, putB, putC]
            refine tkL 36 ⟨some 102, .move (.tmp 101), 4, _, #[⟨35, .data⟩, ⟨33, .chain⟩, ⟨33, .guard⟩], some (33, false)⟩ ?_ hHeld ?yyEg36 ?rrEg36
            case yyEg36 => (intro w hSw; (try dsimp only at hSw); go_simp; try with_reducible rfl)
            try simp only [Act.put, putA, putB, putC]
            refine tkL 37 ⟨some 103, .fieldAddr 26 (.tmp 1) 1, 0, _, #[⟨36, .guard⟩], some (36, true)⟩ ?_ hHeld ?yyEg37 ?rrEg37
            case yyEg37 => (intro w hSw; (try dsimp only at hSw); go_simp; try with_reducible rfl)
            try simp only [Act.put, putA, putB, putC]
            refine tkL 38 ⟨some 104, .load 24 (.tmp 103), 24, _, #[⟨37, .data⟩, ⟨36, .guard⟩], some (36, true)⟩ ?_ hHeld ?yyEg38 ?rrEg38
            case yyEg38 => (intro w hSw; (try dsimp only at hSw); go_simp; try with_reducible rfl)
            try simp only [Act.put, putA, putB, putC]
            refine tkL 39 ⟨some 105, .move (.tmp 5), 3, _, #[⟨36, .guard⟩], some (36, true)⟩ ?_ hHeld ?yyEg39 ?rrEg39
            case yyEg39 => (intro w hSw; (try dsimp only at hSw); go_simp; try with_reducible rfl)
            try simp only [Act.put, putA, putB, putC]
            refine tkL 40 ⟨some 106, .binOp .sub 3 (.tmp 105) (.const (.int .i64 1)) 3, 3, _, #[⟨39, .data⟩, ⟨36, .guard⟩], some (36, true)⟩ ?_ hHeld ?yyEg40 ?rrEg40
            case yyEg40 => (intro w hSw; (try dsimp only at hSw); go_simp; try with_reducible rfl)
            try simp only [Act.put, putA, putB, putC]
            refine tkL 41 ⟨some 107, .indexAddr 24 (.tmp 104) (.tmp 106), 0, _, #[⟨38, .data⟩, ⟨40, .data⟩, ⟨36, .guard⟩], some (36, true)⟩ ?_ hHeld ?yyEg41 ?rrEg41
            case yyEg41 => (intro w hSw; (try dsimp only at hSw); go_simp; try with_reducible rfl)
            try simp only [Act.put, putA, putB, putC]
            refine tkL 42 ⟨some 108, .fieldAddr 46 (.tmp 107) 0, 0, _, #[⟨41, .data⟩, ⟨36, .guard⟩], some (36, true)⟩ ?_ hHeld ?yyEg42 ?rrEg42
            case yyEg42 => (intro w hSw; (try dsimp only at hSw); go_simp; try with_reducible rfl)
            try simp only [Act.put, putA, putB, putC]
            refine tkL 43 ⟨some 109, .load 3 (.tmp 108), 3, _, #[⟨42, .data⟩, ⟨36, .guard⟩], some (36, true)⟩ ?_ hHeld ?yyEg43 ?rrEg43
            case yyEg43 => (intro w hSw; (try dsimp only at hSw); go_simp; try with_reducible rfl)
            try simp only [Act.put, putA, putB, putC]
            refine tkL 44 ⟨some 110, .fieldAddr 46 (.tmp 6) 0, 0, _, #[⟨36, .guard⟩], some (36, true)⟩ ?_ hHeld ?yyEg44 ?rrEg44
            case yyEg44 => (intro w hSw; (try dsimp only at hSw); go_simp; try with_reducible rfl)
            try simp only [Act.put, putA, putB, putC]
            refine tkL 45 ⟨some 111, .load 3 (.tmp 110), 3, _, #[⟨44, .data⟩, ⟨36, .guard⟩], some (36, true)⟩ ?_ hHeld ?yyEg45 ?rrEg45
            case yyEg45 => (intro w hSw; (try dsimp only at hSw); go_simp; try with_reducible rfl)
            try simp only [Act.put, putA, putB, putC]
            refine tkL 46 ⟨some 112, .binOp .geq 3 (.tmp 109) (.tmp 111) 3, 4, _, #[⟨43, .data⟩, ⟨45, .data⟩, ⟨36, .guard⟩], some (36, true)⟩ ?_ hHeld ?yyEg46 ?rrEg46
            case yyEg46 => (intro w hSw; (try dsimp only at hSw); go_simp; try with_reducible rfl)
            try simp only [Act.put, putA, putB, putC]
            refine tkL 47 ⟨some 113, .pick (.tmp 102) (.tmp 112) (.const (.bool false)), 4, _, #[⟨36, .data⟩, ⟨46, .data⟩, ⟨33, .guard⟩], some (33, false)⟩ ?_ hHeld ?yyEg47 ?rrEg47
            case yyEg47 => (intro w hSw; (try dsimp only at hSw); go_simp; try with_reducible rfl)
            try simp only [Act.put, putA, putB, putC]
            refine tkL 48 ⟨some 114, .pick (.tmp 99) (.const (.bool true)) (.tmp 113), 4, _, #[⟨33, .data⟩, ⟨47, .data⟩], none⟩ ?_ hHeld ?yyEg48 ?rrEg48
            case yyEg48 => (intro w hSw; (try dsimp only at hSw); go_simp; try with_reducible rfl)
            try simp only [Act.put, putA, putB, putC]
            refine wpAnyH_done (by kernel_rfl) ?_ _
            by_cases hcmp : xp < y0
            · have hok : Hid (edgeB f1 d0 x3 (m + 1) = true) := by show _ = _; rw [hLk2.out]; exact decide_eq_true hcmp
              go_wp2
              go_roundw
              case rel => exact ⟨m + 1 + 1, by omega, by go_num, hB.trans hcur, upto_succ hno hok.out⟩
              case measure => simp [intOf]; omega
            · have hfin : Hid (graphB d0 d1 x2 x3 = false) := hbk (by rw [hLk2.out]; exact decide_eq_false hcmp)
              go_wp2
              go_ret
              exact ⟨ret_bool hfin.out.symm, hA.trans hcur⟩
        · have hkx : k2 = len1 := by omega
          subst hkx
          have HF : Hid (graphB d0 d1 x2 x3 = (decide (k ≤ 12) && decide (k2 ≤ 16) && inB x2 0 1000000000 && inB x3 0 1000000000)) := by show _ = _; rw [HG.out, hn0.out, all_yes hno]; rfl
          clear HG hn0 hno hbad1 hnode'
          generalize hib2 : inB x2 0 1000000000 = i2b at HF
          generalize hib3 : inB x3 0 1000000000 = i3b at HF
          by_cases l0 : k ≤ 12
          · have m0 : decide ((k : Int) ≤ 12) = true := decide_eq_true (by omega)
            by_cases l1 : k2 ≤ 16
            · have m1 : decide ((k2 : Int) ≤ 16) = true := decide_eq_true (by omega)
              cases i2b
              · go_wp2_with (go_at_call 11; refine (l1In_any _ _ _ _).mono ?_; rintro e w5 ⟨rfl, rfl⟩; first | rw [hib2] | rw [hib3])
                go_ret
                exact ⟨ret_bool (by rw [HF.out]; simp), hE0.trans hE⟩
              · go_wp2_with (go_at_call 11; refine (l1In_any _ _ _ _).mono ?_; rintro e w5 ⟨rfl, rfl⟩; first | rw [hib2] | rw [hib3])
                go_ret
                exact ⟨ret_bool (by rw [HF.out]; simp [l0, l1]), hE0.trans hE⟩
            · have m1 : decide ((k2 : Int) ≤ 16) = false := decide_eq_false (by omega)
              go_wp2
              go_ret
              exact ⟨ret_bool (by rw [HF.out]; simp [l1]), hE0.trans hE⟩
          · have m0 : decide ((k : Int) ≤ 12) = false := decide_eq_false (by omega)
            go_wp2
            go_ret
            exact ⟨ret_bool (by rw [HF.out]; simp [l0]), hE0.trans hE⟩
end Go.Proofs.YtbhmblkappmfjaaGreat
