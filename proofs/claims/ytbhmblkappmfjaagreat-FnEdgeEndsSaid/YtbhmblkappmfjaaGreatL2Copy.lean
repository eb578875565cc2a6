/- What spec.l2Copy answers: the same graph in new memory; its nodes are a row that may be appended to. -/
import Derived.Test.YtbhmblkappmfjaaGreatTk
import Derived.Test.YtbhmblkappmfjaaGreatGrS
import Derived.Test.YtbhmblkappmfjaaGreatSpC
import Derived.Test.YtbhmblkappmfjaaGreatNeN
import Derived.Test.YtbhmblkappmfjaaGreatDSz
import Derived.Deep.RegionHeld3
namespace Go.Proofs.YtbhmblkappmfjaaGreat
open Go.RowKit Go.Deep

theorem Tryz.infoNc : (Tryz.prog.info? 34).map (fun i => (i.zero, i.size, i.bytes)) = some (some (.agg #[.int .i64 0, .slice none 0 0, .slice none 0 0]), 3, 56) := by kernel_rfl
theorem Tryz.infoEc : (Tryz.prog.info? 46).map (fun i => (i.zero, i.size, i.bytes)) = some (some (.agg #[.int .i64 0, .string ⟨#[]⟩, .int .i64 0, .int .i64 0, .slice none 0 0]), 5, 64) := by kernel_rfl
theorem box_frz2 {w W : World} {cs : Array Value} {T : TypeId} (h : Ext (w.alloc (.cells cs T)) W) (o : Nat) : W.frozen? ⟨w.heap.size, o, none⟩ = false := by
  have hg := heap_alloc_new w (.cells cs T)
  rw [World.frozen?_of_block (Below.block h _ (by simp))]
  unfold World.frozen?
  rw [hg]
  simp
theorem chg_up {R R' : Nat → Prop} {a b c : World} (h : Chg R a b) (k : Chg R' b c) (hl : ∀ x, R' x → a.heap.size ≤ x ∨ R x) : Chg R a c :=
  ⟨k.os.trans h.os, k.tape.trans h.tape, k.output.trans h.output, Nat.le_trans h.size k.size, fun i hi ho => by rw [k.block i (Nat.lt_of_lt_of_le hi h.size) (fun hr => (hl i hr).elim (fun e => by omega) ho)]; exact h.block i hi ho⟩
theorem block_set {W : World} {b o : Nat} {cs : Array Value} {T : TypeId} {fr : Nat × Nat} (h : W.heap[b]? = some (.cells cs T fr)) (v : Value) : (W.setCell ⟨b, o, none⟩ v).heap[b]? = some (.cells (cs.setIfInBounds o v) T fr) := by
  unfold World.setCell
  simp only [Array.getElem?_modify, h]
  simp

set_option maxRecDepth 100000 in
set_option maxHeartbeats 8000000 in
theorem l2Copy_both (S : Nat → Prop) (d0 d1 : D) (c0 c1 : Value) (x2 x3 : Int) (w : World) (H0 : Has d0 (.list 4)) (h0 : DIn S w d0 c0) (s0 : SmallL d0) (H1 : Has d1 (.list 5)) (h1 : DIn S w d1 c1) (s1 : SmallL d1) :
    Calls Tryz.prog 17 #[.agg #[c0, c1, .int .i64 x2, .int .i64 x3]] w fun e w' => ∃ u0 u1 cs ds b0 b1, ∃ S0 S1 : Nat → Prop, e = .returned (.agg #[u0, u1, .int .i64 x2, .int .i64 x3]) ∧ w.heap.size ≤ b0 ∧ b0 ≤ w'.heap.size ∧ GRow w' S0 b0 34 3 d0.at! d0.len! u0 cs ∧ b1 ≤ w'.heap.size ∧ GRow w' S1 b1 46 5 d1.at! d1.len! u1 ds ∧ (∀ x, S0 x → w.heap.size ≤ x) ∧ (∀ x, S1 x → w.heap.size ≤ x ∧ x < w'.heap.size ∧ ¬ S0 x) ∧ Ext w w' := by
  obtain ⟨len0, f0, hd0e, HR0⟩ := H0.list
  obtain ⟨len1, f1, hd1e, HR1⟩ := H1.list
  subst hd0e hd1e
  obtain ⟨_, hl0, hsm0⟩ := s0
  obtain ⟨_, hl1, hsm1⟩ := s1
  change DIn S w (.list 3 len0 f0) c0 at h0
  change DIn S w (.list 5 len1 f1) c1 at h1
  change ∀ i, i < len0 → ∀ j, j < 3 → SmallL (f0 i j) at hsm0
  change ∀ i, i < len1 → ∀ j, j < 5 → SmallL (f1 i j) at hsm1
  obtain ⟨a0, cap0, rfl, hm0⟩ := h0.list_eq
  obtain ⟨a1, cap1, rfl, hm1⟩ := h1.list_eq
  clear hm0 hm1
  obtain ⟨i0, hi0, hz00, hz01, hz02⟩ := info_parts Tryz.infoNc
  obtain ⟨i1, hi1, hz10, hz11, hz12⟩ := info_parts Tryz.infoEc
  change Calls _ _ _ _ fun e w' => ∃ u0 u1 cs ds b0 b1, ∃ S0 S1 : Nat → Prop, e = .returned (.agg #[u0, u1, .int .i64 x2, .int .i64 x3]) ∧ w.heap.size ≤ b0 ∧ b0 ≤ w'.heap.size ∧ GRow w' S0 b0 34 3 f0 len0 u0 cs ∧ b1 ≤ w'.heap.size ∧ GRow w' S1 b1 46 5 f1 len1 u1 ds ∧ (∀ x, S0 x → w.heap.size ≤ x) ∧ (∀ x, S1 x → w.heap.size ≤ x ∧ x < w'.heap.size ∧ ¬ S0 x) ∧ Ext w w'
  go_enter Tryz.func17, Tryz.ntmps17
  go_wp2
  obtain ⟨Wa, hWa⟩ : ∃ Wa, Wa = ((w.alloc (.cells #[.slice a0 len0 cap0, .slice a1 len1 cap1, .int .i64 x2, .int .i64 x3] 26)).alloc (.cells #[.slice none 0 0, .slice none 0 0, .int .i64 0, .int .i64 0] 26)).alloc (.cells #[.slice none 0 0, .slice none 0 0, .int .i64 x2, .int .i64 x3] 26) := ⟨_, rfl⟩
  rw [← hWa]
  have hEa : Ext w Wa := by rw [hWa]; exact (((Ext.refl _).alloc _).alloc _).alloc _
  have hza : Wa.heap.size = w.heap.size + 3 := by rw [hWa]; simp
  have hga0 : Wa.cell? ⟨w.heap.size, 0, none⟩ = some (.slice a0 len0 cap0) := by rw [hWa]; exact box_cell (((Ext.refl _).alloc _).alloc _) 0 _ rfl
  have hga1 : Wa.cell? ⟨w.heap.size, 1, none⟩ = some (.slice a1 len1 cap1) := by rw [hWa]; exact box_cell (((Ext.refl _).alloc _).alloc _) 1 _ rfl
  have hra : Wa.heap[w.heap.size + 1]? = some (.cells #[.slice none 0 0, .slice none 0 0, .int .i64 0, .int .i64 0] 26 (0, 0)) := by
    rw [hWa, Below.block ((Ext.refl _).alloc _) _ (by simp)]
    have := heap_alloc_new (w.alloc (.cells #[.slice a0 len0 cap0, .slice a1 len1 cap1, .int .i64 x2, .int .i64 x3] 26)) (.cells #[.slice none 0 0, .slice none 0 0, .int .i64 0, .int .i64 0] 26)
    rwa [World.size_alloc] at this
  have hoa : Wa.heap[w.heap.size + 2]? = some (.cells #[.slice none 0 0, .slice none 0 0, .int .i64 x2, .int .i64 x3] 26 (0, 0)) := by
    rw [hWa]
    have := heap_alloc_new ((w.alloc (.cells #[.slice a0 len0 cap0, .slice a1 len1 cap1, .int .i64 x2, .int .i64 x3] 26)).alloc (.cells #[.slice none 0 0, .slice none 0 0, .int .i64 0, .int .i64 0] 26)) (.cells #[.slice none 0 0, .slice none 0 0, .int .i64 x2, .int .i64 x3] 26)
    rwa [World.size_alloc, World.size_alloc] at this
  clear hWa
  generalize hgb : w.heap.size = gb at *
  generalize hob : gb + 2 = ob at *
  go_loopw [4] (fun i wr => ∃ (k : Nat) (u : Value) (cs : List Value), i = .int .i64 k ∧ k ≤ len0 ∧ GSt wr Wa.heap.size 34 3 f0 k u cs ∧ wr.heap[ob]? = some (.cells #[u, .slice none 0 0, .int .i64 x2, .int .i64 x3] 26 (0, 0)) ∧ Chg (fun x => x = ob) Wa wr) (fun i _ => len0 - (intOf i).toNat)
  case atStart => exact ⟨0, _, [], rfl, Nat.zero_le _, GSt.nil _ _ _ _ _, hoa, Chg.refl _ _⟩
  case round =>
    obtain ⟨k, u, cs, rfl, hk, hG, hB, hC⟩ := hrel
    obtain ⟨ua, ucap, rfl⟩ := hG.shape
    have hE : Ext w wr := hC.toExt hEa (fun x hx => by omega)
    have o0 : wr.cell? ⟨ob, 0, none⟩ = some (.slice ua k ucap) := by simp [World.cell?, hB]
    have g0 : wr.cell? ⟨gb, 0, none⟩ = some (.slice a0 len0 cap0) := by rw [hC.cell (by omega) (by omega)]; exact hga0
    have hzr := hC.size
    by_cases hkl : k < len0
    · obtain ⟨cap2, b, off, C, hsl, _, hbl, ec, hx⟩ := (h0.ext hE).at hkl
      cases hsl
      have HR := HR0 k hkl
      obtain ⟨id, hd0⟩ := (show Has (f0 k 0) .int from HR 0 (by decide)).int
      have HL : Has (f0 k 1) (.list 0) := HR 1 (by decide)
      have HP : Has (f0 k 2) (.list 3) := HR 2 (by decide)
      have k0 := hx 0 (by decide)
      have k1 := hx 1 (by decide)
      have k2 := hx 2 (by decide)
      have e0 := ec 0 (by decide)
      have e1 := ec 1 (by decide)
      have e2 := ec 2 (by decide)
      rw [hd0] at k0
      obtain ⟨y0, z0⟩ := k0.int_eq
      rw [y0] at e0
      simp only [Nat.add_zero] at e0
      obtain ⟨lL, fL, hL, HRl⟩ := HL.list
      have sL := hsm0 k hkl 1 (by decide)
      rw [hL] at k1 sL
      change DIn S wr (.list 1 lL fL) (C 1) at k1
      have hlL : lL ≤ 1048576 := sL.2.1
      obtain ⟨aL, capL, hcL, _⟩ := k1.list_eq
      rw [hcL] at e1 k1
      have hps := fun (W : World) (hW : Ext wr W) => l2Ps_any (f0 k 2) HP (hsm0 k hkl 2 (by decide)) S (C 2) W (k2.ext hW)
      obtain ⟨aP, capP, lP, fP, hD, hcP, _, _⟩ := list_shape HP k2
      rw [hcP] at e2 hps
      clear hD ec hx k0 k2 y0
      obtain ⟨wb, hwb⟩ : ∃ wb, wb = wr.alloc (.cells #[.int .i64 id, .slice aL lL capL, .slice aP lP capP] 34) := ⟨_, rfl⟩
      have hEb : Ext wr wb := by rw [hwb]; exact (Ext.refl _).alloc _
      have hzb : wb.heap.size ≤ wr.heap.size + 1 := by rw [hwb]; simp
      have hzb2 : wr.heap.size + 1 ≤ wb.heap.size := by rw [hwb]; simp
      have hnode : ∀ W, Ext wb W → W.cell? ⟨wr.heap.size, 0, none⟩ = some (.int .i64 id) ∧ W.cell? ⟨wr.heap.size, 1, none⟩ = some (.slice aL lL capL) ∧ W.cell? ⟨wr.heap.size, 2, none⟩ = some (.slice aP lP capP) := fun W hW => by
        rw [hwb] at hW; exact ⟨box_cell hW 0 _ rfl, box_cell hW 1 _ rfl, box_cell hW 2 _ rfl⟩
      have hE0 : Ext wr wb.drew := hEb.drew
      have hlab := fun (W : World) (hW : Ext wr W) => k1.ext hW
      have hGd := hG.ext hE0
      go_wp2_with fail
      rw [← hwb]
      clear hwb
      have hBd : ∀ W, Ext wb.drew W → W.heap[ob]? = some (.cells #[.slice ua k ucap, .slice none 0 0, .int .i64 x2, .int .i64 x3] 26 (0, 0)) := fun W hW => by rw [Below.block ((hEb.trans ((Ext.refl _).drew)).trans hW) _ (by omega)]; exact hB
      have hOb : ∀ W, Ext wb.drew W → W.cell? ⟨ob, 0, none⟩ = some (.slice ua k ucap) := fun W hW => by simp [World.cell?, hBd W hW]
      have hrl := fun x hx => hG.row.lt x hx
      have HK : Hid (∀ W, Chg (fun x => x = ob ∨ (Value.slice ua k ucap).ownBlock = some x) wb.drew W → W.cell? ⟨wr.heap.size, 0, none⟩ = some (.int .i64 id) ∧ W.cell? ⟨wr.heap.size, 1, none⟩ = some (.slice aL lL capL) ∧ W.cell? ⟨wr.heap.size, 2, none⟩ = some (.slice aP lP capP)) := fun W hW => by
        have hbk : W.heap[wr.heap.size]? = wb.drew.heap[wr.heap.size]? := hW.block _ (show wr.heap.size < wb.heap.size by omega) (fun h => h.elim (fun e => by omega) (fun e => by have := (hrl _ e).2; omega))
        obtain ⟨n0, n1, n2⟩ := hnode wb.drew (Ext.refl _).drew
        exact ⟨(World.cell?_of_block hbk).trans n0, (World.cell?_of_block hbk).trans n1, (World.cell?_of_block hbk).trans n2⟩
      have hzw : wb.drew.heap.size ≤ wb.heap.size := Nat.le_refl _
      have hzw2 : wb.heap.size ≤ wb.drew.heap.size := Nat.le_refl _
      have hcur : Chg (fun x => x = ob ∨ (Value.slice ua k ucap).ownBlock = some x) wb.drew wb.drew := Chg.refl _ _
      refine wp_region_held_drew (S := (fun W => W.cell? ⟨wr.heap.size, 0, none⟩ = some (.int .i64 id) ∧ W.cell? ⟨wr.heap.size, 1, none⟩ = some (.slice aL lL capL) ∧ W.cell? ⟨wr.heap.size, 2, none⟩ = some (.slice aP lP capP))) (by kernel_rfl) (HK.out _ hcur) (fun hHeld => ?_)
      refine tkL 0 ⟨some 25, .fieldAddr 26 (.tmp 3) 0, 0, _, #[], none⟩ ?_ hHeld ?yyA00 ?rrA00
      case yyA00 => (intro w hSw; (try dsimp only at hSw); go_simp; try with_reducible rfl)
      try simp only [Act.put, putA, putB, putC]
      refine tkL 2 ⟨some 27, .fieldAddr 34 (.tmp 5) 0, 0, _, #[], none⟩ ?_ hHeld ?yyA02 ?rrA02
      case yyA02 => (intro w hSw; (try dsimp only at hSw); go_simp; try with_reducible rfl)
      try simp only [Act.put, putA, putB, putC]
      refine tkL 3 ⟨some 28, .load 3 (.tmp 27), 3, _, #[⟨2, .data⟩], none⟩ ?_ hHeld ?yyA03 ?rrA03
      case yyA03 => (intro w hSw; (try dsimp only at hSw); go_simp; try with_reducible rfl)
      try simp only [Act.put, putA, putB, putC]
      refine tkL 5 ⟨some 30, .fieldAddr 34 (.tmp 5) 1, 0, _, #[], none⟩ ?_ hHeld ?yyA05 ?rrA05
      case yyA05 => (intro w hSw; (try dsimp only at hSw); go_simp; try with_reducible rfl)
      try simp only [Act.put, putA, putB, putC]
      refine tkL 6 ⟨some 31, .load 31 (.tmp 30), 31, _, #[⟨5, .data⟩], none⟩ ?_ hHeld ?yyA06 ?rrA06
      case yyA06 => (intro w hSw; (try dsimp only at hSw); go_simp; try with_reducible rfl)
      try simp only [Act.put, putA, putB, putC]
      refine tkL 8 ⟨some 33, .fieldAddr 34 (.tmp 5) 2, 0, _, #[], none⟩ ?_ hHeld ?yyA08 ?rrA08
      case yyA08 => (intro w hSw; (try dsimp only at hSw); go_simp; try with_reducible rfl)
      try simp only [Act.put, putA, putB, putC]
      refine tkL 9 ⟨some 34, .load 32 (.tmp 33), 32, _, #[⟨8, .data⟩], none⟩ ?_ hHeld ?yyA09 ?rrA09
      case yyA09 => (intro w hSw; (try dsimp only at hSw); go_simp; try with_reducible rfl)
      try simp only [Act.put, putA, putB, putC]
      generalize hWd : wb.drew = W0 at *
      clear hcur
      refine wpAnyH_ready (rs := [1, 4]) (by kernel_rfl) (by simp) ?_
      refine AllReadyH.cons (o := ⟨some 26, .load 23 (.tmp 25), 23, _, #[⟨0, .data⟩], none⟩) rfl (fun K hK => ?_) (AllReadyH.cons (o := ⟨some 29, .buildSlice 31 0 #[], 31, _, #[], none⟩) rfl (fun K hK => ?_) (AllReadyH.nil))
      · have oN := hOb W0 (Ext.refl W0)
        go_simp
        refine hK.out _ _ (HK.out _ (Chg.of_ext (Ext.refl W0))) (fun hHeld => ?_)
        clear oN
        clear hK K
        try simp only [Act.put, putA, putB, putC]
        refine wpAnyH_ready (rs := [4]) (by kernel_rfl) (by simp) ?_
        refine AllReadyH.cons (o := ⟨some 29, .buildSlice 31 0 #[], 31, _, #[], none⟩) rfl (fun K hK => ?_) (AllReadyH.nil)
        go_simp
        have hm4 := World.ownsRow_made (e := 9) (size := 1) (base := Wa.heap.size) W0 #[] 0 (by have := (Ext.refl W0).le; omega) (Nat.zero_le _) (by simp)
        have hx4 : Ext W0 (W0.alloc (.cells #[] 9)) := (Ext.refl _).alloc _
        have hs4 : (W0.alloc (.cells #[] 9)).heap.size = W0.heap.size + 1 := by simp
        obtain ⟨n4, hn4⟩ : ∃ m, m = W0.heap.size := ⟨_, rfl⟩
        have hb4 := (Ext.refl W0).le
        have hEW24 : Ext W0 (W0.alloc (.cells #[] 9)) := (Ext.refl W0).trans hx4
        rw [← hn4] at hm4 ⊢
        generalize W0.alloc (.cells #[] 9) = W24 at *
        have hn4a := Nat.le_of_eq hn4
        have hn4b := Nat.le_of_eq hn4.symm
        have hs4a := Nat.le_of_eq hs4
        have hs4b := Nat.le_of_eq hs4.symm
        clear hn4 hs4
        refine hK.out _ _ (HK.out _ (Chg.of_ext hEW24)) (fun hHeld => ?_)
        clear hK K
        try simp only [Act.put, putA, putB, putC]
        refine wpAnyH_ready (rs := [7]) (by kernel_rfl) (by simp) ?_
        refine AllReadyH.cons (o := ⟨some 32, .call { callee := .builtin .append, args := #[.tmp 29, .tmp 31], argTypes := #[31, 31] }, 31, _, #[⟨4, .data⟩, ⟨6, .data⟩], none⟩) rfl (fun K hK => ?_) (AllReadyH.nil)
        refine step_append_strs (by rfl) _ _ (by rfl) W24 HRl (hlab _ (hE0.trans (hEW24))) hlL (base := Wa.heap.size) (by have := (hEW24).le; omega) (v := .slice (some ⟨n4, 0, none⟩) 0 0) hm4 (by rfl) (by rfl) ?_
        intro la lc W37 hown5 hg5 hloc5
        have hEW37 : Ext W0 W37 := Below.grown (hEW24) hg5 (hEW24).le (fun j hj => by have e : n4 = j := Option.some.inj hj; omega)
        have hb5 := (hEW24).le
        have hs5 := hg5.size
        have hlt5 := fun x hx => hown5.lt x hx
        have hend5 := strs_end HRl (strs_sizes HRl (hlab _ (hE0.trans (hEW24)))) (by unfold maxLen; omega) hown5
        obtain ⟨s5, hs5e⟩ : ∃ m, m = W24.heap.size := ⟨_, rfl⟩
        rw [← hs5e] at hloc5
        have hs5a := Nat.le_of_eq hs5e
        have hs5b := Nat.le_of_eq hs5e.symm
        clear hs5e
        refine hK.out _ _ (HK.out _ (Chg.of_ext hEW37)) (fun hHeld => ?_)
        clear hK K
        try simp only [Act.put, putA, putB, putC]
        refine wpAnyH_ready (rs := [10]) (by kernel_rfl) (by simp) ?_
        refine AllReadyH.cons (o := ⟨some 35, .call { callee := .value (.func 34), args := #[.tmp 34], argTypes := #[32] }, 32, _, #[⟨9, .data⟩, ⟨7, .chain⟩], none⟩) rfl (fun K hK => ?_) (AllReadyH.nil)
        go_simp
        refine (hps W37 (hE0.trans (hEW37))).mono ?_
        rintro e W410 ⟨pa, pl, pc, rfl, ⟨hDp, hOp⟩, hE6⟩
        have hEW410 : Ext W0 W410 := (hEW37).trans hE6
        have hb6 := (hEW37).le
        have hs6 := hE6.le
        obtain ⟨p6, hp6⟩ : ∃ m, m = W37.heap.size := ⟨_, rfl⟩
        obtain ⟨q6, hq6⟩ : ∃ m, m = W410.heap.size := ⟨_, rfl⟩
        rw [← hp6, ← hq6] at hDp hOp
        have hp6a := Nat.le_of_eq hp6
        have hp6b := Nat.le_of_eq hp6.symm
        have hq6a := Nat.le_of_eq hq6
        have hq6b := Nat.le_of_eq hq6.symm
        clear hp6 hq6
        go_wp2_with fail
        refine hK.out _ _ (HK.out _ (Chg.of_ext hEW410)) (fun hHeld => ?_)
        clear hK K
        try simp only [Act.put, putA, putB, putC]
        refine tkL 11 ⟨some 36, .build 34 #[(0, .tmp 28), (1, .tmp 32), (2, .tmp 35)], 34, _, #[⟨3, .data⟩, ⟨7, .data⟩, ⟨10, .data⟩], none⟩ ?_ hHeld ?yyA511 ?rrA511
        case yyA511 => (intro w hSw; (try dsimp only at hSw); go_simp; try with_reducible rfl)
        try simp only [Act.put, putA, putB, putC]
        refine wpAnyH_ready (rs := [12]) (by kernel_rfl) (by simp) ?_
        refine AllReadyH.cons (o := ⟨some 37, .buildSlice 23 1 #[(0, .tmp 36)], 23, _, #[⟨11, .data⟩], none⟩) rfl (fun K hK => ?_) (AllReadyH.nil)
        go_simp
        refine hK.out _ _ (HK.out _ (Chg.of_ext ((hEW410).alloc _))) (fun hHeld => ?_)
        clear hK K
        try simp only [Act.put, putA, putB, putC]
        have hDl := hend5.1.ext hE6
        have hOl := hend5.2.ext hE6
        have hQL : ∀ x, (Value.slice la lL lc).ownBlock = some x → W0.heap.size ≤ x ∧ x < W410.heap.size ∧ ¬ New p6 q6 x := by
          intro x hx
          have h0 := hlt5 x hx
          rcases hloc5 with e | e
          · rw [e] at hx
            have hx2 : n4 = x := Option.some.inj hx
            exact ⟨by omega, by omega, fun h => by have h1 := h.1; have h2 := h.2; omega⟩
          · rw [e] at hx
            have hx2 : s5 = x := Option.some.inj hx
            exact ⟨by omega, by omega, fun h => by have h1 := h.1; have h2 := h.2; omega⟩
        have hQP : ∀ x, New p6 q6 x → W0.heap.size ≤ x ∧ x < W410.heap.size := fun x hx => by have h1 := hx.1; have h2 := hx.2; omega
        refine wpAnyH_ready (rs := [13]) (by kernel_rfl) (by simp) ?_
        refine AllReadyH.cons (o := ⟨some 38, .call { callee := .builtin .append, args := #[.tmp 26, .tmp 37], argTypes := #[23, 23] }, 23, _, #[⟨1, .data⟩, ⟨12, .data⟩, ⟨10, .chain⟩], none⟩) rfl (fun K hK => ?_) (AllReadyH.nil)
        have hrow := (hGd.ext (hEW410)).row
        refine step_append_lies _ (by rfl) _ _ _ (by rfl) Wa.heap.size 34 i0 _ 3 56 Tryz.underlying23 hi0 hz00 hz01 hz02 rfl (by omega) (Value.slice ua k ucap) k cs (by rfl) (hrow.alloc _) ⟨W410.heap.size, 0, none⟩ 1 1 [.int .i64 id, .slice la lL lc, .slice pa pl pc] (by rfl) (by rfl) (World.news_of_block (cs := #[.int .i64 id, .slice la lL lc, .slice pa pl pc]) (t := 34) (fr := (0, 0)) (heap_alloc_new W410 _)) (by simp [Value.oneCell']) (by omega) (by unfold maxLen; omega) (by omega) (by have := (hEW410).le; simp; omega) (W410.heap.size + 1) (by simp) ?_
        intro g gcap w9 hown9 hgrow9 hat9 hlt9
        have hcur9 : Chg (fun x => x = ob ∨ (Value.slice ua k ucap).ownBlock = some x) W0 w9 := (Chg.of_ext ((hEW410).alloc _)).grown hgrow9 (fun b hb => .inr hb)
        refine hK.out _ _ (HK.out _ hcur9) (fun hHeld => ?_)
        clear hK K
        try simp only [Act.put, putA, putB, putC]
        refine tkL 14 ⟨some 39, .fieldAddr 26 (.tmp 3) 0, 0, _, #[⟨0, .phase⟩, ⟨1, .phase⟩, ⟨2, .phase⟩, ⟨3, .phase⟩, ⟨4, .phase⟩, ⟨5, .phase⟩, ⟨6, .phase⟩, ⟨7, .phase⟩, ⟨8, .phase⟩, ⟨9, .phase⟩, ⟨10, .phase⟩, ⟨11, .phase⟩, ⟨12, .phase⟩, ⟨13, .phase⟩], none⟩ ?_ hHeld ?yyA714 ?rrA714
        case yyA714 => (intro w hSw; (try dsimp only at hSw); go_simp; try with_reducible rfl)
        try simp only [Act.put, putA, putB, putC]
        refine wpAnyH_ready (rs := [15]) (by kernel_rfl) (by simp) ?_
        refine AllReadyH.cons (o := ⟨none, .store 23 (.tmp 39) (.tmp 38), 0, _, #[⟨14, .data⟩, ⟨13, .data⟩, ⟨13, .chain⟩, ⟨0, .phase⟩, ⟨1, .phase⟩, ⟨2, .phase⟩, ⟨3, .phase⟩, ⟨4, .phase⟩, ⟨5, .phase⟩, ⟨6, .phase⟩, ⟨7, .phase⟩, ⟨8, .phase⟩, ⟨9, .phase⟩, ⟨10, .phase⟩, ⟨11, .phase⟩, ⟨12, .phase⟩, ⟨13, .phase⟩], none⟩) rfl (fun K hK => ?_) (AllReadyH.nil)
        have hA : Ext W410 (W410.alloc (.cells #[.int .i64 id, .slice la lL lc, .slice pa pl pc] 34)) := (Ext.refl _).alloc _
        have hB9 : w9.heap[ob]? = some (.cells #[.slice ua k ucap, .slice none 0 0, .int .i64 x2, .int .i64 x3] 26 (0, 0)) := by
          rw [hgrow9.block ob (by have := (hEW410).le; simp; omega) (fun e => by have := (hrl _ e.symm).1; omega)]
          exact hBd _ ((hEW410).trans hA)
        have hB9f : w9.frozen? ⟨ob, 0, none⟩ = false := by simp [World.frozen?, hB9]
        have hB9c : w9.cell? ⟨ob, 0, none⟩ = some (.slice ua k ucap) := by simp [World.cell?, hB9]
        go_simp
        refine hK.out _ _ (HK.out _ (hcur9.setCell (p := ⟨ob, 0, none⟩) (.inl rfl) _)) (fun hHeld => ?_)
        clear hK K
        try simp only [Act.put, putA, putB, putC]
        refine wpAnyH_done (by kernel_rfl) ?_ _
        clear hHeld HK
        clear hOb
        have hrow4 : GSt w9 Wa.heap.size 34 3 f0 (k + 1) (.slice (some ⟨g, 0, none⟩) (k + 1) gcap) (cs ++ [.int .i64 id, .slice la lL lc, .slice pa pl pc]) := by
          refine hGd.push (w1 := W410.alloc _) ((hEW410).trans hA) (by omega) [.int .i64 id, .slice la lL lc, .slice pa pl pc] rfl (fun j => if j = 1 then (fun x => (Value.slice la lL lc).ownBlock = some x) else if j = 2 then New p6 q6 else fun _ => False) (fun j hj => ?_) (fun j j' hj hj' hne x hx hx' => ?_) hown9 hgrow9 ?_
          · have hc4 : j = 0 ∨ j = 1 ∨ j = 2 := by omega
            rcases hc4 with rfl | rfl | rfl
            · rw [hd0]; exact ⟨⟨rfl, z0⟩, trivial, fun x hx => absurd hx (by simp)⟩
            · rw [hL]; exact ⟨hDl.ext hA, hOl.ext hA, fun x hx => ⟨(hQL x hx).1, Nat.lt_of_lt_of_le (hQL x hx).2.1 hA.le⟩⟩
            · exact ⟨hDp.ext hA, hOp.ext hA, fun x hx => ⟨(hQP x hx).1, Nat.lt_of_lt_of_le (hQP x hx).2 hA.le⟩⟩
          · have h1 : j = 1 ∨ j = 2 ∨ (j ≠ 1 ∧ j ≠ 2) := by omega
            have h2 : j' = 1 ∨ j' = 2 ∨ (j' ≠ 1 ∧ j' ≠ 2) := by omega
            rcases h1 with rfl | rfl | ⟨h1, h1'⟩
            · rcases h2 with rfl | rfl | ⟨h2, h2'⟩
              · exact hne rfl
              · exact (hQL x hx).2.2 hx'
              · rw [if_neg h2, if_neg h2'] at hx'; exact hx'
            · rcases h2 with rfl | rfl | ⟨h2, h2'⟩
              · exact (hQL x hx').2.2 hx
              · exact hne rfl
              · rw [if_neg h2, if_neg h2'] at hx'; exact hx'
            · rw [if_neg h1, if_neg h1'] at hx; exact hx
          · rcases hat9 with e | e
            · exact .inl e.symm
            · right; subst e; simp [Value.ownBlock]
        have hB10 : (w9.setCell ⟨ob, 0, none⟩ (.slice (some ⟨g, 0, none⟩) (k + 1) gcap)).heap[ob]? = some (.cells #[.slice (some ⟨g, 0, none⟩) (k + 1) gcap, .slice none 0 0, .int .i64 x2, .int .i64 x3] 26 (0, 0)) := by
          have := block_set (o := 0) hB9 (.slice (some ⟨g, 0, none⟩) (k + 1) gcap)
          simpa using this
        have hC10 : Chg (fun x => x = ob) Wa (w9.setCell ⟨ob, 0, none⟩ (.slice (some ⟨g, 0, none⟩) (k + 1) gcap)) := chg_up (hC.trans (Chg.of_ext (hE0))) (hcur9.setCell (p := ⟨ob, 0, none⟩) (.inl rfl) _) (fun x hx => hx.elim (fun e => .inr e) (fun e => .inl (hrl _ e).1))
        have hG10 := hrow4.setLow (p := ⟨ob, 0, none⟩) (show ob < Wa.heap.size by omega) (.slice (some ⟨g, 0, none⟩) (k + 1) gcap)
        clear hrow4 hB9 hcur9 hDl hOl hDp hOp hQL hQP hend5 hrow
        go_wp2
        go_roundw
        case rel => exact ⟨k + 1, _, _, by go_num, by omega, hG10, hB10, hC10⟩
        case measure => simp [intOf]; omega
      · go_simp
        have hm4 := World.ownsRow_made (e := 9) (size := 1) (base := Wa.heap.size) W0 #[] 0 (by have := (Ext.refl W0).le; omega) (Nat.zero_le _) (by simp)
        have hx4 : Ext W0 (W0.alloc (.cells #[] 9)) := (Ext.refl _).alloc _
        have hs4 : (W0.alloc (.cells #[] 9)).heap.size = W0.heap.size + 1 := by simp
        obtain ⟨n4, hn4⟩ : ∃ m, m = W0.heap.size := ⟨_, rfl⟩
        have hb4 := (Ext.refl W0).le
        have hEW14 : Ext W0 (W0.alloc (.cells #[] 9)) := (Ext.refl W0).trans hx4
        rw [← hn4] at hm4 ⊢
        generalize W0.alloc (.cells #[] 9) = W14 at *
        have hn4a := Nat.le_of_eq hn4
        have hn4b := Nat.le_of_eq hn4.symm
        have hs4a := Nat.le_of_eq hs4
        have hs4b := Nat.le_of_eq hs4.symm
        clear hn4 hs4
        refine hK.out _ _ (HK.out _ (Chg.of_ext hEW14)) (fun hHeld => ?_)
        clear hK K
        try simp only [Act.put, putA, putB, putC]
        refine wpAnyH_ready (rs := [1, 7]) (by kernel_rfl) (by simp) ?_
        refine AllReadyH.cons (o := ⟨some 26, .load 23 (.tmp 25), 23, _, #[⟨0, .data⟩], none⟩) rfl (fun K hK => ?_) (AllReadyH.cons (o := ⟨some 32, .call { callee := .builtin .append, args := #[.tmp 29, .tmp 31], argTypes := #[31, 31] }, 31, _, #[⟨4, .data⟩, ⟨6, .data⟩], none⟩) rfl (fun K hK => ?_) (AllReadyH.nil))
        · have oN := hOb W14 (hEW14)
          go_simp
          refine hK.out _ _ (HK.out _ (Chg.of_ext (hEW14))) (fun hHeld => ?_)
          clear oN
          clear hK K
          try simp only [Act.put, putA, putB, putC]
          refine wpAnyH_ready (rs := [7]) (by kernel_rfl) (by simp) ?_
          refine AllReadyH.cons (o := ⟨some 32, .call { callee := .builtin .append, args := #[.tmp 29, .tmp 31], argTypes := #[31, 31] }, 31, _, #[⟨4, .data⟩, ⟨6, .data⟩], none⟩) rfl (fun K hK => ?_) (AllReadyH.nil)
          refine step_append_strs (by rfl) _ _ (by rfl) W14 HRl (hlab _ (hE0.trans (hEW14))) hlL (base := Wa.heap.size) (by have := (hEW14).le; omega) (v := .slice (some ⟨n4, 0, none⟩) 0 0) hm4 (by rfl) (by rfl) ?_
          intro la lc W37 hown5 hg5 hloc5
          have hEW37 : Ext W0 W37 := Below.grown (hEW14) hg5 (hEW14).le (fun j hj => by have e : n4 = j := Option.some.inj hj; omega)
          have hb5 := (hEW14).le
          have hs5 := hg5.size
          have hlt5 := fun x hx => hown5.lt x hx
          have hend5 := strs_end HRl (strs_sizes HRl (hlab _ (hE0.trans (hEW14)))) (by unfold maxLen; omega) hown5
          obtain ⟨s5, hs5e⟩ : ∃ m, m = W14.heap.size := ⟨_, rfl⟩
          rw [← hs5e] at hloc5
          have hs5a := Nat.le_of_eq hs5e
          have hs5b := Nat.le_of_eq hs5e.symm
          clear hs5e
          refine hK.out _ _ (HK.out _ (Chg.of_ext hEW37)) (fun hHeld => ?_)
          clear hK K
          try simp only [Act.put, putA, putB, putC]
          refine wpAnyH_ready (rs := [10]) (by kernel_rfl) (by simp) ?_
          refine AllReadyH.cons (o := ⟨some 35, .call { callee := .value (.func 34), args := #[.tmp 34], argTypes := #[32] }, 32, _, #[⟨9, .data⟩, ⟨7, .chain⟩], none⟩) rfl (fun K hK => ?_) (AllReadyH.nil)
          go_simp
          refine (hps W37 (hE0.trans (hEW37))).mono ?_
          rintro e W410 ⟨pa, pl, pc, rfl, ⟨hDp, hOp⟩, hE6⟩
          have hEW410 : Ext W0 W410 := (hEW37).trans hE6
          have hb6 := (hEW37).le
          have hs6 := hE6.le
          obtain ⟨p6, hp6⟩ : ∃ m, m = W37.heap.size := ⟨_, rfl⟩
          obtain ⟨q6, hq6⟩ : ∃ m, m = W410.heap.size := ⟨_, rfl⟩
          rw [← hp6, ← hq6] at hDp hOp
          have hp6a := Nat.le_of_eq hp6
          have hp6b := Nat.le_of_eq hp6.symm
          have hq6a := Nat.le_of_eq hq6
          have hq6b := Nat.le_of_eq hq6.symm
          clear hp6 hq6
          go_wp2_with fail
          refine hK.out _ _ (HK.out _ (Chg.of_ext hEW410)) (fun hHeld => ?_)
          clear hK K
          try simp only [Act.put, putA, putB, putC]
          refine tkL 11 ⟨some 36, .build 34 #[(0, .tmp 28), (1, .tmp 32), (2, .tmp 35)], 34, _, #[⟨3, .data⟩, ⟨7, .data⟩, ⟨10, .data⟩], none⟩ ?_ hHeld ?yyA1111 ?rrA1111
          case yyA1111 => (intro w hSw; (try dsimp only at hSw); go_simp; try with_reducible rfl)
          try simp only [Act.put, putA, putB, putC]
          refine wpAnyH_ready (rs := [12]) (by kernel_rfl) (by simp) ?_
          refine AllReadyH.cons (o := ⟨some 37, .buildSlice 23 1 #[(0, .tmp 36)], 23, _, #[⟨11, .data⟩], none⟩) rfl (fun K hK => ?_) (AllReadyH.nil)
          go_simp
          refine hK.out _ _ (HK.out _ (Chg.of_ext ((hEW410).alloc _))) (fun hHeld => ?_)
          clear hK K
          try simp only [Act.put, putA, putB, putC]
          have hDl := hend5.1.ext hE6
          have hOl := hend5.2.ext hE6
          have hQL : ∀ x, (Value.slice la lL lc).ownBlock = some x → W0.heap.size ≤ x ∧ x < W410.heap.size ∧ ¬ New p6 q6 x := by
            intro x hx
            have h0 := hlt5 x hx
            rcases hloc5 with e | e
            · rw [e] at hx
              have hx2 : n4 = x := Option.some.inj hx
              exact ⟨by omega, by omega, fun h => by have h1 := h.1; have h2 := h.2; omega⟩
            · rw [e] at hx
              have hx2 : s5 = x := Option.some.inj hx
              exact ⟨by omega, by omega, fun h => by have h1 := h.1; have h2 := h.2; omega⟩
          have hQP : ∀ x, New p6 q6 x → W0.heap.size ≤ x ∧ x < W410.heap.size := fun x hx => by have h1 := hx.1; have h2 := hx.2; omega
          refine wpAnyH_ready (rs := [13]) (by kernel_rfl) (by simp) ?_
          refine AllReadyH.cons (o := ⟨some 38, .call { callee := .builtin .append, args := #[.tmp 26, .tmp 37], argTypes := #[23, 23] }, 23, _, #[⟨1, .data⟩, ⟨12, .data⟩, ⟨10, .chain⟩], none⟩) rfl (fun K hK => ?_) (AllReadyH.nil)
          have hrow := (hGd.ext (hEW410)).row
          refine step_append_lies _ (by rfl) _ _ _ (by rfl) Wa.heap.size 34 i0 _ 3 56 Tryz.underlying23 hi0 hz00 hz01 hz02 rfl (by omega) (Value.slice ua k ucap) k cs (by rfl) (hrow.alloc _) ⟨W410.heap.size, 0, none⟩ 1 1 [.int .i64 id, .slice la lL lc, .slice pa pl pc] (by rfl) (by rfl) (World.news_of_block (cs := #[.int .i64 id, .slice la lL lc, .slice pa pl pc]) (t := 34) (fr := (0, 0)) (heap_alloc_new W410 _)) (by simp [Value.oneCell']) (by omega) (by unfold maxLen; omega) (by omega) (by have := (hEW410).le; simp; omega) (W410.heap.size + 1) (by simp) ?_
          intro g gcap w9 hown9 hgrow9 hat9 hlt9
          have hcur9 : Chg (fun x => x = ob ∨ (Value.slice ua k ucap).ownBlock = some x) W0 w9 := (Chg.of_ext ((hEW410).alloc _)).grown hgrow9 (fun b hb => .inr hb)
          refine hK.out _ _ (HK.out _ hcur9) (fun hHeld => ?_)
          clear hK K
          try simp only [Act.put, putA, putB, putC]
          refine tkL 14 ⟨some 39, .fieldAddr 26 (.tmp 3) 0, 0, _, #[⟨0, .phase⟩, ⟨1, .phase⟩, ⟨2, .phase⟩, ⟨3, .phase⟩, ⟨4, .phase⟩, ⟨5, .phase⟩, ⟨6, .phase⟩, ⟨7, .phase⟩, ⟨8, .phase⟩, ⟨9, .phase⟩, ⟨10, .phase⟩, ⟨11, .phase⟩, ⟨12, .phase⟩, ⟨13, .phase⟩], none⟩ ?_ hHeld ?yyA1314 ?rrA1314
          case yyA1314 => (intro w hSw; (try dsimp only at hSw); go_simp; try with_reducible rfl)
          try simp only [Act.put, putA, putB, putC]
          refine wpAnyH_ready (rs := [15]) (by kernel_rfl) (by simp) ?_
          refine AllReadyH.cons (o := ⟨none, .store 23 (.tmp 39) (.tmp 38), 0, _, #[⟨14, .data⟩, ⟨13, .data⟩, ⟨13, .chain⟩, ⟨0, .phase⟩, ⟨1, .phase⟩, ⟨2, .phase⟩, ⟨3, .phase⟩, ⟨4, .phase⟩, ⟨5, .phase⟩, ⟨6, .phase⟩, ⟨7, .phase⟩, ⟨8, .phase⟩, ⟨9, .phase⟩, ⟨10, .phase⟩, ⟨11, .phase⟩, ⟨12, .phase⟩, ⟨13, .phase⟩], none⟩) rfl (fun K hK => ?_) (AllReadyH.nil)
          have hA : Ext W410 (W410.alloc (.cells #[.int .i64 id, .slice la lL lc, .slice pa pl pc] 34)) := (Ext.refl _).alloc _
          have hB9 : w9.heap[ob]? = some (.cells #[.slice ua k ucap, .slice none 0 0, .int .i64 x2, .int .i64 x3] 26 (0, 0)) := by
            rw [hgrow9.block ob (by have := (hEW410).le; simp; omega) (fun e => by have := (hrl _ e.symm).1; omega)]
            exact hBd _ ((hEW410).trans hA)
          have hB9f : w9.frozen? ⟨ob, 0, none⟩ = false := by simp [World.frozen?, hB9]
          have hB9c : w9.cell? ⟨ob, 0, none⟩ = some (.slice ua k ucap) := by simp [World.cell?, hB9]
          go_simp
          refine hK.out _ _ (HK.out _ (hcur9.setCell (p := ⟨ob, 0, none⟩) (.inl rfl) _)) (fun hHeld => ?_)
          clear hK K
          try simp only [Act.put, putA, putB, putC]
          refine wpAnyH_done (by kernel_rfl) ?_ _
          clear hHeld HK
          clear hOb
          have hrow4 : GSt w9 Wa.heap.size 34 3 f0 (k + 1) (.slice (some ⟨g, 0, none⟩) (k + 1) gcap) (cs ++ [.int .i64 id, .slice la lL lc, .slice pa pl pc]) := by
            refine hGd.push (w1 := W410.alloc _) ((hEW410).trans hA) (by omega) [.int .i64 id, .slice la lL lc, .slice pa pl pc] rfl (fun j => if j = 1 then (fun x => (Value.slice la lL lc).ownBlock = some x) else if j = 2 then New p6 q6 else fun _ => False) (fun j hj => ?_) (fun j j' hj hj' hne x hx hx' => ?_) hown9 hgrow9 ?_
            · have hc4 : j = 0 ∨ j = 1 ∨ j = 2 := by omega
              rcases hc4 with rfl | rfl | rfl
              · rw [hd0]; exact ⟨⟨rfl, z0⟩, trivial, fun x hx => absurd hx (by simp)⟩
              · rw [hL]; exact ⟨hDl.ext hA, hOl.ext hA, fun x hx => ⟨(hQL x hx).1, Nat.lt_of_lt_of_le (hQL x hx).2.1 hA.le⟩⟩
              · exact ⟨hDp.ext hA, hOp.ext hA, fun x hx => ⟨(hQP x hx).1, Nat.lt_of_lt_of_le (hQP x hx).2 hA.le⟩⟩
            · have h1 : j = 1 ∨ j = 2 ∨ (j ≠ 1 ∧ j ≠ 2) := by omega
              have h2 : j' = 1 ∨ j' = 2 ∨ (j' ≠ 1 ∧ j' ≠ 2) := by omega
              rcases h1 with rfl | rfl | ⟨h1, h1'⟩
              · rcases h2 with rfl | rfl | ⟨h2, h2'⟩
                · exact hne rfl
                · exact (hQL x hx).2.2 hx'
                · rw [if_neg h2, if_neg h2'] at hx'; exact hx'
              · rcases h2 with rfl | rfl | ⟨h2, h2'⟩
                · exact (hQL x hx').2.2 hx
                · exact hne rfl
                · rw [if_neg h2, if_neg h2'] at hx'; exact hx'
              · rw [if_neg h1, if_neg h1'] at hx; exact hx
            · rcases hat9 with e | e
              · exact .inl e.symm
              · right; subst e; simp [Value.ownBlock]
          have hB10 : (w9.setCell ⟨ob, 0, none⟩ (.slice (some ⟨g, 0, none⟩) (k + 1) gcap)).heap[ob]? = some (.cells #[.slice (some ⟨g, 0, none⟩) (k + 1) gcap, .slice none 0 0, .int .i64 x2, .int .i64 x3] 26 (0, 0)) := by
            have := block_set (o := 0) hB9 (.slice (some ⟨g, 0, none⟩) (k + 1) gcap)
            simpa using this
          have hC10 : Chg (fun x => x = ob) Wa (w9.setCell ⟨ob, 0, none⟩ (.slice (some ⟨g, 0, none⟩) (k + 1) gcap)) := chg_up (hC.trans (Chg.of_ext (hE0))) (hcur9.setCell (p := ⟨ob, 0, none⟩) (.inl rfl) _) (fun x hx => hx.elim (fun e => .inr e) (fun e => .inl (hrl _ e).1))
          have hG10 := hrow4.setLow (p := ⟨ob, 0, none⟩) (show ob < Wa.heap.size by omega) (.slice (some ⟨g, 0, none⟩) (k + 1) gcap)
          clear hrow4 hB9 hcur9 hDl hOl hDp hOp hQL hQP hend5 hrow
          go_wp2
          go_roundw
          case rel => exact ⟨k + 1, _, _, by go_num, by omega, hG10, hB10, hC10⟩
          case measure => simp [intOf]; omega
        · refine step_append_strs (by rfl) _ _ (by rfl) W14 HRl (hlab _ (hE0.trans (hEW14))) hlL (base := Wa.heap.size) (by have := (hEW14).le; omega) (v := .slice (some ⟨n4, 0, none⟩) 0 0) hm4 (by rfl) (by rfl) ?_
          intro la lc W27 hown5 hg5 hloc5
          have hEW27 : Ext W0 W27 := Below.grown (hEW14) hg5 (hEW14).le (fun j hj => by have e : n4 = j := Option.some.inj hj; omega)
          have hb5 := (hEW14).le
          have hs5 := hg5.size
          have hlt5 := fun x hx => hown5.lt x hx
          have hend5 := strs_end HRl (strs_sizes HRl (hlab _ (hE0.trans (hEW14)))) (by unfold maxLen; omega) hown5
          obtain ⟨s5, hs5e⟩ : ∃ m, m = W14.heap.size := ⟨_, rfl⟩
          rw [← hs5e] at hloc5
          have hs5a := Nat.le_of_eq hs5e
          have hs5b := Nat.le_of_eq hs5e.symm
          clear hs5e
          refine hK.out _ _ (HK.out _ (Chg.of_ext hEW27)) (fun hHeld => ?_)
          clear hK K
          try simp only [Act.put, putA, putB, putC]
          refine wpAnyH_ready (rs := [1, 10]) (by kernel_rfl) (by simp) ?_
          refine AllReadyH.cons (o := ⟨some 26, .load 23 (.tmp 25), 23, _, #[⟨0, .data⟩], none⟩) rfl (fun K hK => ?_) (AllReadyH.cons (o := ⟨some 35, .call { callee := .value (.func 34), args := #[.tmp 34], argTypes := #[32] }, 32, _, #[⟨9, .data⟩, ⟨7, .chain⟩], none⟩) rfl (fun K hK => ?_) (AllReadyH.nil))
          · have oN := hOb W27 (hEW27)
            go_simp
            refine hK.out _ _ (HK.out _ (Chg.of_ext (hEW27))) (fun hHeld => ?_)
            clear oN
            clear hK K
            try simp only [Act.put, putA, putB, putC]
            refine wpAnyH_ready (rs := [10]) (by kernel_rfl) (by simp) ?_
            refine AllReadyH.cons (o := ⟨some 35, .call { callee := .value (.func 34), args := #[.tmp 34], argTypes := #[32] }, 32, _, #[⟨9, .data⟩, ⟨7, .chain⟩], none⟩) rfl (fun K hK => ?_) (AllReadyH.nil)
            go_simp
            refine (hps W27 (hE0.trans (hEW27))).mono ?_
            rintro e W410 ⟨pa, pl, pc, rfl, ⟨hDp, hOp⟩, hE6⟩
            have hEW410 : Ext W0 W410 := (hEW27).trans hE6
            have hb6 := (hEW27).le
            have hs6 := hE6.le
            obtain ⟨p6, hp6⟩ : ∃ m, m = W27.heap.size := ⟨_, rfl⟩
            obtain ⟨q6, hq6⟩ : ∃ m, m = W410.heap.size := ⟨_, rfl⟩
            rw [← hp6, ← hq6] at hDp hOp
            have hp6a := Nat.le_of_eq hp6
            have hp6b := Nat.le_of_eq hp6.symm
            have hq6a := Nat.le_of_eq hq6
            have hq6b := Nat.le_of_eq hq6.symm
            clear hp6 hq6
            go_wp2_with fail
            refine hK.out _ _ (HK.out _ (Chg.of_ext hEW410)) (fun hHeld => ?_)
            clear hK K
            try simp only [Act.put, putA, putB, putC]
            refine tkL 11 ⟨some 36, .build 34 #[(0, .tmp 28), (1, .tmp 32), (2, .tmp 35)], 34, _, #[⟨3, .data⟩, ⟨7, .data⟩, ⟨10, .data⟩], none⟩ ?_ hHeld ?yyA1611 ?rrA1611
            case yyA1611 => (intro w hSw; (try dsimp only at hSw); go_simp; try with_reducible rfl)
            try simp only [Act.put, putA, putB, putC]
            refine wpAnyH_ready (rs := [12]) (by kernel_rfl) (by simp) ?_
            refine AllReadyH.cons (o := ⟨some 37, .buildSlice 23 1 #[(0, .tmp 36)], 23, _, #[⟨11, .data⟩], none⟩) rfl (fun K hK => ?_) (AllReadyH.nil)
            go_simp
            refine hK.out _ _ (HK.out _ (Chg.of_ext ((hEW410).alloc _))) (fun hHeld => ?_)
            clear hK K
            try simp only [Act.put, putA, putB, putC]
            have hDl := hend5.1.ext hE6
            have hOl := hend5.2.ext hE6
            have hQL : ∀ x, (Value.slice la lL lc).ownBlock = some x → W0.heap.size ≤ x ∧ x < W410.heap.size ∧ ¬ New p6 q6 x := by
              intro x hx
              have h0 := hlt5 x hx
              rcases hloc5 with e | e
              · rw [e] at hx
                have hx2 : n4 = x := Option.some.inj hx
                exact ⟨by omega, by omega, fun h => by have h1 := h.1; have h2 := h.2; omega⟩
              · rw [e] at hx
                have hx2 : s5 = x := Option.some.inj hx
                exact ⟨by omega, by omega, fun h => by have h1 := h.1; have h2 := h.2; omega⟩
            have hQP : ∀ x, New p6 q6 x → W0.heap.size ≤ x ∧ x < W410.heap.size := fun x hx => by have h1 := hx.1; have h2 := hx.2; omega
            refine wpAnyH_ready (rs := [13]) (by kernel_rfl) (by simp) ?_
            refine AllReadyH.cons (o := ⟨some 38, .call { callee := .builtin .append, args := #[.tmp 26, .tmp 37], argTypes := #[23, 23] }, 23, _, #[⟨1, .data⟩, ⟨12, .data⟩, ⟨10, .chain⟩], none⟩) rfl (fun K hK => ?_) (AllReadyH.nil)
            have hrow := (hGd.ext (hEW410)).row
            refine step_append_lies _ (by rfl) _ _ _ (by rfl) Wa.heap.size 34 i0 _ 3 56 Tryz.underlying23 hi0 hz00 hz01 hz02 rfl (by omega) (Value.slice ua k ucap) k cs (by rfl) (hrow.alloc _) ⟨W410.heap.size, 0, none⟩ 1 1 [.int .i64 id, .slice la lL lc, .slice pa pl pc] (by rfl) (by rfl) (World.news_of_block (cs := #[.int .i64 id, .slice la lL lc, .slice pa pl pc]) (t := 34) (fr := (0, 0)) (heap_alloc_new W410 _)) (by simp [Value.oneCell']) (by omega) (by unfold maxLen; omega) (by omega) (by have := (hEW410).le; simp; omega) (W410.heap.size + 1) (by simp) ?_
            intro g gcap w9 hown9 hgrow9 hat9 hlt9
            have hcur9 : Chg (fun x => x = ob ∨ (Value.slice ua k ucap).ownBlock = some x) W0 w9 := (Chg.of_ext ((hEW410).alloc _)).grown hgrow9 (fun b hb => .inr hb)
            refine hK.out _ _ (HK.out _ hcur9) (fun hHeld => ?_)
            clear hK K
            try simp only [Act.put, putA, putB, putC]
            refine tkL 14 ⟨some 39, .fieldAddr 26 (.tmp 3) 0, 0, _, #[⟨0, .phase⟩, ⟨1, .phase⟩, ⟨2, .phase⟩, ⟨3, .phase⟩, ⟨4, .phase⟩, ⟨5, .phase⟩, ⟨6, .phase⟩, ⟨7, .phase⟩, ⟨8, .phase⟩, ⟨9, .phase⟩, ⟨10, .phase⟩, ⟨11, .phase⟩, ⟨12, .phase⟩, ⟨13, .phase⟩], none⟩ ?_ hHeld ?yyA1814 ?rrA1814
            case yyA1814 => (intro w hSw; (try dsimp only at hSw); go_simp; try with_reducible rfl)
            try simp only [Act.put, putA, putB, putC]
            refine wpAnyH_ready (rs := [15]) (by kernel_rfl) (by simp) ?_
            refine AllReadyH.cons (o := ⟨none, .store 23 (.tmp 39) (.tmp 38), 0, _, #[⟨14, .data⟩, ⟨13, .data⟩, ⟨13, .chain⟩, ⟨0, .phase⟩, ⟨1, .phase⟩, ⟨2, .phase⟩, ⟨3, .phase⟩, ⟨4, .phase⟩, ⟨5, .phase⟩, ⟨6, .phase⟩, ⟨7, .phase⟩, ⟨8, .phase⟩, ⟨9, .phase⟩, ⟨10, .phase⟩, ⟨11, .phase⟩, ⟨12, .phase⟩, ⟨13, .phase⟩], none⟩) rfl (fun K hK => ?_) (AllReadyH.nil)
            have hA : Ext W410 (W410.alloc (.cells #[.int .i64 id, .slice la lL lc, .slice pa pl pc] 34)) := (Ext.refl _).alloc _
            have hB9 : w9.heap[ob]? = some (.cells #[.slice ua k ucap, .slice none 0 0, .int .i64 x2, .int .i64 x3] 26 (0, 0)) := by
              rw [hgrow9.block ob (by have := (hEW410).le; simp; omega) (fun e => by have := (hrl _ e.symm).1; omega)]
              exact hBd _ ((hEW410).trans hA)
            have hB9f : w9.frozen? ⟨ob, 0, none⟩ = false := by simp [World.frozen?, hB9]
            have hB9c : w9.cell? ⟨ob, 0, none⟩ = some (.slice ua k ucap) := by simp [World.cell?, hB9]
            go_simp
            refine hK.out _ _ (HK.out _ (hcur9.setCell (p := ⟨ob, 0, none⟩) (.inl rfl) _)) (fun hHeld => ?_)
            clear hK K
            try simp only [Act.put, putA, putB, putC]
            refine wpAnyH_done (by kernel_rfl) ?_ _
            clear hHeld HK
            clear hOb
            have hrow4 : GSt w9 Wa.heap.size 34 3 f0 (k + 1) (.slice (some ⟨g, 0, none⟩) (k + 1) gcap) (cs ++ [.int .i64 id, .slice la lL lc, .slice pa pl pc]) := by
              refine hGd.push (w1 := W410.alloc _) ((hEW410).trans hA) (by omega) [.int .i64 id, .slice la lL lc, .slice pa pl pc] rfl (fun j => if j = 1 then (fun x => (Value.slice la lL lc).ownBlock = some x) else if j = 2 then New p6 q6 else fun _ => False) (fun j hj => ?_) (fun j j' hj hj' hne x hx hx' => ?_) hown9 hgrow9 ?_
              · have hc4 : j = 0 ∨ j = 1 ∨ j = 2 := by omega
                rcases hc4 with rfl | rfl | rfl
                · rw [hd0]; exact ⟨⟨rfl, z0⟩, trivial, fun x hx => absurd hx (by simp)⟩
                · rw [hL]; exact ⟨hDl.ext hA, hOl.ext hA, fun x hx => ⟨(hQL x hx).1, Nat.lt_of_lt_of_le (hQL x hx).2.1 hA.le⟩⟩
                · exact ⟨hDp.ext hA, hOp.ext hA, fun x hx => ⟨(hQP x hx).1, Nat.lt_of_lt_of_le (hQP x hx).2 hA.le⟩⟩
              · have h1 : j = 1 ∨ j = 2 ∨ (j ≠ 1 ∧ j ≠ 2) := by omega
                have h2 : j' = 1 ∨ j' = 2 ∨ (j' ≠ 1 ∧ j' ≠ 2) := by omega
                rcases h1 with rfl | rfl | ⟨h1, h1'⟩
                · rcases h2 with rfl | rfl | ⟨h2, h2'⟩
                  · exact hne rfl
                  · exact (hQL x hx).2.2 hx'
                  · rw [if_neg h2, if_neg h2'] at hx'; exact hx'
                · rcases h2 with rfl | rfl | ⟨h2, h2'⟩
                  · exact (hQL x hx').2.2 hx
                  · exact hne rfl
                  · rw [if_neg h2, if_neg h2'] at hx'; exact hx'
                · rw [if_neg h1, if_neg h1'] at hx; exact hx
              · rcases hat9 with e | e
                · exact .inl e.symm
                · right; subst e; simp [Value.ownBlock]
            have hB10 : (w9.setCell ⟨ob, 0, none⟩ (.slice (some ⟨g, 0, none⟩) (k + 1) gcap)).heap[ob]? = some (.cells #[.slice (some ⟨g, 0, none⟩) (k + 1) gcap, .slice none 0 0, .int .i64 x2, .int .i64 x3] 26 (0, 0)) := by
              have := block_set (o := 0) hB9 (.slice (some ⟨g, 0, none⟩) (k + 1) gcap)
              simpa using this
            have hC10 : Chg (fun x => x = ob) Wa (w9.setCell ⟨ob, 0, none⟩ (.slice (some ⟨g, 0, none⟩) (k + 1) gcap)) := chg_up (hC.trans (Chg.of_ext (hE0))) (hcur9.setCell (p := ⟨ob, 0, none⟩) (.inl rfl) _) (fun x hx => hx.elim (fun e => .inr e) (fun e => .inl (hrl _ e).1))
            have hG10 := hrow4.setLow (p := ⟨ob, 0, none⟩) (show ob < Wa.heap.size by omega) (.slice (some ⟨g, 0, none⟩) (k + 1) gcap)
            clear hrow4 hB9 hcur9 hDl hOl hDp hOp hQL hQP hend5 hrow
            go_wp2
            go_roundw
            case rel => exact ⟨k + 1, _, _, by go_num, by omega, hG10, hB10, hC10⟩
            case measure => simp [intOf]; omega
          · go_simp
            refine (hps W27 (hE0.trans (hEW27))).mono ?_
            rintro e W310 ⟨pa, pl, pc, rfl, ⟨hDp, hOp⟩, hE6⟩
            have hEW310 : Ext W0 W310 := (hEW27).trans hE6
            have hb6 := (hEW27).le
            have hs6 := hE6.le
            obtain ⟨p6, hp6⟩ : ∃ m, m = W27.heap.size := ⟨_, rfl⟩
            obtain ⟨q6, hq6⟩ : ∃ m, m = W310.heap.size := ⟨_, rfl⟩
            rw [← hp6, ← hq6] at hDp hOp
            have hp6a := Nat.le_of_eq hp6
            have hp6b := Nat.le_of_eq hp6.symm
            have hq6a := Nat.le_of_eq hq6
            have hq6b := Nat.le_of_eq hq6.symm
            clear hp6 hq6
            go_wp2_with fail
            refine hK.out _ _ (HK.out _ (Chg.of_ext hEW310)) (fun hHeld => ?_)
            clear hK K
            try simp only [Act.put, putA, putB, putC]
            refine tkL 11 ⟨some 36, .build 34 #[(0, .tmp 28), (1, .tmp 32), (2, .tmp 35)], 34, _, #[⟨3, .data⟩, ⟨7, .data⟩, ⟨10, .data⟩], none⟩ ?_ hHeld ?yyA1911 ?rrA1911
            case yyA1911 => (intro w hSw; (try dsimp only at hSw); go_simp; try with_reducible rfl)
            try simp only [Act.put, putA, putB, putC]
            refine wpAnyH_ready (rs := [1, 12]) (by kernel_rfl) (by simp) ?_
            refine AllReadyH.cons (o := ⟨some 26, .load 23 (.tmp 25), 23, _, #[⟨0, .data⟩], none⟩) rfl (fun K hK => ?_) (AllReadyH.cons (o := ⟨some 37, .buildSlice 23 1 #[(0, .tmp 36)], 23, _, #[⟨11, .data⟩], none⟩) rfl (fun K hK => ?_) (AllReadyH.nil))
            · have oN := hOb W310 (hEW310)
              go_simp
              refine hK.out _ _ (HK.out _ (Chg.of_ext (hEW310))) (fun hHeld => ?_)
              clear oN
              clear hK K
              try simp only [Act.put, putA, putB, putC]
              refine wpAnyH_ready (rs := [12]) (by kernel_rfl) (by simp) ?_
              refine AllReadyH.cons (o := ⟨some 37, .buildSlice 23 1 #[(0, .tmp 36)], 23, _, #[⟨11, .data⟩], none⟩) rfl (fun K hK => ?_) (AllReadyH.nil)
              go_simp
              refine hK.out _ _ (HK.out _ (Chg.of_ext ((hEW310).alloc _))) (fun hHeld => ?_)
              clear hK K
              try simp only [Act.put, putA, putB, putC]
              have hDl := hend5.1.ext hE6
              have hOl := hend5.2.ext hE6
              have hQL : ∀ x, (Value.slice la lL lc).ownBlock = some x → W0.heap.size ≤ x ∧ x < W310.heap.size ∧ ¬ New p6 q6 x := by
                intro x hx
                have h0 := hlt5 x hx
                rcases hloc5 with e | e
                · rw [e] at hx
                  have hx2 : n4 = x := Option.some.inj hx
                  exact ⟨by omega, by omega, fun h => by have h1 := h.1; have h2 := h.2; omega⟩
                · rw [e] at hx
                  have hx2 : s5 = x := Option.some.inj hx
                  exact ⟨by omega, by omega, fun h => by have h1 := h.1; have h2 := h.2; omega⟩
              have hQP : ∀ x, New p6 q6 x → W0.heap.size ≤ x ∧ x < W310.heap.size := fun x hx => by have h1 := hx.1; have h2 := hx.2; omega
              refine wpAnyH_ready (rs := [13]) (by kernel_rfl) (by simp) ?_
              refine AllReadyH.cons (o := ⟨some 38, .call { callee := .builtin .append, args := #[.tmp 26, .tmp 37], argTypes := #[23, 23] }, 23, _, #[⟨1, .data⟩, ⟨12, .data⟩, ⟨10, .chain⟩], none⟩) rfl (fun K hK => ?_) (AllReadyH.nil)
              have hrow := (hGd.ext (hEW310)).row
              refine step_append_lies _ (by rfl) _ _ _ (by rfl) Wa.heap.size 34 i0 _ 3 56 Tryz.underlying23 hi0 hz00 hz01 hz02 rfl (by omega) (Value.slice ua k ucap) k cs (by rfl) (hrow.alloc _) ⟨W310.heap.size, 0, none⟩ 1 1 [.int .i64 id, .slice la lL lc, .slice pa pl pc] (by rfl) (by rfl) (World.news_of_block (cs := #[.int .i64 id, .slice la lL lc, .slice pa pl pc]) (t := 34) (fr := (0, 0)) (heap_alloc_new W310 _)) (by simp [Value.oneCell']) (by omega) (by unfold maxLen; omega) (by omega) (by have := (hEW310).le; simp; omega) (W310.heap.size + 1) (by simp) ?_
              intro g gcap w9 hown9 hgrow9 hat9 hlt9
              have hcur9 : Chg (fun x => x = ob ∨ (Value.slice ua k ucap).ownBlock = some x) W0 w9 := (Chg.of_ext ((hEW310).alloc _)).grown hgrow9 (fun b hb => .inr hb)
              refine hK.out _ _ (HK.out _ hcur9) (fun hHeld => ?_)
              clear hK K
              try simp only [Act.put, putA, putB, putC]
              refine tkL 14 ⟨some 39, .fieldAddr 26 (.tmp 3) 0, 0, _, #[⟨0, .phase⟩, ⟨1, .phase⟩, ⟨2, .phase⟩, ⟨3, .phase⟩, ⟨4, .phase⟩, ⟨5, .phase⟩, ⟨6, .phase⟩, ⟨7, .phase⟩, ⟨8, .phase⟩, ⟨9, .phase⟩, ⟨10, .phase⟩, ⟨11, .phase⟩, ⟨12, .phase⟩, ⟨13, .phase⟩], none⟩ ?_ hHeld ?yyA2214 ?rrA2214
              case yyA2214 => (intro w hSw; (try dsimp only at hSw); go_simp; try with_reducible rfl)
              try simp only [Act.put, putA, putB, putC]
              refine wpAnyH_ready (rs := [15]) (by kernel_rfl) (by simp) ?_
              refine AllReadyH.cons (o := ⟨none, .store 23 (.tmp 39) (.tmp 38), 0, _, #[⟨14, .data⟩, ⟨13, .data⟩, ⟨13, .chain⟩, ⟨0, .phase⟩, ⟨1, .phase⟩, ⟨2, .phase⟩, ⟨3, .phase⟩, ⟨4, .phase⟩, ⟨5, .phase⟩, ⟨6, .phase⟩, ⟨7, .phase⟩, ⟨8, .phase⟩, ⟨9, .phase⟩, ⟨10, .phase⟩, ⟨11, .phase⟩, ⟨12, .phase⟩, ⟨13, .phase⟩], none⟩) rfl (fun K hK => ?_) (AllReadyH.nil)
              have hA : Ext W310 (W310.alloc (.cells #[.int .i64 id, .slice la lL lc, .slice pa pl pc] 34)) := (Ext.refl _).alloc _
              have hB9 : w9.heap[ob]? = some (.cells #[.slice ua k ucap, .slice none 0 0, .int .i64 x2, .int .i64 x3] 26 (0, 0)) := by
                rw [hgrow9.block ob (by have := (hEW310).le; simp; omega) (fun e => by have := (hrl _ e.symm).1; omega)]
                exact hBd _ ((hEW310).trans hA)
              have hB9f : w9.frozen? ⟨ob, 0, none⟩ = false := by simp [World.frozen?, hB9]
              have hB9c : w9.cell? ⟨ob, 0, none⟩ = some (.slice ua k ucap) := by simp [World.cell?, hB9]
              go_simp
              refine hK.out _ _ (HK.out _ (hcur9.setCell (p := ⟨ob, 0, none⟩) (.inl rfl) _)) (fun hHeld => ?_)
              clear hK K
              try simp only [Act.put, putA, putB, putC]
              refine wpAnyH_done (by kernel_rfl) ?_ _
              clear hHeld HK
              clear hOb
              have hrow4 : GSt w9 Wa.heap.size 34 3 f0 (k + 1) (.slice (some ⟨g, 0, none⟩) (k + 1) gcap) (cs ++ [.int .i64 id, .slice la lL lc, .slice pa pl pc]) := by
                refine hGd.push (w1 := W310.alloc _) ((hEW310).trans hA) (by omega) [.int .i64 id, .slice la lL lc, .slice pa pl pc] rfl (fun j => if j = 1 then (fun x => (Value.slice la lL lc).ownBlock = some x) else if j = 2 then New p6 q6 else fun _ => False) (fun j hj => ?_) (fun j j' hj hj' hne x hx hx' => ?_) hown9 hgrow9 ?_
                · have hc4 : j = 0 ∨ j = 1 ∨ j = 2 := by omega
                  rcases hc4 with rfl | rfl | rfl
                  · rw [hd0]; exact ⟨⟨rfl, z0⟩, trivial, fun x hx => absurd hx (by simp)⟩
                  · rw [hL]; exact ⟨hDl.ext hA, hOl.ext hA, fun x hx => ⟨(hQL x hx).1, Nat.lt_of_lt_of_le (hQL x hx).2.1 hA.le⟩⟩
                  · exact ⟨hDp.ext hA, hOp.ext hA, fun x hx => ⟨(hQP x hx).1, Nat.lt_of_lt_of_le (hQP x hx).2 hA.le⟩⟩
                · have h1 : j = 1 ∨ j = 2 ∨ (j ≠ 1 ∧ j ≠ 2) := by omega
                  have h2 : j' = 1 ∨ j' = 2 ∨ (j' ≠ 1 ∧ j' ≠ 2) := by omega
                  rcases h1 with rfl | rfl | ⟨h1, h1'⟩
                  · rcases h2 with rfl | rfl | ⟨h2, h2'⟩
                    · exact hne rfl
                    · exact (hQL x hx).2.2 hx'
                    · rw [if_neg h2, if_neg h2'] at hx'; exact hx'
                  · rcases h2 with rfl | rfl | ⟨h2, h2'⟩
                    · exact (hQL x hx').2.2 hx
                    · exact hne rfl
                    · rw [if_neg h2, if_neg h2'] at hx'; exact hx'
                  · rw [if_neg h1, if_neg h1'] at hx; exact hx
                · rcases hat9 with e | e
                  · exact .inl e.symm
                  · right; subst e; simp [Value.ownBlock]
              have hB10 : (w9.setCell ⟨ob, 0, none⟩ (.slice (some ⟨g, 0, none⟩) (k + 1) gcap)).heap[ob]? = some (.cells #[.slice (some ⟨g, 0, none⟩) (k + 1) gcap, .slice none 0 0, .int .i64 x2, .int .i64 x3] 26 (0, 0)) := by
                have := block_set (o := 0) hB9 (.slice (some ⟨g, 0, none⟩) (k + 1) gcap)
                simpa using this
              have hC10 : Chg (fun x => x = ob) Wa (w9.setCell ⟨ob, 0, none⟩ (.slice (some ⟨g, 0, none⟩) (k + 1) gcap)) := chg_up (hC.trans (Chg.of_ext (hE0))) (hcur9.setCell (p := ⟨ob, 0, none⟩) (.inl rfl) _) (fun x hx => hx.elim (fun e => .inr e) (fun e => .inl (hrl _ e).1))
              have hG10 := hrow4.setLow (p := ⟨ob, 0, none⟩) (show ob < Wa.heap.size by omega) (.slice (some ⟨g, 0, none⟩) (k + 1) gcap)
              clear hrow4 hB9 hcur9 hDl hOl hDp hOp hQL hQP hend5 hrow
              go_wp2
              go_roundw
              case rel => exact ⟨k + 1, _, _, by go_num, by omega, hG10, hB10, hC10⟩
              case measure => simp [intOf]; omega
            · go_simp
              refine hK.out _ _ (HK.out _ (Chg.of_ext ((hEW310).alloc _))) (fun hHeld => ?_)
              clear hK K
              try simp only [Act.put, putA, putB, putC]
              refine wpAnyH_ready (rs := [1]) (by kernel_rfl) (by simp) ?_
              refine AllReadyH.cons (o := ⟨some 26, .load 23 (.tmp 25), 23, _, #[⟨0, .data⟩], none⟩) rfl (fun K hK => ?_) (AllReadyH.nil)
              have oN := hOb (W310.alloc (.cells #[.int .i64 id, .slice la lL lc, .slice pa pl pc] 34)) ((hEW310).alloc _)
              go_simp
              refine hK.out _ _ (HK.out _ (Chg.of_ext ((hEW310).alloc _))) (fun hHeld => ?_)
              clear oN
              clear hK K
              try simp only [Act.put, putA, putB, putC]
              have hDl := hend5.1.ext hE6
              have hOl := hend5.2.ext hE6
              have hQL : ∀ x, (Value.slice la lL lc).ownBlock = some x → W0.heap.size ≤ x ∧ x < W310.heap.size ∧ ¬ New p6 q6 x := by
                intro x hx
                have h0 := hlt5 x hx
                rcases hloc5 with e | e
                · rw [e] at hx
                  have hx2 : n4 = x := Option.some.inj hx
                  exact ⟨by omega, by omega, fun h => by have h1 := h.1; have h2 := h.2; omega⟩
                · rw [e] at hx
                  have hx2 : s5 = x := Option.some.inj hx
                  exact ⟨by omega, by omega, fun h => by have h1 := h.1; have h2 := h.2; omega⟩
              have hQP : ∀ x, New p6 q6 x → W0.heap.size ≤ x ∧ x < W310.heap.size := fun x hx => by have h1 := hx.1; have h2 := hx.2; omega
              refine wpAnyH_ready (rs := [13]) (by kernel_rfl) (by simp) ?_
              refine AllReadyH.cons (o := ⟨some 38, .call { callee := .builtin .append, args := #[.tmp 26, .tmp 37], argTypes := #[23, 23] }, 23, _, #[⟨1, .data⟩, ⟨12, .data⟩, ⟨10, .chain⟩], none⟩) rfl (fun K hK => ?_) (AllReadyH.nil)
              have hrow := (hGd.ext (hEW310)).row
              refine step_append_lies _ (by rfl) _ _ _ (by rfl) Wa.heap.size 34 i0 _ 3 56 Tryz.underlying23 hi0 hz00 hz01 hz02 rfl (by omega) (Value.slice ua k ucap) k cs (by rfl) (hrow.alloc _) ⟨W310.heap.size, 0, none⟩ 1 1 [.int .i64 id, .slice la lL lc, .slice pa pl pc] (by rfl) (by rfl) (World.news_of_block (cs := #[.int .i64 id, .slice la lL lc, .slice pa pl pc]) (t := 34) (fr := (0, 0)) (heap_alloc_new W310 _)) (by simp [Value.oneCell']) (by omega) (by unfold maxLen; omega) (by omega) (by have := (hEW310).le; simp; omega) (W310.heap.size + 1) (by simp) ?_
              intro g gcap w9 hown9 hgrow9 hat9 hlt9
              have hcur9 : Chg (fun x => x = ob ∨ (Value.slice ua k ucap).ownBlock = some x) W0 w9 := (Chg.of_ext ((hEW310).alloc _)).grown hgrow9 (fun b hb => .inr hb)
              refine hK.out _ _ (HK.out _ hcur9) (fun hHeld => ?_)
              clear hK K
              try simp only [Act.put, putA, putB, putC]
              refine tkL 14 ⟨some 39, .fieldAddr 26 (.tmp 3) 0, 0, _, #[⟨0, .phase⟩, ⟨1, .phase⟩, ⟨2, .phase⟩, ⟨3, .phase⟩, ⟨4, .phase⟩, ⟨5, .phase⟩, ⟨6, .phase⟩, ⟨7, .phase⟩, ⟨8, .phase⟩, ⟨9, .phase⟩, ⟨10, .phase⟩, ⟨11, .phase⟩, ⟨12, .phase⟩, ⟨13, .phase⟩], none⟩ ?_ hHeld ?yyA2414 ?rrA2414
              case yyA2414 => (intro w hSw; (try dsimp only at hSw); go_simp; try with_reducible rfl)
              try simp only [Act.put, putA, putB, putC]
              refine wpAnyH_ready (rs := [15]) (by kernel_rfl) (by simp) ?_
              refine AllReadyH.cons (o := ⟨none, .store 23 (.tmp 39) (.tmp 38), 0, _, #[⟨14, .data⟩, ⟨13, .data⟩, ⟨13, .chain⟩, ⟨0, .phase⟩, ⟨1, .phase⟩, ⟨2, .phase⟩, ⟨3, .phase⟩, ⟨4, .phase⟩, ⟨5, .phase⟩, ⟨6, .phase⟩, ⟨7, .phase⟩, ⟨8, .phase⟩, ⟨9, .phase⟩, ⟨10, .phase⟩, ⟨11, .phase⟩, ⟨12, .phase⟩, ⟨13, .phase⟩], none⟩) rfl (fun K hK => ?_) (AllReadyH.nil)
              have hA : Ext W310 (W310.alloc (.cells #[.int .i64 id, .slice la lL lc, .slice pa pl pc] 34)) := (Ext.refl _).alloc _
              have hB9 : w9.heap[ob]? = some (.cells #[.slice ua k ucap, .slice none 0 0, .int .i64 x2, .int .i64 x3] 26 (0, 0)) := by
                rw [hgrow9.block ob (by have := (hEW310).le; simp; omega) (fun e => by have := (hrl _ e.symm).1; omega)]
                exact hBd _ ((hEW310).trans hA)
              have hB9f : w9.frozen? ⟨ob, 0, none⟩ = false := by simp [World.frozen?, hB9]
              have hB9c : w9.cell? ⟨ob, 0, none⟩ = some (.slice ua k ucap) := by simp [World.cell?, hB9]
              go_simp
              refine hK.out _ _ (HK.out _ (hcur9.setCell (p := ⟨ob, 0, none⟩) (.inl rfl) _)) (fun hHeld => ?_)
              clear hK K
              try simp only [Act.put, putA, putB, putC]
              refine wpAnyH_done (by kernel_rfl) ?_ _
              clear hHeld HK
              clear hOb
              have hrow4 : GSt w9 Wa.heap.size 34 3 f0 (k + 1) (.slice (some ⟨g, 0, none⟩) (k + 1) gcap) (cs ++ [.int .i64 id, .slice la lL lc, .slice pa pl pc]) := by
                refine hGd.push (w1 := W310.alloc _) ((hEW310).trans hA) (by omega) [.int .i64 id, .slice la lL lc, .slice pa pl pc] rfl (fun j => if j = 1 then (fun x => (Value.slice la lL lc).ownBlock = some x) else if j = 2 then New p6 q6 else fun _ => False) (fun j hj => ?_) (fun j j' hj hj' hne x hx hx' => ?_) hown9 hgrow9 ?_
                · have hc4 : j = 0 ∨ j = 1 ∨ j = 2 := by omega
                  rcases hc4 with rfl | rfl | rfl
                  · rw [hd0]; exact ⟨⟨rfl, z0⟩, trivial, fun x hx => absurd hx (by simp)⟩
                  · rw [hL]; exact ⟨hDl.ext hA, hOl.ext hA, fun x hx => ⟨(hQL x hx).1, Nat.lt_of_lt_of_le (hQL x hx).2.1 hA.le⟩⟩
                  · exact ⟨hDp.ext hA, hOp.ext hA, fun x hx => ⟨(hQP x hx).1, Nat.lt_of_lt_of_le (hQP x hx).2 hA.le⟩⟩
                · have h1 : j = 1 ∨ j = 2 ∨ (j ≠ 1 ∧ j ≠ 2) := by omega
                  have h2 : j' = 1 ∨ j' = 2 ∨ (j' ≠ 1 ∧ j' ≠ 2) := by omega
                  rcases h1 with rfl | rfl | ⟨h1, h1'⟩
                  · rcases h2 with rfl | rfl | ⟨h2, h2'⟩
                    · exact hne rfl
                    · exact (hQL x hx).2.2 hx'
                    · rw [if_neg h2, if_neg h2'] at hx'; exact hx'
                  · rcases h2 with rfl | rfl | ⟨h2, h2'⟩
                    · exact (hQL x hx').2.2 hx
                    · exact hne rfl
                    · rw [if_neg h2, if_neg h2'] at hx'; exact hx'
                  · rw [if_neg h1, if_neg h1'] at hx; exact hx
                · rcases hat9 with e | e
                  · exact .inl e.symm
                  · right; subst e; simp [Value.ownBlock]
              have hB10 : (w9.setCell ⟨ob, 0, none⟩ (.slice (some ⟨g, 0, none⟩) (k + 1) gcap)).heap[ob]? = some (.cells #[.slice (some ⟨g, 0, none⟩) (k + 1) gcap, .slice none 0 0, .int .i64 x2, .int .i64 x3] 26 (0, 0)) := by
                have := block_set (o := 0) hB9 (.slice (some ⟨g, 0, none⟩) (k + 1) gcap)
                simpa using this
              have hC10 : Chg (fun x => x = ob) Wa (w9.setCell ⟨ob, 0, none⟩ (.slice (some ⟨g, 0, none⟩) (k + 1) gcap)) := chg_up (hC.trans (Chg.of_ext (hE0))) (hcur9.setCell (p := ⟨ob, 0, none⟩) (.inl rfl) _) (fun x hx => hx.elim (fun e => .inr e) (fun e => .inl (hrl _ e).1))
              have hG10 := hrow4.setLow (p := ⟨ob, 0, none⟩) (show ob < Wa.heap.size by omega) (.slice (some ⟨g, 0, none⟩) (k + 1) gcap)
              clear hrow4 hB9 hcur9 hDl hOl hDp hOp hQL hQP hend5 hrow
              go_wp2
              go_roundw
              case rel => exact ⟨k + 1, _, _, by go_num, by omega, hG10, hB10, hC10⟩
              case measure => simp [intOf]; omega
    · have hkx : k = len0 := by omega
      subst hkx
      obtain ⟨wm, rfl⟩ : ∃ wm, wm = wr := ⟨_, rfl⟩
      have hzm := hC.size
      go_wp2
      clear g0 o0
      go_loopw [6] (fun i wr => ∃ (j : Nat) (v : Value) (ds : List Value), i = .int .i64 j ∧ j ≤ len1 ∧ GSt wr wm.heap.size 46 5 f1 j v ds ∧ wr.heap[ob]? = some (.cells #[.slice ua k ucap, v, .int .i64 x2, .int .i64 x3] 26 (0, 0)) ∧ Chg (fun x => x = ob) wm wr) (fun i _ => len1 - (intOf i).toNat)
      case atStart => exact ⟨0, _, [], rfl, Nat.zero_le _, GSt.nil _ _ _ _ _, hB, Chg.refl _ _⟩
      case round =>
        obtain ⟨j, v, ds, rfl, hj, hH, hB2, hC2⟩ := hrel
        obtain ⟨va, vcap, rfl⟩ := hH.shape
        have hEm : Ext w wr := hC2.toExt hE (fun x hx => by omega)
        have hzr2 := hC2.size
        have g1 : wr.cell? ⟨gb, 1, none⟩ = some (.slice a1 len1 cap1) := by rw [(hC.trans hC2).cell (by omega) (by omega)]; exact hga1
        have hr2 : wr.heap[gb + 1]? = some (.cells #[.slice none 0 0, .slice none 0 0, .int .i64 0, .int .i64 0] 26 (0, 0)) := by rw [(hC.trans hC2).block _ (by omega) (by omega)]; exact hra
        by_cases hjl : j < len1
        · obtain ⟨cap2, b, off, C, hsl, _, hbl, ec, hx⟩ := (h1.ext hEm).at hjl
          cases hsl
          have HR := HR1 j hjl
          obtain ⟨id, hd0⟩ := (show Has (f1 j 0) .int from HR 0 (by decide)).int
          obtain ⟨kd, hd1⟩ := (show Has (f1 j 1) .str from HR 1 (by decide)).str
          obtain ⟨xf, hd2⟩ := (show Has (f1 j 2) .int from HR 2 (by decide)).int
          obtain ⟨xt, hd3⟩ := (show Has (f1 j 3) .int from HR 3 (by decide)).int
          have HP : Has (f1 j 4) (.list 3) := HR 4 (by decide)
          have k0 := hx 0 (by decide)
          have k1 := hx 1 (by decide)
          have k2 := hx 2 (by decide)
          have k3 := hx 3 (by decide)
          have k4 := hx 4 (by decide)
          have e0 := ec 0 (by decide)
          have e1 := ec 1 (by decide)
          have e2 := ec 2 (by decide)
          have e3 := ec 3 (by decide)
          have e4 := ec 4 (by decide)
          rw [hd0] at k0
          rw [hd1] at k1
          rw [hd2] at k2
          rw [hd3] at k3
          obtain ⟨y0, z0⟩ := k0.int_eq
          obtain ⟨y1, z1⟩ := k1.str_eq
          obtain ⟨y2, z2⟩ := k2.int_eq
          obtain ⟨y3, z3⟩ := k3.int_eq
          rw [y0] at e0
          rw [y1] at e1
          rw [y2] at e2
          rw [y3] at e3
          simp only [Nat.add_zero] at e0
          have hps := fun (W : World) (hW : Ext wr W) => l2Ps_any (f1 j 4) HP (hsm1 j hjl 4 (by decide)) S (C 4) W (k4.ext hW)
          obtain ⟨aP, capP, lP, fP, hD, hcP, _, _⟩ := list_shape HP k4
          rw [hcP] at e4 hps
          clear hD ec hx k0 k1 k2 k3 k4 y0 y1 y2 y3
          have hEb : Ext wr (wr.alloc (.cells #[.int .i64 id, .string kd, .int .i64 xf, .int .i64 xt, .slice aP lP capP] 46)) := (Ext.refl _).alloc _
          go_wp2_with fail
          refine (hps _ hEb).mono ?_
          rintro e w6 ⟨pa, pl, pc, rfl, ⟨hDp, hOp⟩, hE6⟩
          clear hps
          have b0 := box_cell hE6 0 _ rfl
          have b1 := box_cell hE6 1 _ rfl
          have b2 := box_cell hE6 2 _ rfl
          have b3 := box_cell hE6 3 _ rfl
          have b4 := box_cell hE6 4 _ rfl
          have bf := box_frz2 hE6 4
          have hE7 : Ext wr (w6.setCell ⟨wr.heap.size, 4, none⟩ (.slice pa pl pc)) := (hEb.trans hE6).setCell (Nat.le_refl _) _
          have hB7 : (w6.setCell ⟨wr.heap.size, 4, none⟩ (.slice pa pl pc)).heap[ob]? = some (.cells #[.slice ua k ucap, .slice va j vcap, .int .i64 x2, .int .i64 x3] 26 (0, 0)) := by rw [Below.block hE7 _ (by omega)]; exact hB2
          have o1 : w6.cell? ⟨ob, 1, none⟩ = some (.slice va j vcap) := by rw [(hEb.trans hE6).cell (show ob < wr.heap.size by omega)]; simp [World.cell?, hB2]
          have hH7 := hH.ext hE7
          have hrl2 := fun x hx => hH.row.lt x hx
          have hA : Ext (w6.setCell ⟨wr.heap.size, 4, none⟩ (.slice pa pl pc)) ((w6.setCell ⟨wr.heap.size, 4, none⟩ (.slice pa pl pc)).alloc (.cells #[.int .i64 id, .string kd, .int .i64 xf, .int .i64 xt, .slice pa pl pc] 46)) := (Ext.refl _).alloc _
          have hnew9 : ((w6.setCell ⟨wr.heap.size, 4, none⟩ (.slice pa pl pc)).alloc (.cells #[.int .i64 id, .string kd, .int .i64 xf, .int .i64 xt, .slice pa pl pc] 46)).heap[w6.heap.size]? = some (.cells #[.int .i64 id, .string kd, .int .i64 xf, .int .i64 xt, .slice pa pl pc] 46 (0, 0)) := by
            have h := heap_alloc_new (w6.setCell ⟨wr.heap.size, 4, none⟩ (.slice pa pl pc)) (.cells #[.int .i64 id, .string kd, .int .i64 xf, .int .i64 xt, .slice pa pl pc] 46)
            rw [World.size_setCell] at h
            exact h
          have hzb : wr.heap.size + 1 ≤ w6.heap.size := by have := hE6.le; simpa using this
          go_wp2_with (at_builtin; go_must (refine wpList_append_lies _ rfl _ _ 24 rfl wm.heap.size 46 i1 _ 5 64 Tryz.underlying24 hi1 hz10 hz11 hz12 rfl (by decide) (.slice va j vcap) j ds rfl (hH7.row.alloc _) ⟨_, 0, none⟩ 1 1 [.int .i64 id, .string kd, .int .i64 xf, .int .i64 xt, .slice pa pl pc] rfl rfl (World.news_of_block (cs := #[.int .i64 id, .string kd, .int .i64 xf, .int .i64 xt, .slice pa pl pc]) (t := 46) (fr := (0, 0)) hnew9) (by simp [Value.oneCell']) (by decide) (by unfold maxLen; omega) (by omega) (by simp; omega) (w6.heap.size + 1) (by simp) ?_)
                       intro g gcap w9 hown9 hgrow9 hat9 hlt9
                       have hB9 : w9.heap[ob]? = some (.cells #[.slice ua k ucap, .slice va j vcap, .int .i64 x2, .int .i64 x3] 26 (0, 0)) := by
                         rw [hgrow9.block ob (by simp; omega) (fun e => by have := (hrl2 _ e.symm).1; omega), Below.block hA _ (by simp; omega)]
                         exact hB7
                       have hB9f : w9.frozen? ⟨ob, 1, none⟩ = false := by simp [World.frozen?, hB9]
                       have hB9c : w9.cell? ⟨ob, 1, none⟩ = some (.slice va j vcap) := by simp [World.cell?, hB9])
          have hrow4 : GSt w9 wm.heap.size 46 5 f1 (j + 1) (.slice (some ⟨g, 0, none⟩) (j + 1) gcap) (ds ++ [.int .i64 id, .string kd, .int .i64 xf, .int .i64 xt, .slice pa pl pc]) := by
            refine hH.push (w1 := (w6.setCell ⟨wr.heap.size, 4, none⟩ (.slice pa pl pc)).alloc _) (hE7.trans hA) (by omega) [.int .i64 id, .string kd, .int .i64 xf, .int .i64 xt, .slice pa pl pc] rfl (fun c => if c = 4 then New (wr.heap.size + 1) w6.heap.size else fun _ => False) (fun c hc => ?_) (fun c c' hc hc' hne x hx hx' => ?_) hown9 hgrow9 ?_
            · have hc4 : c = 0 ∨ c = 1 ∨ c = 2 ∨ c = 3 ∨ c = 4 := by omega
              have hne : ∀ x, New (wr.heap.size + 1) w6.heap.size x → x ≠ wr.heap.size := fun x hx => by have := hx.1; omega
              rcases hc4 with rfl | rfl | rfl | rfl | rfl
              · rw [hd0]; exact ⟨⟨rfl, z0⟩, trivial, fun x hx => absurd hx (by simp)⟩
              · rw [hd1]; exact ⟨⟨rfl, z1⟩, trivial, fun x hx => absurd hx (by simp)⟩
              · rw [hd2]; exact ⟨⟨rfl, z2⟩, trivial, fun x hx => absurd hx (by simp)⟩
              · rw [hd3]; exact ⟨⟨rfl, z3⟩, trivial, fun x hx => absurd hx (by simp)⟩
              · rw [World.size_alloc] at hDp hOp
                exact ⟨(hDp.setCell (fun h => hne _ h rfl) _).ext hA, (hOp.setCell (fun h => hne _ h rfl) _).ext hA, fun x hx => ⟨by have := hx.1; omega, by have := hx.2; simp; omega⟩⟩
            · by_cases h4' : c = 4
              · rw [if_neg (by omega)] at hx'; exact hx'
              · rw [if_neg h4'] at hx; exact hx
            · rcases hat9 with e | e
              · exact .inl e.symm
              · right; subst e; simp [Value.ownBlock]
          have hB10 : (w9.setCell ⟨ob, 1, none⟩ (.slice (some ⟨g, 0, none⟩) (j + 1) gcap)).heap[ob]? = some (.cells #[.slice ua k ucap, .slice (some ⟨g, 0, none⟩) (j + 1) gcap, .int .i64 x2, .int .i64 x3] 26 (0, 0)) := by
            have := block_set (o := 1) hB9 (.slice (some ⟨g, 0, none⟩) (j + 1) gcap)
            simpa using this
          have hC9 : Chg (fun x => x = ob ∨ (Value.slice va j vcap).ownBlock = some x) wr w9 := (Chg.of_ext (hE7.trans hA)).grown hgrow9 (fun b hb => .inr hb)
          have hC10 : Chg (fun x => x = ob) wm (w9.setCell ⟨ob, 1, none⟩ (.slice (some ⟨g, 0, none⟩) (j + 1) gcap)) := chg_up hC2 (hC9.setCell (p := ⟨ob, 1, none⟩) (.inl rfl) _) (fun x hx => hx.elim (fun e => .inr e) (fun e => .inl (hrl2 _ e).1))
          have hG10 := hrow4.setLow (p := ⟨ob, 1, none⟩) (show ob < wm.heap.size by omega) (.slice (some ⟨g, 0, none⟩) (j + 1) gcap)
          clear hrow4 hC9 hDp hOp
          go_roundw
          case rel => exact ⟨j + 1, _, _, by go_num, by omega, hG10, hB10, hC10⟩
          case measure => simp [intOf]; omega
        · have hjx : j = len1 := by omega
          subst hjx
          have o0 : wr.cell? ⟨ob, 0, none⟩ = some (.slice ua k ucap) := by simp [World.cell?, hB2]
          have o1 : wr.cell? ⟨ob, 1, none⟩ = some (.slice va j vcap) := by simp [World.cell?, hB2]
          have o2 : wr.cell? ⟨ob, 2, none⟩ = some (.int .i64 x2) := by simp [World.cell?, hB2]
          have o3 : wr.cell? ⟨ob, 3, none⟩ = some (.int .i64 x3) := by simp [World.cell?, hB2]
          have r0 : wr.cell? ⟨gb + 1, 0, none⟩ = some (.slice none 0 0) := by simp [World.cell?, hr2]
          have r1 : wr.cell? ⟨gb + 1, 1, none⟩ = some (.slice none 0 0) := by simp [World.cell?, hr2]
          have r2 : wr.cell? ⟨gb + 1, 2, none⟩ = some (.int .i64 0) := by simp [World.cell?, hr2]
          have r3 : wr.cell? ⟨gb + 1, 3, none⟩ = some (.int .i64 0) := by simp [World.cell?, hr2]
          have q0 : wr.frozen? ⟨gb + 1, 0, none⟩ = false := by simp [World.frozen?, hr2]
          have q1 : wr.frozen? ⟨gb + 1, 1, none⟩ = false := by simp [World.frozen?, hr2]
          have q2 : wr.frozen? ⟨gb + 1, 2, none⟩ = false := by simp [World.frozen?, hr2]
          have q3 : wr.frozen? ⟨gb + 1, 3, none⟩ = false := by simp [World.frozen?, hr2]
          have hCf : Chg (fun x => x = gb + 1) wr ((((wr.setCell ⟨gb + 1, 0, none⟩ (.slice ua k ucap)).setCell ⟨gb + 1, 1, none⟩ (.slice va j vcap)).setCell ⟨gb + 1, 2, none⟩ (.int .i64 x2)).setCell ⟨gb + 1, 3, none⟩ (.int .i64 x3)) := ((((Chg.refl (fun x => x = gb + 1) wr).setCell (p := ⟨gb + 1, 0, none⟩) rfl _).setCell (p := ⟨gb + 1, 1, none⟩) rfl _).setCell (p := ⟨gb + 1, 2, none⟩) rfl _).setCell (p := ⟨gb + 1, 3, none⟩) rfl _
          have hR1 : Hid _ := And.intro (((GRow.of hG).chg hC2 (fun x hx h => by have := hx.1; omega)).chg hCf (fun x hx h => by have := hx.1; omega)) ((GRow.of hH).chg hCf (fun x hx h => by have := hx.1; omega))
          have hX : Hid (Ext w ((((wr.setCell ⟨gb + 1, 0, none⟩ (.slice ua k ucap)).setCell ⟨gb + 1, 1, none⟩ (.slice va j vcap)).setCell ⟨gb + 1, 2, none⟩ (.int .i64 x2)).setCell ⟨gb + 1, 3, none⟩ (.int .i64 x3))) := hCf.toExt hEm (fun x hx => by omega)
          go_wp2
          refine bodyPost_ret (v := .agg #[.slice ua k ucap, .slice va j vcap, .int .i64 x2, .int .i64 x3]) (by simp [results, Tryz.results17, go_sem, r0, r1, r2, r3]) rfl ⟨_, _, _, _, Wa.heap.size, wm.heap.size, _, _, rfl, by omega, by simp; omega, hR1.out.1, by simp; omega, hR1.out.2, fun x hx => by have := hx.1; omega, fun x hx => ⟨by have := hx.1; omega, by have := hx.2; simp; omega, fun h => by have := h.2; have := hx.1; omega⟩, hX.out⟩
end Go.Proofs.YtbhmblkappmfjaaGreat
