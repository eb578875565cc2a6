/- What spec.l2Ps answers: the same props, in new memory of their own. -/
import Derived.Test.YtnhgnklapfhekaaGreatSpecCopy
import Derived.Test.YtnhgnklapfhekaaGreatWithSpec
import Derived.Deep.RegionHeld3
namespace Go.Proofs.YtnhgnklapfhekaaGreat
open Go.RowKit Go.Deep

theorem Tryz.infoPc : (Tryz.prog.info? 61).map (fun i => (i.zero, i.size, i.bytes)) = some (some (.agg #[.string ⟨#[]⟩, .int .i64 0, .int .i64 0, .string ⟨#[]⟩, .slice none 0 0]), 5, 72) := by kernel_rfl
set_option maxRecDepth 100000 in
set_option maxHeartbeats 4000000 in
theorem l2Ps_any (d : D) (H : Has d (.list 3)) (hs : SmallD d) (S : Nat → Prop) (v : Value) (w : World) (hv : DIn S w d v) :
    Calls Tryz.prog 44 #[v] w fun e w' => ∃ a l c, e = .returned (.slice a l c) ∧ (DIn (New w.heap.size w'.heap.size) w' d (.slice a l c) ∧ Own w' d (New w.heap.size w'.heap.size) (.slice a l c)) ∧ Ext w w' := by
  obtain ⟨len, f, rfl, HRa⟩ := H.list
  change DIn S w (.list 5 len f) v at hv
  obtain ⟨_, hl, hsm⟩ := hs
  obtain ⟨a, cap, rfl, hm⟩ := hv.list_eq
  clear hm
  obtain ⟨i0, hi, hz0, hz1, hz2⟩ := info_parts Tryz.infoPc
  change Calls _ _ _ _ fun e w' => ∃ a l c, e = .returned (.slice a l c) ∧ (DIn (New w.heap.size w'.heap.size) w' (.list 5 len f) (.slice a l c) ∧ Own w' (.list 5 len f) (New w.heap.size w'.heap.size) (.slice a l c)) ∧ Ext w w'
  go_enter Tryz.func44, Tryz.ntmps44
  go_wp2
  have hG0 := GSt.made w w.heap.size 61 5 f (Nat.le_refl _)
  have hE0 : Ext w (w.alloc (.cells #[] 61)) := (Ext.refl _).alloc _
  go_loopw [3, 4] (fun u i wr => ∃ (k : Nat) (cs : List Value), k ≤ len ∧ i = .int .i64 k ∧ GSt wr w.heap.size 61 5 f k u cs ∧ Ext w wr) (fun _ i _ => len - (intOf i).toNat)
  case atStart => exact ⟨0, [], Nat.zero_le _, rfl, hG0, hE0⟩
  case round =>
    clear hG0 hE0
    obtain ⟨k, cs, hk, rfl, hG, hE⟩ := hrel
    obtain ⟨ua, ucap, rfl⟩ := hG.shape
    by_cases hlt : k < len
    · obtain ⟨cap2, b, off, C, hsl, _, _, ec, hx⟩ := hv.at hlt
      have hbl : b < w.heap.size := by assumption
      cases hsl
      have HR := HRa k hlt
      obtain ⟨x0, hd0⟩ := (show Has (f k 0) .str from HR 0 (by decide)).str
      obtain ⟨x1, hd1⟩ := (show Has (f k 1) .int from HR 1 (by decide)).int
      obtain ⟨x2, hd2⟩ := (show Has (f k 2) .int from HR 2 (by decide)).int
      obtain ⟨x3, hd3⟩ := (show Has (f k 3) .str from HR 3 (by decide)).str
      have H4 : Has (f k 4) (.list 2) := HR 4 (by decide)
      have k0 := hx 0 (by decide)
      have k1 := hx 1 (by decide)
      have k2 := hx 2 (by decide)
      have k3 := hx 3 (by decide)
      have k4 := hx 4 (by decide)
      have e0 := ec 0 (by decide)
      have e1 := ec 1 (by decide)
      have e2 := ec 2 (by decide)
      have e3 := ec 3 (by decide)
      have e4 := ec 4 (by decide)
      rw [hd0] at k0
      rw [hd1] at k1
      rw [hd2] at k2
      rw [hd3] at k3
      obtain ⟨y0, z0⟩ := k0.str_eq
      obtain ⟨y1, z1⟩ := k1.int_eq
      obtain ⟨y2, z2⟩ := k2.int_eq
      obtain ⟨y3, z3⟩ := k3.str_eq
      rw [y0] at e0
      rw [y1] at e1
      rw [y2] at e2
      rw [y3] at e3
      simp only [Nat.add_zero] at e0
      have hcall := fun (W : World) (hW : Ext w W) => l1Copy_D (f k 4) H4 (hsm k hlt 4 (by decide)) S x1 x2 x3 (C 4) W (k4.ext hW)
      obtain ⟨a4, cap4, l4, f4, hD4, hC4, _, _⟩ := list_shape H4 k4
      rw [hC4] at e4 hcall
      clear hD4 hC4 ec hx k0 k1 k2 k3 k4 y0 y1 y2 y3
      have HK : Hid (∀ W, Ext w W → W.cell? ⟨b, off + k * 5, none⟩ = some (.string x0) ∧ W.cell? ⟨b, off + k * 5 + 1, none⟩ = some (.int .i64 x1) ∧ W.cell? ⟨b, off + k * 5 + 2, none⟩ = some (.int .i64 x2) ∧ W.cell? ⟨b, off + k * 5 + 3, none⟩ = some (.string x3) ∧ W.cell? ⟨b, off + k * 5 + 4, none⟩ = some (.slice a4 l4 cap4)) := fun W hW => by
        rw [hW.cell hbl, hW.cell hbl, hW.cell hbl, hW.cell hbl, hW.cell hbl]; exact ⟨e0, e1, e2, e3, e4⟩
      clear e0 e1 e2 e3 e4
      have hGd := hG.ext (Ext.refl wr).drew
      have hle := hE.le
      go_wp2_with fail
      have hcur : Ext w wr.drew := hE.drew
      refine wp_region_held_drew (S := (fun W => W.cell? ⟨b, off + k * 5, none⟩ = some (.string x0) ∧ W.cell? ⟨b, off + k * 5 + 1, none⟩ = some (.int .i64 x1) ∧ W.cell? ⟨b, off + k * 5 + 2, none⟩ = some (.int .i64 x2) ∧ W.cell? ⟨b, off + k * 5 + 3, none⟩ = some (.string x3) ∧ W.cell? ⟨b, off + k * 5 + 4, none⟩ = some (.slice a4 l4 cap4))) (by kernel_rfl) (HK.out _ hcur) (fun hHeld => ?_)
      refine wpAnyH_take (i := 0) (oi := ⟨some 12, .move (.tmp 3), 36, _, #[], none⟩) (v := ?_) rfl (by kernel_rfl) (by kernel_rfl) (by kernel_rfl) (fun _ _ _ h => h) (Or.inl ⟨by rfl, ?yyA0⟩) hHeld ?rrA0
      case yyA0 => (intro w hSw; (try dsimp only at hSw); go_simp; first | done | with_reducible rfl)
      try simp only [Act.put, putA, putB, putC]
      refine wpAnyH_take (i := 1) (oi := ⟨some 13, .move (.tmp 0), 36, _, #[], none⟩) (v := ?_) rfl (by kernel_rfl) (by kernel_rfl) (by kernel_rfl) (fun _ _ _ h => h) (Or.inl ⟨by rfl, ?yyA1⟩) hHeld ?rrA1
      case yyA1 => (intro w hSw; (try dsimp only at hSw); go_simp; first | done | with_reducible rfl)
      try simp only [Act.put, putA, putB, putC]
      refine wpAnyH_take (i := 2) (oi := ⟨some 14, .move (.tmp 4), 3, _, #[], none⟩) (v := ?_) rfl (by kernel_rfl) (by kernel_rfl) (by kernel_rfl) (fun _ _ _ h => h) (Or.inl ⟨by rfl, ?yyA2⟩) hHeld ?rrA2
      case yyA2 => (intro w hSw; (try dsimp only at hSw); go_simp; first | done | with_reducible rfl)
      try simp only [Act.put, putA, putB, putC]
      refine wpAnyH_take (i := 3) (oi := ⟨some 15, .indexAddr 36 (.tmp 13) (.tmp 14), 0, _, #[⟨1, .data⟩, ⟨2, .data⟩], none⟩) (v := ?_) rfl (by kernel_rfl) (by kernel_rfl) (by kernel_rfl) (fun _ _ _ h => h) (Or.inl ⟨by rfl, ?yyA3⟩) hHeld ?rrA3
      case yyA3 => (intro w hSw; (try dsimp only at hSw); go_simp; first | done | with_reducible rfl)
      try simp only [Act.put, putA, putB, putC]
      refine wpAnyH_take (i := 4) (oi := ⟨some 16, .fieldAddr 61 (.tmp 15) 0, 0, _, #[⟨3, .data⟩], none⟩) (v := ?_) rfl (by kernel_rfl) (by kernel_rfl) (by kernel_rfl) (fun _ _ _ h => h) (Or.inl ⟨by rfl, ?yyA4⟩) hHeld ?rrA4
      case yyA4 => (intro w hSw; (try dsimp only at hSw); go_simp; first | done | with_reducible rfl)
      try simp only [Act.put, putA, putB, putC]
      refine wpAnyH_take (i := 5) (oi := ⟨some 17, .load 9 (.tmp 16), 9, _, #[⟨4, .data⟩], none⟩) (v := ?_) rfl (by kernel_rfl) (by kernel_rfl) (by kernel_rfl) (fun _ _ _ h => h) (Or.inl ⟨by rfl, ?yyA5⟩) hHeld ?rrA5
      case yyA5 => (intro w hSw; (try dsimp only at hSw); go_simp; first | done | with_reducible rfl)
      try simp only [Act.put, putA, putB, putC]
      refine wpAnyH_take (i := 6) (oi := ⟨some 18, .move (.tmp 0), 36, _, #[], none⟩) (v := ?_) rfl (by kernel_rfl) (by kernel_rfl) (by kernel_rfl) (fun _ _ _ h => h) (Or.inl ⟨by rfl, ?yyA6⟩) hHeld ?rrA6
      case yyA6 => (intro w hSw; (try dsimp only at hSw); go_simp; first | done | with_reducible rfl)
      try simp only [Act.put, putA, putB, putC]
      refine wpAnyH_take (i := 7) (oi := ⟨some 19, .move (.tmp 4), 3, _, #[], none⟩) (v := ?_) rfl (by kernel_rfl) (by kernel_rfl) (by kernel_rfl) (fun _ _ _ h => h) (Or.inl ⟨by rfl, ?yyA7⟩) hHeld ?rrA7
      case yyA7 => (intro w hSw; (try dsimp only at hSw); go_simp; first | done | with_reducible rfl)
      try simp only [Act.put, putA, putB, putC]
      refine wpAnyH_take (i := 8) (oi := ⟨some 20, .indexAddr 36 (.tmp 18) (.tmp 19), 0, _, #[⟨6, .data⟩, ⟨7, .data⟩], none⟩) (v := ?_) rfl (by kernel_rfl) (by kernel_rfl) (by kernel_rfl) (fun _ _ _ h => h) (Or.inl ⟨by rfl, ?yyA8⟩) hHeld ?rrA8
      case yyA8 => (intro w hSw; (try dsimp only at hSw); go_simp; first | done | with_reducible rfl)
      try simp only [Act.put, putA, putB, putC]
      refine wpAnyH_take (i := 9) (oi := ⟨some 21, .fieldAddr 61 (.tmp 20) 1, 0, _, #[⟨8, .data⟩], none⟩) (v := ?_) rfl (by kernel_rfl) (by kernel_rfl) (by kernel_rfl) (fun _ _ _ h => h) (Or.inl ⟨by rfl, ?yyA9⟩) hHeld ?rrA9
      case yyA9 => (intro w hSw; (try dsimp only at hSw); go_simp; first | done | with_reducible rfl)
      try simp only [Act.put, putA, putB, putC]
      refine wpAnyH_take (i := 10) (oi := ⟨some 22, .load 59 (.tmp 21), 59, _, #[⟨9, .data⟩], none⟩) (v := ?_) rfl (by kernel_rfl) (by kernel_rfl) (by kernel_rfl) (fun _ _ _ h => h) (Or.inl ⟨by rfl, ?yyA10⟩) hHeld ?rrA10
      case yyA10 => (intro w hSw; (try dsimp only at hSw); go_simp; first | done | with_reducible rfl)
      try simp only [Act.put, putA, putB, putC]
      refine wpAnyH_ready (rs := [11]) (by kernel_rfl) (by simp) ?_
      refine AllReadyH.cons (o := ⟨some 23, .call { callee := .value (.func 68), args := #[.tmp 22], argTypes := #[59] }, 59, _, #[⟨10, .data⟩], none⟩) rfl (fun K hK => ?_) (AllReadyH.nil)
      go_simp
      refine (hcall _ hcur).mono ?_
      rintro e w1 ⟨vv, rfl, ⟨hDv, hOv⟩, hE1⟩
      obtain ⟨xa, xc, xl, fx, hDx, hCx, _, _⟩ := list_shape H4 hDv
      subst hCx
      clear hDx
      replace hcur := hcur.trans hE1
      go_wp2_with fail
      refine hK.out _ _ (HK.out _ hcur) (fun hHeld => ?_)
      clear hK K
      try simp only [Act.put, putA, putB, putC]
      refine wpAnyH_take (i := 12) (oi := ⟨some 24, .build 61 #[(0, .tmp 17), (1, .tmp 23)], 61, _, #[⟨5, .data⟩, ⟨11, .data⟩], none⟩) (v := ?_) rfl (by kernel_rfl) (by kernel_rfl) (by kernel_rfl) (fun _ _ _ h => h) (Or.inl ⟨by rfl, ?yyA12⟩) hHeld ?rrA12
      case yyA12 => (intro w hSw; (try dsimp only at hSw); go_simp; first | done | with_reducible rfl)
      try simp only [Act.put, putA, putB, putC]
      refine wpAnyH_ready (rs := [13]) (by kernel_rfl) (by simp) ?_
      refine AllReadyH.cons (o := ⟨some 25, .buildSlice 36 1 #[(0, .tmp 24)], 36, _, #[⟨12, .data⟩], none⟩) rfl (fun K hK => ?_) (AllReadyH.nil)
      go_simp
      refine hK.out _ _ (HK.out _ (hcur.alloc _)) (fun hHeld => ?_)
      clear hK K
      try simp only [Act.put, putA, putB, putC]
      refine wpAnyH_ready (rs := [14]) (by kernel_rfl) (by simp) ?_
      refine AllReadyH.cons (o := ⟨some 26, .call { callee := .builtin .append, args := #[.tmp 12, .tmp 25], argTypes := #[36, 36] }, 36, _, #[⟨0, .data⟩, ⟨13, .data⟩, ⟨11, .chain⟩], none⟩) rfl (fun K hK => ?_) (AllReadyH.nil)
      have hG1 := hGd.ext hE1
      have hle1 := hE1.le
      refine step_append_lies _ (by rfl) _ _ _ (by rfl) w.heap.size 61 i0 _ 5 72 Tryz.underlying36 hi hz0 hz1 hz2 rfl (by omega) (.slice ua k ucap) k cs (by rfl) (hG1.row.alloc _) ⟨w1.heap.size, 0, none⟩ 1 1 [.string x0, .int .i64 x1, .int .i64 x2, .string x3, .slice xa xl xc] (by rfl) (by rfl) (World.news_of_block (cs := #[.string x0, .int .i64 x1, .int .i64 x2, .string x3, .slice xa xl xc]) (t := 61) (fr := (0, 0)) (heap_alloc_new w1 _)) (by simp [Value.oneCell']) (by omega) (by unfold maxLen; omega) (by omega) (by have := hcur.le; simp; omega) (w1.heap.size + 1) (by simp) ?_
      intro g gcap w4 hown4 hgrow hat hlt4
      have hA : Ext w1 (w1.alloc (.cells #[.string x0, .int .i64 x1, .int .i64 x2, .string x3, .slice xa xl xc] 61)) := (Ext.refl _).alloc _
      have hE4 : Ext w w4 := Below.grown (hcur.trans hA) hgrow (hcur.trans hA).le (fun j hj => (hG1.row.lt j hj).1)
      have hrow4 : GSt w4 w.heap.size 61 5 f (k + 1) (.slice (some ⟨g, 0, none⟩) (k + 1) gcap) (cs ++ [.string x0, .int .i64 x1, .int .i64 x2, .string x3, .slice xa xl xc]) := by
        refine hGd.push (w1 := w1.alloc _) (hE1.trans hA) hle [.string x0, .int .i64 x1, .int .i64 x2, .string x3, .slice xa xl xc] rfl (fun j => if j = 4 then New wr.drew.heap.size w1.heap.size else fun _ => False) (fun j hj => ?_) (fun j j' hj hj' hne x hx hx' => ?_) hown4 hgrow ?_
        · have hc4 : j = 0 ∨ j = 1 ∨ j = 2 ∨ j = 3 ∨ j = 4 := by omega
          rcases hc4 with rfl | rfl | rfl | rfl | rfl
          · rw [hd0]; exact ⟨⟨rfl, z0⟩, trivial, fun x hx => absurd hx (by simp)⟩
          · rw [hd1]; exact ⟨⟨rfl, z1⟩, trivial, fun x hx => absurd hx (by simp)⟩
          · rw [hd2]; exact ⟨⟨rfl, z2⟩, trivial, fun x hx => absurd hx (by simp)⟩
          · rw [hd3]; exact ⟨⟨rfl, z3⟩, trivial, fun x hx => absurd hx (by simp)⟩
          · exact ⟨hDv.ext hA, hOv.ext hA, fun x hx => ⟨hx.1, Nat.lt_of_lt_of_le hx.2 hA.le⟩⟩
        · by_cases h4' : j = 4
          · rw [if_neg (by omega)] at hx'; exact hx'
          · rw [if_neg h4'] at hx; exact hx
        · rcases hat with e | e
          · exact .inl e.symm
          · right; subst e; simp [Value.ownBlock]
      refine hK.out _ _ (HK.out _ hE4) (fun hHeld => ?_)
      clear hK K hDv hOv hcall
      try simp only [Act.put, putA, putB, putC]
      refine wpAnyH_take (i := 15) (oi := ⟨some 3, .assign (.tmp 26), 36, _, #[⟨14, .data⟩, ⟨14, .chain⟩, ⟨0, .phase⟩, ⟨1, .phase⟩, ⟨2, .phase⟩, ⟨3, .phase⟩, ⟨4, .phase⟩, ⟨5, .phase⟩, ⟨6, .phase⟩, ⟨7, .phase⟩, ⟨8, .phase⟩, ⟨9, .phase⟩, ⟨10, .phase⟩, ⟨11, .phase⟩, ⟨12, .phase⟩, ⟨13, .phase⟩, ⟨14, .phase⟩], none⟩) (v := ?_) rfl (by kernel_rfl) (by kernel_rfl) (by kernel_rfl) (fun _ _ _ h => h) (Or.inl ⟨by rfl, ?yyA15⟩) hHeld ?rrA15
      case yyA15 => (intro w hSw; (try dsimp only at hSw); go_simp; first | done | with_reducible rfl)
      try simp only [Act.put, putA, putB, putC]
      refine wpAnyH_done (by kernel_rfl) ?_ _
      go_wp2
      go_roundw
      case rel => exact ⟨k + 1, _, by omega, by go_num, hrow4, hE4⟩
      case measure => simp [intOf]; omega
    · have hkx : k = len := by omega
      subst hkx
      have hend : Hid _ := hG.end (by unfold maxLen; omega)
      go_wp2
      go_ret
      exact ⟨_, _, _, rfl, hend.out, hE⟩
end Go.Proofs.YtnhgnklapfhekaaGreat
