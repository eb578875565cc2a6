/- What impl.propsOf answers. -/
import Derived.Test.YtejahpkpmbnmkaaGreatGLabels
namespace Go.Proofs.YtejahpkpmbnmkaaGreat
open Go.RowKit Go.Deep

theorem Tryz.infoP : (Tryz.prog.info? 97).map (fun i => (i.zero, i.size, i.bytes)) = some (some (.agg #[.string ⟨#[]⟩, .int .i64 0, .int .i64 0, .string ⟨#[]⟩, .slice none 0 0]), 5, 72) := by kernel_rfl

set_option maxRecDepth 100000 in
set_option maxHeartbeats 4000000 in
theorem propsOf_any (d : D) (H : Has d (.list 3)) (S : Nat → Prop) (v : Value) (w : World) (hv : DIn S w d v) :
    Calls Tryz.prog 55 #[v] w fun e w' => ∃ a l c, e = .returned (.tuple #[.slice a l c, .bool (propsB d)]) ∧ (propsB d = true → DIn (New w.heap.size w'.heap.size) w' d (.slice a l c) ∧ Own w' d (New w.heap.size w'.heap.size) (.slice a l c)) ∧ Ext w w' := by
  obtain ⟨len, f, rfl, HRa⟩ := H.list
  change DIn S w (.list 5 len f) v at hv
  obtain ⟨a, cap, rfl, hm⟩ := hv.list_eq
  unfold maxLen at hm
  have HB : Hid (propsB (.list (rowsOf 3).length len f) = ((List.range len).all (propB f) && decide (len ≤ 4))) := rfl
  generalize hlb : propsB (.list (rowsOf 3).length len f) = lb at *
  rw [show (rowsOf 3).length = 5 from rfl] at *
  clear hlb
  by_cases hl3 : 4 < len
  · have hf : Hid (lb = false) := by show _ = _; rw [HB.out, decide_eq_false (by omega : ¬ len ≤ 4), Bool.and_false]
    go_enter Tryz.func55, Tryz.ntmps55
    go_wp2
    go_ret2
    exact ⟨_, _, _, by rw [hf.out]; rfl, fun h => (by rw [hf.out] at h; cases h), Ext.refl _⟩
  obtain ⟨i0, hi, hz0, hz1, hz2⟩ := info_parts Tryz.infoP
  go_enter Tryz.func55, Tryz.ntmps55
  go_wp2
  go_loopw [4, 14] (fun u i wr => ∃ (k : Nat) (cs : List Value), k ≤ len ∧ i = .int .i64 k ∧ GSt wr w.heap.size 97 5 f k u cs ∧ Ext w wr ∧ ∀ j, j < k → propB f j = true) (fun _ i _ => len - (intOf i).toNat)
  case atStart => exact ⟨0, [], Nat.zero_le _, rfl, GSt.nil _ _ _ _ _, Ext.refl _, fun j h => by omega⟩
  case round =>
    obtain ⟨k, cs, hk, rfl, hG, hE, hno⟩ := hrel
    obtain ⟨ua, ucap, rfl⟩ := hG.shape
    by_cases hlt : k < len
    · obtain ⟨cap2, b, off, C, hsl, _, hb, ec, hx⟩ := (hv.ext hE).at hlt
      cases hsl
      have HR := HRa k hlt
      obtain ⟨x0, hd0⟩ := (show Has (f k 0) .str from HR 0 (by decide)).str
      have h0 := hx 0 (by decide)
      have e0 := ec 0 (by decide)
      rw [hd0] at h0
      obtain ⟨y0, z0⟩ := h0.str_eq
      rw [y0] at e0
      clear y0
      obtain ⟨x1, hd1⟩ := (show Has (f k 1) .int from HR 1 (by decide)).int
      have h1 := hx 1 (by decide)
      have e1 := ec 1 (by decide)
      rw [hd1] at h1
      obtain ⟨y1, z1⟩ := h1.int_eq
      rw [y1] at e1
      clear y1
      obtain ⟨x2, hd2⟩ := (show Has (f k 2) .int from HR 2 (by decide)).int
      have h2 := hx 2 (by decide)
      have e2 := ec 2 (by decide)
      rw [hd2] at h2
      obtain ⟨y2, z2⟩ := h2.int_eq
      rw [y2] at e2
      clear y2
      obtain ⟨x3, hd3⟩ := (show Has (f k 3) .str from HR 3 (by decide)).str
      have h3 := hx 3 (by decide)
      have e3 := ec 3 (by decide)
      rw [hd3] at h3
      obtain ⟨y3, z3⟩ := h3.str_eq
      rw [y3] at e3
      clear y3
      have H4 : Has (f k 4) (.list 2) := HR 4 (by decide)
      have h4 := hx 4 (by decide)
      have e4 := ec 4 (by decide)
      simp only [Nat.add_zero] at e0
      clear hx ec
      obtain ⟨X, hX⟩ : ∃ X, X = pvalOf (f k) := ⟨_, rfl⟩
      have hXe : X = .mk x1 x2 x3 (vsOf (f k 4)) := by rw [hX, pvalOf, hd1, hd2, hd3]; rfl
      have hLk : Hid (propB f k = (nameB x0 && okN 3 X && plainB X && (k == 0 || ltS (f (k - 1) 0).str! x0))) := by show _ = _; rw [propB, ← hX, hd0]; rfl
      have hbad : propB f k = false → lb = false := fun h => by rw [HB.out, all_no hlt h]; rfl
      have hcall := fun W (hW : Ext wr W) => propValue_any x1 x2 x3 (f k 4) (C 4) S W z1 z2 z3 H4 (h4.ext hW)
      rw [← hXe] at hcall
      obtain ⟨a4, cap4, l4, f4, _, hC4, _, _⟩ := list_shape H4 h4
      rw [hC4] at hcall e4
      clear HR hX hXe h4 hC4
      go_wp2_with fail
      refine (hcall _ ((Ext.refl _).alloc _)).mono ?_
      rintro e w1 ⟨y0, y1, y2, ya, yl, yc, rfl, hcp, hE1⟩
      clear hcall
      have hE1' : Ext wr w1 := ((Ext.refl _).alloc _).trans hE1
      have hszb : wr.heap.size < w1.heap.size := by have := hE1.le; simp at this; omega
      go_wp2_with fail
      generalize hW1 : w1.alloc _ = W1
      have hEa : Ext w1 W1 := by subst hW1; exact (Ext.refl _).alloc _
      have hszW : W1.heap.size = w1.heap.size + 1 := by subst hW1; simp
      have hnm : ∀ W, Ext W1 W → W.cell? ⟨wr.heap.size, 0, none⟩ = some (.string x0) := fun W hW => box_cell (hE1.trans (hEa.trans hW)) 0 _ rfl
      have hvb : ∀ W, Ext W1 W → W.cell? ⟨w1.heap.size, 0, none⟩ = some (.int .i64 y0) ∧ W.cell? ⟨w1.heap.size, 1, none⟩ = some (.int .i64 y1) ∧ W.cell? ⟨w1.heap.size, 2, none⟩ = some (.string y2) ∧ W.cell? ⟨w1.heap.size, 3, none⟩ = some (.slice ya yl yc) := fun W hW => by
        subst hW1; exact ⟨box_cell hW 0 _ rfl, box_cell hW 1 _ rfl, box_cell hW 2 _ rfl, box_cell hW 3 _ rfl⟩
      clear hW1
      have hA : Ext w W1 := (hE.trans hE1').trans hEa
      cases hop : (okN 3 X && plainB X)
      · have hfin : Hid (lb = false) := hbad (by rw [hLk.out, Bool.and_assoc (nameB x0), hop]; simp)
        clear hcp
        have HK : Hid (∀ W, Ext W1 W → W.cell? ⟨wr.heap.size, 0, none⟩ = some (.string x0)) := hnm
        have hcur : Ext W1 W1.drew := (Ext.refl _).drew
        refine wp_region_held_drew (S := (fun W => W.cell? ⟨wr.heap.size, 0, none⟩ = some (.string x0))) (by kernel_rfl) (HK.out _ hcur) (fun hHeld => ?_)
        refine wpAnyH_take (i := 0) (oi := ⟨some 25, .move (.tmp 8), 4, _, #[], none⟩) (v := ?_) rfl (by kernel_rfl) (by kernel_rfl) (by kernel_rfl) (fun _ _ _ h => h) (Or.inl ⟨by rfl, ?yyA0⟩) hHeld ?rrA0
        case yyA0 => (intro w hSw; (try dsimp only at hSw); go_simp; first | done | with_reducible rfl)
        try simp only [Act.put, putA, putB, putC]
        refine wpAnyH_take (i := 1) (oi := ⟨some 26, .unOp .not 4 (.tmp 25), 4, _, #[⟨0, .data⟩], none⟩) (v := ?_) rfl (by kernel_rfl) (by kernel_rfl) (by kernel_rfl) (fun _ _ _ h => h) (Or.inl ⟨by rfl, ?yyA1⟩) hHeld ?rrA1
        case yyA1 => (intro w hSw; (try dsimp only at hSw); go_simp; first | done | with_reducible rfl)
        try simp only [Act.put, putA, putB, putC]
        refine wpAnyH_take (i := 2) (oi := ⟨some 27, .move (.tmp 26), 4, _, #[⟨1, .data⟩], none⟩) (v := ?_) rfl (by kernel_rfl) (by kernel_rfl) (by kernel_rfl) (fun _ _ _ h => h) (Or.inl ⟨by rfl, ?yyA2⟩) hHeld ?rrA2
        case yyA2 => (intro w hSw; (try dsimp only at hSw); go_simp; first | done | with_reducible rfl)
        try simp only [Act.put, putA, putB, putC]
        refine wpAnyH_take (i := 3) (oi := ⟨some 28, .fieldAddr 97 (.tmp 6) 0, 0, _, #[⟨2, .guard⟩], some (2, false)⟩) (v := undef) rfl (by kernel_rfl) (by kernel_rfl) (by kernel_rfl) (fun _ _ _ h => h) (Or.inr ⟨by rfl, rfl⟩) hHeld ?_
        try simp only [Act.put, putA, putB, putC]
        refine wpAnyH_take (i := 4) (oi := ⟨some 29, .load 9 (.tmp 28), 9, _, #[⟨3, .data⟩, ⟨2, .guard⟩], some (2, false)⟩) (v := undef) rfl (by kernel_rfl) (by kernel_rfl) (by kernel_rfl) (fun _ _ _ h => h) (Or.inr ⟨by rfl, rfl⟩) hHeld ?_
        try simp only [Act.put, putA, putB, putC]
        refine wpAnyH_ready (rs := [5]) (by kernel_rfl) (by simp) ?_
        refine AllReadyH.cons (o := ⟨some 30, .call { callee := .value (.func 57), args := #[.tmp 29], argTypes := #[9] }, 4, _, #[⟨4, .data⟩, ⟨2, .chain⟩, ⟨2, .guard⟩], some (2, false)⟩) rfl (fun K hK => ?_) AllReadyH.nil
        rw [if_neg (by simp [Region.wanted, yielded])]
        refine hK.out _ _ hHeld (fun hHeld => ?_)
        clear hK K
        try simp only [Act.put, putA, putB, putC]
        refine wpAnyH_take (i := 6) (oi := ⟨some 31, .unOp .not 4 (.tmp 30), 4, _, #[⟨5, .data⟩, ⟨2, .guard⟩], some (2, false)⟩) (v := undef) rfl (by kernel_rfl) (by kernel_rfl) (by kernel_rfl) (fun _ _ _ h => h) (Or.inr ⟨by rfl, rfl⟩) hHeld ?_
        try simp only [Act.put, putA, putB, putC]
        refine wpAnyH_take (i := 7) (oi := ⟨some 32, .pick (.tmp 27) (.const (.bool true)) (.tmp 31), 4, _, #[⟨2, .data⟩, ⟨6, .data⟩], none⟩) (v := ?_) rfl (by kernel_rfl) (by kernel_rfl) (by kernel_rfl) (fun _ _ _ h => h) (Or.inl ⟨by rfl, ?yyA7⟩) hHeld ?rrA7
        case yyA7 => (intro w hSw; (try dsimp only at hSw); go_simp; first | done | with_reducible rfl)
        try simp only [Act.put, putA, putB, putC]
        refine wpAnyH_take (i := 8) (oi := ⟨some 33, .move (.tmp 32), 4, _, #[⟨7, .data⟩, ⟨5, .chain⟩], none⟩) (v := ?_) rfl (by kernel_rfl) (by kernel_rfl) (by kernel_rfl) (fun _ _ _ h => h) (Or.inl ⟨by rfl, ?yyA8⟩) hHeld ?rrA8
        case yyA8 => (intro w hSw; (try dsimp only at hSw); go_simp; first | done | with_reducible rfl)
        try simp only [Act.put, putA, putB, putC]
        refine wpAnyH_take (i := 9) (oi := ⟨some 34, .move (.tmp 5), 3, _, #[⟨8, .guard⟩], some (8, false)⟩) (v := undef) rfl (by kernel_rfl) (by kernel_rfl) (by kernel_rfl) (fun _ _ _ h => h) (Or.inr ⟨by rfl, rfl⟩) hHeld ?_
        try simp only [Act.put, putA, putB, putC]
        refine wpAnyH_take (i := 10) (oi := ⟨some 35, .binOp .gtr 3 (.tmp 34) (.const (.int .i64 0)) 3, 4, _, #[⟨9, .data⟩, ⟨8, .guard⟩], some (8, false)⟩) (v := undef) rfl (by kernel_rfl) (by kernel_rfl) (by kernel_rfl) (fun _ _ _ h => h) (Or.inr ⟨by rfl, rfl⟩) hHeld ?_
        try simp only [Act.put, putA, putB, putC]
        refine wpAnyH_take (i := 11) (oi := ⟨some 36, .move (.tmp 35), 4, _, #[⟨10, .data⟩, ⟨8, .chain⟩, ⟨8, .guard⟩], some (8, false)⟩) (v := undef) rfl (by kernel_rfl) (by kernel_rfl) (by kernel_rfl) (fun _ _ _ h => h) (Or.inr ⟨by rfl, rfl⟩) hHeld ?_
        try simp only [Act.put, putA, putB, putC]
        refine wpAnyH_take (i := 12) (oi := ⟨some 37, .move (.tmp 0), 61, _, #[⟨11, .guard⟩], some (11, true)⟩) (v := undef) rfl (by kernel_rfl) (by kernel_rfl) (by kernel_rfl) (fun _ _ _ h => h) (Or.inr ⟨by rfl, rfl⟩) hHeld ?_
        try simp only [Act.put, putA, putB, putC]
        refine wpAnyH_take (i := 13) (oi := ⟨some 38, .move (.tmp 5), 3, _, #[⟨11, .guard⟩], some (11, true)⟩) (v := undef) rfl (by kernel_rfl) (by kernel_rfl) (by kernel_rfl) (fun _ _ _ h => h) (Or.inr ⟨by rfl, rfl⟩) hHeld ?_
        try simp only [Act.put, putA, putB, putC]
        refine wpAnyH_take (i := 14) (oi := ⟨some 39, .binOp .sub 3 (.tmp 38) (.const (.int .i64 1)) 3, 3, _, #[⟨13, .data⟩, ⟨11, .guard⟩], some (11, true)⟩) (v := undef) rfl (by kernel_rfl) (by kernel_rfl) (by kernel_rfl) (fun _ _ _ h => h) (Or.inr ⟨by rfl, rfl⟩) hHeld ?_
        try simp only [Act.put, putA, putB, putC]
        refine wpAnyH_take (i := 15) (oi := ⟨some 40, .indexAddr 61 (.tmp 37) (.tmp 39), 0, _, #[⟨12, .data⟩, ⟨14, .data⟩, ⟨11, .guard⟩], some (11, true)⟩) (v := undef) rfl (by kernel_rfl) (by kernel_rfl) (by kernel_rfl) (fun _ _ _ h => h) (Or.inr ⟨by rfl, rfl⟩) hHeld ?_
        try simp only [Act.put, putA, putB, putC]
        refine wpAnyH_take (i := 16) (oi := ⟨some 41, .fieldAddr 97 (.tmp 40) 0, 0, _, #[⟨15, .data⟩, ⟨11, .guard⟩], some (11, true)⟩) (v := undef) rfl (by kernel_rfl) (by kernel_rfl) (by kernel_rfl) (fun _ _ _ h => h) (Or.inr ⟨by rfl, rfl⟩) hHeld ?_
        try simp only [Act.put, putA, putB, putC]
        refine wpAnyH_take (i := 17) (oi := ⟨some 42, .load 9 (.tmp 41), 9, _, #[⟨16, .data⟩, ⟨11, .guard⟩], some (11, true)⟩) (v := undef) rfl (by kernel_rfl) (by kernel_rfl) (by kernel_rfl) (fun _ _ _ h => h) (Or.inr ⟨by rfl, rfl⟩) hHeld ?_
        try simp only [Act.put, putA, putB, putC]
        refine wpAnyH_take (i := 18) (oi := ⟨some 43, .fieldAddr 97 (.tmp 6) 0, 0, _, #[⟨11, .guard⟩], some (11, true)⟩) (v := undef) rfl (by kernel_rfl) (by kernel_rfl) (by kernel_rfl) (fun _ _ _ h => h) (Or.inr ⟨by rfl, rfl⟩) hHeld ?_
        try simp only [Act.put, putA, putB, putC]
        refine wpAnyH_take (i := 19) (oi := ⟨some 44, .load 9 (.tmp 43), 9, _, #[⟨18, .data⟩, ⟨11, .guard⟩], some (11, true)⟩) (v := undef) rfl (by kernel_rfl) (by kernel_rfl) (by kernel_rfl) (fun _ _ _ h => h) (Or.inr ⟨by rfl, rfl⟩) hHeld ?_
        try simp only [Act.put, putA, putB, putC]
        refine wpAnyH_take (i := 20) (oi := ⟨some 45, .binOp .geq 9 (.tmp 42) (.tmp 44) 9, 4, _, #[⟨17, .data⟩, ⟨19, .data⟩, ⟨11, .guard⟩], some (11, true)⟩) (v := undef) rfl (by kernel_rfl) (by kernel_rfl) (by kernel_rfl) (fun _ _ _ h => h) (Or.inr ⟨by rfl, rfl⟩) hHeld ?_
        try simp only [Act.put, putA, putB, putC]
        refine wpAnyH_take (i := 21) (oi := ⟨some 46, .pick (.tmp 36) (.tmp 45) (.const (.bool false)), 4, _, #[⟨11, .data⟩, ⟨20, .data⟩, ⟨8, .guard⟩], some (8, false)⟩) (v := undef) rfl (by kernel_rfl) (by kernel_rfl) (by kernel_rfl) (fun _ _ _ h => h) (Or.inr ⟨by rfl, rfl⟩) hHeld ?_
        try simp only [Act.put, putA, putB, putC]
        refine wpAnyH_take (i := 22) (oi := ⟨some 47, .pick (.tmp 33) (.const (.bool true)) (.tmp 46), 4, _, #[⟨8, .data⟩, ⟨21, .data⟩], none⟩) (v := ?_) rfl (by kernel_rfl) (by kernel_rfl) (by kernel_rfl) (fun _ _ _ h => h) (Or.inl ⟨by rfl, ?yyA22⟩) hHeld ?rrA22
        case yyA22 => (intro w hSw; (try dsimp only at hSw); go_simp; first | done | with_reducible rfl)
        try simp only [Act.put, putA, putB, putC]
        refine wpAnyH_done (by kernel_rfl) ?_ _
        go_wp2
        go_ret2
        exact ⟨_, _, _, by rw [hfin.out]; rfl, fun h => (by rw [hfin.out] at h; cases h), hA.trans hcur⟩
      · obtain ⟨rfl, rfl, rfl, hDi, hOw⟩ := hcp hop
        clear hcp
        have hstep : ∀ {W w3 : World} {v' : Value}, Ext W1 W → w3.ownsRow w.heap.size 97 5 v' (k + 1) (cs ++ [.string x0, .int .i64 y0, .int .i64 y1, .string y2, .slice ya yl yc]) → (W.alloc (.cells #[.string x0, .int .i64 y0, .int .i64 y1, .string y2, .slice ya yl yc] 97)).grownBy w3 (Value.slice ua k ucap).ownBlock → (v'.ownBlock = (Value.slice ua k ucap).ownBlock ∨ v'.ownBlock = some (W.alloc (.cells #[.string x0, .int .i64 y0, .int .i64 y1, .string y2, .slice ya yl yc] 97)).heap.size) → GSt w3 w.heap.size 97 5 f (k + 1) v' (cs ++ [.string x0, .int .i64 y0, .int .i64 y1, .string y2, .slice ya yl yc]) ∧ Ext w w3 := by
          intro W w3 v' hEW hown hg hloc
          have hEW2 : Ext w1 (W.alloc (.cells #[.string x0, .int .i64 y0, .int .i64 y1, .string y2, .slice ya yl yc] 97)) := (hEa.trans hEW).alloc _
          have hsz3 := hEW2.le
          refine ⟨hG.push (w1 := W.alloc _) (hE1'.trans hEW2) hE.le [.string x0, .int .i64 y0, .int .i64 y1, .string y2, .slice ya yl yc] rfl (fun j => if j = 4 then New (wr.heap.size + 1) w1.heap.size else fun _ => False) (fun j hj => ?_) (fun j j' hj hj' hne x hx hx' => ?_) hown hg hloc, hG.grew (hE.trans (hE1'.trans hEW2)) hg⟩
          · have hc : j = 0 ∨ j = 1 ∨ j = 2 ∨ j = 3 ∨ j = 4 := by omega
            rcases hc with rfl | rfl | rfl | rfl | rfl
            · rw [hd0]; exact ⟨⟨rfl, z0⟩, trivial, fun x hx => absurd hx (by simp)⟩
            · rw [hd1]; exact ⟨⟨rfl, z1⟩, trivial, fun x hx => absurd hx (by simp)⟩
            · rw [hd2]; exact ⟨⟨rfl, z2⟩, trivial, fun x hx => absurd hx (by simp)⟩
            · rw [hd3]; exact ⟨⟨rfl, z3⟩, trivial, fun x hx => absurd hx (by simp)⟩
            · simp only [World.size_alloc] at hDi hOw
              exact ⟨hDi.ext hEW2, hOw.ext hEW2, fun x hx => ⟨by have := hx.1; omega, Nat.lt_of_lt_of_le hx.2 hsz3⟩⟩
          · by_cases h3 : j = 4
            · rw [if_neg (by omega)] at hx'; exact hx'
            · rw [if_neg h3] at hx; exact hx
        clear hDi hOw
        cases hn : nameB x0
        · have hfin : Hid (lb = false) := hbad (by rw [hLk.out, hn]; rfl)
          have HK : Hid (∀ W, Ext W1 W → W.cell? ⟨wr.heap.size, 0, none⟩ = some (.string x0)) := hnm
          have hcur : Ext W1 W1.drew := (Ext.refl _).drew
          refine wp_region_held_drew (S := (fun W => W.cell? ⟨wr.heap.size, 0, none⟩ = some (.string x0))) (by kernel_rfl) (HK.out _ hcur) (fun hHeld => ?_)
          refine wpAnyH_take (i := 0) (oi := ⟨some 25, .move (.tmp 8), 4, _, #[], none⟩) (v := ?_) rfl (by kernel_rfl) (by kernel_rfl) (by kernel_rfl) (fun _ _ _ h => h) (Or.inl ⟨by rfl, ?yyB0⟩) hHeld ?rrB0
          case yyB0 => (intro w hSw; (try dsimp only at hSw); go_simp; first | done | with_reducible rfl)
          try simp only [Act.put, putA, putB, putC]
          refine wpAnyH_take (i := 1) (oi := ⟨some 26, .unOp .not 4 (.tmp 25), 4, _, #[⟨0, .data⟩], none⟩) (v := ?_) rfl (by kernel_rfl) (by kernel_rfl) (by kernel_rfl) (fun _ _ _ h => h) (Or.inl ⟨by rfl, ?yyB1⟩) hHeld ?rrB1
          case yyB1 => (intro w hSw; (try dsimp only at hSw); go_simp; first | done | with_reducible rfl)
          try simp only [Act.put, putA, putB, putC]
          refine wpAnyH_take (i := 2) (oi := ⟨some 27, .move (.tmp 26), 4, _, #[⟨1, .data⟩], none⟩) (v := ?_) rfl (by kernel_rfl) (by kernel_rfl) (by kernel_rfl) (fun _ _ _ h => h) (Or.inl ⟨by rfl, ?yyB2⟩) hHeld ?rrB2
          case yyB2 => (intro w hSw; (try dsimp only at hSw); go_simp; first | done | with_reducible rfl)
          try simp only [Act.put, putA, putB, putC]
          refine wpAnyH_take (i := 3) (oi := ⟨some 28, .fieldAddr 97 (.tmp 6) 0, 0, _, #[⟨2, .guard⟩], some (2, false)⟩) (v := ?_) rfl (by kernel_rfl) (by kernel_rfl) (by kernel_rfl) (fun _ _ _ h => h) (Or.inl ⟨by rfl, ?yyB3⟩) hHeld ?rrB3
          case yyB3 => (intro w hSw; (try dsimp only at hSw); go_simp; first | done | with_reducible rfl)
          try simp only [Act.put, putA, putB, putC]
          refine wpAnyH_take (i := 4) (oi := ⟨some 29, .load 9 (.tmp 28), 9, _, #[⟨3, .data⟩, ⟨2, .guard⟩], some (2, false)⟩) (v := ?_) rfl (by kernel_rfl) (by kernel_rfl) (by kernel_rfl) (fun _ _ _ h => h) (Or.inl ⟨by rfl, ?yyB4⟩) hHeld ?rrB4
          case yyB4 => (intro w hSw; (try dsimp only at hSw); go_simp; first | done | with_reducible rfl)
          try simp only [Act.put, putA, putB, putC]
          refine wpAnyH_ready (rs := [5]) (by kernel_rfl) (by simp) ?_
          refine AllReadyH.cons (o := ⟨some 30, .call { callee := .value (.func 57), args := #[.tmp 29], argTypes := #[9] }, 4, _, #[⟨4, .data⟩, ⟨2, .chain⟩, ⟨2, .guard⟩], some (2, false)⟩) rfl (fun K hK => ?_) AllReadyH.nil
          go_simp
          refine (implNameOk_any _ _ z0).mono ?_
          rintro e w2 ⟨rfl, hw⟩
          rw [hw, hn]
          clear hw w2
          go_wp2_with fail
          refine hK.out _ _ (HK.out _ hcur) (fun hHeld => ?_)
          clear hK K
          try simp only [Act.put, putA, putB, putC]
          refine wpAnyH_take (i := 6) (oi := ⟨some 31, .unOp .not 4 (.tmp 30), 4, _, #[⟨5, .data⟩, ⟨2, .guard⟩], some (2, false)⟩) (v := ?_) rfl (by kernel_rfl) (by kernel_rfl) (by kernel_rfl) (fun _ _ _ h => h) (Or.inl ⟨by rfl, ?yyB6⟩) hHeld ?rrB6
          case yyB6 => (intro w hSw; (try dsimp only at hSw); go_simp; first | done | with_reducible rfl)
          try simp only [Act.put, putA, putB, putC]
          refine wpAnyH_take (i := 7) (oi := ⟨some 32, .pick (.tmp 27) (.const (.bool true)) (.tmp 31), 4, _, #[⟨2, .data⟩, ⟨6, .data⟩], none⟩) (v := ?_) rfl (by kernel_rfl) (by kernel_rfl) (by kernel_rfl) (fun _ _ _ h => h) (Or.inl ⟨by rfl, ?yyB7⟩) hHeld ?rrB7
          case yyB7 => (intro w hSw; (try dsimp only at hSw); go_simp; first | done | with_reducible rfl)
          try simp only [Act.put, putA, putB, putC]
          refine wpAnyH_take (i := 8) (oi := ⟨some 33, .move (.tmp 32), 4, _, #[⟨7, .data⟩, ⟨5, .chain⟩], none⟩) (v := ?_) rfl (by kernel_rfl) (by kernel_rfl) (by kernel_rfl) (fun _ _ _ h => h) (Or.inl ⟨by rfl, ?yyB8⟩) hHeld ?rrB8
          case yyB8 => (intro w hSw; (try dsimp only at hSw); go_simp; first | done | with_reducible rfl)
          try simp only [Act.put, putA, putB, putC]
          refine wpAnyH_take (i := 9) (oi := ⟨some 34, .move (.tmp 5), 3, _, #[⟨8, .guard⟩], some (8, false)⟩) (v := undef) rfl (by kernel_rfl) (by kernel_rfl) (by kernel_rfl) (fun _ _ _ h => h) (Or.inr ⟨by rfl, rfl⟩) hHeld ?_
          try simp only [Act.put, putA, putB, putC]
          refine wpAnyH_take (i := 10) (oi := ⟨some 35, .binOp .gtr 3 (.tmp 34) (.const (.int .i64 0)) 3, 4, _, #[⟨9, .data⟩, ⟨8, .guard⟩], some (8, false)⟩) (v := undef) rfl (by kernel_rfl) (by kernel_rfl) (by kernel_rfl) (fun _ _ _ h => h) (Or.inr ⟨by rfl, rfl⟩) hHeld ?_
          try simp only [Act.put, putA, putB, putC]
          refine wpAnyH_take (i := 11) (oi := ⟨some 36, .move (.tmp 35), 4, _, #[⟨10, .data⟩, ⟨8, .chain⟩, ⟨8, .guard⟩], some (8, false)⟩) (v := undef) rfl (by kernel_rfl) (by kernel_rfl) (by kernel_rfl) (fun _ _ _ h => h) (Or.inr ⟨by rfl, rfl⟩) hHeld ?_
          try simp only [Act.put, putA, putB, putC]
          refine wpAnyH_take (i := 12) (oi := ⟨some 37, .move (.tmp 0), 61, _, #[⟨11, .guard⟩], some (11, true)⟩) (v := undef) rfl (by kernel_rfl) (by kernel_rfl) (by kernel_rfl) (fun _ _ _ h => h) (Or.inr ⟨by rfl, rfl⟩) hHeld ?_
          try simp only [Act.put, putA, putB, putC]
          refine wpAnyH_take (i := 13) (oi := ⟨some 38, .move (.tmp 5), 3, _, #[⟨11, .guard⟩], some (11, true)⟩) (v := undef) rfl (by kernel_rfl) (by kernel_rfl) (by kernel_rfl) (fun _ _ _ h => h) (Or.inr ⟨by rfl, rfl⟩) hHeld ?_
          try simp only [Act.put, putA, putB, putC]
          refine wpAnyH_take (i := 14) (oi := ⟨some 39, .binOp .sub 3 (.tmp 38) (.const (.int .i64 1)) 3, 3, _, #[⟨13, .data⟩, ⟨11, .guard⟩], some (11, true)⟩) (v := undef) rfl (by kernel_rfl) (by kernel_rfl) (by kernel_rfl) (fun _ _ _ h => h) (Or.inr ⟨by rfl, rfl⟩) hHeld ?_
          try simp only [Act.put, putA, putB, putC]
          refine wpAnyH_take (i := 15) (oi := ⟨some 40, .indexAddr 61 (.tmp 37) (.tmp 39), 0, _, #[⟨12, .data⟩, ⟨14, .data⟩, ⟨11, .guard⟩], some (11, true)⟩) (v := undef) rfl (by kernel_rfl) (by kernel_rfl) (by kernel_rfl) (fun _ _ _ h => h) (Or.inr ⟨by rfl, rfl⟩) hHeld ?_
          try simp only [Act.put, putA, putB, putC]
          refine wpAnyH_take (i := 16) (oi := ⟨some 41, .fieldAddr 97 (.tmp 40) 0, 0, _, #[⟨15, .data⟩, ⟨11, .guard⟩], some (11, true)⟩) (v := undef) rfl (by kernel_rfl) (by kernel_rfl) (by kernel_rfl) (fun _ _ _ h => h) (Or.inr ⟨by rfl, rfl⟩) hHeld ?_
          try simp only [Act.put, putA, putB, putC]
          refine wpAnyH_take (i := 17) (oi := ⟨some 42, .load 9 (.tmp 41), 9, _, #[⟨16, .data⟩, ⟨11, .guard⟩], some (11, true)⟩) (v := undef) rfl (by kernel_rfl) (by kernel_rfl) (by kernel_rfl) (fun _ _ _ h => h) (Or.inr ⟨by rfl, rfl⟩) hHeld ?_
          try simp only [Act.put, putA, putB, putC]
          refine wpAnyH_take (i := 18) (oi := ⟨some 43, .fieldAddr 97 (.tmp 6) 0, 0, _, #[⟨11, .guard⟩], some (11, true)⟩) (v := undef) rfl (by kernel_rfl) (by kernel_rfl) (by kernel_rfl) (fun _ _ _ h => h) (Or.inr ⟨by rfl, rfl⟩) hHeld ?_
          try simp only [Act.put, putA, putB, putC]
          refine wpAnyH_take (i := 19) (oi := ⟨some 44, .load 9 (.tmp 43), 9, _, #[⟨18, .data⟩, ⟨11, .guard⟩], some (11, true)⟩) (v := undef) rfl (by kernel_rfl) (by kernel_rfl) (by kernel_rfl) (fun _ _ _ h => h) (Or.inr ⟨by rfl, rfl⟩) hHeld ?_
          try simp only [Act.put, putA, putB, putC]
          refine wpAnyH_take (i := 20) (oi := ⟨some 45, .binOp .geq 9 (.tmp 42) (.tmp 44) 9, 4, _, #[⟨17, .data⟩, ⟨19, .data⟩, ⟨11, .guard⟩], some (11, true)⟩) (v := undef) rfl (by kernel_rfl) (by kernel_rfl) (by kernel_rfl) (fun _ _ _ h => h) (Or.inr ⟨by rfl, rfl⟩) hHeld ?_
          try simp only [Act.put, putA, putB, putC]
          refine wpAnyH_take (i := 21) (oi := ⟨some 46, .pick (.tmp 36) (.tmp 45) (.const (.bool false)), 4, _, #[⟨11, .data⟩, ⟨20, .data⟩, ⟨8, .guard⟩], some (8, false)⟩) (v := undef) rfl (by kernel_rfl) (by kernel_rfl) (by kernel_rfl) (fun _ _ _ h => h) (Or.inr ⟨by rfl, rfl⟩) hHeld ?_
          try simp only [Act.put, putA, putB, putC]
          refine wpAnyH_take (i := 22) (oi := ⟨some 47, .pick (.tmp 33) (.const (.bool true)) (.tmp 46), 4, _, #[⟨8, .data⟩, ⟨21, .data⟩], none⟩) (v := ?_) rfl (by kernel_rfl) (by kernel_rfl) (by kernel_rfl) (fun _ _ _ h => h) (Or.inl ⟨by rfl, ?yyB22⟩) hHeld ?rrB22
          case yyB22 => (intro w hSw; (try dsimp only at hSw); go_simp; first | done | with_reducible rfl)
          try simp only [Act.put, putA, putB, putC]
          refine wpAnyH_done (by kernel_rfl) ?_ _
          go_wp2
          go_ret2
          exact ⟨_, _, _, by rw [hfin.out]; rfl, fun h => (by rw [hfin.out] at h; cases h), hA.trans hcur⟩
        · by_cases hk0 : k = 0
          · subst hk0
            have hok : Hid (propB f 0 = true) := by show _ = _; rw [hLk.out, hn, Bool.and_assoc true, hop]; rfl
            have HK : Hid (∀ W, Ext W1 W → W.cell? ⟨wr.heap.size, 0, none⟩ = some (.string x0)) := hnm
            have hcur : Ext W1 W1.drew := (Ext.refl _).drew
            refine wp_region_held_drew (S := (fun W => W.cell? ⟨wr.heap.size, 0, none⟩ = some (.string x0))) (by kernel_rfl) (HK.out _ hcur) (fun hHeld => ?_)
            refine wpAnyH_take (i := 0) (oi := ⟨some 25, .move (.tmp 8), 4, _, #[], none⟩) (v := ?_) rfl (by kernel_rfl) (by kernel_rfl) (by kernel_rfl) (fun _ _ _ h => h) (Or.inl ⟨by rfl, ?yyC0⟩) hHeld ?rrC0
            case yyC0 => (intro w hSw; (try dsimp only at hSw); go_simp; first | done | with_reducible rfl)
            try simp only [Act.put, putA, putB, putC]
            refine wpAnyH_take (i := 1) (oi := ⟨some 26, .unOp .not 4 (.tmp 25), 4, _, #[⟨0, .data⟩], none⟩) (v := ?_) rfl (by kernel_rfl) (by kernel_rfl) (by kernel_rfl) (fun _ _ _ h => h) (Or.inl ⟨by rfl, ?yyC1⟩) hHeld ?rrC1
            case yyC1 => (intro w hSw; (try dsimp only at hSw); go_simp; first | done | with_reducible rfl)
            try simp only [Act.put, putA, putB, putC]
            refine wpAnyH_take (i := 2) (oi := ⟨some 27, .move (.tmp 26), 4, _, #[⟨1, .data⟩], none⟩) (v := ?_) rfl (by kernel_rfl) (by kernel_rfl) (by kernel_rfl) (fun _ _ _ h => h) (Or.inl ⟨by rfl, ?yyC2⟩) hHeld ?rrC2
            case yyC2 => (intro w hSw; (try dsimp only at hSw); go_simp; first | done | with_reducible rfl)
            try simp only [Act.put, putA, putB, putC]
            refine wpAnyH_take (i := 3) (oi := ⟨some 28, .fieldAddr 97 (.tmp 6) 0, 0, _, #[⟨2, .guard⟩], some (2, false)⟩) (v := ?_) rfl (by kernel_rfl) (by kernel_rfl) (by kernel_rfl) (fun _ _ _ h => h) (Or.inl ⟨by rfl, ?yyC3⟩) hHeld ?rrC3
            case yyC3 => (intro w hSw; (try dsimp only at hSw); go_simp; first | done | with_reducible rfl)
            try simp only [Act.put, putA, putB, putC]
            refine wpAnyH_take (i := 4) (oi := ⟨some 29, .load 9 (.tmp 28), 9, _, #[⟨3, .data⟩, ⟨2, .guard⟩], some (2, false)⟩) (v := ?_) rfl (by kernel_rfl) (by kernel_rfl) (by kernel_rfl) (fun _ _ _ h => h) (Or.inl ⟨by rfl, ?yyC4⟩) hHeld ?rrC4
            case yyC4 => (intro w hSw; (try dsimp only at hSw); go_simp; first | done | with_reducible rfl)
            try simp only [Act.put, putA, putB, putC]
            refine wpAnyH_ready (rs := [5]) (by kernel_rfl) (by simp) ?_
            refine AllReadyH.cons (o := ⟨some 30, .call { callee := .value (.func 57), args := #[.tmp 29], argTypes := #[9] }, 4, _, #[⟨4, .data⟩, ⟨2, .chain⟩, ⟨2, .guard⟩], some (2, false)⟩) rfl (fun K hK => ?_) AllReadyH.nil
            go_simp
            refine (implNameOk_any _ _ z0).mono ?_
            rintro e w2 ⟨rfl, hw⟩
            rw [hw, hn]
            clear hw w2
            go_wp2_with fail
            refine hK.out _ _ (HK.out _ hcur) (fun hHeld => ?_)
            clear hK K
            try simp only [Act.put, putA, putB, putC]
            refine wpAnyH_take (i := 6) (oi := ⟨some 31, .unOp .not 4 (.tmp 30), 4, _, #[⟨5, .data⟩, ⟨2, .guard⟩], some (2, false)⟩) (v := ?_) rfl (by kernel_rfl) (by kernel_rfl) (by kernel_rfl) (fun _ _ _ h => h) (Or.inl ⟨by rfl, ?yyC6⟩) hHeld ?rrC6
            case yyC6 => (intro w hSw; (try dsimp only at hSw); go_simp; first | done | with_reducible rfl)
            try simp only [Act.put, putA, putB, putC]
            refine wpAnyH_take (i := 7) (oi := ⟨some 32, .pick (.tmp 27) (.const (.bool true)) (.tmp 31), 4, _, #[⟨2, .data⟩, ⟨6, .data⟩], none⟩) (v := ?_) rfl (by kernel_rfl) (by kernel_rfl) (by kernel_rfl) (fun _ _ _ h => h) (Or.inl ⟨by rfl, ?yyC7⟩) hHeld ?rrC7
            case yyC7 => (intro w hSw; (try dsimp only at hSw); go_simp; first | done | with_reducible rfl)
            try simp only [Act.put, putA, putB, putC]
            refine wpAnyH_take (i := 8) (oi := ⟨some 33, .move (.tmp 32), 4, _, #[⟨7, .data⟩, ⟨5, .chain⟩], none⟩) (v := ?_) rfl (by kernel_rfl) (by kernel_rfl) (by kernel_rfl) (fun _ _ _ h => h) (Or.inl ⟨by rfl, ?yyC8⟩) hHeld ?rrC8
            case yyC8 => (intro w hSw; (try dsimp only at hSw); go_simp; first | done | with_reducible rfl)
            try simp only [Act.put, putA, putB, putC]
            refine wpAnyH_take (i := 9) (oi := ⟨some 34, .move (.tmp 5), 3, _, #[⟨8, .guard⟩], some (8, false)⟩) (v := ?_) rfl (by kernel_rfl) (by kernel_rfl) (by kernel_rfl) (fun _ _ _ h => h) (Or.inl ⟨by rfl, ?yyC9⟩) hHeld ?rrC9
            case yyC9 => (intro w hSw; (try dsimp only at hSw); go_simp; first | done | with_reducible rfl)
            try simp only [Act.put, putA, putB, putC]
            refine wpAnyH_take (i := 10) (oi := ⟨some 35, .binOp .gtr 3 (.tmp 34) (.const (.int .i64 0)) 3, 4, _, #[⟨9, .data⟩, ⟨8, .guard⟩], some (8, false)⟩) (v := ?_) rfl (by kernel_rfl) (by kernel_rfl) (by kernel_rfl) (fun _ _ _ h => h) (Or.inl ⟨by rfl, ?yyC10⟩) hHeld ?rrC10
            case yyC10 => (intro w hSw; (try dsimp only at hSw); go_simp; first | done | with_reducible rfl)
            try simp only [Act.put, putA, putB, putC]
            refine wpAnyH_take (i := 11) (oi := ⟨some 36, .move (.tmp 35), 4, _, #[⟨10, .data⟩, ⟨8, .chain⟩, ⟨8, .guard⟩], some (8, false)⟩) (v := ?_) rfl (by kernel_rfl) (by kernel_rfl) (by kernel_rfl) (fun _ _ _ h => h) (Or.inl ⟨by rfl, ?yyC11⟩) hHeld ?rrC11
            case yyC11 => (intro w hSw; (try dsimp only at hSw); go_simp; first | done | with_reducible rfl)
            try simp only [Act.put, putA, putB, putC]
            refine wpAnyH_take (i := 12) (oi := ⟨some 37, .move (.tmp 0), 61, _, #[⟨11, .guard⟩], some (11, true)⟩) (v := undef) rfl (by kernel_rfl) (by kernel_rfl) (by kernel_rfl) (fun _ _ _ h => h) (Or.inr ⟨by rfl, rfl⟩) hHeld ?_
            try simp only [Act.put, putA, putB, putC]
            refine wpAnyH_take (i := 13) (oi := ⟨some 38, .move (.tmp 5), 3, _, #[⟨11, .guard⟩], some (11, true)⟩) (v := undef) rfl (by kernel_rfl) (by kernel_rfl) (by kernel_rfl) (fun _ _ _ h => h) (Or.inr ⟨by rfl, rfl⟩) hHeld ?_
            try simp only [Act.put, putA, putB, putC]
            refine wpAnyH_take (i := 14) (oi := ⟨some 39, .binOp .sub 3 (.tmp 38) (.const (.int .i64 1)) 3, 3, _, #[⟨13, .data⟩, ⟨11, .guard⟩], some (11, true)⟩) (v := undef) rfl (by kernel_rfl) (by kernel_rfl) (by kernel_rfl) (fun _ _ _ h => h) (Or.inr ⟨by rfl, rfl⟩) hHeld ?_
            try simp only [Act.put, putA, putB, putC]
            refine wpAnyH_take (i := 15) (oi := ⟨some 40, .indexAddr 61 (.tmp 37) (.tmp 39), 0, _, #[⟨12, .data⟩, ⟨14, .data⟩, ⟨11, .guard⟩], some (11, true)⟩) (v := undef) rfl (by kernel_rfl) (by kernel_rfl) (by kernel_rfl) (fun _ _ _ h => h) (Or.inr ⟨by rfl, rfl⟩) hHeld ?_
            try simp only [Act.put, putA, putB, putC]
            refine wpAnyH_take (i := 16) (oi := ⟨some 41, .fieldAddr 97 (.tmp 40) 0, 0, _, #[⟨15, .data⟩, ⟨11, .guard⟩], some (11, true)⟩) (v := undef) rfl (by kernel_rfl) (by kernel_rfl) (by kernel_rfl) (fun _ _ _ h => h) (Or.inr ⟨by rfl, rfl⟩) hHeld ?_
            try simp only [Act.put, putA, putB, putC]
            refine wpAnyH_take (i := 17) (oi := ⟨some 42, .load 9 (.tmp 41), 9, _, #[⟨16, .data⟩, ⟨11, .guard⟩], some (11, true)⟩) (v := undef) rfl (by kernel_rfl) (by kernel_rfl) (by kernel_rfl) (fun _ _ _ h => h) (Or.inr ⟨by rfl, rfl⟩) hHeld ?_
            try simp only [Act.put, putA, putB, putC]
            refine wpAnyH_take (i := 18) (oi := ⟨some 43, .fieldAddr 97 (.tmp 6) 0, 0, _, #[⟨11, .guard⟩], some (11, true)⟩) (v := undef) rfl (by kernel_rfl) (by kernel_rfl) (by kernel_rfl) (fun _ _ _ h => h) (Or.inr ⟨by rfl, rfl⟩) hHeld ?_
            try simp only [Act.put, putA, putB, putC]
            refine wpAnyH_take (i := 19) (oi := ⟨some 44, .load 9 (.tmp 43), 9, _, #[⟨18, .data⟩, ⟨11, .guard⟩], some (11, true)⟩) (v := undef) rfl (by kernel_rfl) (by kernel_rfl) (by kernel_rfl) (fun _ _ _ h => h) (Or.inr ⟨by rfl, rfl⟩) hHeld ?_
            try simp only [Act.put, putA, putB, putC]
            refine wpAnyH_take (i := 20) (oi := ⟨some 45, .binOp .geq 9 (.tmp 42) (.tmp 44) 9, 4, _, #[⟨17, .data⟩, ⟨19, .data⟩, ⟨11, .guard⟩], some (11, true)⟩) (v := undef) rfl (by kernel_rfl) (by kernel_rfl) (by kernel_rfl) (fun _ _ _ h => h) (Or.inr ⟨by rfl, rfl⟩) hHeld ?_
            try simp only [Act.put, putA, putB, putC]
            refine wpAnyH_take (i := 21) (oi := ⟨some 46, .pick (.tmp 36) (.tmp 45) (.const (.bool false)), 4, _, #[⟨11, .data⟩, ⟨20, .data⟩, ⟨8, .guard⟩], some (8, false)⟩) (v := ?_) rfl (by kernel_rfl) (by kernel_rfl) (by kernel_rfl) (fun _ _ _ h => h) (Or.inl ⟨by rfl, ?yyC21⟩) hHeld ?rrC21
            case yyC21 => (intro w hSw; (try dsimp only at hSw); go_simp; first | done | with_reducible rfl)
            try simp only [Act.put, putA, putB, putC]
            refine wpAnyH_take (i := 22) (oi := ⟨some 47, .pick (.tmp 33) (.const (.bool true)) (.tmp 46), 4, _, #[⟨8, .data⟩, ⟨21, .data⟩], none⟩) (v := ?_) rfl (by kernel_rfl) (by kernel_rfl) (by kernel_rfl) (fun _ _ _ h => h) (Or.inl ⟨by rfl, ?yyC22⟩) hHeld ?rrC22
            case yyC22 => (intro w hSw; (try dsimp only at hSw); go_simp; first | done | with_reducible rfl)
            try simp only [Act.put, putA, putB, putC]
            refine wpAnyH_done (by kernel_rfl) ?_ _
            generalize W1.drew = W2 at hcur ⊢
            have n0 := hnm _ hcur
            obtain ⟨v0, v1, v2, v3⟩ := hvb _ hcur
            have hsz4 := hcur.le
            have hsz5 := hA.le
            have hown0 := (hG.ext (hE1'.trans (hEa.trans hcur))).row
            go_wp2_with (at_builtin; refine wpList_append_own_at _ rfl _ _ 61 rfl w.heap.size 97 i0 _ 5 72 Tryz.underlying61 hi hz0 hz1 hz2 rfl (by decide) _ _ _ rfl (hown0.alloc _) ⟨_, 0, none⟩ 1 1 [.string x0, .int .i64 y0, .int .i64 y1, .string y2, .slice ya yl yc] rfl rfl (World.news_of_block (cs := #[.string x0, .int .i64 y0, .int .i64 y1, .string y2, .slice ya yl yc]) (t := 97) (fr := (0, 0)) (heap_alloc_new _ _)) (by simp [Value.oneCell']) (by unfold maxLen; omega) (by omega) (by simp; omega) ?_; intro v' w3 hown' hgrow hnil hloc)
            go_roundw
            case rel =>
              obtain ⟨s1, s2⟩ := hstep hcur hown' hgrow hloc
              exact ⟨1, _, by omega, by go_num, s1, s2, upto_succ hno hok.out⟩
            case measure => simp [intOf]; omega
          · obtain ⟨m, rfl⟩ : ∃ m, k = m + 1 := ⟨k - 1, by omega⟩
            obtain ⟨cap3, b3, off3, C3, hsl, _, hb3, ec3, hx3⟩ := (hv.ext hE).at (i := m) (by omega)
            cases hsl
            have HR := HRa m (by omega)
            obtain ⟨xp, hdp⟩ := (show Has (f m 0) .str from HR 0 (by decide)).str
            have h1 := hx3 0 (by decide)
            have f0 := ec3 0 (by decide)
            rw [hdp] at h1
            rw [h1.str_eq.1] at f0
            simp only [Nat.add_zero] at f0
            clear hx3 ec3 HR h1
            have hLk2 : Hid (propB f (m + 1) = ltS xp x0) := by show _ = _; rw [hLk.out, hn, Bool.and_assoc true, hop]; simp [hdp, D.str!]
            clear hLk
            have i0' : 0 ≤ (m : Int) + 1 := by omega
            have i1 : (m : Int) + 1 < (len : Int) := by omega
            have i2 : (m : Int) < (len : Int) := by omega
            have iw : IntKind.i64.wrap (m : Int) = m := wrap_i64 (by omega) (by omega)
            have HK : Hid (∀ W, Ext W1 W → W.cell? ⟨wr.heap.size, 0, none⟩ = some (.string x0) ∧ W.cell? ⟨b, off + m * 5, none⟩ = some (.string xp)) := fun W hW => ⟨hnm W hW, by rw [((hE1'.trans hEa).trans hW).cell hb]; exact f0⟩
            have hcur : Ext W1 W1.drew := (Ext.refl _).drew
            refine wp_region_held_drew (S := (fun W => W.cell? ⟨wr.heap.size, 0, none⟩ = some (.string x0) ∧ W.cell? ⟨b, off + m * 5, none⟩ = some (.string xp))) (by kernel_rfl) (HK.out _ hcur) (fun hHeld => ?_)
            refine wpAnyH_take (i := 0) (oi := ⟨some 25, .move (.tmp 8), 4, _, #[], none⟩) (v := ?_) rfl (by kernel_rfl) (by kernel_rfl) (by kernel_rfl) (fun _ _ _ h => h) (Or.inl ⟨by rfl, ?yyD0⟩) hHeld ?rrD0
            case yyD0 => (intro w hSw; (try dsimp only at hSw); go_simp; first | done | with_reducible rfl)
            try simp only [Act.put, putA, putB, putC]
            refine wpAnyH_take (i := 1) (oi := ⟨some 26, .unOp .not 4 (.tmp 25), 4, _, #[⟨0, .data⟩], none⟩) (v := ?_) rfl (by kernel_rfl) (by kernel_rfl) (by kernel_rfl) (fun _ _ _ h => h) (Or.inl ⟨by rfl, ?yyD1⟩) hHeld ?rrD1
            case yyD1 => (intro w hSw; (try dsimp only at hSw); go_simp; first | done | with_reducible rfl)
            try simp only [Act.put, putA, putB, putC]
            refine wpAnyH_take (i := 2) (oi := ⟨some 27, .move (.tmp 26), 4, _, #[⟨1, .data⟩], none⟩) (v := ?_) rfl (by kernel_rfl) (by kernel_rfl) (by kernel_rfl) (fun _ _ _ h => h) (Or.inl ⟨by rfl, ?yyD2⟩) hHeld ?rrD2
            case yyD2 => (intro w hSw; (try dsimp only at hSw); go_simp; first | done | with_reducible rfl)
            try simp only [Act.put, putA, putB, putC]
            refine wpAnyH_take (i := 3) (oi := ⟨some 28, .fieldAddr 97 (.tmp 6) 0, 0, _, #[⟨2, .guard⟩], some (2, false)⟩) (v := ?_) rfl (by kernel_rfl) (by kernel_rfl) (by kernel_rfl) (fun _ _ _ h => h) (Or.inl ⟨by rfl, ?yyD3⟩) hHeld ?rrD3
            case yyD3 => (intro w hSw; (try dsimp only at hSw); go_simp; first | done | with_reducible rfl)
            try simp only [Act.put, putA, putB, putC]
            refine wpAnyH_take (i := 4) (oi := ⟨some 29, .load 9 (.tmp 28), 9, _, #[⟨3, .data⟩, ⟨2, .guard⟩], some (2, false)⟩) (v := ?_) rfl (by kernel_rfl) (by kernel_rfl) (by kernel_rfl) (fun _ _ _ h => h) (Or.inl ⟨by rfl, ?yyD4⟩) hHeld ?rrD4
            case yyD4 => (intro w hSw; (try dsimp only at hSw); go_simp; first | done | with_reducible rfl)
            try simp only [Act.put, putA, putB, putC]
            refine wpAnyH_ready (rs := [5]) (by kernel_rfl) (by simp) ?_
            refine AllReadyH.cons (o := ⟨some 30, .call { callee := .value (.func 57), args := #[.tmp 29], argTypes := #[9] }, 4, _, #[⟨4, .data⟩, ⟨2, .chain⟩, ⟨2, .guard⟩], some (2, false)⟩) rfl (fun K hK => ?_) AllReadyH.nil
            go_simp
            refine (implNameOk_any _ _ z0).mono ?_
            rintro e w2 ⟨rfl, hw⟩
            rw [hw, hn]
            clear hw w2
            go_wp2_with fail
            refine hK.out _ _ (HK.out _ hcur) (fun hHeld => ?_)
            clear hK K
            try simp only [Act.put, putA, putB, putC]
            refine wpAnyH_take (i := 6) (oi := ⟨some 31, .unOp .not 4 (.tmp 30), 4, _, #[⟨5, .data⟩, ⟨2, .guard⟩], some (2, false)⟩) (v := ?_) rfl (by kernel_rfl) (by kernel_rfl) (by kernel_rfl) (fun _ _ _ h => h) (Or.inl ⟨by rfl, ?yyD6⟩) hHeld ?rrD6
            case yyD6 => (intro w hSw; (try dsimp only at hSw); go_simp; first | done | with_reducible rfl)
            try simp only [Act.put, putA, putB, putC]
            refine wpAnyH_take (i := 7) (oi := ⟨some 32, .pick (.tmp 27) (.const (.bool true)) (.tmp 31), 4, _, #[⟨2, .data⟩, ⟨6, .data⟩], none⟩) (v := ?_) rfl (by kernel_rfl) (by kernel_rfl) (by kernel_rfl) (fun _ _ _ h => h) (Or.inl ⟨by rfl, ?yyD7⟩) hHeld ?rrD7
            case yyD7 => (intro w hSw; (try dsimp only at hSw); go_simp; first | done | with_reducible rfl)
            try simp only [Act.put, putA, putB, putC]
            refine wpAnyH_take (i := 8) (oi := ⟨some 33, .move (.tmp 32), 4, _, #[⟨7, .data⟩, ⟨5, .chain⟩], none⟩) (v := ?_) rfl (by kernel_rfl) (by kernel_rfl) (by kernel_rfl) (fun _ _ _ h => h) (Or.inl ⟨by rfl, ?yyD8⟩) hHeld ?rrD8
            case yyD8 => (intro w hSw; (try dsimp only at hSw); go_simp; first | done | with_reducible rfl)
            try simp only [Act.put, putA, putB, putC]
            refine wpAnyH_take (i := 9) (oi := ⟨some 34, .move (.tmp 5), 3, _, #[⟨8, .guard⟩], some (8, false)⟩) (v := ?_) rfl (by kernel_rfl) (by kernel_rfl) (by kernel_rfl) (fun _ _ _ h => h) (Or.inl ⟨by rfl, ?yyD9⟩) hHeld ?rrD9
            case yyD9 => (intro w hSw; (try dsimp only at hSw); go_simp; first | done | with_reducible rfl)
            try simp only [Act.put, putA, putB, putC]
            refine wpAnyH_take (i := 10) (oi := ⟨some 35, .binOp .gtr 3 (.tmp 34) (.const (.int .i64 0)) 3, 4, _, #[⟨9, .data⟩, ⟨8, .guard⟩], some (8, false)⟩) (v := ?_) rfl (by kernel_rfl) (by kernel_rfl) (by kernel_rfl) (fun _ _ _ h => h) (Or.inl ⟨by rfl, ?yyD10⟩) hHeld ?rrD10
            case yyD10 => (intro w hSw; (try dsimp only at hSw); go_simp; first | done | with_reducible rfl)
            try simp only [Act.put, putA, putB, putC]
            refine wpAnyH_take (i := 11) (oi := ⟨some 36, .move (.tmp 35), 4, _, #[⟨10, .data⟩, ⟨8, .chain⟩, ⟨8, .guard⟩], some (8, false)⟩) (v := ?_) rfl (by kernel_rfl) (by kernel_rfl) (by kernel_rfl) (fun _ _ _ h => h) (Or.inl ⟨by rfl, ?yyD11⟩) hHeld ?rrD11
            case yyD11 => (intro w hSw; (try dsimp only at hSw); go_simp; first | done | with_reducible rfl)
            try simp only [Act.put, putA, putB, putC]
            refine wpAnyH_take (i := 12) (oi := ⟨some 37, .move (.tmp 0), 61, _, #[⟨11, .guard⟩], some (11, true)⟩) (v := ?_) rfl (by kernel_rfl) (by kernel_rfl) (by kernel_rfl) (fun _ _ _ h => h) (Or.inl ⟨by rfl, ?yyD12⟩) hHeld ?rrD12
            case yyD12 => (intro w hSw; (try dsimp only at hSw); go_simp; first | done | with_reducible rfl)
            try simp only [Act.put, putA, putB, putC]
            refine wpAnyH_take (i := 13) (oi := ⟨some 38, .move (.tmp 5), 3, _, #[⟨11, .guard⟩], some (11, true)⟩) (v := ?_) rfl (by kernel_rfl) (by kernel_rfl) (by kernel_rfl) (fun _ _ _ h => h) (Or.inl ⟨by rfl, ?yyD13⟩) hHeld ?rrD13
            case yyD13 => (intro w hSw; (try dsimp only at hSw); go_simp; first | done | with_reducible rfl)
            try simp only [Act.put, putA, putB, putC]
            refine wpAnyH_take (i := 14) (oi := ⟨some 39, .binOp .sub 3 (.tmp 38) (.const (.int .i64 1)) 3, 3, _, #[⟨13, .data⟩, ⟨11, .guard⟩], some (11, true)⟩) (v := ?_) rfl (by kernel_rfl) (by kernel_rfl) (by kernel_rfl) (fun _ _ _ h => h) (Or.inl ⟨by rfl, ?yyD14⟩) hHeld ?rrD14
            case yyD14 => (intro w hSw; (try dsimp only at hSw); go_simp; first | done | with_reducible rfl)
            try simp only [Act.put, putA, putB, putC]
            refine wpAnyH_take (i := 15) (oi := ⟨some 40, .indexAddr 61 (.tmp 37) (.tmp 39), 0, _, #[⟨12, .data⟩, ⟨14, .data⟩, ⟨11, .guard⟩], some (11, true)⟩) (v := ?_) rfl (by kernel_rfl) (by kernel_rfl) (by kernel_rfl) (fun _ _ _ h => h) (Or.inl ⟨by rfl, ?yyD15⟩) hHeld ?rrD15
            case yyD15 => (intro w hSw; (try dsimp only at hSw); go_simp; first | done | with_reducible rfl)
            try simp only [Act.put, putA, putB, putC]
            refine wpAnyH_take (i := 16) (oi := ⟨some 41, .fieldAddr 97 (.tmp 40) 0, 0, _, #[⟨15, .data⟩, ⟨11, .guard⟩], some (11, true)⟩) (v := ?_) rfl (by kernel_rfl) (by kernel_rfl) (by kernel_rfl) (fun _ _ _ h => h) (Or.inl ⟨by rfl, ?yyD16⟩) hHeld ?rrD16
            case yyD16 => (intro w hSw; (try dsimp only at hSw); go_simp; first | done | with_reducible rfl)
            try simp only [Act.put, putA, putB, putC]
            refine wpAnyH_take (i := 17) (oi := ⟨some 42, .load 9 (.tmp 41), 9, _, #[⟨16, .data⟩, ⟨11, .guard⟩], some (11, true)⟩) (v := ?_) rfl (by kernel_rfl) (by kernel_rfl) (by kernel_rfl) (fun _ _ _ h => h) (Or.inl ⟨by rfl, ?yyD17⟩) hHeld ?rrD17
            case yyD17 => (intro w hSw; (try dsimp only at hSw); go_simp; first | done | with_reducible rfl)
            try simp only [Act.put, putA, putB, putC]
            refine wpAnyH_take (i := 18) (oi := ⟨some 43, .fieldAddr 97 (.tmp 6) 0, 0, _, #[⟨11, .guard⟩], some (11, true)⟩) (v := ?_) rfl (by kernel_rfl) (by kernel_rfl) (by kernel_rfl) (fun _ _ _ h => h) (Or.inl ⟨by rfl, ?yyD18⟩) hHeld ?rrD18
            case yyD18 => (intro w hSw; (try dsimp only at hSw); go_simp; first | done | with_reducible rfl)
            try simp only [Act.put, putA, putB, putC]
            refine wpAnyH_take (i := 19) (oi := ⟨some 44, .load 9 (.tmp 43), 9, _, #[⟨18, .data⟩, ⟨11, .guard⟩], some (11, true)⟩) (v := ?_) rfl (by kernel_rfl) (by kernel_rfl) (by kernel_rfl) (fun _ _ _ h => h) (Or.inl ⟨by rfl, ?yyD19⟩) hHeld ?rrD19
            case yyD19 => (intro w hSw; (try dsimp only at hSw); go_simp; first | done | with_reducible rfl)
            try simp only [Act.put, putA, putB, putC]
            refine wpAnyH_take (i := 20) (oi := ⟨some 45, .binOp .geq 9 (.tmp 42) (.tmp 44) 9, 4, _, #[⟨17, .data⟩, ⟨19, .data⟩, ⟨11, .guard⟩], some (11, true)⟩) (v := ?_) rfl (by kernel_rfl) (by kernel_rfl) (by kernel_rfl) (fun _ _ _ h => h) (Or.inl ⟨by rfl, ?yyD20⟩) hHeld ?rrD20
            case yyD20 => (intro w hSw; (try dsimp only at hSw); go_simp; first | done | with_reducible rfl)
            try simp only [Act.put, putA, putB, putC]
            refine wpAnyH_take (i := 21) (oi := ⟨some 46, .pick (.tmp 36) (.tmp 45) (.const (.bool false)), 4, _, #[⟨11, .data⟩, ⟨20, .data⟩, ⟨8, .guard⟩], some (8, false)⟩) (v := ?_) rfl (by kernel_rfl) (by kernel_rfl) (by kernel_rfl) (fun _ _ _ h => h) (Or.inl ⟨by rfl, ?yyD21⟩) hHeld ?rrD21
            case yyD21 => (intro w hSw; (try dsimp only at hSw); go_simp; first | done | with_reducible rfl)
            try simp only [Act.put, putA, putB, putC]
            refine wpAnyH_take (i := 22) (oi := ⟨some 47, .pick (.tmp 33) (.const (.bool true)) (.tmp 46), 4, _, #[⟨8, .data⟩, ⟨21, .data⟩], none⟩) (v := ?_) rfl (by kernel_rfl) (by kernel_rfl) (by kernel_rfl) (fun _ _ _ h => h) (Or.inl ⟨by rfl, ?yyD22⟩) hHeld ?rrD22
            case yyD22 => (intro w hSw; (try dsimp only at hSw); go_simp; first | done | with_reducible rfl)
            try simp only [Act.put, putA, putB, putC]
            refine wpAnyH_done (by kernel_rfl) ?_ _
            cases hcmp : Op.bytesLess xp.toList x0.toList
            · have hfin : Hid (lb = false) := hbad (by rw [hLk2.out]; exact hcmp)
              go_wp2
              go_ret2
              exact ⟨_, _, _, by rw [hfin.out]; rfl, fun h => (by rw [hfin.out] at h; cases h), hA.trans hcur⟩
            · have hok : Hid (propB f (m + 1) = true) := by show _ = _; rw [hLk2.out]; exact hcmp
              generalize W1.drew = W2 at hcur ⊢
              have n0 := hnm _ hcur
              obtain ⟨v0, v1, v2, v3⟩ := hvb _ hcur
              have hsz4 := hcur.le
              have hsz5 := hA.le
              have hown0 := (hG.ext (hE1'.trans (hEa.trans hcur))).row
              go_wp2_with (at_builtin; refine wpList_append_own_at _ rfl _ _ 61 rfl w.heap.size 97 i0 _ 5 72 Tryz.underlying61 hi hz0 hz1 hz2 rfl (by decide) _ _ _ rfl (hown0.alloc _) ⟨_, 0, none⟩ 1 1 [.string x0, .int .i64 y0, .int .i64 y1, .string y2, .slice ya yl yc] rfl rfl (World.news_of_block (cs := #[.string x0, .int .i64 y0, .int .i64 y1, .string y2, .slice ya yl yc]) (t := 97) (fr := (0, 0)) (heap_alloc_new _ _)) (by simp [Value.oneCell']) (by unfold maxLen; omega) (by omega) (by simp; omega) ?_; intro v' w3 hown' hgrow hnil hloc)
              go_roundw
              case rel =>
                obtain ⟨s1, s2⟩ := hstep hcur hown' hgrow hloc
                exact ⟨m + 1 + 1, _, by omega, by go_num, s1, s2, upto_succ hno hok.out⟩
              case measure => simp [intOf]; omega
    · have hkx : k = len := by omega
      subst hkx
      have hfin : Hid (lb = true) := by show _ = _; rw [HB.out, all_yes hno, decide_eq_true (by omega : k ≤ 4)]; rfl
      have hend := hG.end (by unfold maxLen; omega)
      go_wp2
      go_ret2
      exact ⟨_, _, _, by rw [hfin.out]; rfl, fun _ => hend, hE⟩
end Go.Proofs.YtejahpkpmbnmkaaGreat
