/- The drawn values: what spec.l11Plain answers: some value, in new memory. -/
import Derived.Test.YtbhmblkappmfjaaGreatDr
import Derived.Test.YtbhmblkappmfjaaGreatValS
import Derived.Test.YtbhmblkappmfjaaGreatCn
import Derived.Deep.DrawnRows
import Derived.Deep.RegionLaw
namespace Go.Proofs.YtbhmblkappmfjaaGreat
open Go.RowKit Go.Deep

def PL (n : Nat) (d : Int) : Prop := ∀ (R p : Nat) (w : World), RdAt w R p → p + n ≤ 1000000 →
  Calls Tryz.prog 42 #[.pointer (some ⟨R, 0, none⟩), .int .i64 d] w fun e w' => ∃ x v p', e = .returned v ∧ ValS (fun b => w.heap.size ≤ b) w' x v ∧ RdAt w' R p' ∧ (p' ≤ p + n ∧ cntV x ≤ 2 * n) ∧ Only R (R + 1) w w'

theorem cntL_snoc : ∀ (l : List V) (x : V), cntL (l ++ [x]) = cntL l + 1 + cntV x
  | [], x => by simp [cntL]
  | y :: r, x => by simp only [List.cons_append, cntL, cntL_snoc r x]; omega
theorem cnt_mk (k n : Int) (t : ByteArray) (l : List V) : cntV (.mk k n t l) = cntL l := by unfold cntV; rfl
theorem cnt_nil (k n : Int) (t : ByteArray) : cntV (.mk k n t []) = 0 := by unfold cntV cntL; rfl
theorem cnt_re (k n : Int) (t : ByteArray) (x : V) : cntV (.mk k n t x.list) = cntV x := by rw [cnt_mk, cntV_eq]


theorem wf_b01' (b : Bool) : (Lit.int .i64 (b01 b)).wf = true := by cases b <;> rfl
theorem Tryz.infoVd : (Tryz.prog.info? 73).map (fun i => (i.zero, i.size, i.bytes)) = some (some (.agg #[.int .i64 0, .int .i64 0, .string ⟨#[]⟩, .slice none 0 0]), 4, 56) := by kernel_rfl
set_option maxRecDepth 100000 in
set_option maxHeartbeats 1000000 in
theorem plain_any (n : Nat) (d : Int) (hd0 : 0 ≤ d) (hd : d ≤ 3) (hn : 2 ≤ n) (ih : 1 < d → ∃ m, 3 * m + 2 ≤ n ∧ PL m (d - 1)) : PL n d := by
  intro R p w hR hp
  have hRl := hR.lt
  have hE0 : Ext w (w.alloc (.cells #[.int .i64 0, .int .i64 0, .string ⟨#[]⟩, .slice none 0 0] 73)) := (Ext.refl _).alloc _
  have h6 := pick_any R p 6 _ (hR.ext hE0) (by omega) (by omega) (by omega)
  have hB0 : NewBox w (w.alloc (.cells #[.int .i64 0, .int .i64 0, .string ⟨#[]⟩, .slice none 0 0] 73)) w.heap.size := NewBox.mk' (Ext.refl _) (Ext.refl _)
  go_enter Tryz.func42, Tryz.ntmps42
  go_wp2_with fail
  refine h6.mono ?_
  rintro e w1 ⟨m, rfl, hm, hR1, hO1⟩
  clear h6
  have hB1 := hB0.only hO1 (.inr (by omega))
  have hW1 : Only R (R + 1) w w1 := (Only.of_ext hE0).trans hO1
  clear hB0 hO1 hE0
  have hm' : m = 0 ∨ m = 1 ∨ m = 2 ∨ m = 3 ∨ m = 4 ∨ m = 5 := by omega
  rcases hm' with rfl | rfl | rfl | rfl | rfl | rfl
  · have h2 := pick_any R (p + 1) 2 w1 hR1 (by omega) (by omega) (by omega)
    go_wp2_with fail
    refine h2.mono ?_
    rintro e w2 ⟨m, rfl, hm2, hR2, hO2⟩
    clear h2
    have hB2 := hB1.only hO2 (.inr (by omega))
    have hW2 := hW1.trans hO2
    clear hB1 hO2 hW1
    go_wp2_with fail
    refine (l1Bool_any _ w2).mono ?_
    rintro e w3 ⟨rfl, hE3⟩
    have hR3 := hR2.ext hE3
    have hB3 := hB2.ext hE3
    have hW3 := hW2.trans (.of_ext hE3)
    clear hB2 hE3 hW2
    obtain ⟨_, ⟨blt, b0, b1, b2, b3⟩, bf⟩ := hB3
    unfold flat
    go_wp2
    obtain ⟨f1, f2⟩ := draw_close hR3 hW3 hRl (Nat.le_refl _) (.int .i64 1) (.int .i64 (b01 ((m : Int) == 0))) (.string ⟨#[]⟩) (.slice none 0 0)
    refine bodyPost_ret (v := .agg #[.int .i64 1, .int .i64 (b01 ((m : Int) == 0)), .string ⟨#[]⟩, .slice none 0 0]) (by simp [results, Tryz.results42, go_sem, b0, b1, b2, b3]) rfl ?_
    exact ⟨_, _, p + 1 + 1, rfl, .flat _ _ _ _ _ rfl (wf_b01' _) (by unfold maxLen; decide), f1, ⟨by omega, by rw [cnt_nil]; omega⟩, f2⟩
  case _ =>
    go_wp2_with fail
    have hmany := l1Many_any ⟨#[116]⟩ 16 w1 (by omega) rfl
    refine hmany.mono ?_
    rintro e w2 ⟨t, rfl, ht, rfl⟩
    clear hmany
    go_wp2_with fail
    have hof := ofList_any R (p + 1) 5 [⟨#[]⟩, ⟨#[97]⟩, ⟨#[98]⟩, ⟨#[116, 119, 111, 32, 119, 111, 114, 100, 115]⟩, t] #[Value.string ⟨#[]⟩, Value.string ⟨#[97]⟩, Value.string ⟨#[98]⟩, Value.string ⟨#[116, 119, 111, 32, 119, 111, 114, 100, 115]⟩, Value.string t] 9 w2 hR1 (by omega) rfl rfl (by omega) (by omega)
    refine hof.mono ?_
    rintro e w3 ⟨s, hs, rfl, hR3, hO3⟩
    clear hof
    have hs2 : s.size ≤ 100 := by
      simp only [List.mem_cons, List.not_mem_nil, or_false] at hs
      rcases hs with rfl | rfl | rfl | rfl | rfl
      · exact Nat.zero_le _
      · show 1 ≤ 100; omega
      · show 1 ≤ 100; omega
      · show 9 ≤ 100; omega
      · exact ht
    have hB3 := hB1.only hO3 (.inr (by omega))
    have hW3 := hW1.trans hO3
    clear hB1 hO3 hW1 hs
    obtain ⟨_, ⟨blt, b0, b1, b2, b3⟩, bf⟩ := hB3
    go_wp2
    obtain ⟨f1, f2⟩ := draw_close hR3 hW3 hRl (Nat.le_refl _) (.int .i64 3) (.int .i64 0) (.string s) (.slice none 0 0)
    refine bodyPost_ret (v := .agg #[.int .i64 3, .int .i64 0, .string s, .slice none 0 0]) (by simp [results, Tryz.results42, go_sem, b0, b1, b2, b3]) rfl ?_
    exact ⟨_, _, p + 1 + 1, rfl, .flat _ _ _ _ _ rfl rfl (by unfold maxLen; omega), f1, ⟨by omega, by rw [cnt_nil]; omega⟩, f2⟩
  case _ =>
    go_wp2_with fail
    have hmany := l1Many_any ⟨#[116]⟩ 16 w1 (by omega) rfl
    refine hmany.mono ?_
    rintro e w2 ⟨t, rfl, ht, rfl⟩
    clear hmany
    go_wp2_with fail
    have hof := ofList_any R (p + 1) 5 [⟨#[]⟩, ⟨#[97]⟩, ⟨#[98]⟩, ⟨#[116, 119, 111, 32, 119, 111, 114, 100, 115]⟩, t] #[Value.string ⟨#[]⟩, Value.string ⟨#[97]⟩, Value.string ⟨#[98]⟩, Value.string ⟨#[116, 119, 111, 32, 119, 111, 114, 100, 115]⟩, Value.string t] 9 w2 hR1 (by omega) rfl rfl (by omega) (by omega)
    refine hof.mono ?_
    rintro e w3 ⟨s, hs, rfl, hR3, hO3⟩
    clear hof
    have hs2 : s.size ≤ 100 := by
      simp only [List.mem_cons, List.not_mem_nil, or_false] at hs
      rcases hs with rfl | rfl | rfl | rfl | rfl
      · exact Nat.zero_le _
      · show 1 ≤ 100; omega
      · show 1 ≤ 100; omega
      · show 9 ≤ 100; omega
      · exact ht
    have hB3 := hB1.only hO3 (.inr (by omega))
    have hW3 := hW1.trans hO3
    clear hB1 hO3 hW1 hs
    obtain ⟨_, ⟨blt, b0, b1, b2, b3⟩, bf⟩ := hB3
    go_wp2
    obtain ⟨f1, f2⟩ := draw_close hR3 hW3 hRl (Nat.le_refl _) (.int .i64 3) (.int .i64 0) (.string s) (.slice none 0 0)
    refine bodyPost_ret (v := .agg #[.int .i64 3, .int .i64 0, .string s, .slice none 0 0]) (by simp [results, Tryz.results42, go_sem, b0, b1, b2, b3]) rfl ?_
    exact ⟨_, _, p + 1 + 1, rfl, .flat _ _ _ _ _ rfl rfl (by unfold maxLen; omega), f1, ⟨by omega, by rw [cnt_nil]; omega⟩, f2⟩
  case _ =>
    by_cases h1d : d ≤ 1
    · clear ih
      go_wp2_with fail
      have hone := oneList_any R (p + 1) 7 [0, 1, 2, 3, -1, 7, 1000000000] #[Value.int .i64 0, Value.int .i64 1, Value.int .i64 2, Value.int .i64 3, Value.int .i64 (-1), Value.int .i64 7, Value.int .i64 1000000000] 3 w1 hR1 (by omega) rfl rfl (by omega) (by omega)
      refine hone.mono ?_
      rintro e w3 ⟨s, hs, rfl, hR3, hO3⟩
      clear hone
      have hs2 : (Lit.int .i64 s).wf = true := by
        simp only [List.mem_cons, List.not_mem_nil, or_false] at hs
        rcases hs with rfl | rfl | rfl | rfl | rfl | rfl | rfl <;> rfl
      have hB3 := hB1.only hO3 (.inr (by omega))
      have hW3 := hW1.trans hO3
      clear hB1 hO3 hW1 hs
      obtain ⟨_, ⟨blt, b0, b1, b2, b3⟩, bf⟩ := hB3
      go_wp2
      obtain ⟨f1, f2⟩ := draw_close hR3 hW3 hRl (Nat.le_refl _) (.int .i64 2) (.int .i64 s) (.string ⟨#[]⟩) (.slice none 0 0)
      refine bodyPost_ret (v := .agg #[.int .i64 2, .int .i64 s, .string ⟨#[]⟩, .slice none 0 0]) (by simp [results, Tryz.results42, go_sem, b0, b1, b2, b3]) rfl ?_
      exact ⟨_, _, p + 1 + 1, rfl, .flat _ _ _ _ _ rfl hs2 (by unfold maxLen; decide), f1, ⟨by omega, by rw [cnt_nil]; omega⟩, f2⟩
    · obtain ⟨k, hk, ih⟩ := ih (by omega)
      have hW1' : Only R (R + 1) w (w1.alloc (.cells #[.int .i64 4, .int .i64 0, .string ⟨#[]⟩, .slice none 0 0] 73)) := hW1.alloc _
      have hz1 : w.heap.size < w1.heap.size := hB1.box.lt
      have h4 := pick_any R (p + 1) 4 (w1.alloc (.cells #[.int .i64 4, .int .i64 0, .string ⟨#[]⟩, .slice none 0 0] 73)) (hR1.ext ((Ext.refl _).alloc _)) (by omega) (by omega) (by omega)
      have hV : BoxAt (w1.alloc (.cells #[.int .i64 4, .int .i64 0, .string ⟨#[]⟩, .slice none 0 0] 73)) w1.heap.size (.int .i64 4) (.int .i64 0) (.string ⟨#[]⟩) (.slice none 0 0) := BoxAt.new _ _ _ _ _ _
      have hVf : ∀ o, (w1.alloc (.cells #[.int .i64 4, .int .i64 0, .string ⟨#[]⟩, .slice none 0 0] 73)).frozen? ⟨w1.heap.size, o, none⟩ = false := fun o => by rw [frozen?_alloc_cells]; simp [World.frozen?]
      go_wp2_with fail
      refine h4.mono ?_
      rintro e w2 ⟨j, rfl, hj, hR2, hO2⟩
      clear h4
      have hb2 := hO2.block w1.heap.size hV.lt (.inr (by omega))
      have hV2 := hV.block hO2.size hb2
      have hVf2 : ∀ o, w2.frozen? ⟨w1.heap.size, o, none⟩ = false := fun o => by rw [World.frozen?_of_block (a := ⟨w1.heap.size, o, none⟩) hb2]; exact hVf o
      have hB2 := (hB1.ext ((Ext.refl _).alloc _)).only hO2 (.inr (by omega))
      have hW2 := hW1'.trans hO2
      have hz2 : w1.heap.size + 1 ≤ w2.heap.size := by have := hO2.size; simpa using this
      generalize w1.heap.size = vb at *
      clear hV hVf hb2 hB1 hO2 hW1' hW1 hR1 hm
      go_wp2_with fail
      go_loopw [6] (fun nv wr => ∃ (j : Nat) (l : List V) (u : Value) (cs : List Value) (q : Nat), nv = .int .i64 j ∧ (j + l.length ≤ 3 ∧ cntL l + 2 * (j * k) + j ≤ 6 * k + 3) ∧ q + j * k ≤ p + 2 + 3 * k ∧ RdAt wr R q ∧ RowS (vb + 1) wr l u cs ∧ BoxAt wr vb (.int .i64 4) (.int .i64 0) (.string ⟨#[]⟩) u ∧ (∀ o, wr.frozen? ⟨vb, o, none⟩ = false) ∧ NewBox w wr w.heap.size ∧ Only R (R + 1) w wr ∧ vb + 1 ≤ wr.heap.size) (fun nv _ => (intOf nv).toNat)
      case atStart => exact ⟨j, [], _, [], p + 1 + 1, rfl, ⟨by simp; omega, by have : j * k ≤ 3 * k := Nat.mul_le_mul_right _ (by omega); simp only [cntL]; omega⟩, by have : j * k ≤ 3 * k := Nat.mul_le_mul_right _ (by omega); omega, hR2, RowS.nil _ _, hV2, hVf2, hB2, hW2, hz2⟩
      case round =>
        clear hR2 hV2 hVf2 hB2 hW2 hz2 hj
        obtain ⟨j, l, u, cs, q, rfl, hjl, hq, hRq, hrow, ⟨vlt, v0, v1, v2, v3⟩, vf, hB, hW, hz⟩ := hrel
        by_cases hj0 : 0 < j
        · obtain ⟨i0, hi, hz0, hz1, hz2⟩ := info_parts Tryz.infoVd
          have hRd : RdAt wr.drew R q := hRq.ext (Ext.refl _).drew
          have hrd : RowS (vb + 1) wr.drew l u cs := hrow.ext (Ext.refl _).drew
          have hWd : Only R (R + 1) w wr.drew := hW.drew
          have hBd : NewBox w wr.drew w.heap.size := hB.ext (Ext.refl _).drew
          have hkk : k ≤ j * k := Nat.le_mul_of_pos_left k hj0
          have hjk : (j - 1) * k = j * k - k := by rw [Nat.sub_mul, Nat.one_mul]
          obtain ⟨ua, ucap, hush⟩ := hrow.shape
          subst hush
          have hwrap : IntKind.i64.wrap (d - 1) = d - 1 := by
            simp [IntKind.wrap, IntKind.signed, IntKind.bits]
            omega
          go_wp2_with fail
          go_region_law
            (first
              | ((refine step_append_lies _ (by rfl) _ _ _ (by rfl) (vb + 1) 73 i0 _ 4 56 Tryz.underlying71 hi hz0 hz1 hz2 rfl (by omega) (.slice ua l.length ucap) l.length cs (by rfl) (hrow3.1.alloc _)
                    ⟨w3.heap.size, 0, none⟩ 1 1 [.int .i64 xk, .int .i64 xn, .string xt, .slice xa xl xc] (by rfl) (by rfl) (World.news_of_block (cs := #[.int .i64 xk, .int .i64 xn, .string xt, .slice xa xl xc]) (t := 73) (fr := (0, 0)) (heap_alloc_new w3 _)) (by simp [Value.oneCell'])
                    (by omega) (by unfold maxLen; omega) (by omega) (by have := hO3.size; simp at this; simp; omega) (w3.heap.size + 1) (by simp) ?_; intro g cap w4 hown4 hgrow hat hlt
                  have hb4 := hgrow.block vb (by have := hO3.size; simp at this; simp; omega) (fun e2 => by have := (hrow3.1.lt vb e2.symm).1; omega)
                  rw [Below.heap_alloc _ _ _ (by have := hO3.size; simp at this; omega)] at hb4
                  have hb4' := hb4.trans hb3
                  have g4 : w4.cell? ⟨vb, 3, none⟩ = some (.slice ua l.length ucap) := by rw [World.cell?_of_block (w := wr) hb4']; exact v3
                  have kf : ∀ o, w4.frozen? ⟨vb, o, none⟩ = false := fun o => by rw [World.frozen?_of_block (w := wr) hb4']; exact vf o))
              | (go_simp
                 go_at_call 42
                 refine (ih R q _ hRd (by omega)).mono ?_
                 rintro e w3 ⟨x, vv, q', rfl, hx, hR3, hq3, hO3⟩
                 obtain ⟨xk, xn, xt, xa, xl, xc, hsh⟩ := hx.shape
                 subst hsh
                 have hrow3 := hrd.only hO3 (by omega)
                 have hW3 := hWd.trans hO3
                 have hB3 := hBd.only hO3 (.inr (by omega))
                 have hb3 := hO3.block vb vlt (.inr (by omega))
                 have g3 : w3.cell? ⟨vb, 3, none⟩ = some (.slice ua l.length ucap) := by rw [World.cell?_of_block (w := wr) hb3]; exact v3
                 have g3' : (w3.alloc (.cells #[.int .i64 xk, .int .i64 xn, .string xt, .slice xa xl xc] 73)).cell? ⟨vb, 3, none⟩ = some (.slice ua l.length ucap) := by rw [Ext.cell ((Ext.refl w3).alloc _) (by have := hO3.size; simp at this; dsimp only; omega)]; exact g3))
          all_goals
            have k0 : w4.cell? ⟨vb, 0, none⟩ = some (.int .i64 4) := by rw [World.cell?_of_block (w := wr) hb4']; exact v0
            have k1 : w4.cell? ⟨vb, 1, none⟩ = some (.int .i64 0) := by rw [World.cell?_of_block (w := wr) hb4']; exact v1
            have k2 : w4.cell? ⟨vb, 2, none⟩ = some (.string ⟨#[]⟩) := by rw [World.cell?_of_block (w := wr) hb4']; exact v2
            have hz3 : wr.heap.size ≤ w3.heap.size := hO3.size
            have hz4 : w3.heap.size + 1 ≤ w4.heap.size := by have := hgrow.size; simpa using this
            have hR4 : RdAt w4 R q' := (hR3.ext ((Ext.refl _).alloc _)).grown hgrow (fun k hk => by have := (hrow3.1.lt k hk).1; omega)
            have hW4 : Only R (R + 1) w w4 := (hW3.alloc _).grown hgrow (fun k hk => by have := (hrow3.1.lt k hk).1; omega)
            have hB4 : NewBox w w4 w.heap.size := by
              refine (hB3.ext ((Ext.refl _).alloc (.cells #[.int .i64 xk, .int .i64 xn, .string xt, .slice xa xl xc] 73))).block hgrow.size (hgrow.block _ (by have := hB3.box.lt; simp; omega) (fun e2 => by have := (hrow3.1.lt _ e2.symm).1; omega))
            have hrow4 : RowS (vb + 1) w4 (l ++ [x]) (.slice (some ⟨g, 0, none⟩) (l.length + 1) cap) (cs ++ [.int .i64 xk, .int .i64 xn, .string xt, .slice xa xl xc]) := by
              refine (hrow3.ext ((Ext.refl _).alloc (.cells #[.int .i64 xk, .int .i64 xn, .string xt, .slice xa xl xc] 73))).push ?_ hown4 hgrow ?_
              · refine hx.carry (by simp) (fun b hb _ => ⟨by simp at hb; omega, fun e2 => ?_⟩) (fun b _ hlt => Below.heap_alloc _ _ _ hlt)
                have := (hrd.1.lt b e2).2
                simp at this hb
                omega
              · rcases hat with e | e
                · exact .inl e.symm
                · right; subst e; simp [Value.ownBlock]
            clear hrow hrd hRd hWd hBd hRq hW hB hrow3 hW3 hB3 hR3 hx hO3 hb3 hb4 hb4' g3 hgrow hat hown4 v0 v1 v2 v3 vf
            go_wp2
            go_roundw
            case rel =>
              refine ⟨j - 1, l ++ [x], _, _, q', by go_num, ⟨by simp; omega, by rw [cntL_snoc]; omega⟩, by omega, hR4.setFar (by dsimp only; omega) _, hrow4.carry (by simp) (fun b h1 _ => Below.heap_setCell _ _ _ _ (by dsimp only; omega)), ⟨?_, ?_, ?_, ?_, ?_⟩, ?_, ?_, hW4.setNew (p := ⟨vb, 3, none⟩) (by dsimp only; omega) _, ?_⟩
              · simp; omega
              · simp [go_sem, k0]
              · simp [go_sem, k1]
              · simp [go_sem, k2]
              · simp [go_sem, g4]
              · intro o; simp [go_sem, kf]
              · exact hB4.block (by simp) (Below.heap_setCell _ _ _ _ (by dsimp only; omega))
              · simp; omega
            case measure => simp [intOf]; omega
        · obtain ⟨a, cap, rfl⟩ := hrow.shape
          obtain ⟨_, ⟨blt, b0, b1, b2, b3⟩, bf⟩ := hB
          go_wp2
          obtain ⟨f1, f2⟩ := draw_close hRq hW hRl (Nat.le_refl _) (.int .i64 4) (.int .i64 0) (.string ⟨#[]⟩) (.slice a l.length cap)
          refine bodyPost_ret (v := .agg #[.int .i64 4, .int .i64 0, .string ⟨#[]⟩, .slice a l.length cap]) (by simp [results, Tryz.results42, go_sem, b0, b1, b2, b3]) rfl ?_
          have hvs := ValS.of_row (kind := 4) (num := 0) (text := ⟨#[]⟩) rfl rfl (by unfold maxLen; decide) (by omega) hrow
          refine ⟨_, _, q, rfl, hvs.carry (by simp) (fun b hb _ => by omega) (fun b hb _ => ?_), f1, ⟨by omega, by rw [cnt_mk]; omega⟩, f2⟩
          rw [Below.heap_setCell _ _ _ _ (by dsimp only; omega), Below.heap_setCell _ _ _ _ (by dsimp only; omega), Below.heap_setCell _ _ _ _ (by dsimp only; omega), Below.heap_setCell _ _ _ _ (by dsimp only; omega)]
  case _ =>
    clear ih
    go_wp2_with fail
    have hone := oneList_any R (p + 1) 7 [0, 1, 2, 3, -1, 7, 1000000000] #[Value.int .i64 0, Value.int .i64 1, Value.int .i64 2, Value.int .i64 3, Value.int .i64 (-1), Value.int .i64 7, Value.int .i64 1000000000] 3 w1 hR1 (by omega) rfl rfl (by omega) (by omega)
    refine hone.mono ?_
    rintro e w3 ⟨s, hs, rfl, hR3, hO3⟩
    clear hone
    have hs2 : (Lit.int .i64 s).wf = true := by
      simp only [List.mem_cons, List.not_mem_nil, or_false] at hs
      rcases hs with rfl | rfl | rfl | rfl | rfl | rfl | rfl <;> rfl
    have hB3 := hB1.only hO3 (.inr (by omega))
    have hW3 := hW1.trans hO3
    clear hB1 hO3 hW1 hs
    obtain ⟨_, ⟨blt, b0, b1, b2, b3⟩, bf⟩ := hB3
    go_wp2
    obtain ⟨f1, f2⟩ := draw_close hR3 hW3 hRl (Nat.le_refl _) (.int .i64 2) (.int .i64 s) (.string ⟨#[]⟩) (.slice none 0 0)
    refine bodyPost_ret (v := .agg #[.int .i64 2, .int .i64 s, .string ⟨#[]⟩, .slice none 0 0]) (by simp [results, Tryz.results42, go_sem, b0, b1, b2, b3]) rfl ?_
    exact ⟨_, _, p + 1 + 1, rfl, .flat _ _ _ _ _ rfl hs2 (by unfold maxLen; decide), f1, ⟨by omega, by rw [cnt_nil]; omega⟩, f2⟩
  case _ =>
    clear ih
    go_wp2_with fail
    have hone := oneList_any R (p + 1) 7 [0, 1, 2, 3, -1, 7, 1000000000] #[Value.int .i64 0, Value.int .i64 1, Value.int .i64 2, Value.int .i64 3, Value.int .i64 (-1), Value.int .i64 7, Value.int .i64 1000000000] 3 w1 hR1 (by omega) rfl rfl (by omega) (by omega)
    refine hone.mono ?_
    rintro e w3 ⟨s, hs, rfl, hR3, hO3⟩
    clear hone
    have hs2 : (Lit.int .i64 s).wf = true := by
      simp only [List.mem_cons, List.not_mem_nil, or_false] at hs
      rcases hs with rfl | rfl | rfl | rfl | rfl | rfl | rfl <;> rfl
    have hB3 := hB1.only hO3 (.inr (by omega))
    have hW3 := hW1.trans hO3
    clear hB1 hO3 hW1 hs
    obtain ⟨_, ⟨blt, b0, b1, b2, b3⟩, bf⟩ := hB3
    go_wp2
    obtain ⟨f1, f2⟩ := draw_close hR3 hW3 hRl (Nat.le_refl _) (.int .i64 2) (.int .i64 s) (.string ⟨#[]⟩) (.slice none 0 0)
    refine bodyPost_ret (v := .agg #[.int .i64 2, .int .i64 s, .string ⟨#[]⟩, .slice none 0 0]) (by simp [results, Tryz.results42, go_sem, b0, b1, b2, b3]) rfl ?_
    exact ⟨_, _, p + 1 + 1, rfl, .flat _ _ _ _ _ rfl hs2 (by unfold maxLen; decide), f1, ⟨by omega, by rw [cnt_nil]; omega⟩, f2⟩
theorem PL.mono {n m : Nat} {d : Int} (h : PL n d) (hm : n ≤ m) : PL m d := fun R p w hR hp => (h R p w hR (by omega)).mono fun e w' ⟨x, v, p', h1, h2, h3, h4, h5⟩ => ⟨x, v, p', h1, h2, h3, by omega, h5⟩
theorem plain1 : PL 2 1 := plain_any 2 1 (by omega) (by omega) (by omega) (fun h => absurd h (by omega))
theorem plain2 : PL 8 2 := plain_any 8 2 (by omega) (by omega) (by omega) (fun _ => ⟨2, by omega, plain1⟩)
theorem plain3 : PL 26 3 := plain_any 26 3 (by omega) (by omega) (by omega) (fun _ => ⟨8, by omega, plain2⟩)
end Go.Proofs.YtbhmblkappmfjaaGreat

/- The drawn values: what spec.l11Value answers: some value, in new memory. -/
namespace Go.Proofs.YtbhmblkappmfjaaGreat
open Go.RowKit Go.Deep

def VLd (n : Nat) (d : Int) : Prop := ∀ (R p : Nat) (w : World), RdAt w R p → p + n ≤ 1000000 →
  Calls Tryz.prog 55 #[.pointer (some ⟨R, 0, none⟩), .int .i64 d] w fun e w' => ∃ x v p', e = .returned v ∧ ValS (fun b => w.heap.size ≤ b) w' x v ∧ RdAt w' R p' ∧ (p' ≤ p + n ∧ cntV x ≤ 2 * n) ∧ Only R (R + 1) w w'

theorem wf_small (m : Nat) (h : m ≤ 1000000) : (Lit.int .i64 (m : Int)).wf = true := by simp [Lit.wf, IntKind.min, IntKind.max, IntKind.signed, IntKind.bits]; omega

set_option maxRecDepth 100000 in
set_option maxHeartbeats 1000000 in
theorem dvalue_any (n : Nat) (d : Int) (hd0 : 0 ≤ d) (hd : d ≤ 3) (hn : 3 ≤ n) (hpl : ∃ m, m + 1 ≤ n ∧ PL m d) (ih : 1 < d → ∃ m, 3 * m + 2 ≤ n ∧ VLd m (d - 1)) : VLd n d := by
  intro R p w hR hp
  have hRl := hR.lt
  have hE0 : Ext w (w.alloc (.cells #[.int .i64 0, .int .i64 0, .string ⟨#[]⟩, .slice none 0 0] 73)) := (Ext.refl _).alloc _
  have h6 := pick_any R p 8 _ (hR.ext hE0) (by omega) (by omega) (by omega)
  have hB0 : NewBox w (w.alloc (.cells #[.int .i64 0, .int .i64 0, .string ⟨#[]⟩, .slice none 0 0] 73)) w.heap.size := NewBox.mk' (Ext.refl _) (Ext.refl _)
  go_enter Tryz.func55, Tryz.ntmps55
  go_wp2_with fail
  refine h6.mono ?_
  rintro e w1 ⟨m, rfl, hm, hR1, hO1⟩
  clear h6
  have hB1 := hB0.only hO1 (.inr (by omega))
  have hW1 : Only R (R + 1) w w1 := (Only.of_ext hE0).trans hO1
  clear hB0 hO1 hE0
  by_cases hm0 : m = 0
  · subst hm0
    clear ih hpl
    obtain ⟨_, ⟨blt, b0, b1, b2, b3⟩, bf⟩ := hB1
    go_wp2
    obtain ⟨f1, f2⟩ := draw_close hR1 hW1 hRl (Nat.le_refl _) (.int .i64 0) (.int .i64 0) (.string ⟨#[]⟩) (.slice none 0 0)
    refine bodyPost_ret (v := .agg #[.int .i64 0, .int .i64 0, .string ⟨#[]⟩, .slice none 0 0]) (by simp [results, Tryz.results55, go_sem, b0, b1, b2, b3]) rfl ?_
    exact ⟨_, _, p + 1, rfl, .flat _ _ _ _ _ rfl rfl (by unfold maxLen; decide), f1, ⟨by omega, by rw [cnt_nil]; omega⟩, f2⟩
  by_cases hm1 : m = 1
  · subst hm1
    clear ih hpl
    have h4 := pick_any R (p + 1) 4 w1 hR1 (by omega) (by omega) (by omega)
    go_wp2_with fail
    refine h4.mono ?_
    rintro e w3 ⟨m, rfl, hm2, hR3, hO3⟩
    clear h4
    have hB3 := hB1.only hO3 (.inr (by omega))
    have hW3 := hW1.trans hO3
    clear hB1 hO3 hW1
    obtain ⟨_, ⟨blt, b0, b1, b2, b3⟩, bf⟩ := hB3
    go_wp2
    obtain ⟨f1, f2⟩ := draw_close hR3 hW3 hRl (Nat.le_refl _) (.int .i64 5) (.int .i64 m) (.string ⟨#[]⟩) (.slice none 0 0)
    refine bodyPost_ret (v := .agg #[.int .i64 5, .int .i64 m, .string ⟨#[]⟩, .slice none 0 0]) (by simp [results, Tryz.results55, go_sem, b0, b1, b2, b3]) rfl ?_
    exact ⟨_, _, p + 1 + 1, rfl, .flat _ _ _ _ _ rfl (wf_small _ (by omega)) (by unfold maxLen; decide), f1, ⟨by omega, by rw [cnt_nil]; omega⟩, f2⟩
  by_cases hm2 : m = 2
  · subst hm2
    clear ih hpl
    have h4 := pick_any R (p + 1) 4 w1 hR1 (by omega) (by omega) (by omega)
    go_wp2_with fail
    refine h4.mono ?_
    rintro e w3 ⟨m, rfl, hm2, hR3, hO3⟩
    clear h4
    have hB3 := hB1.only hO3 (.inr (by omega))
    have hW3 := hW1.trans hO3
    clear hB1 hO3 hW1
    obtain ⟨_, ⟨blt, b0, b1, b2, b3⟩, bf⟩ := hB3
    go_wp2
    obtain ⟨f1, f2⟩ := draw_close hR3 hW3 hRl (Nat.le_refl _) (.int .i64 6) (.int .i64 m) (.string ⟨#[]⟩) (.slice none 0 0)
    refine bodyPost_ret (v := .agg #[.int .i64 6, .int .i64 m, .string ⟨#[]⟩, .slice none 0 0]) (by simp [results, Tryz.results55, go_sem, b0, b1, b2, b3]) rfl ?_
    exact ⟨_, _, p + 1 + 1, rfl, .flat _ _ _ _ _ rfl (wf_small _ (by omega)) (by unfold maxLen; decide), f1, ⟨by omega, by rw [cnt_nil]; omega⟩, f2⟩
  by_cases hm3 : m = 3 ∧ 1 < d
  · obtain ⟨rfl, h1d⟩ := hm3
    clear hpl hm0 hm1 hm2
    obtain ⟨k, hk, ih⟩ := ih h1d
    have hW1' : Only R (R + 1) w (w1.alloc (.cells #[.int .i64 4, .int .i64 0, .string ⟨#[]⟩, .slice none 0 0] 73)) := hW1.alloc _
    have hz1 : w.heap.size < w1.heap.size := hB1.box.lt
    have h4 := pick_any R (p + 1) 4 (w1.alloc (.cells #[.int .i64 4, .int .i64 0, .string ⟨#[]⟩, .slice none 0 0] 73)) (hR1.ext ((Ext.refl _).alloc _)) (by omega) (by omega) (by omega)
    have hV : BoxAt (w1.alloc (.cells #[.int .i64 4, .int .i64 0, .string ⟨#[]⟩, .slice none 0 0] 73)) w1.heap.size (.int .i64 4) (.int .i64 0) (.string ⟨#[]⟩) (.slice none 0 0) := BoxAt.new _ _ _ _ _ _
    have hVf : ∀ o, (w1.alloc (.cells #[.int .i64 4, .int .i64 0, .string ⟨#[]⟩, .slice none 0 0] 73)).frozen? ⟨w1.heap.size, o, none⟩ = false := fun o => by rw [frozen?_alloc_cells]; simp [World.frozen?]
    go_wp2_with fail
    refine h4.mono ?_
    rintro e w2 ⟨j, rfl, hj, hR2, hO2⟩
    clear h4
    have hb2 := hO2.block w1.heap.size hV.lt (.inr (by omega))
    have hV2 := hV.block hO2.size hb2
    have hVf2 : ∀ o, w2.frozen? ⟨w1.heap.size, o, none⟩ = false := fun o => by rw [World.frozen?_of_block (a := ⟨w1.heap.size, o, none⟩) hb2]; exact hVf o
    have hB2 := (hB1.ext ((Ext.refl _).alloc _)).only hO2 (.inr (by omega))
    have hW2 := hW1'.trans hO2
    have hz2 : w1.heap.size + 1 ≤ w2.heap.size := by have := hO2.size; simpa using this
    generalize w1.heap.size = vb at *
    clear hV hVf hb2 hB1 hO2 hW1' hW1 hR1 hm
    go_wp2_with fail
    go_loopw [6] (fun nv wr => ∃ (j : Nat) (l : List V) (u : Value) (cs : List Value) (q : Nat), nv = .int .i64 j ∧ (j + l.length ≤ 3 ∧ cntL l + 2 * (j * k) + j ≤ 6 * k + 3) ∧ q + j * k ≤ p + 2 + 3 * k ∧ RdAt wr R q ∧ RowS (vb + 1) wr l u cs ∧ BoxAt wr vb (.int .i64 4) (.int .i64 0) (.string ⟨#[]⟩) u ∧ (∀ o, wr.frozen? ⟨vb, o, none⟩ = false) ∧ NewBox w wr w.heap.size ∧ Only R (R + 1) w wr ∧ vb + 1 ≤ wr.heap.size) (fun nv _ => (intOf nv).toNat)
    case atStart => exact ⟨j, [], _, [], p + 1 + 1, rfl, ⟨by simp; omega, by have : j * k ≤ 3 * k := Nat.mul_le_mul_right _ (by omega); simp only [cntL]; omega⟩, by have : j * k ≤ 3 * k := Nat.mul_le_mul_right _ (by omega); omega, hR2, RowS.nil _ _, hV2, hVf2, hB2, hW2, hz2⟩
    case round =>
      clear hR2 hV2 hVf2 hB2 hW2 hz2 hj
      obtain ⟨j, l, u, cs, q, rfl, hjl, hq, hRq, hrow, ⟨vlt, v0, v1, v2, v3⟩, vf, hB, hW, hz⟩ := hrel
      by_cases hj0 : 0 < j
      · obtain ⟨i0, hi, hz0, hz1, hz2⟩ := info_parts Tryz.infoVd
        have hRd : RdAt wr.drew R q := hRq.ext (Ext.refl _).drew
        have hrd : RowS (vb + 1) wr.drew l u cs := hrow.ext (Ext.refl _).drew
        have hWd : Only R (R + 1) w wr.drew := hW.drew
        have hBd : NewBox w wr.drew w.heap.size := hB.ext (Ext.refl _).drew
        have hkk : k ≤ j * k := Nat.le_mul_of_pos_left k hj0
        have hjk : (j - 1) * k = j * k - k := by rw [Nat.sub_mul, Nat.one_mul]
        obtain ⟨ua, ucap, hush⟩ := hrow.shape
        subst hush
        have hwrap : IntKind.i64.wrap (d - 1) = d - 1 := by
          simp [IntKind.wrap, IntKind.signed, IntKind.bits]
          omega
        go_wp2_with fail
        go_region_law
          (first
            | ((refine step_append_lies _ (by rfl) _ _ _ (by rfl) (vb + 1) 73 i0 _ 4 56 Tryz.underlying71 hi hz0 hz1 hz2 rfl (by omega) (.slice ua l.length ucap) l.length cs (by rfl) (hrow3.1.alloc _)
                  ⟨w3.heap.size, 0, none⟩ 1 1 [.int .i64 xk, .int .i64 xn, .string xt, .slice xa xl xc] (by rfl) (by rfl) (World.news_of_block (cs := #[.int .i64 xk, .int .i64 xn, .string xt, .slice xa xl xc]) (t := 73) (fr := (0, 0)) (heap_alloc_new w3 _)) (by simp [Value.oneCell'])
                  (by omega) (by unfold maxLen; omega) (by omega) (by have := hO3.size; simp at this; simp; omega) (w3.heap.size + 1) (by simp) ?_; intro g cap w4 hown4 hgrow hat hlt
                have hb4 := hgrow.block vb (by have := hO3.size; simp at this; simp; omega) (fun e2 => by have := (hrow3.1.lt vb e2.symm).1; omega)
                rw [Below.heap_alloc _ _ _ (by have := hO3.size; simp at this; omega)] at hb4
                have hb4' := hb4.trans hb3
                have g4 : w4.cell? ⟨vb, 3, none⟩ = some (.slice ua l.length ucap) := by rw [World.cell?_of_block (w := wr) hb4']; exact v3
                have kf : ∀ o, w4.frozen? ⟨vb, o, none⟩ = false := fun o => by rw [World.frozen?_of_block (w := wr) hb4']; exact vf o))
            | (go_simp
               go_at_call 55
               refine (ih R q _ hRd (by omega)).mono ?_
               rintro e w3 ⟨x, vv, q', rfl, hx, hR3, hq3, hO3⟩
               obtain ⟨xk, xn, xt, xa, xl, xc, hsh⟩ := hx.shape
               subst hsh
               have hrow3 := hrd.only hO3 (by omega)
               have hW3 := hWd.trans hO3
               have hB3 := hBd.only hO3 (.inr (by omega))
               have hb3 := hO3.block vb vlt (.inr (by omega))
               have g3 : w3.cell? ⟨vb, 3, none⟩ = some (.slice ua l.length ucap) := by rw [World.cell?_of_block (w := wr) hb3]; exact v3
               have g3' : (w3.alloc (.cells #[.int .i64 xk, .int .i64 xn, .string xt, .slice xa xl xc] 73)).cell? ⟨vb, 3, none⟩ = some (.slice ua l.length ucap) := by rw [Ext.cell ((Ext.refl w3).alloc _) (by have := hO3.size; simp at this; dsimp only; omega)]; exact g3))
        all_goals
          have k0 : w4.cell? ⟨vb, 0, none⟩ = some (.int .i64 4) := by rw [World.cell?_of_block (w := wr) hb4']; exact v0
          have k1 : w4.cell? ⟨vb, 1, none⟩ = some (.int .i64 0) := by rw [World.cell?_of_block (w := wr) hb4']; exact v1
          have k2 : w4.cell? ⟨vb, 2, none⟩ = some (.string ⟨#[]⟩) := by rw [World.cell?_of_block (w := wr) hb4']; exact v2
          have hz3 : wr.heap.size ≤ w3.heap.size := hO3.size
          have hz4 : w3.heap.size + 1 ≤ w4.heap.size := by have := hgrow.size; simpa using this
          have hR4 : RdAt w4 R q' := (hR3.ext ((Ext.refl _).alloc _)).grown hgrow (fun k hk => by have := (hrow3.1.lt k hk).1; omega)
          have hW4 : Only R (R + 1) w w4 := (hW3.alloc _).grown hgrow (fun k hk => by have := (hrow3.1.lt k hk).1; omega)
          have hB4 : NewBox w w4 w.heap.size := by
            refine (hB3.ext ((Ext.refl _).alloc (.cells #[.int .i64 xk, .int .i64 xn, .string xt, .slice xa xl xc] 73))).block hgrow.size (hgrow.block _ (by have := hB3.box.lt; simp; omega) (fun e2 => by have := (hrow3.1.lt _ e2.symm).1; omega))
          have hrow4 : RowS (vb + 1) w4 (l ++ [x]) (.slice (some ⟨g, 0, none⟩) (l.length + 1) cap) (cs ++ [.int .i64 xk, .int .i64 xn, .string xt, .slice xa xl xc]) := by
            refine (hrow3.ext ((Ext.refl _).alloc (.cells #[.int .i64 xk, .int .i64 xn, .string xt, .slice xa xl xc] 73))).push ?_ hown4 hgrow ?_
            · refine hx.carry (by simp) (fun b hb _ => ⟨by simp at hb; omega, fun e2 => ?_⟩) (fun b _ hlt => Below.heap_alloc _ _ _ hlt)
              have := (hrd.1.lt b e2).2
              simp at this hb
              omega
            · rcases hat with e | e
              · exact .inl e.symm
              · right; subst e; simp [Value.ownBlock]
          clear hrow hrd hRd hWd hBd hRq hW hB hrow3 hW3 hB3 hR3 hx hO3 hb3 hb4 hb4' g3 hgrow hat hown4 v0 v1 v2 v3 vf
          go_wp2
          go_roundw
          case rel =>
            refine ⟨j - 1, l ++ [x], _, _, q', by go_num, ⟨by simp; omega, by rw [cntL_snoc]; omega⟩, by omega, hR4.setFar (by dsimp only; omega) _, hrow4.carry (by simp) (fun b h1 _ => Below.heap_setCell _ _ _ _ (by dsimp only; omega)), ⟨?_, ?_, ?_, ?_, ?_⟩, ?_, ?_, hW4.setNew (p := ⟨vb, 3, none⟩) (by dsimp only; omega) _, ?_⟩
            · simp; omega
            · simp [go_sem, k0]
            · simp [go_sem, k1]
            · simp [go_sem, k2]
            · simp [go_sem, g4]
            · intro o; simp [go_sem, kf]
            · exact hB4.block (by simp) (Below.heap_setCell _ _ _ _ (by dsimp only; omega))
            · simp; omega
          case measure => simp [intOf]; omega
      · obtain ⟨a, cap, rfl⟩ := hrow.shape
        obtain ⟨_, ⟨blt, b0, b1, b2, b3⟩, bf⟩ := hB
        go_wp2
        obtain ⟨f1, f2⟩ := draw_close hRq hW hRl (Nat.le_refl _) (.int .i64 4) (.int .i64 0) (.string ⟨#[]⟩) (.slice a l.length cap)
        refine bodyPost_ret (v := .agg #[.int .i64 4, .int .i64 0, .string ⟨#[]⟩, .slice a l.length cap]) (by simp [results, Tryz.results55, go_sem, b0, b1, b2, b3]) rfl ?_
        have hvs := ValS.of_row (kind := 4) (num := 0) (text := ⟨#[]⟩) rfl rfl (by unfold maxLen; decide) (by omega) hrow
        refine ⟨_, _, q, rfl, hvs.carry (by simp) (fun b hb _ => by omega) (fun b hb _ => ?_), f1, ⟨by omega, by rw [cnt_mk]; omega⟩, f2⟩
        rw [Below.heap_setCell _ _ _ _ (by dsimp only; omega), Below.heap_setCell _ _ _ _ (by dsimp only; omega), Below.heap_setCell _ _ _ _ (by dsimp only; omega), Below.heap_setCell _ _ _ _ (by dsimp only; omega)]
  · obtain ⟨m2, hm2n, hpl⟩ := hpl
    have hcall := hpl R (p + 1) w1 hR1 (by omega)
    have e0 : ((m : Int) == 0) = false := by simp; omega
    have e1 : ((m : Int) == 1) = false := by simp; omega
    have e2 : ((m : Int) == 2) = false := by simp; omega
    clear ih hpl
    by_cases hm33 : m = 3
    · subst hm33
      have hd1 : decide (d > 1) = false := decide_eq_false (by omega)
      clear hm3 e0 e1 e2
      go_wp2_with fail
      refine hcall.mono ?_
      rintro e w3 ⟨x, vv, q, rfl, hx, hR3, hq3, hO3⟩
      obtain ⟨xk, xn, xt, xa, xl, xc, hsh⟩ := hx.shape
      subst hsh
      have hB3 := hB1.only hO3 (.inr (by omega))
      have hz1 : w.heap.size < w1.heap.size := hB1.box.lt
      have hW3 := hW1.trans hO3
      clear hB1 hO3 hW1 hcall
      obtain ⟨_, ⟨blt, b0, b1, b2, b3⟩, bf⟩ := hB3
      go_wp2
      obtain ⟨f1, f2⟩ := draw_close hR3 hW3 hRl (Nat.le_refl _) (.int .i64 xk) (.int .i64 xn) (.string xt) (.slice xa xl xc)
      refine bodyPost_ret (v := .agg #[.int .i64 xk, .int .i64 xn, .string xt, .slice xa xl xc]) (by simp [results, Tryz.results55, go_sem, b0, b1, b2, b3]) rfl ?_
      refine ⟨_, _, q, rfl, hx.carry (by simp) (fun b hb _ => by omega) (fun b hb _ => ?_), f1, ⟨by omega, by omega⟩, f2⟩
      rw [Below.heap_setCell _ _ _ _ (by dsimp only; omega), Below.heap_setCell _ _ _ _ (by dsimp only; omega), Below.heap_setCell _ _ _ _ (by dsimp only; omega), Below.heap_setCell _ _ _ _ (by dsimp only; omega)]
    · have e3 : ((m : Int) == 3) = false := by simp; omega
      clear hm3
      go_wp2_with fail
      refine hcall.mono ?_
      rintro e w3 ⟨x, vv, q, rfl, hx, hR3, hq3, hO3⟩
      obtain ⟨xk, xn, xt, xa, xl, xc, hsh⟩ := hx.shape
      subst hsh
      have hB3 := hB1.only hO3 (.inr (by omega))
      have hz1 : w.heap.size < w1.heap.size := hB1.box.lt
      have hW3 := hW1.trans hO3
      clear hB1 hO3 hW1 hcall
      obtain ⟨_, ⟨blt, b0, b1, b2, b3⟩, bf⟩ := hB3
      go_wp2
      obtain ⟨f1, f2⟩ := draw_close hR3 hW3 hRl (Nat.le_refl _) (.int .i64 xk) (.int .i64 xn) (.string xt) (.slice xa xl xc)
      refine bodyPost_ret (v := .agg #[.int .i64 xk, .int .i64 xn, .string xt, .slice xa xl xc]) (by simp [results, Tryz.results55, go_sem, b0, b1, b2, b3]) rfl ?_
      refine ⟨_, _, q, rfl, hx.carry (by simp) (fun b hb _ => by omega) (fun b hb _ => ?_), f1, ⟨by omega, by omega⟩, f2⟩
      rw [Below.heap_setCell _ _ _ _ (by dsimp only; omega), Below.heap_setCell _ _ _ _ (by dsimp only; omega), Below.heap_setCell _ _ _ _ (by dsimp only; omega), Below.heap_setCell _ _ _ _ (by dsimp only; omega)]
theorem VLd.mono {n m : Nat} {d : Int} (h : VLd n d) (hm : n ≤ m) : VLd m d := fun R p w hR hp => (h R p w hR (by omega)).mono fun e w' ⟨x, v, p', h1, h2, h3, h4, h5⟩ => ⟨x, v, p', h1, h2, h3, by omega, h5⟩
theorem value1 : VLd 3 1 := dvalue_any 3 1 (by omega) (by omega) (by omega) ⟨2, by omega, plain1⟩ (fun h => absurd h (by omega))
theorem value2 : VLd 11 2 := dvalue_any 11 2 (by omega) (by omega) (by omega) ⟨8, by omega, plain2⟩ (fun _ => ⟨3, by omega, value1⟩)
theorem value3 : VLd 35 3 := dvalue_any 35 3 (by omega) (by omega) (by omega) ⟨26, by omega, plain3⟩ (fun _ => ⟨11, by omega, value2⟩)
end Go.Proofs.YtbhmblkappmfjaaGreat
