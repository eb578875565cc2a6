/- The drawn values: what spec.l11AnyValue answers: some value, in new memory. -/
import Derived.Test.YtbhmblkappmfjaaGreatDrP
import Derived.Test.YtbhmblkappmfjaaGreatFb
namespace Go.Proofs.YtbhmblkappmfjaaGreat
open Go.RowKit Go.Deep

def AV : Prop := ∀ (R p : Nat) (w : World), RdAt w R p → p + 60 ≤ 1000000 →
  Calls Tryz.prog 41 #[.pointer (some ⟨R, 0, none⟩)] w fun e w' => ∃ x v p', e = .returned v ∧ ValS (fun b => w.heap.size ≤ b) w' x v ∧ RdAt w' R p' ∧ (p' ≤ p + 60 ∧ cntV x ≤ 120) ∧ Only R (R + 1) w w'

theorem wf_m1 (m : Nat) (h : m ≤ 1000000) : (Lit.int .i64 ((m : Int) - 1)).wf = true := by simp [Lit.wf, IntKind.min, IntKind.max, IntKind.signed, IntKind.bits]; omega
theorem RdAt.setFar4 {w : World} {R q p : Nat} (h : RdAt w R q) (hlt : R < p) (c0 c1 c2 c3 : Value) : RdAt ((((w.setCell ⟨p, 0, none⟩ c0).setCell ⟨p, 1, none⟩ c1).setCell ⟨p, 2, none⟩ c2).setCell ⟨p, 3, none⟩ c3) R q := (((h.setFar hlt _).setFar hlt _).setFar hlt _).setFar hlt _
/-- What 'return v' leaves. -/
theorem any_close {R p N : Nat} {w W : World} {y : V} {k n : Int} {t : ByteArray} {u : Value} {q' : Nat} (hRl : R < w.heap.size) (hRW : RdAt W R q') (hqW : q' ≤ p + N ∧ cntV y ≤ 2 * N) (hOW : Only R (R + 1) w W) (hyW : ValS (fun b => w.heap.size + 1 ≤ b) W y (.agg #[.int .i64 k, .int .i64 n, .string t, u])) :
      ∃ x v p', Ending.returned (.agg #[.int .i64 k, .int .i64 n, .string t, u]) = .returned v ∧ ValS (fun b => w.heap.size ≤ b) ((((W.setCell ⟨w.heap.size, 0, none⟩ (.int .i64 k)).setCell ⟨w.heap.size, 1, none⟩ (.int .i64 n)).setCell ⟨w.heap.size, 2, none⟩ (.string t)).setCell ⟨w.heap.size, 3, none⟩ u) x v ∧
        RdAt ((((W.setCell ⟨w.heap.size, 0, none⟩ (.int .i64 k)).setCell ⟨w.heap.size, 1, none⟩ (.int .i64 n)).setCell ⟨w.heap.size, 2, none⟩ (.string t)).setCell ⟨w.heap.size, 3, none⟩ u) R p' ∧ (p' ≤ p + N ∧ cntV x ≤ 2 * N) ∧ Only R (R + 1) w ((((W.setCell ⟨w.heap.size, 0, none⟩ (.int .i64 k)).setCell ⟨w.heap.size, 1, none⟩ (.int .i64 n)).setCell ⟨w.heap.size, 2, none⟩ (.string t)).setCell ⟨w.heap.size, 3, none⟩ u) := by
    obtain ⟨f1, f2⟩ := draw_close hRW hOW hRl (Nat.le_refl _) (.int .i64 k) (.int .i64 n) (.string t) u
    refine ⟨y, _, q', rfl, hyW.carry (by simp) (fun b hb _ => by omega) (fun b hb _ => ?_), f1, hqW, f2⟩
    rw [Below.heap_setCell _ _ _ _ (by dsimp only; omega), Below.heap_setCell _ _ _ _ (by dsimp only; omega), Below.heap_setCell _ _ _ _ (by dsimp only; omega), Below.heap_setCell _ _ _ _ (by dsimp only; omega)]

set_option maxRecDepth 100000 in
set_option maxHeartbeats 1000000 in
theorem anyValue_any : AV := by
  intro R p w hR hp
  have hRl := hR.lt
  have hE0 : Ext w (w.alloc (.cells #[.int .i64 0, .int .i64 0, .string ⟨#[]⟩, .slice none 0 0] 73)) := (Ext.refl _).alloc _
  have hB0 := FBox.new w (.int .i64 0) (.int .i64 0) (.string ⟨#[]⟩) (.slice none 0 0) 73
  have hv := value3 R p _ (hR.ext hE0) (by omega)
  go_enter Tryz.func41, Tryz.ntmps41
  go_wp2_with fail
  refine hv.mono ?_
  rintro e w1 ⟨x, vv, q, rfl, hx, hR1, hq, hO1⟩
  clear hv
  obtain ⟨xk, xn, xt, xa, xl, xc, hsh⟩ := hx.shape
  subst hsh
  have hB1 := hB0.only hO1 (.inr (by omega))
  have hW1 : Only R (R + 1) w w1 := (Only.of_ext hE0).trans hO1
  have hz1 : w.heap.size < w1.heap.size := hB1.box.lt
  have hE1 : Ext w1 (w1.alloc (.cells #[.int .i64 xk, .int .i64 xn, .string xt, .slice xa xl xc] 73)) := (Ext.refl _).alloc _
  have hV1 := FBox.new w1 (.int .i64 xk) (.int .i64 xn) (.string xt) (.slice xa xl xc) 73
  have h16 := pick_any R q 16 _ (hR1.ext hE1) (by omega) (by omega) (by omega)
  go_wp2_with fail
  refine h16.mono ?_
  rintro e w2 ⟨m, rfl, hm, hR2, hO2⟩
  clear h16
  have hB2 := (hB1.ext hE1).only hO2 (.inr (by omega))
  have hV2 := hV1.only hO2 (.inr (by omega))
  have hx2 : ValS (fun b => w.heap.size + 1 ≤ b ∧ b < w1.heap.size) w2 x (.agg #[.int .i64 xk, .int .i64 xn, .string xt, .slice xa xl xc]) := by
    refine hx.carry (Nat.le_trans hE1.le hO2.size) (fun b h1 h2 => ⟨by simpa using h1, h2⟩) (fun b h1 h2 => ?_)
    rw [hO2.block b (by simp; omega) (.inr (by simp at h1; omega)), Below.heap_alloc _ _ _ h2]
  have hW2 : Only R (R + 1) w w2 := (hW1.alloc _).trans hO2
  have hz2 : w1.heap.size + 1 ≤ w2.heap.size := by have := hO2.size; simpa using this
  obtain ⟨wk, wn, wt⟩ := hx2.wf
  clear hB0 hO1 hE0 hx hB1 hW1 hV1 hE1 hO2 hR1
  generalize w1.heap.size = vb at *
  have hne : vb ≠ w.heap.size := by omega
  have hne' : w.heap.size ≠ vb := by omega
  by_cases hm0 : m = 0
  · subst hm0
    have h9 := pick_any R (q + 1) 9 w2 hR2 (by omega) (by omega) (by omega)
    go_wp2_with fail
    refine h9.mono ?_
    rintro e w3 ⟨m, rfl, hm3, hR3, hO3⟩
    clear h9
    have hB3 := hB2.only hO3 (.inr (by omega))
    have hV3 := hV2.only hO3 (.inr (by omega))
    have hx3 : ValS (fun b => w.heap.size + 1 ≤ b ∧ b < vb) w3 x (.agg #[.int .i64 xk, .int .i64 xn, .string xt, .slice xa xl xc]) := hx2.carry hO3.size (fun _ h _ => h) (fun b h1 h2 => hO3.block b h2 (.inr (by omega)))
    have hW3 := hW2.trans hO3
    clear hB2 hV2 hx2 hW2 hO3 hR2
    obtain ⟨⟨blt, b0, b1, b2, b3⟩, bf⟩ := hB3
    obtain ⟨⟨vlt, v0, v1, v2, v3⟩, vf⟩ := hV3
    go_wp2
    refine bodyPost_ret (v := .agg #[.int .i64 ((m : Int) - 1), .int .i64 xn, .string xt, .slice xa xl xc]) (by simp [results, Tryz.results41, go_sem, b0, b1, b2, b3]) rfl ?_
    refine any_close hRl (hR3.setFar (q := ⟨vb, 0, none⟩) (by dsimp only; omega) _) (by first | omega | (rw [cnt_re]; omega) | (rw [cnt_mk]; omega)) (hW3.setNew (p := ⟨vb, 0, none⟩) (by dsimp only; omega) _) ((hx3.re (wf_m1 _ (by omega)) wn wt).carry (by simp) (fun _ h _ => h.1) (fun b h1 h2 => Below.heap_setCell _ _ _ _ (by dsimp only; omega)))
  by_cases hm1 : m = 1
  · subst hm1
    go_wp2_with fail
    have hone := oneList_any R (q + 1) 3 [1000000001, -1000000001, -1] #[Value.int .i64 1000000001, Value.int .i64 (-1000000001), Value.int .i64 (-1)] 3 w2 hR2 (by omega) rfl rfl (by omega) (by omega)
    refine hone.mono ?_
    rintro e w3 ⟨s, hs, rfl, hR3, hO3⟩
    clear hone
    have hs2 : (Lit.int .i64 s).wf = true := by
      simp only [List.mem_cons, List.not_mem_nil, or_false] at hs
      rcases hs with rfl | rfl | rfl <;> rfl
    clear hs
    have hB3 := hB2.only hO3 (.inr (by omega))
    have hV3 := hV2.only hO3 (.inr (by omega))
    have hx3 : ValS (fun b => w.heap.size + 1 ≤ b ∧ b < vb) w3 x (.agg #[.int .i64 xk, .int .i64 xn, .string xt, .slice xa xl xc]) := hx2.carry hO3.size (fun _ h _ => h) (fun b h1 h2 => hO3.block b h2 (.inr (by omega)))
    have hW3 := hW2.trans hO3
    clear hB2 hV2 hx2 hW2 hO3 hR2
    obtain ⟨⟨blt, b0, b1, b2, b3⟩, bf⟩ := hB3
    obtain ⟨⟨vlt, v0, v1, v2, v3⟩, vf⟩ := hV3
    go_wp2
    refine bodyPost_ret (v := .agg #[.int .i64 xk, .int .i64 s, .string xt, .slice xa xl xc]) (by simp [results, Tryz.results41, go_sem, b0, b1, b2, b3]) rfl ?_
    exact any_close hRl (hR3.setFar (q := ⟨vb, 1, none⟩) (by dsimp only; omega) _) (by first | omega | (rw [cnt_re]; omega) | (rw [cnt_mk]; omega)) (hW3.setNew (p := ⟨vb, 1, none⟩) (by dsimp only; omega) _) ((hx3.re wk hs2 wt).carry (by simp) (fun _ h _ => h.1) (fun b h1 h2 => Below.heap_setCell _ _ _ _ (by dsimp only; omega)))
  by_cases hm2 : m = 2
  · subst hm2
    go_wp2_with fail
    have hmany := l1Many_any ⟨#[117]⟩ 17 w2 (by omega) rfl
    refine hmany.mono ?_
    rintro e w2' ⟨t, rfl, ht, rfl⟩
    clear hmany
    go_wp2_with fail
    have hof := ofList_any R (q + 1) 4 [⟨#[39]⟩, ⟨#[10]⟩, t, ⟨#[120]⟩] #[Value.string ⟨#[39]⟩, Value.string ⟨#[10]⟩, Value.string t, Value.string ⟨#[120]⟩] 9 w2' hR2 (by omega) rfl rfl (by omega) (by omega)
    refine hof.mono ?_
    rintro e w3 ⟨s, hs, rfl, hR3, hO3⟩
    clear hof
    have hs2 : s.size ≤ maxLen := by
      simp only [List.mem_cons, List.not_mem_nil, or_false] at hs
      rcases hs with rfl | rfl | rfl | rfl
      · show 1 ≤ maxLen; unfold maxLen; omega
      · show 1 ≤ maxLen; unfold maxLen; omega
      · unfold maxLen; omega
      · show 1 ≤ maxLen; unfold maxLen; omega
    clear hs
    have hB3 := hB2.only hO3 (.inr (by omega))
    have hV3 := hV2.only hO3 (.inr (by omega))
    have hx3 : ValS (fun b => w.heap.size + 1 ≤ b ∧ b < vb) w3 x (.agg #[.int .i64 xk, .int .i64 xn, .string xt, .slice xa xl xc]) := hx2.carry hO3.size (fun _ h _ => h) (fun b h1 h2 => hO3.block b h2 (.inr (by omega)))
    have hW3 := hW2.trans hO3
    clear hB2 hV2 hx2 hW2 hO3 hR2
    obtain ⟨⟨blt, b0, b1, b2, b3⟩, bf⟩ := hB3
    obtain ⟨⟨vlt, v0, v1, v2, v3⟩, vf⟩ := hV3
    go_wp2
    refine bodyPost_ret (v := .agg #[.int .i64 xk, .int .i64 xn, .string s, .slice xa xl xc]) (by simp [results, Tryz.results41, go_sem, b0, b1, b2, b3]) rfl ?_
    exact any_close hRl (hR3.setFar (q := ⟨vb, 2, none⟩) (by dsimp only; omega) _) (by first | omega | (rw [cnt_re]; omega) | (rw [cnt_mk]; omega)) (hW3.setNew (p := ⟨vb, 2, none⟩) (by dsimp only; omega) _) ((hx3.re wk wn hs2).carry (by simp) (fun _ h _ => h.1) (fun b h1 h2 => Below.heap_setCell _ _ _ _ (by dsimp only; omega)))
  by_cases hm3 : m = 3
  · subst hm3
    obtain ⟨⟨blt, b0, b1, b2, b3⟩, bf⟩ := hB2
    obtain ⟨⟨vlt, v0, v1, v2, v3⟩, vf⟩ := hV2
    go_wp2
    have hA : ∀ (W : World) (o : Nat) (ob : Obj), W.heap.size = w2.heap.size → (W.alloc ob).cell? ⟨w.heap.size, o, none⟩ = W.cell? ⟨w.heap.size, o, none⟩ := fun W o ob h => ((Ext.refl W).alloc ob).cell (by dsimp only; omega)
    refine bodyPost_ret (v := .agg #[.int .i64 4, .int .i64 0, .string ⟨#[]⟩, .slice (some ⟨w2.heap.size, 0, none⟩) 1 1]) (by simp [results, Tryz.results41, go_sem, b0, b1, b2, b3, hA]) rfl ?_
    have hW3 := (((hW2.setNew (p := ⟨vb, 0, none⟩) (by dsimp only; omega) (.int .i64 4)).setNew (p := ⟨vb, 1, none⟩) (by dsimp only; omega) (.int .i64 0)).setNew (p := ⟨vb, 2, none⟩) (by dsimp only; omega) (.string ⟨#[]⟩)).setNew (p := ⟨vb, 3, none⟩) (by dsimp only; omega) (.slice (some ⟨w2.heap.size, 0, none⟩) 1 1)
    obtain ⟨f1, f2⟩ := draw_close (hR2.setFar4 (p := vb) (by omega) (.int .i64 4) (.int .i64 0) (.string ⟨#[]⟩) (.slice (some ⟨w2.heap.size, 0, none⟩) 1 1)) hW3 hRl (Nat.le_refl _) (.int .i64 4) (.int .i64 0) (.string ⟨#[]⟩) (.slice (some ⟨w2.heap.size, 0, none⟩) 1 1)
    have key : ∀ W : World, RdAt W R (q + 1) → Only R (R + 1) w W → W.heap.size = w2.heap.size → (∀ b, w.heap.size + 1 ≤ b → b ≠ vb → W.heap[b]? = w2.heap[b]?) →
        ∃ x' v p', Ending.returned (.agg #[.int .i64 4, .int .i64 0, .string ⟨#[]⟩, .slice (some ⟨w2.heap.size, 0, none⟩) 1 1]) = .returned v ∧ ValS (fun b => w.heap.size ≤ b) (W.alloc (.cells #[.int .i64 xk, .int .i64 xn, .string xt, .slice xa xl xc] 73)) x' v ∧ RdAt (W.alloc (.cells #[.int .i64 xk, .int .i64 xn, .string xt, .slice xa xl xc] 73)) R p' ∧ (p' ≤ p + 60 ∧ cntV x' ≤ 120) ∧ Only R (R + 1) w (W.alloc (.cells #[.int .i64 xk, .int .i64 xn, .string xt, .slice xa xl xc] 73)) := by
      intro W k1 k2 k3 k4
      have hbx := BoxAt.new W (.int .i64 xk) (.int .i64 xn) (.string xt) (.slice xa xl xc) 73
      rw [k3] at hbx
      have hx4 : ValS (fun b => w.heap.size ≤ b) (W.alloc (.cells #[.int .i64 xk, .int .i64 xn, .string xt, .slice xa xl xc] 73)) x (.agg #[.int .i64 xk, .int .i64 xn, .string xt, .slice xa xl xc]) := hx2.carry (by simp; omega) (fun b h _ => by omega) (fun b h1 h2 => by rw [Below.heap_alloc _ _ _ (by omega)]; exact k4 b h1.1 (by omega))
      exact ⟨_, _, q + 1, rfl, hx4.one rfl rfl (by unfold maxLen; decide) (by omega) hbx (fun o => by rw [← k3, frozen?_alloc_cells]; simp [World.frozen?]), k1.ext ((Ext.refl _).alloc _), ⟨by omega, by rw [cnt_mk]; simp only [cntL]; omega⟩, k2.alloc _⟩
    refine key _ f1 f2 (by simp) (fun b h1 h2 => ?_)
    rw [Below.heap_setCell _ _ _ _ (by dsimp only; omega), Below.heap_setCell _ _ _ _ (by dsimp only; omega), Below.heap_setCell _ _ _ _ (by dsimp only; omega), Below.heap_setCell _ _ _ _ (by dsimp only; omega), Below.heap_setCell _ _ _ _ (by dsimp only; omega), Below.heap_setCell _ _ _ _ (by dsimp only; omega), Below.heap_setCell _ _ _ _ (by dsimp only; omega), Below.heap_setCell _ _ _ _ (by dsimp only; omega)]
  by_cases hm4 : m = 4
  · subst hm4
    have h2 := pick_any R (q + 1) 2 _ (hR2.setFar4 (p := vb) (by omega) (.int .i64 4) (.int .i64 0) (.string ⟨#[]⟩) (.slice none 0 0)) (by omega) (by omega) (by omega)
    have hV3 := hV2.set4 (.int .i64 4) (.int .i64 0) (.string ⟨#[]⟩) (.slice none 0 0)
    have hB3 := (((hB2.far (q := ⟨vb, 0, none⟩) hne (.int .i64 4)).far (q := ⟨vb, 1, none⟩) hne (.int .i64 0)).far (q := ⟨vb, 2, none⟩) hne (.string ⟨#[]⟩)).far (q := ⟨vb, 3, none⟩) hne (.slice none 0 0)
    have hW3 := (((hW2.setNew (p := ⟨vb, 0, none⟩) (by dsimp only; omega) (.int .i64 4)).setNew (p := ⟨vb, 1, none⟩) (by dsimp only; omega) (.int .i64 0)).setNew (p := ⟨vb, 2, none⟩) (by dsimp only; omega) (.string ⟨#[]⟩)).setNew (p := ⟨vb, 3, none⟩) (by dsimp only; omega) (.slice none 0 0)
    obtain ⟨⟨vlt, v0, v1, v2, v3⟩, vf⟩ := hV2
    go_wp2_with fail
    refine h2.mono ?_
    rintro e w3 ⟨m, rfl, hm, hR3, hO3⟩
    clear h2
    have hV4 := hV3.only hO3 (.inr (by omega))
    have hB4 := hB3.only hO3 (.inr (by omega))
    have hW4 := hW3.trans hO3
    have hz3 : vb + 1 ≤ w3.heap.size := by have := hV4.box.lt; omega
    clear hV3 hB3 hW3 hO3 v0 v1 v2 v3 vf hx2 hW2 hR2 hB2
    go_wp2_with fail
    go_loopw [4] (fun nv wr => ∃ (j : Nat) (l : List V) (u : Value) (cs : List Value) (q' : Nat), nv = .int .i64 j ∧ (j + l.length ≤ 7 ∧ cntL l + j * 5 ≤ 35) ∧ q' + j * 2 ≤ q + 2 + 14 ∧ RdAt wr R q' ∧ RowS (vb + 1) wr l u cs ∧ FBox wr vb (.int .i64 4) (.int .i64 0) (.string ⟨#[]⟩) u ∧ FBox wr w.heap.size (.int .i64 0) (.int .i64 0) (.string ⟨#[]⟩) (.slice none 0 0) ∧ Only R (R + 1) w wr ∧ vb + 1 ≤ wr.heap.size) (fun nv _ => (intOf nv).toNat)
    case atStart => exact ⟨6 + m, [], _, [], q + 1 + 1, by go_num, ⟨by simp; omega, by simp only [cntL]; omega⟩, by omega, hR3, RowS.nil _ _, hV4, hB4, hW4, hz3⟩
    case round =>
      clear hV4 hB4 hW4 hz3 hR3 hm
      obtain ⟨j, l, u, cs, q2, rfl, hjl, hq2, hRq, hrow, ⟨⟨vlt, v0, v1, v2, v3⟩, vf⟩, hB, hW, hz⟩ := hrel
      by_cases hj0 : 0 < j
      · obtain ⟨i0, hi, hz0, hz1, hz2⟩ := info_parts Tryz.infoVd
        have hRd : RdAt wr.drew R q2 := hRq.ext (Ext.refl _).drew
        have hrd : RowS (vb + 1) wr.drew l u cs := hrow.ext (Ext.refl _).drew
        have hWd : Only R (R + 1) w wr.drew := hW.drew
        have hBd : FBox wr.drew w.heap.size (.int .i64 0) (.int .i64 0) (.string ⟨#[]⟩) (.slice none 0 0) := hB.ext (Ext.refl _).drew
        obtain ⟨ua, ucap, hush⟩ := hrow.shape
        subst hush
        go_wp2_with fail
        go_region_law
          (first
            | ((refine step_append_lies _ (by rfl) _ _ _ (by rfl) (vb + 1) 73 i0 _ 4 56 Tryz.underlying71 hi hz0 hz1 hz2 rfl (by omega) (.slice ua l.length ucap) l.length cs (by rfl) (hrow3.1.alloc _)
                  ⟨w3.heap.size, 0, none⟩ 1 1 [.int .i64 xk, .int .i64 xn, .string xt, .slice xa xl xc] (by rfl) (by rfl) (World.news_of_block (cs := #[.int .i64 xk, .int .i64 xn, .string xt, .slice xa xl xc]) (t := 73) (fr := (0, 0)) (heap_alloc_new w3 _)) (by simp [Value.oneCell'])
                  (by omega) (by unfold maxLen; omega) (by omega) (by have := hO3.size; simp at this; simp; omega) (w3.heap.size + 1) (by simp) ?_; intro g cap w4 hown4 hgrow hat hlt
                have hb4 := hgrow.block vb (by have := hO3.size; simp at this; simp; omega) (fun e2 => by have := (hrow3.1.lt vb e2.symm).1; omega)
                rw [Below.heap_alloc _ _ _ (by have := hO3.size; simp at this; omega)] at hb4
                have hb4' := hb4.trans hb3
                have g4 : w4.cell? ⟨vb, 3, none⟩ = some (.slice ua l.length ucap) := by rw [World.cell?_of_block (w := wr) hb4']; exact v3
                have kf : ∀ o, w4.frozen? ⟨vb, o, none⟩ = false := fun o => by rw [World.frozen?_of_block (w := wr) hb4']; exact vf o))
            | (go_simp
               go_at_call 42
               refine (plain1 R q2 _ hRd (by omega)).mono ?_
               rintro e w3 ⟨x, vv, q', rfl, hx, hR3, hq3, hO3⟩
               obtain ⟨xk, xn, xt, xa, xl, xc, hsh⟩ := hx.shape
               subst hsh
               have hrow3 := hrd.only hO3 (by omega)
               have hW3 := hWd.trans hO3
               have hB3 := hBd.only hO3 (.inr (by omega))
               have hb3 := hO3.block vb vlt (.inr (by omega))
               have g3 : w3.cell? ⟨vb, 3, none⟩ = some (.slice ua l.length ucap) := by rw [World.cell?_of_block (w := wr) hb3]; exact v3
               have g3' : (w3.alloc (.cells #[.int .i64 xk, .int .i64 xn, .string xt, .slice xa xl xc] 73)).cell? ⟨vb, 3, none⟩ = some (.slice ua l.length ucap) := by rw [Ext.cell ((Ext.refl w3).alloc _) (by have := hO3.size; simp at this; dsimp only; omega)]; exact g3))
        all_goals
          have k0 : w4.cell? ⟨vb, 0, none⟩ = some (.int .i64 4) := by rw [World.cell?_of_block (w := wr) hb4']; exact v0
          have k1 : w4.cell? ⟨vb, 1, none⟩ = some (.int .i64 0) := by rw [World.cell?_of_block (w := wr) hb4']; exact v1
          have k2 : w4.cell? ⟨vb, 2, none⟩ = some (.string ⟨#[]⟩) := by rw [World.cell?_of_block (w := wr) hb4']; exact v2
          have hz3 : wr.heap.size ≤ w3.heap.size := hO3.size
          have hz4 : w3.heap.size + 1 ≤ w4.heap.size := by have := hgrow.size; simpa using this
          have hR4 : RdAt w4 R q' := (hR3.ext ((Ext.refl _).alloc _)).grown hgrow (fun k hk => by have := (hrow3.1.lt k hk).1; omega)
          have hW4 : Only R (R + 1) w w4 := (hW3.alloc _).grown hgrow (fun k hk => by have := (hrow3.1.lt k hk).1; omega)
          have hB4 : FBox w4 w.heap.size (.int .i64 0) (.int .i64 0) (.string ⟨#[]⟩) (.slice none 0 0) := by
            refine (hB3.ext ((Ext.refl _).alloc (.cells #[.int .i64 xk, .int .i64 xn, .string xt, .slice xa xl xc] 73))).block hgrow.size (hgrow.block _ (by have := hB3.box.lt; simp; omega) (fun e2 => by have := (hrow3.1.lt _ e2.symm).1; omega))
          have hrow4 : RowS (vb + 1) w4 (l ++ [x]) (.slice (some ⟨g, 0, none⟩) (l.length + 1) cap) (cs ++ [.int .i64 xk, .int .i64 xn, .string xt, .slice xa xl xc]) := by
            refine (hrow3.ext ((Ext.refl _).alloc (.cells #[.int .i64 xk, .int .i64 xn, .string xt, .slice xa xl xc] 73))).push ?_ hown4 hgrow ?_
            · refine hx.carry (by simp) (fun b hb _ => ⟨by simp at hb; omega, fun e2 => ?_⟩) (fun b _ hlt => Below.heap_alloc _ _ _ hlt)
              have := (hrd.1.lt b e2).2
              simp at this hb
              omega
            · rcases hat with e | e
              · exact .inl e.symm
              · right; subst e; simp [Value.ownBlock]
          clear hrow hrd hRd hWd hBd hRq hW hB hrow3 hW3 hB3 hR3 hx hO3 hb3 hb4 hb4' g3 hgrow hat hown4 v0 v1 v2 v3 vf
          go_wp2
          go_roundw
          case rel =>
            refine ⟨j - 1, l ++ [x], _, _, q', by go_num, ⟨by simp; omega, by rw [cntL_snoc]; omega⟩, by omega, hR4.setFar (by dsimp only; omega) _, hrow4.carry (by simp) (fun b h1 _ => Below.heap_setCell _ _ _ _ (by dsimp only; omega)), ⟨⟨?_, ?_, ?_, ?_, ?_⟩, ?_⟩, ?_, hW4.setNew (p := ⟨vb, 3, none⟩) (by dsimp only; omega) _, ?_⟩
            · simp; omega
            · simp [go_sem, k0]
            · simp [go_sem, k1]
            · simp [go_sem, k2]
            · simp [go_sem, g4]
            · intro o; simp [go_sem, kf]
            · exact hB4.block (by simp) (Below.heap_setCell _ _ _ _ (by dsimp only; omega))
            · simp; omega
          case measure => simp [intOf]; omega
      · obtain ⟨a, cap, rfl⟩ := hrow.shape
        obtain ⟨⟨blt, b0, b1, b2, b3⟩, bf⟩ := hB
        go_wp2
        refine bodyPost_ret (v := .agg #[.int .i64 4, .int .i64 0, .string ⟨#[]⟩, .slice a l.length cap]) (by simp [results, Tryz.results41, go_sem, b0, b1, b2, b3]) rfl ?_
        have hvs := ValS.of_row (kind := 4) (num := 0) (text := ⟨#[]⟩) rfl rfl (by unfold maxLen; decide) (by omega) hrow
        exact any_close hRl hRq (by first | omega | (rw [cnt_re]; omega) | (rw [cnt_mk]; omega)) hW (hvs.mono (fun b h _ => by omega))
  have e0 : ((m : Int) == 0) = false := by simp; omega
  have e1 : ((m : Int) == 1) = false := by simp; omega
  have e2 : ((m : Int) == 2) = false := by simp; omega
  have e3 : ((m : Int) == 3) = false := by simp; omega
  have e4 : ((m : Int) == 4) = false := by simp; omega
  clear hm0 hm1 hm2 hm3 hm4
  obtain ⟨⟨blt, b0, b1, b2, b3⟩, bf⟩ := hB2
  obtain ⟨⟨vlt, v0, v1, v2, v3⟩, vf⟩ := hV2
  go_wp2
  refine bodyPost_ret (v := .agg #[.int .i64 xk, .int .i64 xn, .string xt, .slice xa xl xc]) (by simp [results, Tryz.results41, go_sem, b0, b1, b2, b3]) rfl ?_
  exact any_close hRl hR2 (by first | omega | (rw [cnt_re]; omega) | (rw [cnt_mk]; omega)) hW2 (hx2.mono (fun _ h _ => h.1))
end Go.Proofs.YtbhmblkappmfjaaGreat
