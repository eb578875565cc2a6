/- At every two values the law FnExactValueLess answers true, and the values read afterwards as they did: impl.ValueLess answers as its model does, every field, writes into no argument, and its answer owns its memory. There is no condition beyond those of the given row.
-/
import Derived.Test.YtmacoaookleakaaRows
import Derived.Test.YtmacoaookleakaaFlatTools
import Derived.Test.YtmacoaookleakaaLessImpl
import Derived.Test.YtmacoaookleakaaValOpen
import Derived.WalkKit
import Derived.ProofKit
import Derived.OpenShut
import Derived.Lib.SmallJoins
import Derived.Deep.DeepCutAuto
namespace Go.Proofs.Ytmacoaookleakaa.fnExactValueLess
open Go.ChangeShapes Go.WideShapes Go.ChangeAt Go.RowKit Go.Deep
set_option linter.unusedVariables false

theorem own : ownKnob Try.prog.godebug = none := by kernel_rfl
theorem laidOut : laidOutB Try.prog = true := by kernel_rfl

set_option maxRecDepth 100000 in
set_option maxHeartbeats 8000000 in
theorem walk (v v' : Value) (x y : V) (w : World) (hv : ValIn 0 w x v) (hv' : ValIn 0 w y v') :
    Calls Try.prog 3 #[v, v'] w fun e w' => e = .returned (.bool true) ∧ Ext w w' := by
  obtain ⟨kk, nn, tt, aa, ll, cc, hsh⟩ := hv.shape
  subst hsh
  obtain ⟨kk', nn', tt', aa', ll', cc', hsh⟩ := hv'.shape
  subst hsh
  have hB : Ext w ((w.alloc (.cells #[.int .i64 kk, .int .i64 nn, .string tt, .slice aa ll cc] 24)).alloc (.cells #[.int .i64 kk', .int .i64 nn', .string tt', .slice aa' ll' cc'] 24)) := ((Ext.refl _).alloc _).alloc _
  go_enter Try.func3, Try.ntmps3
  go_wp2_with fail
  refine (sz2_any x 0 _ _ _ (hv.ext hB) (by omega) (by omega)).mono ?_
  rintro e w1 ⟨r, rfl, hr1, hr2, hr, hX⟩
  by_cases hr0 : r < 0
  · go_wp2
    go_ret
    exact ⟨rfl, hB.trans hX⟩
  · obtain ⟨hn, hcx⟩ := hr (by omega)
    clear hr
    obtain ⟨_, ⟨q0, q1, q2, q3⟩⟩ := box42 hX
    go_wp2_with fail
    refine (sz2_any y 0 _ _ _ (hv'.ext (hB.trans hX)) (by omega) (by omega)).mono ?_
    rintro e w2 ⟨r', rfl, hr1', hr2', hr', hE2⟩
    replace hX := hX.trans hE2
    clear q0 q1 q2 q3 hE2
    by_cases hr0' : r' < 0
    · go_wp2
      go_ret
      exact ⟨rfl, hB.trans hX⟩
    · obtain ⟨hn', hcy⟩ := hr' (by omega)
      clear hr'
      have hcx2 : (cntV x : Int) ≤ 1048576 := by omega
      have hcy2 : (cntV y : Int) ≤ 1048576 := by omega
      have HCX : Hid ((cntV x : Int) ≤ 1048576) := hcx2
      have HCY : Hid ((cntV y : Int) ≤ 1048576) := hcy2
      clear hcx hcy hcx2 hcy2
      have toA := fun W (hW : Ext w W) => to2_any x 0 _ W (hv.ext hW) hn
      have toB := fun W (hW : Ext w W) => to2_any y 0 _ W (hv'.ext hW) hn'
      obtain ⟨K, hK⟩ : ∃ K, K = lessK x y := ⟨_, rfl⟩
      obtain ⟨M, hM⟩ : ∃ M, M = lessN x y := ⟨_, rfl⟩
      have wK : (Lit.int .i64 K).wf = true := by rw [hK]; exact wf_lessK x y
      have wM : (Lit.int .i64 M).wf = true := by rw [hM]; exact wf_lessN x y
      have spc := fun lo lo' u v W (h1 : ValIn lo W x u) (h2 : ValIn lo' W y v) => specValueLess_any x y lo lo' u v W h1 h2
      have imc := fun lo lo' u v W (h1 : ValIn lo W x u) (h2 : ValIn lo' W y v) => implValueLess_any x y lo lo' u v W h1 h2
      rw [← hK, ← hM] at spc imc
      clear hK hM
      go_upto_region 8 with fail
      generalize hBW : (w.alloc _).alloc _ = BW at hB hX
      have hbox : ∀ W, Ext BW W → (W.cell? ⟨w.heap.size, 0, none⟩ = some (.int .i64 kk) ∧ W.cell? ⟨w.heap.size, 1, none⟩ = some (.int .i64 nn) ∧ W.cell? ⟨w.heap.size, 2, none⟩ = some (.string tt) ∧ W.cell? ⟨w.heap.size, 3, none⟩ = some (.slice aa ll cc)) ∧
          (W.cell? ⟨w.heap.size + 1, 0, none⟩ = some (.int .i64 kk') ∧ W.cell? ⟨w.heap.size + 1, 1, none⟩ = some (.int .i64 nn') ∧ W.cell? ⟨w.heap.size + 1, 2, none⟩ = some (.string tt') ∧ W.cell? ⟨w.heap.size + 1, 3, none⟩ = some (.slice aa' ll' cc')) ∧ w.heap.size + 1 < W.heap.size := by
        intro W h; subst hBW; exact ⟨(box42 h).1, (box42 h).2, by have := h.le; simp at this; omega⟩
      clear hBW
      go_cut [6] (fun s wc => ∃ p6, s = .pointer (some ⟨p6, 0, none⟩) ∧ Ext BW wc ∧ BoxAt wc p6 (.int .i64 K) (.int .i64 M) (.string ⟨#[]⟩) (.slice none 0 0))
      case first =>
        obtain ⟨⟨pp0, pp1, pp2, pp3⟩, ⟨qq0, qq1, qq2, qq3⟩, _⟩ := hbox _ hX
        replace hX := hX.drew
        have hwB : ∀ W, Ext BW W → Ext w W := fun W h => hB.trans h
        have hbx := hbox
        obtain ⟨⟨p0, p1, p2, p3⟩, ⟨q0, q1, q2, q3⟩, hz⟩ := hbx _ hX
        change w.heap.size + 1 < w2.heap.size at hz
        have hz' : w.heap.size < w2.heap.size := by omega
        go_region_with (first
          | (go_at_call_of 6 (Value.int .i64 kk)
             refine (toA _ ?hw).mono ?_
             case hw => first | exact hwB _ hX | exact hwB _ (hX.alloc _)
             rintro e w3 ⟨ua, rfl, hua, _, hE3⟩
             first
               | (replace hX := hX.trans hE3
                  try replace hbn := hbn.ext hE3
                  try replace hub := hub.ext hE3)
               | (have hbn := NewBox.mk' hX hE3
                  try change NewBox BW _ w2.heap.size at hbn
                  try replace hub := (hub.ext ((Ext.refl _).alloc _)).ext hE3
                  replace hX := (hX.alloc _).trans hE3)
             clear p0 p1 p2 p3 q0 q1 q2 q3 hE3
             obtain ⟨⟨p0, p1, p2, p3⟩, ⟨q0, q1, q2, q3⟩, hz⟩ := hbx _ hX
             have hz' : w.heap.size < w3.heap.size := Nat.lt_of_succ_lt hz)
          | (go_at_call_of 6 (Value.int .i64 kk')
             refine (toB _ ?hw).mono ?_
             case hw => first | exact hwB _ hX | exact hwB _ (hX.alloc _)
             rintro e w3 ⟨ub, rfl, hub, _, hE3⟩
             first
               | (replace hX := hX.trans hE3
                  try replace hbn := hbn.ext hE3
                  try replace hua := hua.ext hE3)
               | (have hbn := NewBox.mk' hX hE3
                  try change NewBox BW _ w2.heap.size at hbn
                  try replace hua := (hua.ext ((Ext.refl _).alloc _)).ext hE3
                  replace hX := (hX.alloc _).trans hE3)
             clear p0 p1 p2 p3 q0 q1 q2 q3 hE3
             obtain ⟨⟨p0, p1, p2, p3⟩, ⟨q0, q1, q2, q3⟩, hz⟩ := hbx _ hX
             have hz' : w.heap.size < w3.heap.size := Nat.lt_of_succ_lt hz)
          | (go_at_call 5
             first
               | (refine (spc _ _ _ _ _ hua hub).mono ?_
                  rintro e w4 ⟨rfl, hE4⟩
                  replace hX := hX.trans hE4
                  try replace hbn := hbn.ext hE4)
               | (refine (spc _ _ _ _ _ (hua.ext ((Ext.refl _).alloc _)) (hub.ext ((Ext.refl _).alloc _))).mono ?_
                  rintro e w4 ⟨rfl, hE4⟩
                  have hbn := NewBox.mk' hX hE4
                  replace hX := (hX.alloc _).trans hE4)
             clear p0 p1 p2 p3 q0 q1 q2 q3 hz hz' hE4 hua hub
             unfold flat
             try (have hfz := hbn.frozen
                  have z0 := hbn.box.h0
                  have z1 := hbn.box.h1
                  have z2 := hbn.box.h2
                  have z3 := hbn.box.h3)))
        all_goals
          go_wp2_with fail
          go_meet
          first
            | exact ⟨_, rfl, hX.alloc _, BoxAt.new _ _ _ _ _ _⟩
            | exact ⟨_, rfl, (BoxAt.store hbn hX _ _ _ _).1, (BoxAt.store hbn hX _ _ _ _).2⟩
      case rest =>
        obtain ⟨p6, rfl, hX2, hb6⟩ := hcut
        clear hX spc
        obtain ⟨⟨p0, p1, p2, p3⟩, _, hz2⟩ := hbox _ hX2
        go_wp2_with fail
        refine (toA _ (hB.trans hX2)).mono ?_
        rintro e w3 ⟨ua, rfl, hua, hska, hE3⟩
        clear p0 p1 p2 p3 hz2
        obtain ⟨k2, n2, t2, a2, l2, c2, hsh⟩ := hua.shape
        subst hsh
        change Skel w3 wc.heap.size w3.heap.size x.list (.slice a2 l2 c2) at hska
        obtain ⟨w3', hw3'⟩ : ∃ w3', w3' = w3.alloc (.cells #[.int .i64 k2, .int .i64 n2, .string t2, .slice a2 l2 c2] 28) := ⟨_, rfl⟩
        have hE3' : Ext w3 w3' := by rw [hw3']; exact (Ext.refl _).alloc _
        have hb7 : BoxAt w3' w3.heap.size (.int .i64 k2) (.int .i64 n2) (.string t2) (.slice a2 l2 c2) := by rw [hw3']; exact BoxAt.new _ _ _ _ _ _
        have hX3 := (hX2.trans hE3).trans hE3'
        obtain ⟨_, ⟨q0, q1, q2, q3⟩, _⟩ := hbox _ hX3
        have hsz3 : w3.heap.size < w3'.heap.size := hb7.lt
        rw [hw3'] at q0 q1 q2 q3
        have tob3 := toB _ (hB.trans hX3)
        rw [hw3'] at tob3
        go_wp2_with fail
        refine tob3.mono ?_
        rintro e w4 ⟨ub, rfl, hub, hskb, hE4⟩
        rw [← hw3'] at hub hskb hE4
        clear q0 q1 q2 q3 tob3 hw3'
        obtain ⟨k3, n3, t3, a3, l3, c3, hsh⟩ := hub.shape
        subst hsh
        change Skel w4 w3'.heap.size w4.heap.size y.list (.slice a3 l3 c3) at hskb
        obtain ⟨w4', hw4'⟩ : ∃ w4', w4' = w4.alloc (.cells #[.int .i64 k3, .int .i64 n3, .string t3, .slice a3 l3 c3] 28) := ⟨_, rfl⟩
        have hE4' : Ext w4 w4' := by rw [hw4']; exact (Ext.refl _).alloc _
        have hb8 : BoxAt w4' w4.heap.size (.int .i64 k3) (.int .i64 n3) (.string t3) (.slice a3 l3 c3) := by rw [hw4']; exact BoxAt.new _ _ _ _ _ _
        have hsz4 : w4.heap.size < w4'.heap.size := hb8.lt
        have hle34 := hE4.le
        have hb7' := hb7.ext (hE4.trans hE4')
        have him := imc _ _ _ _ w4' (hua.ext ((hE3'.trans hE4).trans hE4')) (hub.ext hE4')
        have x0 := hb7'.h0
        have x1 := hb7'.h1
        have x2 := hb7'.h2
        have x3 := hb7'.h3
        have y0 := hb8.h0
        have y1 := hb8.h1
        have y2 := hb8.h2
        have y3 := hb8.h3
        rw [hw4'] at x0 x1 x2 x3 y0 y1 y2 y3 him
        go_wp2_with fail
        refine him.mono ?_
        rintro e w5 ⟨rfl, hE5⟩
        rw [← hw4'] at hE5
        clear x0 x1 x2 x3 y0 y1 y2 y3 him hw4'
        have hE35 : Ext w3' w5 := (hE4.trans hE4').trans hE5
        have hX5 := hX3.trans hE35
        have hb6' := (((hb6.ext hE3).ext hE3').ext hE35)
        have hb7'' := hb7'.ext hE5
        have hb8' := hb8.ext hE5
        have hska5 := (hska.ext hE3').ext hE35
        have hskb5 := (hskb.ext hE4').ext hE5
        have hua5 := (hua.ext hE3').ext hE35
        have hub5 := (hub.ext hE4').ext hE5
        have hbw := hX2.le
        have hle3 := hE3.le
        have hle5 := hE5.le
        have hlt6 := hb6.lt
        clear hX2 hX3 hE35 hb7' hb8 hb6 hska hskb hua hub hE3 hE3' hE4 hE4' hE5 hb7
        unfold flat
        obtain ⟨w5', hw5'⟩ : ∃ w5', w5' = w5.alloc (.cells #[.int .i64 K, .int .i64 M, .string ⟨#[]⟩, .slice none 0 0] 28) := ⟨_, rfl⟩
        have hE5' : Ext w5 w5' := by rw [hw5']; exact (Ext.refl _).alloc _
        have hb9 : BoxAt w5' w5.heap.size (.int .i64 K) (.int .i64 M) (.string ⟨#[]⟩) (.slice none 0 0) := by rw [hw5']; exact BoxAt.new _ _ _ _ _ _
        have g0 := hb9.h0
        have g1 := hb9.h1
        have g2 := hb9.h2
        have g3 := hb9.h3
        have b60 := (hb6'.ext hE5').h0
        have b61 := (hb6'.ext hE5').h1
        have b62 := (hb6'.ext hE5').h2
        have b63 := (hb6'.ext hE5').h3
        have heq := eqValue_any (flatV K M) 0 (flat K M) (flat K M) w5' (flat_in 0 w5' K M wK wM) (flat_in 0 w5' K M wK wM)
        unfold flat at heq
        rw [hw5'] at g0 g1 g2 g3 b60 b61 b62 b63 heq
        go_wp2_with fail
        refine heq.mono ?_
        rintro e w6 ⟨rfl, hE6⟩
        rw [← hw5'] at hE6
        clear g0 g1 g2 g3 b60 b61 b62 b63 heq hw5'
        have hE56 := hE5'.trans hE6
        have hX6 := hX5.trans hE56
        have hb6a := hb6'.ext hE56
        have hb7a := hb7''.ext hE56
        have hb8a := hb8'.ext hE56
        have hb9a := hb9.ext hE6
        have hska6 := hska5.ext hE56
        have hskb6 := hskb5.ext hE56
        have hua6 := (hua5.ext hE56).mono (Nat.zero_le _)
        have hub6 := (hub5.ext hE56).mono (Nat.zero_le _)
        have hle6 := hE56.le
        clear hX5 hb6' hb7'' hb8' hb9 hska5 hskb5 hua5 hub5 hE56 hE5' hE6
        go_upto_region 14 with fail
        go_cut [44] (fun s wc2 => s = .bool false ∧ Ext w6 wc2)
        case first =>
          have hcur : Ext w6 w6.drew := (Ext.refl _).drew
          obtain ⟨_, x0, x1, x2, x3⟩ := hb7a.ext hcur
          obtain ⟨⟨p0, p1, p2, p3⟩, _⟩ := hbox _ (hX6.trans hcur)
          go_region_with (first
            | (go_at_call 6
               refine (toA _ (hB.trans (hX6.trans hcur))).mono ?_
               rintro e w7 ⟨u3, rfl, hu3, _, hE7⟩
               replace hcur := hcur.trans hE7
               clear x0 x1 x2 x3 p0 p1 p2 p3
               obtain ⟨_, x0, x1, x2, x3⟩ := hb7a.ext hcur
               have heq := eqValue_any x 0 _ _ w7 (hua6.ext hcur) (hu3.mono (Nat.zero_le _)))
            | (go_at_call 8
               refine heq.mono ?_
               rintro e w8 ⟨rfl, hE8⟩))
          all_goals
            go_wp2_with fail
            go_meet
            exact ⟨rfl, hcur.trans hE8⟩
        case rest =>
          obtain ⟨rfl, hcur⟩ := hcut
          go_upto_region 16 with fail
          go_cut [49] (fun s wc3 => s = .bool false ∧ Ext w6 wc3)
          case first =>
            have hcur2 : Ext w6 wc.drew := hcur.drew
            obtain ⟨_, y0, y1, y2, y3⟩ := hb8a.ext hcur2
            obtain ⟨_, ⟨q0, q1, q2, q3⟩, _⟩ := hbox _ (hX6.trans hcur2)
            go_region_with (first
              | (go_at_call 6
                 refine (toB _ (hB.trans (hX6.trans hcur2))).mono ?_
                 rintro e w7 ⟨u3, rfl, hu3, _, hE7⟩
                 replace hcur2 := hcur2.trans hE7
                 clear y0 y1 y2 y3 q0 q1 q2 q3
                 obtain ⟨_, y0, y1, y2, y3⟩ := hb8a.ext hcur2
                 have heq := eqValue_any y 0 _ _ w7 (hub6.ext hcur2) (hu3.mono (Nat.zero_le _)))
              | (go_at_call 8
                 refine heq.mono ?_
                 rintro e w8 ⟨rfl, hE8⟩))
            all_goals
              go_wp2_with fail
              go_meet
              exact ⟨rfl, hcur2.trans hE8⟩
          case rest =>
            obtain ⟨rfl, hcur2⟩ := hcut
            clear hcur hua6 hub6
            have hXa := hX6.trans hcur2
            have hb6b := hb6a.ext hcur2
            have hb7b := hb7a.ext hcur2
            have hb8b := hb8a.ext hcur2
            have hb9b := hb9a.ext hcur2
            have hskb7 := hskb6.ext hcur2
            have hlec := hcur2.le
            have hmk := mark_any x k2 n2 t2 (.slice a2 l2 c2) _ _ wc 1 (hska6.ext hcur2) (by omega) (by omega) (by have := HCX.out; omega)
            clear hX6 hb6a hb7a hb8a hb9a hska6 hskb6 hcur2
            obtain ⟨_, x0, x1, x2, x3⟩ := id hb7b
            go_wp2_with fail
            refine hmk.mono ?_
            rintro e w7 ⟨m1, rfl, hm10, hm11, hO7⟩
            clear x0 x1 x2 x3 hmk
            have hlt9 := hb9b.lt
            have hsz7 := hO7.size
            have hXb := hXa.only hO7 (by omega)
            have hb6c := hb6b.only hO7 (.inl (by omega))
            have hb8c := hb8b.only hO7 (.inr (by omega))
            have hb9c := hb9b.only hO7 (.inr (by omega))
            have hmk := mark_any y k3 n3 t3 (.slice a3 l3 c3) _ _ w7 m1 (hskb7.only hO7 (.inr (by omega))) (by omega) (by omega) (by have := HCX.out; have := HCY.out; omega)
            clear hXa hb6b hb7b hb8b hb9b hskb7 hO7
            obtain ⟨_, y0, y1, y2, y3⟩ := id hb8c
            go_wp2_with fail
            refine hmk.mono ?_
            rintro e w8 ⟨m2, rfl, hm20, hm21, hO8⟩
            clear y0 y1 y2 y3 hmk
            have hXc := hXb.only hO8 (by omega)
            have hb6d := hb6c.only hO8 (.inl (by omega))
            have hb9d := hb9c.only hO8 (.inr (by omega))
            have hm2 : 0 ≤ m2 := by omega
            clear hXb hb6c hb8c hb9c hO8 hm10 hm11 hm20 hm21
            have heqc := fun W => eqValue_any (flatV K M) 0 (flat K M) (flat K M) W (flat_in 0 W K M wK wM) (flat_in 0 W K M wK wM)
            have hmkc := fun W => mark_flat K M W
            have hhdc := fun W => held_flat K M W
            unfold flat at heqc hmkc hhdc
            obtain ⟨_, g0, g1, g2, g3⟩ := id hb9d
            obtain ⟨_, b0, b1, b2, b3⟩ := id hb6d
            go_wp2_with fail
            refine (heqc _).mono ?_
            rintro e w9 ⟨rfl, hE9⟩
            clear g0 g1 g2 g3 b0 b1 b2 b3
            obtain ⟨_, g0, g1, g2, g3⟩ := hb9d.ext hE9
            go_wp2_with fail
            refine (hmkc _).mono ?_
            rintro e w10 ⟨rfl, hE10⟩
            clear g0 g1 g2 g3
            obtain ⟨_, g0, g1, g2, g3⟩ := hb9d.ext (hE9.trans hE10)
            go_wp2_with fail
            refine (hhdc _).mono ?_
            rintro e w11 ⟨rfl, hE11⟩
            clear g0 g1 g2 g3
            have hX := hXc.trans ((hE9.trans hE10).trans hE11)
            have hb6e := hb6d.ext ((hE9.trans hE10).trans hE11)
            have hb9e := hb9d.ext ((hE9.trans hE10).trans hE11)
            clear hXc hb6d hb9d hE9 hE10 hE11
            have hle9 := hb9e.lt
            have hle6b := hb6e.lt
            go_upto_region 31 with fail
            go_cut [13] (fun s wc4 => ∃ p13, s = .pointer (some ⟨p13, 0, none⟩) ∧ Ext BW wc4 ∧ BoxAt wc4 p13 (.int .i64 K) (.int .i64 M) (.string ⟨#[]⟩) (.slice none 0 0) ∧ BoxAt wc4 p6 (.int .i64 K) (.int .i64 M) (.string ⟨#[]⟩) (.slice none 0 0) ∧ BoxAt wc4 w5.heap.size (.int .i64 K) (.int .i64 M) (.string ⟨#[]⟩) (.slice none 0 0))
            case first =>
              have hwB : ∀ W, Ext w11 W → Ext w W := fun W h => hB.trans (hX.trans h)
              have hbx := fun W (h : Ext w11 W) => hbox W (hX.trans h)
              have hXB := hX
              obtain ⟨⟨pp0, pp1, pp2, pp3⟩, ⟨qq0, qq1, qq2, qq3⟩, _⟩ := hbox _ hX
              clear hX
              have hX : Ext w11 w11.drew := (Ext.refl _).drew
              obtain ⟨⟨p0, p1, p2, p3⟩, ⟨q0, q1, q2, q3⟩, hz⟩ := hbx _ hX
              change w.heap.size + 1 < w11.heap.size at hz
              have hz' : w.heap.size < w11.heap.size := by omega
              go_region_with (first
                | (go_at_call_of 6 (Value.int .i64 kk)
                   refine (toA _ ?hw).mono ?_
                   case hw => first | exact hwB _ hX | exact hwB _ (hX.alloc _)
                   rintro e w3 ⟨ua, rfl, hua, _, hE3⟩
                   first
                     | (replace hX := hX.trans hE3
                        try replace hbn := hbn.ext hE3
                        try replace hub := hub.ext hE3)
                     | (have hbn := NewBox.mk' hX hE3
                        try change NewBox w11 _ w11.heap.size at hbn
                        try replace hub := (hub.ext ((Ext.refl _).alloc _)).ext hE3
                        replace hX := (hX.alloc _).trans hE3)
                   clear p0 p1 p2 p3 q0 q1 q2 q3 hE3
                   obtain ⟨⟨p0, p1, p2, p3⟩, ⟨q0, q1, q2, q3⟩, hz⟩ := hbx _ hX
                   have hz' : w.heap.size < w3.heap.size := Nat.lt_of_succ_lt hz)
                | (go_at_call_of 6 (Value.int .i64 kk')
                   refine (toB _ ?hw).mono ?_
                   case hw => first | exact hwB _ hX | exact hwB _ (hX.alloc _)
                   rintro e w3 ⟨ub, rfl, hub, _, hE3⟩
                   first
                     | (replace hX := hX.trans hE3
                        try replace hbn := hbn.ext hE3
                        try replace hua := hua.ext hE3)
                     | (have hbn := NewBox.mk' hX hE3
                        try change NewBox w11 _ w11.heap.size at hbn
                        try replace hua := (hua.ext ((Ext.refl _).alloc _)).ext hE3
                        replace hX := (hX.alloc _).trans hE3)
                   clear p0 p1 p2 p3 q0 q1 q2 q3 hE3
                   obtain ⟨⟨p0, p1, p2, p3⟩, ⟨q0, q1, q2, q3⟩, hz⟩ := hbx _ hX
                   have hz' : w.heap.size < w3.heap.size := Nat.lt_of_succ_lt hz)
                | (go_at_call 7
                   first
                     | (refine (imc _ _ _ _ _ hua hub).mono ?_
                        rintro e w4 ⟨rfl, hE4⟩
                        replace hX := hX.trans hE4
                        try replace hbn := hbn.ext hE4)
                     | (refine (imc _ _ _ _ _ (hua.ext ((Ext.refl _).alloc _)) (hub.ext ((Ext.refl _).alloc _))).mono ?_
                        rintro e w4 ⟨rfl, hE4⟩
                        have hbn := NewBox.mk' hX hE4
                        replace hX := (hX.alloc _).trans hE4)
                   clear p0 p1 p2 p3 q0 q1 q2 q3 hz hz' hE4 hua hub
                   unfold flat
                   try (have hfz := hbn.frozen
                        have z0 := hbn.box.h0
                        have z1 := hbn.box.h1
                        have z2 := hbn.box.h2
                        have z3 := hbn.box.h3)))
              all_goals
                go_wp2_with fail
                go_meet
                first
                  | exact ⟨_, rfl, hXB.trans (hX.alloc _), BoxAt.new _ _ _ _ _ _, hb6e.ext (hX.alloc _), hb9e.ext (hX.alloc _)⟩
                  | exact ⟨_, rfl, hXB.trans (BoxAt.store hbn hX _ _ _ _).1, (BoxAt.store hbn hX _ _ _ _).2, hb6e.ext (BoxAt.store hbn hX _ _ _ _).1, hb9e.ext (BoxAt.store hbn hX _ _ _ _).1⟩
            case rest =>
              obtain ⟨p13, rfl, hX13, hb13, hb6f, hb9f⟩ := hcut
              obtain ⟨_, g0, g1, g2, g3⟩ := id hb13
              obtain ⟨_, b0, b1, b2, b3⟩ := id hb6f
              go_wp2_with fail
              refine (heqc _).mono ?_
              rintro e w14 ⟨rfl, hE14⟩
              clear g0 g1 g2 g3 b0 b1 b2 b3
              obtain ⟨_, g0, g1, g2, g3⟩ := hb9f.ext hE14
              go_wp2_with fail
              refine (hhdc _).mono ?_
              rintro e w15 ⟨rfl, hE15⟩
              go_wp2
              go_ret
              exact ⟨rfl, hB.trans ((hX13.trans hE14).trans hE15)⟩
end Go.Proofs.Ytmacoaookleakaa.fnExactValueLess
