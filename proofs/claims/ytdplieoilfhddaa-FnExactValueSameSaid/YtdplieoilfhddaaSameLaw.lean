/- At every two values the law FnExactValueSame answers true, and the values read afterwards as they did: impl.ValueSame answers as its model does, and writes into no argument. There is no condition beyond those of the given row.
-/
import Derived.Test.YtdplieoilfhddaaRows
import Derived.Test.YtdplieoilfhddaaValTo2
import Derived.Test.YtdplieoilfhddaaValEq
import Derived.Test.YtdplieoilfhddaaSameImpl
import Derived.Test.YtdplieoilfhddaaValOpen
import Derived.WalkKit
import Derived.ProofKit
import Derived.OpenShut
import Derived.Lib.SmallJoins
import Derived.Deep.DeepCutAuto
namespace Go.Proofs.Ytdplieoilfhddaa.fnExactValueSame
open Go.ChangeShapes Go.WideShapes Go.ChangeAt Go.RowKit Go.Deep
set_option linter.unusedVariables false

theorem own : ownKnob Try.prog.godebug = none := by kernel_rfl
theorem laidOut : laidOutB Try.prog = true := by kernel_rfl

set_option maxRecDepth 100000 in
set_option maxHeartbeats 4000000 in
theorem walk (v v' : Value) (x y : V) (w : World) (hv : ValIn 0 w x v) (hv' : ValIn 0 w y v') :
    Calls Try.prog 3 #[v, v'] w fun e w' => e = .returned (.bool true) ∧ Ext w w' := by
  obtain ⟨kk, nn, tt, aa, ll, cc, hsh⟩ := hv.shape
  subst hsh
  obtain ⟨kk', nn', tt', aa', ll', cc', hsh⟩ := hv'.shape
  subst hsh
  have hB : Ext w ((w.alloc (.cells #[.int .i64 kk, .int .i64 nn, .string tt, .slice aa ll cc] 24)).alloc (.cells #[.int .i64 kk', .int .i64 nn', .string tt', .slice aa' ll' cc'] 24)) := ((Ext.refl _).alloc _).alloc _
  go_enter Try.func3, Try.ntmps3
  go_wp2_with fail
  refine (sz2_any x 0 _ _ _ (hv.ext hB) (by omega) (by omega)).mono ?_
  rintro e w1 ⟨r, rfl, hr1, hr2, hr, hX⟩
  by_cases hr0 : r < 0
  · go_wp2
    go_ret
    exact ⟨rfl, hB.trans hX⟩
  · obtain ⟨hn, hcx⟩ := hr (by omega)
    clear hr
    obtain ⟨_, ⟨q0, q1, q2, q3⟩⟩ := box42 hX
    go_wp2_with fail
    refine (sz2_any y 0 _ _ _ (hv'.ext (hB.trans hX)) (by omega) (by omega)).mono ?_
    rintro e w2 ⟨r', rfl, hr1', hr2', hr', hE2⟩
    replace hX := hX.trans hE2
    clear q0 q1 q2 q3 hE2
    by_cases hr0' : r' < 0
    · go_wp2
      go_ret
      exact ⟨rfl, hB.trans hX⟩
    · obtain ⟨hn', _⟩ := hr' (by omega)
      clear hr'
      have HCX : Hid (cntV x ≤ 1048576) := by show _ ≤ _; omega
      clear hcx
      have toA := fun W (hW : Ext w W) => to2_any x 0 _ W (hv.ext hW) hn
      have toB := fun W (hW : Ext w W) => to2_any y 0 _ W (hv'.ext hW) hn'
      go_upto_region 8 with fail
      generalize hBW : (w.alloc _).alloc _ = BW at hB hX
      have hbox : ∀ W, Ext BW W → (W.cell? ⟨w.heap.size, 0, none⟩ = some (.int .i64 kk) ∧ W.cell? ⟨w.heap.size, 1, none⟩ = some (.int .i64 nn) ∧ W.cell? ⟨w.heap.size, 2, none⟩ = some (.string tt) ∧ W.cell? ⟨w.heap.size, 3, none⟩ = some (.slice aa ll cc)) ∧
          (W.cell? ⟨w.heap.size + 1, 0, none⟩ = some (.int .i64 kk') ∧ W.cell? ⟨w.heap.size + 1, 1, none⟩ = some (.int .i64 nn') ∧ W.cell? ⟨w.heap.size + 1, 2, none⟩ = some (.string tt') ∧ W.cell? ⟨w.heap.size + 1, 3, none⟩ = some (.slice aa' ll' cc')) := by
        intro W h; subst hBW; exact box42 h
      clear hBW
      go_cut [6] (fun s wc => s = .bool (sameV x y) ∧ Ext BW wc)
      case first =>
        replace hX := hX.drew
        obtain ⟨⟨p0, p1, p2, p3⟩, ⟨q0, q1, q2, q3⟩⟩ := hbox _ hX
        go_region_with (first
          | (go_at_call_of 6 (Value.int .i64 kk)
             refine (toA _ (hB.trans hX)).mono ?_
             rintro e w3 ⟨ua, rfl, hua, hska, hE3⟩
             replace hX := hX.trans hE3
             try replace hub := hub.ext hE3
             clear p0 p1 p2 p3 q0 q1 q2 q3 hE3
             try clear hska
             try clear hskb
             obtain ⟨⟨p0, p1, p2, p3⟩, ⟨q0, q1, q2, q3⟩⟩ := hbox _ hX)
          | (go_at_call_of 6 (Value.int .i64 kk')
             refine (toB _ (hB.trans hX)).mono ?_
             rintro e w3 ⟨ub, rfl, hub, hskb, hE3⟩
             replace hX := hX.trans hE3
             try replace hua := hua.ext hE3
             clear p0 p1 p2 p3 q0 q1 q2 q3 hE3
             try clear hska
             try clear hskb
             obtain ⟨⟨p0, p1, p2, p3⟩, ⟨q0, q1, q2, q3⟩⟩ := hbox _ hX)
          | (go_at_call 5
             refine (specValueSame_any x y _ _ _ _ _ hua hub).mono ?_
             rintro e w4 ⟨rfl, hE4⟩
             replace hX := hX.trans hE4
             clear p0 p1 p2 p3 q0 q1 q2 q3 hE4 hua hub))
        all_goals
          go_wp2_with fail
          go_meet
          exact ⟨rfl, hX⟩
      case rest =>
        obtain ⟨rfl, hX2⟩ := hcut
        clear hX
        obtain ⟨⟨p0, p1, p2, p3⟩, _⟩ := hbox _ hX2
        go_wp2_with fail
        refine (toA _ (hB.trans hX2)).mono ?_
        rintro e w3 ⟨ua, rfl, hua, hska, hE3⟩
        clear p0 p1 p2 p3
        obtain ⟨k2, n2, t2, a2, l2, c2, hsh⟩ := hua.shape
        subst hsh
        have hpa := ValP.of_skel hua _ _ _ _ _ _ rfl hska
        clear hska
        have hX3 := hX2.trans hE3
        have hX3' := hX3.alloc (.cells #[.int .i64 k2, .int .i64 n2, .string t2, .slice a2 l2 c2] 29)
        obtain ⟨_, ⟨q0, q1, q2, q3⟩⟩ := hbox _ hX3'
        go_wp2_with fail
        refine (toB _ (hB.trans hX3')).mono ?_
        rintro e w4 ⟨ub, rfl, hub, hskb, hE4⟩
        clear q0 q1 q2 q3
        obtain ⟨k3, n3, t3, a3, l3, c3, hsh⟩ := hub.shape
        subst hsh
        have hpb := ValP.of_skel hub _ _ _ _ _ _ rfl hskb
        clear hskb
        have hE4' := hE4.alloc (.cells #[.int .i64 k3, .int .i64 n3, .string t3, .slice a3 l3 c3] 29)
        have hbx := fun W (h : Ext (w4.alloc (.cells #[.int .i64 k3, .int .i64 n3, .string t3, .slice a3 l3 c3] 29)) W) => And.intro (box4 (hE4'.trans h)) (box4 h)
        have hua2 := (hua.ext ((Ext.refl _).alloc (.cells #[.int .i64 k2, .int .i64 n2, .string t2, .slice a2 l2 c2] 29))).ext hE4'
        have hub2 := hub.ext ((Ext.refl _).alloc (.cells #[.int .i64 k3, .int .i64 n3, .string t3, .slice a3 l3 c3] 29))
        have hpa2 := (hpa.ext ((Ext.refl _).alloc (.cells #[.int .i64 k2, .int .i64 n2, .string t2, .slice a2 l2 c2] 29))).ext hE4'
        have hpb2 := hpb.ext ((Ext.refl _).alloc (.cells #[.int .i64 k3, .int .i64 n3, .string t3, .slice a3 l3 c3] 29))
        have hX4 := hX3'.trans hE4'
        obtain ⟨⟨x0, x1, x2, x3, _⟩, ⟨y0, y1, y2, y3, _⟩⟩ := hbx _ (Ext.refl _)
        go_wp2_with fail
        refine (implValueSame_any x y _ _ _ hpa2 hpb2 HCX.out).mono ?_
        rintro e w5 ⟨rfl, hE5⟩
        clear x0 x1 x2 x3 y0 y1 y2 y3
        go_upto_region 14 with fail
        have hX5 := hX4.trans hE5
        have hua5 := hua2.ext hE5
        have hub5 := hub2.ext hE5
        generalize hZ : w4.alloc _ = Z at hbx hE5
        clear hpa2 hpb2 hpa hpb
        clear hZ hua2 hub2 hX4 hE4' hX3' hE4 hX3 hE3 hX2 hub hua
        go_cut [39] (fun s wc => s = .bool false ∧ Ext w5 wc)
        case first =>
          have hcur : Ext w5 w5.drew := (Ext.refl _).drew
          obtain ⟨⟨x0, x1, x2, x3, _⟩, _⟩ := hbx _ (hE5.trans hcur)
          obtain ⟨⟨p0, p1, p2, p3⟩, _⟩ := hbox _ (hX5.trans hcur)
          go_region_with (first
            | (go_at_call 6
               refine (toA _ (hB.trans (hX5.trans hcur))).mono ?_
               rintro e w7 ⟨u3, rfl, hu3, _, hE7⟩
               replace hcur := hcur.trans hE7
               clear x0 x1 x2 x3 p0 p1 p2 p3
               obtain ⟨⟨x0, x1, x2, x3, _⟩, _⟩ := hbx _ (hE5.trans hcur)
               have heq := eqValue_any x 0 _ _ w7 ((hua5.ext hcur).mono (Nat.zero_le _)) (hu3.mono (Nat.zero_le _)))
            | (go_at_call 8
               refine heq.mono ?_
               rintro e w8 ⟨rfl, hE8⟩))
          all_goals
            go_wp2_with fail
            go_meet
            exact ⟨rfl, hcur.trans hE8⟩
        case rest =>
          obtain ⟨rfl, hcur⟩ := hcut
          go_upto_region 16 with fail
          go_cut [44] (fun s wc2 => s = .bool false ∧ Ext wc wc2)
          case first =>
            have hcur2 : Ext w5 wc.drew := hcur.drew
            have hcur3 : Ext wc wc.drew := (Ext.refl _).drew
            obtain ⟨_, ⟨y0, y1, y2, y3, _⟩⟩ := hbx _ (hE5.trans hcur2)
            obtain ⟨_, ⟨q0, q1, q2, q3⟩⟩ := hbox _ (hX5.trans hcur2)
            go_region_with (first
              | (go_at_call 6
                 refine (toB _ (hB.trans (hX5.trans hcur2))).mono ?_
                 rintro e w7 ⟨u3, rfl, hu3, _, hE7⟩
                 replace hcur2 := hcur2.trans hE7
                 replace hcur3 := hcur3.trans hE7
                 clear y0 y1 y2 y3 q0 q1 q2 q3
                 obtain ⟨_, ⟨y0, y1, y2, y3, _⟩⟩ := hbx _ (hE5.trans hcur2)
                 have heq := eqValue_any y 0 _ _ w7 ((hub5.ext hcur2).mono (Nat.zero_le _)) (hu3.mono (Nat.zero_le _)))
              | (go_at_call 8
                 refine heq.mono ?_
                 rintro e w8 ⟨rfl, hE8⟩))
            all_goals
              go_wp2_with fail
              go_meet
              exact ⟨rfl, hcur3.trans hE8⟩
          case rest =>
            obtain ⟨rfl, hlast⟩ := hcut
            go_wp2
            go_ret
            exact ⟨rfl, hB.trans ((hX5.trans hcur).trans hlast)⟩
end Go.Proofs.Ytdplieoilfhddaa.fnExactValueSame
