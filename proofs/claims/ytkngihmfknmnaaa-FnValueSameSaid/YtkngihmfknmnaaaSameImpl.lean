/- What impl.ValueSame and spec.ValueSame answer. -/
import Derived.Test.YtkngihmfknmnaaaStackImpl
import Derived.Test.YtkngihmfknmnaaaSameThy
namespace Go.Proofs.Ytkngihmfknmnaaa
open Go.RowKit Go.Deep

theorem same_ok {x y : V} (h : ¬ okN 3 x = okN 3 y) : sameV x y = false := by
  cases hs : sameV x y
  · rfl
  · exact absurd (by rw [sameV_eq x y hs]) h

set_option maxRecDepth 100000 in
set_option maxHeartbeats 4000000 in
theorem implValueSame_any (x y : V) (u v : Value) (w : World) (hu : ValP w x u) (hv : ValP w y v) (hcnt : cntV x ≤ 1048576) :
    Calls Try.prog 6 #[u, v] w fun e w' => e = .returned (.bool (sameV x y)) ∧ Ext w w' := by
  have c1 := fun W (hW : Ext w W) => termOf_any x 0 u W (hu.toIn.ext hW)
  have c2 := fun W (hW : Ext w W) => termOf_any y 0 v W (hv.toIn.ext hW)
  have c3 := fun W (hW : Ext w W) => sameInAll_any x y u v W (hu.ext hW) (hv.ext hW) hcnt
  obtain ⟨kk, nn, tt, aa, ll, cc, hsh⟩ := hu.toIn.shape
  subst hsh
  obtain ⟨kk2, nn2, tt2, aa2, ll2, cc2, hsh⟩ := hv.toIn.shape
  subst hsh
  have hB : Ext w ((w.alloc (.cells #[.int .i64 kk, .int .i64 nn, .string tt, .slice aa ll cc] 25)).alloc (.cells #[.int .i64 kk2, .int .i64 nn2, .string tt2, .slice aa2 ll2 cc2] 25)) := ((Ext.refl _).alloc _).alloc _
  clear hu hv hcnt
  go_enter Try.func6, Try.ntmps6
  go_wp2_with fail
  refine (c1 _ hB).mono ?_
  rintro e w1 ⟨s, rfl, hF1, hT1, hE1⟩
  obtain ⟨⟨p0, p1, p2, p3⟩, ⟨q0, q1, q2, q3⟩⟩ := box42 hE1
  clear c1
  have HT1 : Hid (okN 3 x = true → TermIn (fun _ => True) w1 x s) := fun h => (hT1 h).mono (fun _ _ _ => trivial)
  clear hT1
  rcases hF1 with rfl | ⟨ty1, z1, rfl⟩
  all_goals
    go_wp2_with fail
    refine (c2 _ (hB.trans hE1)).mono ?_
    rintro e w2 ⟨s2, rfl, hF2, hT2, hE2⟩
    have HT2 : Hid (okN 3 y = true → TermIn (fun _ => True) w2 y s2) := fun h => (hT2 h).mono (fun _ _ _ => trivial)
    clear c2 hT2 p0 p1 p2 p3 q0 q1 q2 q3
    have hE : Ext w w2 := (hB.trans hE1).trans hE2
    obtain ⟨⟨p0, p1, p2, p3⟩, ⟨q0, q1, q2, q3⟩⟩ := box42 (hE1.trans hE2)
    have hcall3 := c3 w2 hE
    clear c3
    cases h1 : okN 3 x
    · cases h2 : okN 3 y
      · rcases hF2 with rfl | ⟨ty2, z2, rfl⟩
        all_goals
          go_wp2_with (go_at_call 19; refine hcall3.mono ?_; rintro e w3 ⟨rfl, hE3⟩)
          go_ret
          exact ⟨rfl, hE.trans hE3⟩
      · have hfin : Hid (sameV x y = false) := same_ok (by rw [h1, h2]; decide)
        rcases hF2 with rfl | ⟨ty2, z2, rfl⟩
        all_goals
          go_wp2
          go_ret
          exact ⟨ret_bool hfin.out.symm, hE⟩
    · cases h2 : okN 3 y
      · have hfin : Hid (sameV x y = false) := same_ok (by rw [h1, h2]; decide)
        rcases hF2 with rfl | ⟨ty2, z2, rfl⟩
        all_goals
          go_wp2
          go_ret
          exact ⟨ret_bool hfin.out.symm, hE⟩
      · have t1 := (HT1.out h1).ext hE2
        have t2 := HT2.out h2
        have hfin : Hid (decide (ordT x y = 0) = sameV x y) := ordT_same x (neat_of 3 x (by rw [okI_eq]; exact h1)) y (neat_of 3 y (by rw [okI_eq]; exact h2))
        obtain ⟨z, hz, hkind⟩ := t1.ty
        first
          | (cases hz; done)
          | (obtain ⟨ty2, z2, rfl⟩ := t2.shape
             cases hz
             have hcall := order_any x hkind y _ _ z1 _ w2 t1 t2
             generalize ordT x y = r at hcall hfin
             clear t1 t2 HT1 HT2 hF2 h1 h2 hcall3 p0 p1 p2 p3 q0 q1 q2 q3
             rcases hkind with hk0 | hk0 | hk0 | hk0 | hk0 | hk0 | hk0
             all_goals
               rw [hk0] at hcall ⊢
               first
                 | (change Calls Try.prog 74 _ _ _ at hcall
                    have hmeth := meth_null
                    clear hk0
                    simp only [tyF]
                    go_wp2_with (go_at_call 74; refine hcall.mono ?_; rintro e w3 ⟨rfl, hE3⟩)
                    go_ret
                    exact ⟨ret_bool (by rw [← hfin.out]; try rfl), hE.trans hE3⟩)
                 | (change Calls Try.prog 69 _ _ _ at hcall
                    have hmeth := meth_bool
                    clear hk0
                    simp only [tyF]
                    go_wp2_with (go_at_call 69; refine hcall.mono ?_; rintro e w3 ⟨rfl, hE3⟩)
                    go_ret
                    exact ⟨ret_bool (by rw [← hfin.out]; try rfl), hE.trans hE3⟩)
                 | (change Calls Try.prog 59 _ _ _ at hcall
                    have hmeth := meth_num
                    clear hk0
                    simp only [tyF]
                    go_wp2_with (go_at_call 59; refine hcall.mono ?_; rintro e w3 ⟨rfl, hE3⟩)
                    go_ret
                    exact ⟨ret_bool (by rw [← hfin.out]; try rfl), hE.trans hE3⟩)
                 | (change Calls Try.prog 64 _ _ _ at hcall
                    have hmeth := meth_text
                    clear hk0
                    simp only [tyF]
                    go_wp2_with (go_at_call 64; refine hcall.mono ?_; rintro e w3 ⟨rfl, hE3⟩)
                    go_ret
                    exact ⟨ret_bool (by rw [← hfin.out]; try rfl), hE.trans hE3⟩)
                 | (change Calls Try.prog 87 _ _ _ at hcall
                    have hmeth := meth_list
                    clear hk0
                    simp only [tyF]
                    go_wp2_with (go_at_call 87; refine hcall.mono ?_; rintro e w3 ⟨rfl, hE3⟩)
                    go_ret
                    exact ⟨ret_bool (by rw [← hfin.out]; try rfl), hE.trans hE3⟩)
                 | (change Calls Try.prog 77 _ _ _ at hcall
                    have hmeth := meth_node
                    clear hk0
                    simp only [tyF]
                    go_wp2_with (go_at_call 77; refine hcall.mono ?_; rintro e w3 ⟨rfl, hE3⟩)
                    go_ret
                    exact ⟨ret_bool (by rw [← hfin.out]; try rfl), hE.trans hE3⟩)
                 | (change Calls Try.prog 82 _ _ _ at hcall
                    have hmeth := meth_edge
                    clear hk0
                    simp only [tyF]
                    go_wp2_with (go_at_call 82; refine hcall.mono ?_; rintro e w3 ⟨rfl, hE3⟩)
                    go_ret
                    exact ⟨ret_bool (by rw [← hfin.out]; try rfl), hE.trans hE3⟩)
             )

set_option maxHeartbeats 1000000 in
theorem specValueSame_any (x y : V) (lo lo' : Nat) (u v : Value) (w : World) (hu : ValIn lo w x u) (hv : ValIn lo' w y v) :
    Calls Try.prog 7 #[u, v] w fun e w' => e = .returned (.bool (sameV x y)) ∧ Ext w w' := by
  have c1 := fun W (hW : Ext w W) => l1Same_any x y lo lo' u v W (hu.ext hW) (hv.ext hW)
  obtain ⟨kk, nn, tt, aa, ll, cc, rfl⟩ := hu.shape
  obtain ⟨kk2, nn2, tt2, aa2, ll2, cc2, rfl⟩ := hv.shape
  have hB : Ext w ((w.alloc (.cells #[.int .i64 kk, .int .i64 nn, .string tt, .slice aa ll cc] 25)).alloc (.cells #[.int .i64 kk2, .int .i64 nn2, .string tt2, .slice aa2 ll2 cc2] 25)) := ((Ext.refl _).alloc _).alloc _
  clear hu hv
  go_enter Try.func7, Try.ntmps7
  go_wp2_with (go_at_call 20; refine (c1 _ hB).mono ?_; rintro e w1 ⟨rfl, hE1⟩)
  go_ret
  exact ⟨rfl, hB.trans hE1⟩
end Go.Proofs.Ytkngihmfknmnaaa
