/- What impl.ValueLess answers. -/
import Derived.Test.YtkngihmfknmnaaaLessTerm
import Derived.Test.YtkngihmfknmnaaaOrdImpl
namespace Go.Proofs.Ytkngihmfknmnaaa
open Go.RowKit Go.Deep

set_option maxRecDepth 100000 in
set_option maxHeartbeats 4000000 in
theorem implValueLess_any (x y : V) (lo lo' : Nat) (u v : Value) (w : World) (hu : ValIn lo w x u) (hv : ValIn lo' w y v) :
    Calls Try.prog 10 #[u, v] w fun e w' => e = .returned (flat (lessK x y) (lessN x y)) ∧ Ext w w' := by
  have c1 := fun W (hW : Ext w W) => termOf_any x lo u W (hu.ext hW)
  have c2 := fun W (hW : Ext w W) => termOf_any y lo' v W (hv.ext hW)
  obtain ⟨kk, nn, tt, aa, ll, cc, rfl⟩ := hu.shape
  obtain ⟨kk2, nn2, tt2, aa2, ll2, cc2, rfl⟩ := hv.shape
  have hB : Ext w (((w.alloc (.cells #[.int .i64 kk, .int .i64 nn, .string tt, .slice aa ll cc] 25)).alloc (.cells #[.int .i64 kk2, .int .i64 nn2, .string tt2, .slice aa2 ll2 cc2] 25)).alloc (.cells #[.int .i64 0, .int .i64 0, .string ⟨#[]⟩, .slice none 0 0] 25)) := (((Ext.refl _).alloc _).alloc _).alloc _
  clear hu hv
  go_enter Try.func10, Try.ntmps10
  go_wp2_with fail
  refine (c1 _ hB).mono ?_
  rintro e w1 ⟨s, rfl, hF1, hT1, hE1⟩
  obtain ⟨hc1, _⟩ := bcell hE1
  simp only [World.size_alloc] at hc1
  clear c1
  have HT1 : Hid (okN 3 x = true → TermIn (fun _ => True) w1 x s) := fun h => (hT1 h).mono (fun _ _ _ => trivial)
  clear hT1
  rcases hF1 with rfl | ⟨ty1, z1, rfl⟩
  all_goals
    go_wp2_with fail
    refine (c2 _ (hB.trans hE1)).mono ?_
    rintro e w2 ⟨s2, rfl, hF2, hT2, hE2⟩
    have HT2 : Hid (okN 3 y = true → TermIn (fun _ => True) w2 y s2) := fun h => (hT2 h).mono (fun _ _ _ => trivial)
    clear c2 hT2 hc1
    have hE : Ext w w2 := (hB.trans hE1).trans hE2
    obtain ⟨hc, hf⟩ := bcell (hE1.trans hE2)
    simp only [World.size_alloc] at hc hf
    cases h1 : okN 3 x
    · have hfin : Hid (lessK x y = 0 ∧ lessN x y = 0) := by show _ ∧ _; unfold lessK lessN; rw [h1]; simp
      rcases hF2 with rfl | ⟨ty2, z2, rfl⟩
      all_goals
        go_wp2
        refine bodyPost_ret (v := flat 0 0) (by simp [flat, results, Try.results10, go_sem, hc]) rfl ⟨by rw [hfin.out.1, hfin.out.2], ?_⟩
        exact (((hE.setCell (by dsimp only; omega) _).setCell (by dsimp only; omega) _).setCell (by dsimp only; omega) _).setCell (by dsimp only; omega) _
    · cases h2 : okN 3 y
      · have hfin : Hid (lessK x y = 0 ∧ lessN x y = 0) := by show _ ∧ _; unfold lessK lessN; rw [h2]; simp
        rcases hF2 with rfl | ⟨ty2, z2, rfl⟩
        all_goals
          go_wp2
          refine bodyPost_ret (v := flat 0 0) (by simp [flat, results, Try.results10, go_sem, hc]) rfl ⟨by rw [hfin.out.1, hfin.out.2], ?_⟩
          exact (((hE.setCell (by dsimp only; omega) _).setCell (by dsimp only; omega) _).setCell (by dsimp only; omega) _).setCell (by dsimp only; omega) _
      · have t1 := (HT1.out h1).ext hE2
        have t2 := HT2.out h2
        have hfin : Hid (lessK x y = kO (lessT x y) ∧ lessN x y = nO (lessT x y)) := by
          show _ ∧ _
          unfold lessK lessN lessT
          rw [h1, h2, ordT_eq x (nice_of 3 x (by rw [okI_eq]; exact h1)) y (nice_of 3 y (by rw [okI_eq]; exact h2))]
          cases lessB x y
          · simp [kO, nO]
          · cases h : decide (ordV x y < 0) <;> simp [kO, nO, b01]
        obtain ⟨z, hz, hkind⟩ := t1.ty
        have hcall := less_any x hkind y _ _ _ _ w2 t1 t2
        generalize lessT x y = R at hcall hfin
        obtain ⟨ty2, z2, rfl⟩ := t2.shape
        clear t1 t2 HT1 HT2 hF2 h1 h2
        have m1 := vmeth_null
        have m2 := vmeth_bool
        first
          | (cases hz; done)
          | (clear hz
             rcases R with _ | b
             · simp only [tO] at hcall
               go_wp2_with (first
                 | (go_at_call 21; refine hcall.mono ?_; rintro e w3 ⟨rfl, hE3⟩)
                 | (go_at_call 76; refine (nullValue_any _).mono ?_; rintro e w4 ⟨rfl, hE4⟩; clear hc hf; obtain ⟨hc, hf⟩ := bcell (((hE1.trans hE2).trans hE3).trans hE4); simp only [World.size_alloc] at hc hf; have hE7 := (hE.trans hE3).trans hE4; unfold flat))
               refine bodyPost_ret (v := flat 0 0) (by simp [flat, results, Try.results10, go_sem, hc]) rfl ⟨by rw [hfin.out.1, hfin.out.2]; rfl, ?_⟩
               exact (((hE7.setCell (by dsimp only; omega) _).setCell (by dsimp only; omega) _).setCell (by dsimp only; omega) _).setCell (by dsimp only; omega) _
             · simp only [tO] at hcall
               go_wp2_with (first
                 | (go_at_call 21; refine hcall.mono ?_; rintro e w3 ⟨rfl, hE3⟩)
                 | (go_at_call 71; refine (boolValue_any _ _).mono ?_; rintro e w4 ⟨rfl, hE4⟩; clear hc hf; obtain ⟨hc, hf⟩ := bcell (((hE1.trans hE2).trans hE3).trans hE4); simp only [World.size_alloc] at hc hf; have hE7 := (hE.trans hE3).trans hE4; unfold flat))
               refine bodyPost_ret (v := flat 1 (b01 b)) (by simp [flat, results, Try.results10, go_sem, hc]) rfl ⟨by rw [hfin.out.1, hfin.out.2]; cases b <;> rfl, ?_⟩
               exact (((hE7.setCell (by dsimp only; omega) _).setCell (by dsimp only; omega) _).setCell (by dsimp only; omega) _).setCell (by dsimp only; omega) _)
end Go.Proofs.Ytkngihmfknmnaaa
