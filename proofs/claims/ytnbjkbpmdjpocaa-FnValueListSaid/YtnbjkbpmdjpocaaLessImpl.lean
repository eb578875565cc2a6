/- What impl.ValueLess answers. -/
import Derived.Test.YtnbjkbpmdjpocaaLessSpec
import Derived.Test.YtnbjkbpmdjpocaaOrdImpl
namespace Go.Proofs.Ytnbjkbpmdjpocaa
open Go.RowKit Go.Deep

set_option maxHeartbeats 400000 in
theorem truth_any (b : Bool) (w : World) : Calls Try.prog 27 #[.bool b] w fun e w' => e = .returned (.int .i64 (b01 b)) ∧ w' = w := by
  cases b
  all_goals
    go_enter Try.func27, Try.ntmps27
    go_wp2
    go_ret
    exact ⟨rfl, rfl⟩

set_option maxRecDepth 100000 in
set_option maxHeartbeats 400000 in
theorem boolValue_any (n : Int) (w : World) : Calls Try.prog 28 #[.int .i64 n] w fun e w' => e = .returned (flat 1 n) ∧ Ext w w' := by
  go_enter Try.func28, Try.ntmps28
  go_wp2
  exact bodyPost_ret (v := flat 1 n) (by simp [flat, results, Try.results28, go_sem]) rfl ⟨rfl, (Ext.refl _).alloc _⟩

def mayB (k k' : Int) : Bool := decide (k = k' ∧ (k = 2 ∨ k = 3 ∨ k = 1))
set_option maxHeartbeats 1000000 in
theorem mayBeLess_any (k k' : Int) (w : World) : Calls Try.prog 26 #[.int .i64 k, .int .i64 k'] w fun e w' => e = .returned (.bool (mayB k k')) ∧ w' = w := by
  by_cases hkk : k = k'
  · subst hkk
    by_cases h2 : k = 2
    · subst h2
      go_enter Try.func26, Try.ntmps26
      go_wp2
      go_ret
      exact ⟨rfl, rfl⟩
    by_cases h3 : k = 3
    · subst h3
      go_enter Try.func26, Try.ntmps26
      go_wp2
      go_ret
      exact ⟨rfl, rfl⟩
    by_cases h1 : k = 1
    · subst h1
      go_enter Try.func26, Try.ntmps26
      go_wp2
      go_ret
      exact ⟨rfl, rfl⟩
    have e2 : (k == 2) = false := by simp [h2]
    have e3 : (k == 3) = false := by simp [h3]
    have e1 : (k == 1) = false := by simp [h1]
    have hfin : Hid (mayB k k = false) := decide_eq_false (fun h => by rcases h.2 with h | h | h; exact h2 h; exact h3 h; exact h1 h)
    go_enter Try.func26, Try.ntmps26
    go_wp2
    go_ret
    exact ⟨ret_bool hfin.out.symm, rfl⟩
  · have e0 : (k == k') = false := by simp [hkk]
    have hfin : Hid (mayB k k' = false) := decide_eq_false (fun h => hkk h.1)
    go_enter Try.func26, Try.ntmps26
    go_wp2
    go_ret
    exact ⟨ret_bool hfin.out.symm, rfl⟩

theorem ValIn.kind_eq {lo : Nat} {w : World} {x : V} {kk nn : Int} {tt : ByteArray} {u : Value} (h : ValIn lo w x (.agg #[.int .i64 kk, .int .i64 nn, .string tt, u])) : x.kind = kk := by
  cases h; rfl

set_option maxRecDepth 100000 in
set_option maxHeartbeats 4000000 in
theorem implValueLess_any (x y : V) (lo lo' : Nat) (u v : Value) (w : World) (hu : ValIn lo w x u) (hv : ValIn lo' w y v) :
    Calls Try.prog 17 #[u, v] w fun e w' => e = .returned (flat (lessK x y) (lessN x y)) ∧ Ext w w' := by
  have c1 := fun W (hW : Ext w W) => termOf_any x lo u W (hu.ext hW)
  have c2 := fun W (hW : Ext w W) => termOf_any y lo' v W (hv.ext hW)
  obtain ⟨kk, nn, tt, aa, ll, cc, rfl⟩ := hu.shape
  obtain ⟨kk2, nn2, tt2, aa2, ll2, cc2, rfl⟩ := hv.shape
  have hkx := hu.kind_eq
  have hky := hv.kind_eq
  have hB : Ext w (((w.alloc (.cells #[.int .i64 kk, .int .i64 nn, .string tt, .slice aa ll cc] 25)).alloc (.cells #[.int .i64 kk2, .int .i64 nn2, .string tt2, .slice aa2 ll2 cc2] 25)).alloc (.cells #[.int .i64 0, .int .i64 0, .string ⟨#[]⟩, .slice none 0 0] 25)) := (((Ext.refl _).alloc _).alloc _).alloc _
  have HL : Hid (lessB x y = mayB kk kk2) := by show _ = _; unfold lessB mayB; rw [hkx, hky]
  clear hu hv hkx hky
  go_enter Try.func17, Try.ntmps17
  go_wp2_with fail
  refine (c1 _ hB).mono ?_
  rintro e w1 ⟨s, rfl, hF1, hT1, hE1⟩
  obtain ⟨hc1, _⟩ := bcell hE1
  simp only [World.size_alloc] at hc1
  clear c1
  have HT1 : Hid (okN 3 x = true → TermIn (fun _ => True) w1 x s) := fun h => (hT1 h).mono (fun _ _ _ => trivial)
  clear hT1
  rcases hF1 with rfl | ⟨ty1, z1, rfl⟩
  all_goals
    go_wp2_with fail
    refine (c2 _ (hB.trans hE1)).mono ?_
    rintro e w2 ⟨s2, rfl, hF2, hT2, hE2⟩
    have HT2 : Hid (okN 3 y = true → TermIn (fun _ => True) w2 y s2) := fun h => (hT2 h).mono (fun _ _ _ => trivial)
    clear c2 hT2 hc1
    have hE : Ext w w2 := (hB.trans hE1).trans hE2
    obtain ⟨hc, hf⟩ := bcell (hE1.trans hE2)
    simp only [World.size_alloc] at hc hf
    cases h1 : okN 3 x
    · have hfin : Hid (lessK x y = 0 ∧ lessN x y = 0) := by show _ ∧ _; unfold lessK lessN; rw [h1]; simp
      rcases hF2 with rfl | ⟨ty2, z2, rfl⟩
      all_goals
        go_wp2
        refine bodyPost_ret (v := flat 0 0) (by simp [flat, results, Try.results17, go_sem, hc]) rfl ⟨by rw [hfin.out.1, hfin.out.2], ?_⟩
        exact (((hE.setCell (by dsimp only; omega) _).setCell (by dsimp only; omega) _).setCell (by dsimp only; omega) _).setCell (by dsimp only; omega) _
    · cases h2 : okN 3 y
      · have hfin : Hid (lessK x y = 0 ∧ lessN x y = 0) := by show _ ∧ _; unfold lessK lessN; rw [h2]; simp
        rcases hF2 with rfl | ⟨ty2, z2, rfl⟩
        all_goals
          go_wp2
          refine bodyPost_ret (v := flat 0 0) (by simp [flat, results, Try.results17, go_sem, hc]) rfl ⟨by rw [hfin.out.1, hfin.out.2], ?_⟩
          exact (((hE.setCell (by dsimp only; omega) _).setCell (by dsimp only; omega) _).setCell (by dsimp only; omega) _).setCell (by dsimp only; omega) _
      · cases hmb : mayB kk kk2
        · have hfin : Hid (lessK x y = 0 ∧ lessN x y = 0) := by show _ ∧ _; unfold lessK lessN; rw [HL.out, hmb]; simp
          rcases hF2 with rfl | ⟨ty2, z2, rfl⟩
          all_goals
            go_wp2_with (go_at_call 26; refine (mayBeLess_any _ _ _).mono ?_; rintro e w3 ⟨rfl, rfl⟩)
            refine bodyPost_ret (v := flat 0 0) (by simp [flat, results, Try.results17, go_sem, hc]) rfl ⟨by rw [hfin.out.1, hfin.out.2], ?_⟩
            exact (((hE.setCell (by dsimp only; omega) _).setCell (by dsimp only; omega) _).setCell (by dsimp only; omega) _).setCell (by dsimp only; omega) _
        · have t1 := (HT1.out h1).ext hE2
          have t2 := HT2.out h2
          have hfin : Hid (lessK x y = 1 ∧ lessN x y = b01 (decide (ordT x y < 0))) := by
            show _ ∧ _
            unfold lessK lessN
            rw [h1, h2, HL.out, hmb, if_pos ⟨rfl, rfl, rfl⟩, if_pos ⟨rfl, rfl, rfl⟩, ordT_eq x (nice_of 3 x (by rw [okI_eq]; exact h1)) y (nice_of 3 y (by rw [okI_eq]; exact h2))]
            exact ⟨rfl, rfl⟩
          obtain ⟨z, hz, hkind⟩ := t1.ty
          first
            | (cases hz; done)
            | (obtain ⟨ty2, z2, rfl⟩ := t2.shape
               cases hz
               have hcall := order_any x hkind y _ _ z1 _ w2 t1 t2
               generalize ordT x y = r at hcall hfin
               clear t1 t2 HT1 HT2 hF2 h1 h2
               rcases hkind with hk0 | hk0 | hk0 | hk0 | hk0 | hk0 | hk0
               all_goals
                 rw [hk0] at hcall ⊢
                 first
                   | (change Calls Try.prog 73 _ _ _ at hcall
                      have hmeth := meth_null
                      clear hk0
                      simp only [tyF]
                      go_wp2_with (first
                        | (go_at_call 26; refine (mayBeLess_any _ _ _).mono ?_; rintro e w3 ⟨rfl, rfl⟩)
                        | (go_at_call 73; refine hcall.mono ?_; rintro e w4 ⟨rfl, hE4⟩)
                        | (go_at_call 27; refine (truth_any _ _).mono ?_; rintro e w5 ⟨rfl, rfl⟩)
                        | (go_at_call 28; refine (boolValue_any _ _).mono ?_; rintro e w6 ⟨rfl, hE6⟩; clear hc hf; obtain ⟨hc, hf⟩ := bcell (((hE1.trans hE2).trans hE4).trans hE6); simp only [World.size_alloc] at hc hf; have hE7 := (hE.trans hE4).trans hE6; unfold flat))
                      refine bodyPost_ret (v := flat 1 (b01 (decide (r < 0)))) (by simp [flat, results, Try.results17, go_sem, hc]) rfl ⟨by rw [hfin.out.1, hfin.out.2], ?_⟩
                      exact (((hE7.setCell (by dsimp only; omega) _).setCell (by dsimp only; omega) _).setCell (by dsimp only; omega) _).setCell (by dsimp only; omega) _)
                   | (change Calls Try.prog 65 _ _ _ at hcall
                      have hmeth := meth_bool
                      clear hk0
                      simp only [tyF]
                      go_wp2_with (first
                        | (go_at_call 26; refine (mayBeLess_any _ _ _).mono ?_; rintro e w3 ⟨rfl, rfl⟩)
                        | (go_at_call 65; refine hcall.mono ?_; rintro e w4 ⟨rfl, hE4⟩)
                        | (go_at_call 27; refine (truth_any _ _).mono ?_; rintro e w5 ⟨rfl, rfl⟩)
                        | (go_at_call 28; refine (boolValue_any _ _).mono ?_; rintro e w6 ⟨rfl, hE6⟩; clear hc hf; obtain ⟨hc, hf⟩ := bcell (((hE1.trans hE2).trans hE4).trans hE6); simp only [World.size_alloc] at hc hf; have hE7 := (hE.trans hE4).trans hE6; unfold flat))
                      refine bodyPost_ret (v := flat 1 (b01 (decide (r < 0)))) (by simp [flat, results, Try.results17, go_sem, hc]) rfl ⟨by rw [hfin.out.1, hfin.out.2], ?_⟩
                      exact (((hE7.setCell (by dsimp only; omega) _).setCell (by dsimp only; omega) _).setCell (by dsimp only; omega) _).setCell (by dsimp only; omega) _)
                   | (change Calls Try.prog 80 _ _ _ at hcall
                      have hmeth := meth_num
                      clear hk0
                      simp only [tyF]
                      go_wp2_with (first
                        | (go_at_call 26; refine (mayBeLess_any _ _ _).mono ?_; rintro e w3 ⟨rfl, rfl⟩)
                        | (go_at_call 80; refine hcall.mono ?_; rintro e w4 ⟨rfl, hE4⟩)
                        | (go_at_call 27; refine (truth_any _ _).mono ?_; rintro e w5 ⟨rfl, rfl⟩)
                        | (go_at_call 28; refine (boolValue_any _ _).mono ?_; rintro e w6 ⟨rfl, hE6⟩; clear hc hf; obtain ⟨hc, hf⟩ := bcell (((hE1.trans hE2).trans hE4).trans hE6); simp only [World.size_alloc] at hc hf; have hE7 := (hE.trans hE4).trans hE6; unfold flat))
                      refine bodyPost_ret (v := flat 1 (b01 (decide (r < 0)))) (by simp [flat, results, Try.results17, go_sem, hc]) rfl ⟨by rw [hfin.out.1, hfin.out.2], ?_⟩
                      exact (((hE7.setCell (by dsimp only; omega) _).setCell (by dsimp only; omega) _).setCell (by dsimp only; omega) _).setCell (by dsimp only; omega) _)
                   | (change Calls Try.prog 85 _ _ _ at hcall
                      have hmeth := meth_text
                      clear hk0
                      simp only [tyF]
                      go_wp2_with (first
                        | (go_at_call 26; refine (mayBeLess_any _ _ _).mono ?_; rintro e w3 ⟨rfl, rfl⟩)
                        | (go_at_call 85; refine hcall.mono ?_; rintro e w4 ⟨rfl, hE4⟩)
                        | (go_at_call 27; refine (truth_any _ _).mono ?_; rintro e w5 ⟨rfl, rfl⟩)
                        | (go_at_call 28; refine (boolValue_any _ _).mono ?_; rintro e w6 ⟨rfl, hE6⟩; clear hc hf; obtain ⟨hc, hf⟩ := bcell (((hE1.trans hE2).trans hE4).trans hE6); simp only [World.size_alloc] at hc hf; have hE7 := (hE.trans hE4).trans hE6; unfold flat))
                      refine bodyPost_ret (v := flat 1 (b01 (decide (r < 0)))) (by simp [flat, results, Try.results17, go_sem, hc]) rfl ⟨by rw [hfin.out.1, hfin.out.2], ?_⟩
                      exact (((hE7.setCell (by dsimp only; omega) _).setCell (by dsimp only; omega) _).setCell (by dsimp only; omega) _).setCell (by dsimp only; omega) _)
                   | (change Calls Try.prog 76 _ _ _ at hcall
                      have hmeth := meth_list
                      clear hk0
                      simp only [tyF]
                      go_wp2_with (first
                        | (go_at_call 26; refine (mayBeLess_any _ _ _).mono ?_; rintro e w3 ⟨rfl, rfl⟩)
                        | (go_at_call 76; refine hcall.mono ?_; rintro e w4 ⟨rfl, hE4⟩)
                        | (go_at_call 27; refine (truth_any _ _).mono ?_; rintro e w5 ⟨rfl, rfl⟩)
                        | (go_at_call 28; refine (boolValue_any _ _).mono ?_; rintro e w6 ⟨rfl, hE6⟩; clear hc hf; obtain ⟨hc, hf⟩ := bcell (((hE1.trans hE2).trans hE4).trans hE6); simp only [World.size_alloc] at hc hf; have hE7 := (hE.trans hE4).trans hE6; unfold flat))
                      refine bodyPost_ret (v := flat 1 (b01 (decide (r < 0)))) (by simp [flat, results, Try.results17, go_sem, hc]) rfl ⟨by rw [hfin.out.1, hfin.out.2], ?_⟩
                      exact (((hE7.setCell (by dsimp only; omega) _).setCell (by dsimp only; omega) _).setCell (by dsimp only; omega) _).setCell (by dsimp only; omega) _)
                   | (change Calls Try.prog 90 _ _ _ at hcall
                      have hmeth := meth_node
                      clear hk0
                      simp only [tyF]
                      go_wp2_with (first
                        | (go_at_call 26; refine (mayBeLess_any _ _ _).mono ?_; rintro e w3 ⟨rfl, rfl⟩)
                        | (go_at_call 90; refine hcall.mono ?_; rintro e w4 ⟨rfl, hE4⟩)
                        | (go_at_call 27; refine (truth_any _ _).mono ?_; rintro e w5 ⟨rfl, rfl⟩)
                        | (go_at_call 28; refine (boolValue_any _ _).mono ?_; rintro e w6 ⟨rfl, hE6⟩; clear hc hf; obtain ⟨hc, hf⟩ := bcell (((hE1.trans hE2).trans hE4).trans hE6); simp only [World.size_alloc] at hc hf; have hE7 := (hE.trans hE4).trans hE6; unfold flat))
                      refine bodyPost_ret (v := flat 1 (b01 (decide (r < 0)))) (by simp [flat, results, Try.results17, go_sem, hc]) rfl ⟨by rw [hfin.out.1, hfin.out.2], ?_⟩
                      exact (((hE7.setCell (by dsimp only; omega) _).setCell (by dsimp only; omega) _).setCell (by dsimp only; omega) _).setCell (by dsimp only; omega) _)
                   | (change Calls Try.prog 95 _ _ _ at hcall
                      have hmeth := meth_edge
                      clear hk0
                      simp only [tyF]
                      go_wp2_with (first
                        | (go_at_call 26; refine (mayBeLess_any _ _ _).mono ?_; rintro e w3 ⟨rfl, rfl⟩)
                        | (go_at_call 95; refine hcall.mono ?_; rintro e w4 ⟨rfl, hE4⟩)
                        | (go_at_call 27; refine (truth_any _ _).mono ?_; rintro e w5 ⟨rfl, rfl⟩)
                        | (go_at_call 28; refine (boolValue_any _ _).mono ?_; rintro e w6 ⟨rfl, hE6⟩; clear hc hf; obtain ⟨hc, hf⟩ := bcell (((hE1.trans hE2).trans hE4).trans hE6); simp only [World.size_alloc] at hc hf; have hE7 := (hE.trans hE4).trans hE6; unfold flat))
                      refine bodyPost_ret (v := flat 1 (b01 (decide (r < 0)))) (by simp [flat, results, Try.results17, go_sem, hc]) rfl ⟨by rw [hfin.out.1, hfin.out.2], ?_⟩
                      exact (((hE7.setCell (by dsimp only; omega) _).setCell (by dsimp only; omega) _).setCell (by dsimp only; omega) _).setCell (by dsimp only; omega) _)
               )
end Go.Proofs.Ytnbjkbpmdjpocaa
