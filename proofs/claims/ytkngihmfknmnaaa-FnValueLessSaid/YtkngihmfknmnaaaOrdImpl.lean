/- What impl.ValueOrder answers; that it is what the model answers. -/
import Derived.Test.YtkngihmfknmnaaaOrdTerm
import Derived.Test.YtkngihmfknmnaaaOrdSpec2
import Derived.Test.YtkngihmfknmnaaaNice
namespace Go.Proofs.Ytkngihmfknmnaaa
open Go.RowKit Go.Deep

theorem rank_eq (k : Int) (hk : k = 0 ∨ k = 1 ∨ k = 2 ∨ k = 3 ∨ k = 4 ∨ k = 5 ∨ k = 6) : rankB k = rankS k := by
  rcases hk with rfl | rfl | rfl | rfl | rfl | rfl | rfl <;> rfl

theorem ordTL_eq : ∀ (l l' : List V), (∀ i (hi : i < l.length), ∀ y, Nice y → ordT l[i] y = ordV l[i] y) → (∀ i (hi : i < l'.length), Nice l'[i]) → ordTL l l' = ordVL l l'
  | [], [], _, _ => by unfold ordTL ordVL; rfl
  | [], _ :: _, _, _ => by unfold ordTL ordVL; rfl
  | _ :: _, [], _, _ => by unfold ordTL ordVL; rfl
  | a :: r, b :: r', h, h' => by
    have e := h 0 (by simp) b (by have := h' 0 (by simp); simpa using this)
    simp at e
    have ih := ordTL_eq r r' (fun i hi y hy => by have := h (i + 1) (by simpa using hi) y hy; simpa using this) (fun i hi => by have := h' (i + 1) (by simpa using hi); simpa using this)
    unfold ordTL ordVL
    rw [e, ih]

theorem ordT_eq : ∀ x, Nice x → ∀ y, Nice y → ordT x y = ordV x y := by
  refine V.ind fun k n t l ih => ?_
  intro hx y hy
  cases hx with
  | mk _ _ _ _ hk h0 hl =>
    cases hy with
    | mk k' n' t' l' hk' h0' hl' =>
      unfold ordT ordV
      rw [rank_eq k hk, rank_eq k' hk']
      by_cases e : k = k'
      · subst e
        rw [if_neg (show ¬ ¬ k = k from fun h => h rfl), if_neg (show ¬ ¬ k = k from fun h => h rfl)]
        by_cases e0 : k = 0
        · rw [if_pos e0, if_neg (by omega), if_neg (by omega), h0 e0, h0' e0]; rfl
        · rw [if_neg e0]
          by_cases e3 : k = 3
          · rw [if_pos e3, if_pos e3]
          · rw [if_neg e3, if_neg e3]
            by_cases e4 : k = 4
            · rw [if_pos e4, if_pos e4]
              exact ordTL_eq l l' (fun i hi y hy => ih i hi (hl e4 i hi) y hy) (hl' e4)
            · rw [if_neg e4, if_neg e4]
      · rw [if_pos e, if_pos e]

set_option maxRecDepth 100000 in
set_option maxHeartbeats 4000000 in
theorem implValueOrder_any (x y : V) (lo lo' : Nat) (u v : Value) (w : World) (hu : ValIn lo w x u) (hv : ValIn lo' w y v) :
    Calls Try.prog 13 #[u, v] w fun e w' => e = .returned (.int .i64 (ordOk x y)) ∧ Ext w w' := by
  have c1 := fun W (hW : Ext w W) => termOf_any x lo u W (hu.ext hW)
  have c2 := fun W (hW : Ext w W) => termOf_any y lo' v W (hv.ext hW)
  obtain ⟨kk, nn, tt, aa, ll, cc, rfl⟩ := hu.shape
  obtain ⟨kk2, nn2, tt2, aa2, ll2, cc2, rfl⟩ := hv.shape
  have hB : Ext w ((w.alloc (.cells #[.int .i64 kk, .int .i64 nn, .string tt, .slice aa ll cc] 25)).alloc (.cells #[.int .i64 kk2, .int .i64 nn2, .string tt2, .slice aa2 ll2 cc2] 25)) := ((Ext.refl _).alloc _).alloc _
  go_enter Try.func13, Try.ntmps13
  go_wp2_with fail
  refine (c1 _ hB).mono ?_
  rintro e w1 ⟨s, rfl, hF1, hT1, hE1⟩
  obtain ⟨⟨p0, p1, p2, p3⟩, ⟨q0, q1, q2, q3⟩⟩ := box42 hE1
  clear c1 p0 p1 p2 p3
  have HT1 : Hid (okN 3 x = true → TermIn (fun _ => True) w1 x s) := fun h => (hT1 h).mono (fun _ _ _ => trivial)
  clear hT1
  have fs : Face s := hF1
  rcases hF1 with rfl | ⟨ty1, z1, rfl⟩
  all_goals
    go_wp2_with fail
    refine (c2 _ (hB.trans hE1)).mono ?_
    rintro e w2 ⟨s2, rfl, hF2, hT2, hE2⟩
    have HT2 : Hid (okN 3 y = true → TermIn (fun _ => True) w2 y s2) := fun h => (hT2 h).mono (fun _ _ _ => trivial)
    clear c2 hT2 q0 q1 q2 q3
    have hE : Ext w w2 := (hB.trans hE1).trans hE2
    cases h1 : okN 3 x
    · have hfin : Hid (ordOk x y = 0) := by show _ = _; unfold ordOk; rw [h1]; simp
      rcases hF2 with rfl | ⟨ty2, z2, rfl⟩
      all_goals
        go_wp2
        go_ret
        exact ⟨ret_int hfin.out.symm, hE⟩
    · cases h2 : okN 3 y
      · have hfin : Hid (ordOk x y = 0) := by show _ = _; unfold ordOk; rw [h2]; simp
        rcases hF2 with rfl | ⟨ty2, z2, rfl⟩
        all_goals
          go_wp2
          go_ret
          exact ⟨ret_int hfin.out.symm, hE⟩
      · have t1 := (HT1.out h1).ext hE2
        have t2 := HT2.out h2
        have hfin : Hid (ordT x y = ordOk x y) := by
          show _ = _
          unfold ordOk
          rw [h1, h2, if_pos ⟨rfl, rfl⟩]
          exact ordT_eq x (nice_of 3 x (by rw [okI_eq]; exact h1)) y (nice_of 3 y (by rw [okI_eq]; exact h2))
        obtain ⟨z, hz, hkind⟩ := t1.ty
        first
          | (cases hz; done)
          | (obtain ⟨ty2, z2, rfl⟩ := t2.shape
             cases hz
             have hcall := order_any x hkind y _ _ z1 _ w2 t1 t2
             rw [hfin.out] at hcall
             clear t1 t2 HT1 HT2 hF2 h1 h2 fs
             rcases hkind with hk0 | hk0 | hk0 | hk0 | hk0 | hk0 | hk0
             all_goals
               rw [hk0] at hcall ⊢
               first
                 | (change Calls Try.prog 74 _ _ _ at hcall
                    have hmeth := meth_null
                    have hty : tyF x.kind = 67 := by rw [hk0]; rfl
                    clear hk0
                    simp only [tyF]
                    go_wp2_with (go_at_call 74; refine hcall.mono ?_; rintro e w3 ⟨rfl, hE3⟩)
                    go_ret
                    exact ⟨rfl, hE.trans hE3⟩)
                 | (change Calls Try.prog 69 _ _ _ at hcall
                    have hmeth := meth_bool
                    have hty : tyF x.kind = 63 := by rw [hk0]; rfl
                    clear hk0
                    simp only [tyF]
                    go_wp2_with (go_at_call 69; refine hcall.mono ?_; rintro e w3 ⟨rfl, hE3⟩)
                    go_ret
                    exact ⟨rfl, hE.trans hE3⟩)
                 | (change Calls Try.prog 59 _ _ _ at hcall
                    have hmeth := meth_num
                    have hty : tyF x.kind = 61 := by rw [hk0]; rfl
                    clear hk0
                    simp only [tyF]
                    go_wp2_with (go_at_call 59; refine hcall.mono ?_; rintro e w3 ⟨rfl, hE3⟩)
                    go_ret
                    exact ⟨rfl, hE.trans hE3⟩)
                 | (change Calls Try.prog 64 _ _ _ at hcall
                    have hmeth := meth_text
                    have hty : tyF x.kind = 62 := by rw [hk0]; rfl
                    clear hk0
                    simp only [tyF]
                    go_wp2_with (go_at_call 64; refine hcall.mono ?_; rintro e w3 ⟨rfl, hE3⟩)
                    go_ret
                    exact ⟨rfl, hE.trans hE3⟩)
                 | (change Calls Try.prog 87 _ _ _ at hcall
                    have hmeth := meth_list
                    have hty : tyF x.kind = 76 := by rw [hk0]; rfl
                    clear hk0
                    simp only [tyF]
                    go_wp2_with (go_at_call 87; refine hcall.mono ?_; rintro e w3 ⟨rfl, hE3⟩)
                    go_ret
                    exact ⟨rfl, hE.trans hE3⟩)
                 | (change Calls Try.prog 77 _ _ _ at hcall
                    have hmeth := meth_node
                    have hty : tyF x.kind = 72 := by rw [hk0]; rfl
                    clear hk0
                    simp only [tyF]
                    go_wp2_with (go_at_call 77; refine hcall.mono ?_; rintro e w3 ⟨rfl, hE3⟩)
                    go_ret
                    exact ⟨rfl, hE.trans hE3⟩)
                 | (change Calls Try.prog 82 _ _ _ at hcall
                    have hmeth := meth_edge
                    have hty : tyF x.kind = 73 := by rw [hk0]; rfl
                    clear hk0
                    simp only [tyF]
                    go_wp2_with (go_at_call 82; refine hcall.mono ?_; rintro e w3 ⟨rfl, hE3⟩)
                    go_ret
                    exact ⟨rfl, hE.trans hE3⟩)
             )
end Go.Proofs.Ytkngihmfknmnaaa
