/- What impl.ValueEqual answers; that it is what the model answers. -/
import Derived.Test.YtnbjkbpmdjpocaaEqTerm
import Derived.Test.YtnbjkbpmdjpocaaEqSpec4
namespace Go.Proofs.Ytnbjkbpmdjpocaa
open Go.RowKit Go.Deep

/-- Kinds are kinds, and what a kind leaves empty is empty, all the way down. -/
inductive Neat : V → Prop
  | mk (k n : Int) (t : ByteArray) (l : List V) (hk : k = 0 ∨ k = 1 ∨ k = 2 ∨ k = 3 ∨ k = 4 ∨ k = 5 ∨ k = 6) (hr : restB (.mk k n t l) = true) (hl : k = 4 → ∀ i (hi : i < l.length), Neat l[i]) : Neat (.mk k n t l)

theorem neat_of : ∀ (d : Nat) (x : V), okI d x = true → Neat x
  | 0, x, h => by cases h
  | d + 1, .mk k n t l, h => by
    have hk : k = 0 ∨ k = 1 ∨ k = 2 ∨ k = 3 ∨ k = 4 ∨ k = 5 ∨ k = 6 := by
      have := nice_of (d + 1) _ h
      cases this with
      | mk _ _ _ _ hk _ _ => exact hk
    rw [okI_succ, Bool.and_eq_true] at h
    obtain ⟨h1, h2⟩ := h
    refine .mk k n t l hk h1 ?_
    intro e4 i hi
    subst e4
    simp [allI] at h2
    exact neat_of d l[i] (h2.2 _ (List.getElem_mem _))

theorem cmpI_zero {a b : Int} : cmpI a b = 0 ↔ a = b := by
  unfold cmpI
  split
  · constructor
    · intro h; cases h
    · intro h; omega
  · split
    · constructor
      · intro h; cases h
      · intro h; omega
    · constructor
      · intro _; omega
      · intro _; rfl
theorem bytesLess_irrefl : ∀ l, Op.bytesLess l l = false
  | [] => rfl
  | a :: x => by simp [Op.bytesLess, bytesLess_irrefl x]
theorem cmpT_zero {s t : ByteArray} : cmpT s t = 0 ↔ (s.toList == t.toList) = true := by
  unfold cmpT
  constructor
  · intro h
    split at h
    · cases h
    · split at h
      · cases h
      · rename_i h1 h2
        simp only [Bool.not_eq_true', Bool.not_eq_false, Bool.or_eq_true] at h2
        rcases h2 with h2 | h2
        · exact absurd h2 h1
        · exact h2
  · intro h
    have e : s.toList = t.toList := by simpa using h
    rw [e, bytesLess_irrefl]
    simp
theorem ordTL_length : ∀ (l l' : List V), ordTL l l' = 0 → l.length = l'.length
  | [], [], _ => rfl
  | [], _ :: _, h => by unfold ordTL at h; cases h
  | _ :: _, [], h => by unfold ordTL at h; cases h
  | a :: r, b :: r', h => by
    unfold ordTL at h
    split at h
    · simp [ordTL_length r r' h]
    · contradiction
theorem rankB_inj {k k' : Int} (hk : k = 0 ∨ k = 1 ∨ k = 2 ∨ k = 3 ∨ k = 4 ∨ k = 5 ∨ k = 6) (hk' : k' = 0 ∨ k' = 1 ∨ k' = 2 ∨ k' = 3 ∨ k' = 4 ∨ k' = 5 ∨ k' = 6) (h : rankB k = rankB k') : k = k' := by
  rcases hk with rfl | rfl | rfl | rfl | rfl | rfl | rfl <;> rcases hk' with rfl | rfl | rfl | rfl | rfl | rfl | rfl <;> first | rfl | (exact absurd h (by decide))

theorem same_nil {l l' : List V} (h : l.length = 0) (h' : l'.length = 0) : sameVL l l' = true := by
  obtain rfl := List.eq_nil_of_length_eq_zero h
  obtain rfl := List.eq_nil_of_length_eq_zero h'
  unfold sameVL; rfl

theorem ord_same (k n : Int) (t : ByteArray) (l : List V) (k' n' : Int) (t' : ByteArray) (l' : List V) (hx : Neat (.mk k n t l)) (hy : Neat (.mk k' n' t' l')) (h0 : ¬ k = 0) (h4 : ¬ (k = 4 ∧ k' = 4)) :
    decide (ordT (.mk k n t l) (.mk k' n' t' l') = 0) = sameV (.mk k n t l) (.mk k' n' t' l') := by
  cases hx with
  | mk _ _ _ _ hk hr _ =>
  cases hy with
  | mk _ _ _ _ hk' hr' _ =>
  rw [rest_mk, Bool.and_eq_true, Bool.and_eq_true] at hr hr'
  obtain ⟨⟨r1, r2⟩, r3⟩ := hr
  obtain ⟨⟨s1, s2⟩, s3⟩ := hr'
  rw [Bool.eq_iff_iff, decide_eq_true_iff]
  by_cases e : k = k'
  · subst e
    have n4 : ¬ k = 4 := fun h => h4 ⟨h, h⟩
    have l0 : l.length = 0 := by simpa [n4] using r3
    have l0' : l'.length = 0 := by simpa [n4] using s3
    have hl := same_nil l0 l0'
    unfold ordT sameV
    rw [if_neg (fun h => h rfl), if_neg h0, hl]
    by_cases e3 : k = 3
    · subst e3
      have m0 : n = 0 := by simpa using r1
      have m0' : n' = 0 := by simpa using s1
      subst m0 m0'
      rw [if_pos rfl, cmpT_zero]
      simp
    · rw [if_neg e3, if_neg n4, cmpI_zero]
      have t0 : t.toList = [] := by simpa [e3] using r2
      have t0' : t'.toList = [] := by simpa [e3] using s2
      rw [t0, t0']
      simp
  · unfold ordT sameV
    rw [if_pos e, cmpI_zero]
    constructor
    · intro h; exact absurd (rankB_inj hk hk' h) e
    · intro h; simp [e] at h

theorem eqTL_eq : ∀ (l l' : List V) (b : Bool), (∀ i (hi : i < l.length), ∀ y, Neat y → eqT l[i] y = eqV l[i] y) → (∀ i (hi : i < l'.length), Neat l'[i]) → eqTL l l' b = eqVL l l' b
  | [], l', b, _, _ => by unfold eqTL eqVL; rfl
  | _ :: _, [], b, _, _ => by unfold eqTL eqVL; rfl
  | a :: r, c :: r', b, h, h' => by
    have e := h 0 (by simp) c (by have := h' 0 (by simp); simpa using this)
    simp at e
    have ih := fun b => eqTL_eq r r' b (fun i hi y hy => by have := h (i + 1) (by simpa using hi) y hy; simpa using this) (fun i hi => by have := h' (i + 1) (by simpa using hi); simpa using this)
    unfold eqTL eqVL
    rw [e]
    generalize eqV a c = o
    rcases o with _ | (_ | _)
    · exact ih _
    · rfl
    · exact ih _

theorem eqT_eq : ∀ x, Neat x → ∀ y, Neat y → eqT x y = eqV x y := by
  refine V.ind fun k n t l ih => ?_
  intro hx y hy
  obtain ⟨k', n', t', l'⟩ := y
  by_cases h0 : k = 0
  · unfold eqT eqV; rw [if_pos h0, if_pos (.inl h0)]
  by_cases h0' : k' = 0
  · rw [eqT_none k n t l (.mk k' n' t' l') h0']; unfold eqV; rw [if_pos (.inr h0')]
  by_cases h4 : k = 4 ∧ k' = 4
  · obtain ⟨rfl, rfl⟩ := h4
    by_cases hlen : l.length = l'.length
    · rw [eqT_list _ _ _ _ _ _ hlen]
      unfold eqV
      rw [if_neg (by decide), if_neg (by decide), if_neg (fun h => h hlen)]
      cases hx with
      | mk _ _ _ _ _ _ hl =>
      cases hy with
      | mk _ _ _ _ _ _ hl' =>
      exact eqTL_eq l l' true (fun i hi y hy => ih i hi (hl rfl i hi) y hy) (hl' rfl)
    · rw [eqT_other 4 n t l (.mk 4 n' t' l') h0 h0' (fun h => hlen h.2.2)]
      unfold eqV
      rw [if_neg (by decide), if_neg (by decide), if_pos hlen]
      have : ¬ ordT (.mk 4 n t l) (.mk 4 n' t' l') = 0 := by
        have e : ordT (.mk 4 n t l) (.mk 4 n' t' l') = ordTL l l' := by unfold ordT; rfl
        rw [e]
        exact fun h => hlen (ordTL_length _ _ h)
      rw [decide_eq_false this]
  · rw [eqT_other k n t l (.mk k' n' t' l') h0 h0' (fun h => h4 ⟨h.1, h.2.1⟩), ord_same k n t l k' n' t' l' hx hy h0 h4]
    unfold eqV
    rw [if_neg (fun h => h.elim h0 h0'), if_pos (Classical.byContradiction fun h => h4 ⟨Classical.byContradiction fun h1 => h (.inl h1), Classical.byContradiction fun h1 => h (.inr h1)⟩)]

theorem vmeth_null (z : Value) (w : World) : (method 210 55 z "loop.example/ashlar/impl.value").run Try.prog w = .ok (75, z) w := by kernel_rfl
theorem vmeth_bool (z : Value) (w : World) : (method 210 43 z "loop.example/ashlar/impl.value").run Try.prog w = .ok (28, z) w := by kernel_rfl

set_option maxRecDepth 100000 in
set_option maxHeartbeats 400000 in
theorem nullValue_any (w : World) : Calls Try.prog 75 #[.agg #[]] w fun e w' => e = .returned (flat 0 0) ∧ Ext w w' := by
  go_enter Try.func75, Try.ntmps75
  go_wp2
  exact bodyPost_ret (v := flat 0 0) (by simp [flat, results, Try.results75, go_sem]) rfl ⟨rfl, ((Ext.refl _).alloc _).alloc _⟩

set_option maxRecDepth 100000 in
set_option maxHeartbeats 4000000 in
theorem implValueEqual_any (x y : V) (lo lo' : Nat) (u v : Value) (w : World) (hu : ValIn lo w x u) (hv : ValIn lo' w y v) :
    Calls Try.prog 13 #[u, v] w fun e w' => e = .returned (flat (eqK x y) (eqN x y)) ∧ Ext w w' := by
  have c1 := fun W (hW : Ext w W) => termOf_any x lo u W (hu.ext hW)
  have c2 := fun W (hW : Ext w W) => termOf_any y lo' v W (hv.ext hW)
  obtain ⟨kk, nn, tt, aa, ll, cc, rfl⟩ := hu.shape
  obtain ⟨kk2, nn2, tt2, aa2, ll2, cc2, rfl⟩ := hv.shape
  have hB : Ext w (((w.alloc (.cells #[.int .i64 kk, .int .i64 nn, .string tt, .slice aa ll cc] 25)).alloc (.cells #[.int .i64 kk2, .int .i64 nn2, .string tt2, .slice aa2 ll2 cc2] 25)).alloc (.cells #[.int .i64 0, .int .i64 0, .string ⟨#[]⟩, .slice none 0 0] 25)) := (((Ext.refl _).alloc _).alloc _).alloc _
  clear hu hv
  go_enter Try.func13, Try.ntmps13
  go_wp2_with fail
  refine (c1 _ hB).mono ?_
  rintro e w1 ⟨s, rfl, hF1, hT1, hE1⟩
  obtain ⟨hc1, _⟩ := bcell hE1
  simp only [World.size_alloc] at hc1
  clear c1
  have HT1 : Hid (okN 3 x = true → TermIn (fun _ => True) w1 x s) := fun h => (hT1 h).mono (fun _ _ _ => trivial)
  clear hT1
  rcases hF1 with rfl | ⟨ty1, z1, rfl⟩
  all_goals
    go_wp2_with fail
    refine (c2 _ (hB.trans hE1)).mono ?_
    rintro e w2 ⟨s2, rfl, hF2, hT2, hE2⟩
    have HT2 : Hid (okN 3 y = true → TermIn (fun _ => True) w2 y s2) := fun h => (hT2 h).mono (fun _ _ _ => trivial)
    clear c2 hT2 hc1
    have hE : Ext w w2 := (hB.trans hE1).trans hE2
    obtain ⟨hc, hf⟩ := bcell (hE1.trans hE2)
    simp only [World.size_alloc] at hc hf
    cases h1 : okN 3 x
    · have hfin : Hid (eqK x y = 0 ∧ eqN x y = 0) := by show _ ∧ _; unfold eqK eqN; rw [h1]; simp
      rcases hF2 with rfl | ⟨ty2, z2, rfl⟩
      all_goals
        go_wp2
        refine bodyPost_ret (v := flat 0 0) (by simp [flat, results, Try.results13, go_sem, hc]) rfl ⟨by rw [hfin.out.1, hfin.out.2], ?_⟩
        exact (((hE.setCell (by dsimp only; omega) _).setCell (by dsimp only; omega) _).setCell (by dsimp only; omega) _).setCell (by dsimp only; omega) _
    · cases h2 : okN 3 y
      · have hfin : Hid (eqK x y = 0 ∧ eqN x y = 0) := by show _ ∧ _; unfold eqK eqN; rw [h2]; simp
        rcases hF2 with rfl | ⟨ty2, z2, rfl⟩
        all_goals
          go_wp2
          refine bodyPost_ret (v := flat 0 0) (by simp [flat, results, Try.results13, go_sem, hc]) rfl ⟨by rw [hfin.out.1, hfin.out.2], ?_⟩
          exact (((hE.setCell (by dsimp only; omega) _).setCell (by dsimp only; omega) _).setCell (by dsimp only; omega) _).setCell (by dsimp only; omega) _
      · have t1 := (HT1.out h1).ext hE2
        have t2 := HT2.out h2
        have hfin : Hid (eqK x y = kO (eqT x y) ∧ eqN x y = nO (eqT x y)) := by
          show _ ∧ _
          unfold eqK eqN
          rw [h1, h2, if_pos ⟨rfl, rfl⟩, if_pos ⟨rfl, rfl⟩, eqT_eq x (neat_of 3 x (by rw [okI_eq]; exact h1)) y (neat_of 3 y (by rw [okI_eq]; exact h2))]
          exact ⟨rfl, rfl⟩
        obtain ⟨z, hz, hkind⟩ := t1.ty
        have hcall := equal_any x hkind y _ _ _ _ w2 t1 t2
        generalize eqT x y = R at hcall hfin
        obtain ⟨ty2, z2, rfl⟩ := t2.shape
        clear t1 t2 HT1 HT2 hF2 h1 h2
        have m1 := vmeth_null
        have m2 := vmeth_bool
        first
          | (cases hz; done)
          | (clear hz
             rcases R with _ | b
             · simp only [tO] at hcall
               go_wp2_with (first
                 | (go_at_call 24; refine hcall.mono ?_; rintro e w3 ⟨rfl, hE3⟩)
                 | (go_at_call 75; refine (nullValue_any _).mono ?_; rintro e w4 ⟨rfl, hE4⟩; clear hc hf; obtain ⟨hc, hf⟩ := bcell (((hE1.trans hE2).trans hE3).trans hE4); simp only [World.size_alloc] at hc hf; have hE7 := (hE.trans hE3).trans hE4; unfold flat))
               refine bodyPost_ret (v := flat 0 0) (by simp [flat, results, Try.results13, go_sem, hc]) rfl ⟨by rw [hfin.out.1, hfin.out.2]; rfl, ?_⟩
               exact (((hE7.setCell (by dsimp only; omega) _).setCell (by dsimp only; omega) _).setCell (by dsimp only; omega) _).setCell (by dsimp only; omega) _
             · simp only [tO] at hcall
               go_wp2_with (first
                 | (go_at_call 24; refine hcall.mono ?_; rintro e w3 ⟨rfl, hE3⟩)
                 | (go_at_call 28; refine (boolValue_any _ _).mono ?_; rintro e w4 ⟨rfl, hE4⟩; clear hc hf; obtain ⟨hc, hf⟩ := bcell (((hE1.trans hE2).trans hE3).trans hE4); simp only [World.size_alloc] at hc hf; have hE7 := (hE.trans hE3).trans hE4; unfold flat))
               refine bodyPost_ret (v := flat 1 (b01 b)) (by simp [flat, results, Try.results13, go_sem, hc]) rfl ⟨by rw [hfin.out.1, hfin.out.2]; cases b <;> rfl, ?_⟩
               exact (((hE7.setCell (by dsimp only; omega) _).setCell (by dsimp only; omega) _).setCell (by dsimp only; omega) _).setCell (by dsimp only; omega) _)
end Go.Proofs.Ytnbjkbpmdjpocaa
