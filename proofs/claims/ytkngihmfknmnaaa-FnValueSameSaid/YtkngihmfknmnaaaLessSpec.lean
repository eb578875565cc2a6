/- What spec.ValueLess answers. -/
import Derived.Test.YtkngihmfknmnaaaOrdSpec2
namespace Go.Proofs.Ytkngihmfknmnaaa
open Go.RowKit Go.Deep

/-- A value without a list and without a text. -/
def flat (k n : Int) : Value := .agg #[.int .i64 k, .int .i64 n, .string ⟨#[]⟩, .slice none 0 0]
def flatV (k n : Int) : V := .mk k n ⟨#[]⟩ []
theorem flat_in (lo : Nat) (w : World) (k n : Int) (hk : (Lit.int .i64 k).wf = true) (hn : (Lit.int .i64 n).wf = true) : ValIn lo w (flatV k n) (flat k n) :=
  .mk k n ⟨#[]⟩ [] none 0 0 0 (fun _ => undef) (fun _ => undef) (fun _ => undef) (fun _ => undef) hk hn (by unfold maxLen; exact Nat.zero_le _) (by unfold maxLen; simp) (fun h => by simp at h) (fun i hi => by simp at hi) (fun i hi => by simp at hi)

def b01 (b : Bool) : Int := if b then 1 else 0
def kO : Option Bool → Int
  | none => 0
  | some _ => 1
def nO : Option Bool → Int
  | some true => 1
  | _ => 0

def lessB (x y : V) : Bool := decide (x.kind = y.kind ∧ (x.kind = 2 ∨ x.kind = 3 ∨ x.kind = 1))
def lessK (x y : V) : Int := if okN 3 x = true ∧ okN 3 y = true ∧ lessB x y = true then 1 else 0
def lessN (x y : V) : Int := if okN 3 x = true ∧ okN 3 y = true ∧ lessB x y = true then b01 (decide (ordV x y < 0)) else 0

set_option maxRecDepth 100000 in
set_option maxHeartbeats 400000 in
theorem l1Bool_any (b : Bool) (w : World) : Calls Try.prog 32 #[.bool b] w fun e w' => e = .returned (flat 1 (b01 b)) ∧ Ext w w' := by
  cases b
  · go_enter Try.func32, Try.ntmps32
    go_wp2
    exact bodyPost_ret (v := flat 1 0) (by simp [flat, results, Try.results32, go_sem]) rfl ⟨rfl, (Ext.refl _).alloc _⟩
  · go_enter Try.func32, Try.ntmps32
    go_wp2
    exact bodyPost_ret (v := flat 1 1) (by simp [flat, results, Try.results32, go_sem]) rfl ⟨rfl, (Ext.refl _).alloc _⟩

theorem lessB_no {x y : V} (h : lessB x y = false) : ¬ x.kind = y.kind ∨ (¬ x.kind = 2 ∧ ¬ x.kind = 3 ∧ ¬ x.kind = 1) := by
  unfold lessB at h
  have := of_decide_eq_false h
  by_cases e : x.kind = y.kind
  · right
    refine ⟨fun h2 => this ⟨e, .inl h2⟩, fun h3 => this ⟨e, .inr (.inl h3)⟩, fun h1 => this ⟨e, .inr (.inr h1)⟩⟩
  · exact .inl e

set_option maxRecDepth 100000 in
set_option maxHeartbeats 2000000 in
theorem l1Less_any (x y : V) (lo lo' : Nat) (u v : Value) (w : World) (hu : ValIn lo w x u) (hv : ValIn lo' w y v) :
    Calls Try.prog 22 #[u, v] w fun e w' => e = .returned (flat (if lessB x y = true then 1 else 0) (if lessB x y = true then b01 (decide (ordV x y < 0)) else 0)) ∧ Ext w w' := by
  have c3 := fun W (hW : Ext w W) => l1Order_any x y lo lo' u v W (hu.ext hW) (hv.ext hW)
  cases hb : lessB x y
  · rw [if_neg (by simp), if_neg (by simp)]
    have hno := lessB_no hb
    clear hb c3
    obtain ⟨k, n, t, l⟩ := x
    obtain ⟨k', n', t', l'⟩ := y
    obtain ⟨a, c, rfl, _, _, _, _, _⟩ := hu.open
    obtain ⟨a', c', rfl, _, _, _, _, _⟩ := hv.open
    change ¬ k = k' ∨ (¬ k = 2 ∧ ¬ k = 3 ∧ ¬ k = 1) at hno
    clear hu hv
    by_cases hkk : k = k'
    · subst hkk
      obtain ⟨h2, h3, h1⟩ : ¬ k = 2 ∧ ¬ k = 3 ∧ ¬ k = 1 := by rcases hno with h | h; exact absurd rfl h; exact h
      have e1 : (k != 1) = true := by simp [h1]
      have e2 : (k != 2) = true := by simp [h2]
      have e3 : (k != 3) = true := by simp [h3]
      clear hno
      go_enter Try.func22, Try.ntmps22
      go_wp2
      exact bodyPost_ret (v := flat 0 0) (by simp [flat, results, Try.results22, go_sem]) rfl ⟨rfl, (((Ext.refl _).alloc _).alloc _).alloc _⟩
    · have e0 : (k != k') = true := by simp [hkk]
      clear hno
      go_enter Try.func22, Try.ntmps22
      go_wp2
      exact bodyPost_ret (v := flat 0 0) (by simp [flat, results, Try.results22, go_sem]) rfl ⟨rfl, (((Ext.refl _).alloc _).alloc _).alloc _⟩
  · rw [if_pos rfl, if_pos rfl]
    have hyes := of_decide_eq_true hb
    clear hb
    obtain ⟨k, n, t, l⟩ := x
    obtain ⟨k', n', t', l'⟩ := y
    obtain ⟨a, c, rfl, _, _, _, _, _⟩ := hu.open
    obtain ⟨a', c', rfl, _, _, _, _, _⟩ := hv.open
    change k = k' ∧ (k = 2 ∨ k = 3 ∨ k = 1) at hyes
    clear hu hv
    obtain ⟨rfl, hkind⟩ := hyes
    generalize ordV (.mk k n t l) (.mk k n' t' l') = r at c3 ⊢
    rcases hkind with rfl | rfl | rfl
    all_goals
      go_enter Try.func22, Try.ntmps22
      go_wp2_with fail
      refine (c3 _ ((((Ext.refl _).alloc _).alloc _).alloc _)).mono ?_
      rintro e w1 ⟨rfl, hE1⟩
      clear c3
      go_wp2_with fail
      refine (l1Bool_any _ _).mono ?_
      rintro e w2 ⟨rfl, hE2⟩
      have hX := hE1.trans hE2
      obtain ⟨hc, hf⟩ := bcell hX
      simp only [World.size_alloc] at hc hf
      have hE : Ext w w2 := ((((Ext.refl _).alloc _).alloc _).alloc _).trans hX
      unfold flat
      go_wp2
      refine bodyPost_ret (v := flat 1 (b01 (decide (r < 0)))) (by simp [flat, results, Try.results22, go_sem, hc]) rfl ⟨rfl, ?_⟩
      exact (((hE.setCell (by dsimp only; omega) _).setCell (by dsimp only; omega) _).setCell (by dsimp only; omega) _).setCell (by dsimp only; omega) _

set_option maxRecDepth 100000 in
set_option maxHeartbeats 2000000 in
theorem specValueLess_any (x y : V) (lo lo' : Nat) (u v : Value) (w : World) (hu : ValIn lo w x u) (hv : ValIn lo' w y v) :
    Calls Try.prog 11 #[u, v] w fun e w' => e = .returned (flat (lessK x y) (lessN x y)) ∧ Ext w w' := by
  have c1 := fun W (hW : Ext w W) => specValueOk_any x lo u W (hu.ext hW)
  have c2 := fun W (hW : Ext w W) => specValueOk_any y lo' v W (hv.ext hW)
  have c3 := fun W (hW : Ext w W) => l1Less_any x y lo lo' u v W (hu.ext hW) (hv.ext hW)
  obtain ⟨kk, nn, tt, aa, ll, cc, rfl⟩ := hu.shape
  obtain ⟨kk2, nn2, tt2, aa2, ll2, cc2, rfl⟩ := hv.shape
  have hB : Ext w (((w.alloc (.cells #[.int .i64 kk, .int .i64 nn, .string tt, .slice aa ll cc] 25)).alloc (.cells #[.int .i64 kk2, .int .i64 nn2, .string tt2, .slice aa2 ll2 cc2] 25)).alloc (.cells #[.int .i64 0, .int .i64 0, .string ⟨#[]⟩, .slice none 0 0] 25)) := (((Ext.refl _).alloc _).alloc _).alloc _
  clear hu hv
  cases h1 : okN 3 x
  · have hfin : Hid (lessK x y = 0 ∧ lessN x y = 0) := by show _ ∧ _; unfold lessK lessN; rw [h1]; simp
    rw [hfin.out.1, hfin.out.2]
    go_enter Try.func11, Try.ntmps11
    go_wp2_with fail
    refine (c1 _ hB).mono ?_
    rintro e w1 ⟨rfl, hE1⟩
    clear c1 c2 c3
    obtain ⟨hc, hf⟩ := bcell hE1
    simp only [World.size_alloc] at hc hf
    have hE := hB.trans hE1
    go_wp2
    refine bodyPost_ret (v := flat 0 0) (by simp [flat, results, Try.results11, go_sem, hc]) rfl ⟨rfl, ?_⟩
    exact (((hE.setCell (by dsimp only; omega) _).setCell (by dsimp only; omega) _).setCell (by dsimp only; omega) _).setCell (by dsimp only; omega) _
  · cases h2 : okN 3 y
    · have hfin : Hid (lessK x y = 0 ∧ lessN x y = 0) := by show _ ∧ _; unfold lessK lessN; rw [h2]; simp
      rw [hfin.out.1, hfin.out.2]
      go_enter Try.func11, Try.ntmps11
      go_wp2_with fail
      refine (c1 _ hB).mono ?_
      rintro e w1 ⟨rfl, hE1⟩
      obtain ⟨hc1, _⟩ := bcell hE1
      simp only [World.size_alloc] at hc1
      go_wp2_with fail
      refine (c2 _ (hB.trans hE1)).mono ?_
      rintro e w2 ⟨rfl, hE2⟩
      clear c1 c2 c3 hc1
      obtain ⟨hc, hf⟩ := bcell (hE1.trans hE2)
      simp only [World.size_alloc] at hc hf
      have hE := (hB.trans hE1).trans hE2
      go_wp2
      refine bodyPost_ret (v := flat 0 0) (by simp [flat, results, Try.results11, go_sem, hc]) rfl ⟨rfl, ?_⟩
      exact (((hE.setCell (by dsimp only; omega) _).setCell (by dsimp only; omega) _).setCell (by dsimp only; omega) _).setCell (by dsimp only; omega) _
    · have hfin : Hid (lessK x y = (if lessB x y = true then 1 else 0) ∧ lessN x y = (if lessB x y = true then b01 (decide (ordV x y < 0)) else 0)) := by show _ ∧ _; unfold lessK lessN; rw [h1, h2]; simp
      rw [hfin.out.1, hfin.out.2]
      generalize (if lessB x y = true then (1 : Int) else 0) = rk at c3 ⊢
      generalize (if lessB x y = true then b01 (decide (ordV x y < 0)) else 0) = rn at c3 ⊢
      go_enter Try.func11, Try.ntmps11
      go_wp2_with fail
      refine (c1 _ hB).mono ?_
      rintro e w1 ⟨rfl, hE1⟩
      obtain ⟨hc1, _⟩ := bcell hE1
      simp only [World.size_alloc] at hc1
      go_wp2_with fail
      refine (c2 _ (hB.trans hE1)).mono ?_
      rintro e w2 ⟨rfl, hE2⟩
      clear hc1
      obtain ⟨hc2, _⟩ := bcell (hE1.trans hE2)
      simp only [World.size_alloc] at hc2
      go_wp2_with fail
      refine (c3 _ ((hB.trans hE1).trans hE2)).mono ?_
      rintro e w3 ⟨rfl, hE3⟩
      clear c1 c2 c3 hc2
      obtain ⟨hc, hf⟩ := bcell ((hE1.trans hE2).trans hE3)
      simp only [World.size_alloc] at hc hf
      have hE := ((hB.trans hE1).trans hE2).trans hE3
      unfold flat
      go_wp2
      refine bodyPost_ret (v := flat rk rn) (by simp [flat, results, Try.results11, go_sem, hc]) rfl ⟨rfl, ?_⟩
      exact (((hE.setCell (by dsimp only; omega) _).setCell (by dsimp only; omega) _).setCell (by dsimp only; omega) _).setCell (by dsimp only; omega) _
end Go.Proofs.Ytkngihmfknmnaaa
