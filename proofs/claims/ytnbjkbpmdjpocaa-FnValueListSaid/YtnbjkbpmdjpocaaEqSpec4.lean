/- What spec.ValueEqual answers. -/
import Derived.Test.YtnbjkbpmdjpocaaEqSpec3
namespace Go.Proofs.Ytnbjkbpmdjpocaa
open Go.RowKit Go.Deep

def eqK (x y : V) : Int := if okN 3 x = true ∧ okN 3 y = true then kO (eqV x y) else 0
def eqN (x y : V) : Int := if okN 3 x = true ∧ okN 3 y = true then nO (eqV x y) else 0
theorem wf_kO (o : Option Bool) : (Lit.int .i64 (kO o)).wf = true := by rcases o with _ | (_ | _) <;> rfl
theorem wf_nO (o : Option Bool) : (Lit.int .i64 (nO o)).wf = true := by rcases o with _ | (_ | _) <;> rfl
theorem wf_eqK (x y : V) : (Lit.int .i64 (eqK x y)).wf = true := by unfold eqK; split; exact wf_kO _; rfl
theorem wf_eqN (x y : V) : (Lit.int .i64 (eqN x y)).wf = true := by unfold eqN; split; exact wf_nO _; rfl

set_option maxRecDepth 100000 in
set_option maxHeartbeats 2000000 in
theorem specValueEqual_any (x y : V) (lo lo' : Nat) (u v : Value) (w : World) (hu : ValIn lo w x u) (hv : ValIn lo' w y v) :
    Calls Try.prog 14 #[u, v] w fun e w' => e = .returned (flat (eqK x y) (eqN x y)) ∧ Ext w w' := by
  have c1 := fun W (hW : Ext w W) => specValueOk_any x lo u W (hu.ext hW)
  have c2 := fun W (hW : Ext w W) => specValueOk_any y lo' v W (hv.ext hW)
  have c3 := fun W (hW : Ext w W) => l1Equal_any x y lo lo' u v W (hu.ext hW) (hv.ext hW)
  obtain ⟨kk, nn, tt, aa, ll, cc, rfl⟩ := hu.shape
  obtain ⟨kk2, nn2, tt2, aa2, ll2, cc2, rfl⟩ := hv.shape
  have hB : Ext w (((w.alloc (.cells #[.int .i64 kk, .int .i64 nn, .string tt, .slice aa ll cc] 25)).alloc (.cells #[.int .i64 kk2, .int .i64 nn2, .string tt2, .slice aa2 ll2 cc2] 25)).alloc (.cells #[.int .i64 0, .int .i64 0, .string ⟨#[]⟩, .slice none 0 0] 25)) := (((Ext.refl _).alloc _).alloc _).alloc _
  clear hu hv
  cases h1 : okN 3 x
  · have hfin : Hid (eqK x y = 0 ∧ eqN x y = 0) := by show _ ∧ _; unfold eqK eqN; rw [h1]; simp
    rw [hfin.out.1, hfin.out.2]
    go_enter Try.func14, Try.ntmps14
    go_wp2_with fail
    refine (c1 _ hB).mono ?_
    rintro e w1 ⟨rfl, hE1⟩
    clear c1 c2 c3
    obtain ⟨hc, hf⟩ := bcell hE1
    simp only [World.size_alloc] at hc hf
    have hE := hB.trans hE1
    go_wp2
    refine bodyPost_ret (v := flat 0 0) (by simp [flat, results, Try.results14, go_sem, hc]) rfl ⟨rfl, ?_⟩
    exact (((hE.setCell (by dsimp only; omega) _).setCell (by dsimp only; omega) _).setCell (by dsimp only; omega) _).setCell (by dsimp only; omega) _
  · cases h2 : okN 3 y
    · have hfin : Hid (eqK x y = 0 ∧ eqN x y = 0) := by show _ ∧ _; unfold eqK eqN; rw [h2]; simp
      rw [hfin.out.1, hfin.out.2]
      go_enter Try.func14, Try.ntmps14
      go_wp2_with fail
      refine (c1 _ hB).mono ?_
      rintro e w1 ⟨rfl, hE1⟩
      obtain ⟨hc1, _⟩ := bcell hE1
      simp only [World.size_alloc] at hc1
      go_wp2_with fail
      refine (c2 _ (hB.trans hE1)).mono ?_
      rintro e w2 ⟨rfl, hE2⟩
      clear c1 c2 c3 hc1
      obtain ⟨hc, hf⟩ := bcell (hE1.trans hE2)
      simp only [World.size_alloc] at hc hf
      have hE := (hB.trans hE1).trans hE2
      go_wp2
      refine bodyPost_ret (v := flat 0 0) (by simp [flat, results, Try.results14, go_sem, hc]) rfl ⟨rfl, ?_⟩
      exact (((hE.setCell (by dsimp only; omega) _).setCell (by dsimp only; omega) _).setCell (by dsimp only; omega) _).setCell (by dsimp only; omega) _
    · have hfin : Hid (eqK x y = kO (eqV x y) ∧ eqN x y = nO (eqV x y)) := by show _ ∧ _; unfold eqK eqN; rw [h1, h2]; exact ⟨if_pos ⟨rfl, rfl⟩, if_pos ⟨rfl, rfl⟩⟩
      rw [hfin.out.1, hfin.out.2]
      generalize kO (eqV x y) = rk at c3 ⊢
      generalize nO (eqV x y) = rn at c3 ⊢
      go_enter Try.func14, Try.ntmps14
      go_wp2_with fail
      refine (c1 _ hB).mono ?_
      rintro e w1 ⟨rfl, hE1⟩
      obtain ⟨hc1, _⟩ := bcell hE1
      simp only [World.size_alloc] at hc1
      go_wp2_with fail
      refine (c2 _ (hB.trans hE1)).mono ?_
      rintro e w2 ⟨rfl, hE2⟩
      clear hc1
      obtain ⟨hc2, _⟩ := bcell (hE1.trans hE2)
      simp only [World.size_alloc] at hc2
      go_wp2_with fail
      refine (c3 _ ((hB.trans hE1).trans hE2)).mono ?_
      rintro e w3 ⟨rfl, hE3⟩
      clear c1 c2 c3 hc2
      obtain ⟨hc, hf⟩ := bcell ((hE1.trans hE2).trans hE3)
      simp only [World.size_alloc] at hc hf
      have hE := ((hB.trans hE1).trans hE2).trans hE3
      unfold flat
      go_wp2
      refine bodyPost_ret (v := flat rk rn) (by simp [flat, results, Try.results14, go_sem, hc]) rfl ⟨rfl, ?_⟩
      exact (((hE.setCell (by dsimp only; omega) _).setCell (by dsimp only; omega) _).setCell (by dsimp only; omega) _).setCell (by dsimp only; omega) _
end Go.Proofs.Ytnbjkbpmdjpocaa
