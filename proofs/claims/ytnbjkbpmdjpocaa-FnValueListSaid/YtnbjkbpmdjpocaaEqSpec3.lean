/- What spec.l1Equal answers of two lists of one length; of all. -/
import Derived.Test.YtnbjkbpmdjpocaaEqSpec2
import Derived.Deep.RegionHeld3
import Derived.Deep.DeepCutAuto
namespace Go.Proofs.Ytnbjkbpmdjpocaa
open Go.RowKit Go.Deep

set_option maxRecDepth 100000 in
set_option maxHeartbeats 8000000 in
theorem l1Equal_list (n : Int) (t : ByteArray) (l : List V) (n' : Int) (t' : ByteArray) (l' : List V) (ih : ∀ i (hi : i < l.length), SE l[i]) (a a' : Option Addr) (c c' lo lo' : Nat) (w : World)
    (hL : ListIn lo w l (.slice a l.length c)) (hL' : ListIn lo' w l' (.slice a' l'.length c')) (hlen : l.length = l'.length) :
    Calls Try.prog 25 #[.agg #[.int .i64 4, .int .i64 n, .string t, .slice a l.length c], .agg #[.int .i64 4, .int .i64 n', .string t', .slice a' l'.length c']] w fun e w' => e = .returned (flat (kO (eqVL l l' true)) (nO (eqVL l l' true))) ∧ Ext w w' := by
  have hm : l.length ≤ maxLen := by obtain ⟨_, _, _, _, _, _, _, _, _, h, _⟩ := hL; exact h
  have hm' : l'.length ≤ maxLen := by obtain ⟨_, _, _, _, _, _, _, _, _, h, _⟩ := hL'; exact h
  unfold maxLen at hm hm'
  have HLEN : Hid (l.length = l'.length) := hlen
  clear hlen
  have hl2 : ((l.length : Int) != (l'.length : Int)) = false := by have := HLEN.out; simp; omega
  have hB : Ext w (((w.alloc (.cells #[.int .i64 4, .int .i64 n, .string t, .slice a l.length c] 25)).alloc (.cells #[.int .i64 4, .int .i64 n', .string t', .slice a' l'.length c'] 25)).alloc (.cells #[.int .i64 0, .int .i64 0, .string ⟨#[]⟩, .slice none 0 0] 25)) := (((Ext.refl _).alloc _).alloc _).alloc _
  generalize hR : eqVL l l' true = R
  have HR : Hid (eqVL l l' true = R) := hR
  clear hR
  go_enter Try.func25, Try.ntmps25
  go_wp2
  generalize hW1 : ((w.alloc _).alloc _).alloc _ = W1 at hB ⊢
  have hbox : ∀ wr, Ext W1 wr → wr.cell? ⟨w.heap.size, 3, none⟩ = some (.slice a l.length c) ∧ wr.cell? ⟨w.heap.size + 1, 3, none⟩ = some (.slice a' l'.length c') ∧ NewBox w wr (w.heap.size + 2) := by
    intro wr h
    subst hW1
    exact box43 h
  clear hW1
  go_loopw [5, 6] (fun kn i wr => ∃ (k : Nat) (b : Bool), k ≤ l.length ∧ kn = .bool b ∧ i = .int .i64 k ∧ Ext W1 wr ∧ eqVL (l.drop k) (l'.drop k) b = R) (fun _ i _ => l.length - (intOf i).toNat)
  case atStart => exact ⟨0, true, Nat.zero_le _, rfl, rfl, Ext.refl _, HR.out⟩
  case round =>
    obtain ⟨k, kb, hk, rfl, rfl, hE, hrest⟩ := hrel
    have HS : Hid (eqVL (l.drop k) (l'.drop k) kb = R) := hrest
    clear hrest HR
    obtain ⟨p3, q3, hnb⟩ := hbox _ hE
    have hE0 := hB.trans hE
    by_cases hlt : k < l.length
    · have hlt2 : k < l'.length := by have := HLEN.out; omega
      obtain ⟨cap3, b, off, hsl, _, hblt, hcs⟩ := (hL.ext hE0).at (by omega)
      cases hsl
      obtain ⟨cap4, b2, off2, hsl, _, hblt2, hcs2⟩ := (hL'.ext hE0).at (by omega)
      cases hsl
      obtain ⟨d0, d1, d2, d3, g0, g1, g2, g3, hx⟩ := hcs k hlt
      obtain ⟨f0, f1, f2, f3, i0, i1, i2, i3, hy⟩ := hcs2 k hlt2
      clear hcs hcs2
      have hcall := fun W (hW : Ext wr W) => ih k hlt l'[k] lo lo' _ _ W (hx.ext hW) (hy.ext hW)
      clear ih hx hy
      have hz := hnb.box.lt
      have hz1 : w.heap.size + 1 < wr.heap.size := by omega
      have hz2 : w.heap.size < wr.heap.size := by omega
      have hS : ∀ W', Ext wr W' → Ext wr W' ∧ W'.cell? ⟨w.heap.size, 3, none⟩ = some (.slice (some ⟨b, off, none⟩) l.length c) ∧ W'.cell? ⟨w.heap.size + 1, 3, none⟩ = some (.slice (some ⟨b2, off2, none⟩) l'.length c') ∧
          W'.cell? ⟨b, off + k * 4, none⟩ = some d0 ∧ W'.cell? ⟨b, off + k * 4 + 1, none⟩ = some d1 ∧ W'.cell? ⟨b, off + k * 4 + 2, none⟩ = some d2 ∧ W'.cell? ⟨b, off + k * 4 + 3, none⟩ = some d3 ∧
          W'.cell? ⟨b2, off2 + k * 4, none⟩ = some f0 ∧ W'.cell? ⟨b2, off2 + k * 4 + 1, none⟩ = some f1 ∧ W'.cell? ⟨b2, off2 + k * 4 + 2, none⟩ = some f2 ∧ W'.cell? ⟨b2, off2 + k * 4 + 3, none⟩ = some f3 := by
        intro W' h
        refine ⟨h, ?_, ?_, ?_, ?_, ?_, ?_, ?_, ?_, ?_, ?_⟩
        all_goals
          rw [h.cell (by dsimp only; omega)]
          assumption
      obtain ⟨o, ho⟩ : ∃ o, eqV l[k] l'[k] = o := ⟨_, rfl⟩
      rw [ho] at hcall
      have HO : Hid (eqV l[k] l'[k] = o) := ho
      clear ho
      go_upto_region 11 with fail
      go_cut [7] (fun s wc => ∃ p7, s = .pointer (some ⟨p7, 0, none⟩) ∧ Ext wr wc ∧ BoxAt wc p7 (.int .i64 (kO o)) (.int .i64 (nO o)) (.string ⟨#[]⟩) (.slice none 0 0))
      case first =>
        clear hnb HO HS
        go_region_held3 (fun W' => Ext wr W' ∧ W'.cell? ⟨w.heap.size, 3, none⟩ = some (.slice (some ⟨b, off, none⟩) l.length c) ∧ W'.cell? ⟨w.heap.size + 1, 3, none⟩ = some (.slice (some ⟨b2, off2, none⟩) l'.length c') ∧
            W'.cell? ⟨b, off + k * 4, none⟩ = some d0 ∧ W'.cell? ⟨b, off + k * 4 + 1, none⟩ = some d1 ∧ W'.cell? ⟨b, off + k * 4 + 2, none⟩ = some d2 ∧ W'.cell? ⟨b, off + k * 4 + 3, none⟩ = some d3 ∧
            W'.cell? ⟨b2, off2 + k * 4, none⟩ = some f0 ∧ W'.cell? ⟨b2, off2 + k * 4 + 1, none⟩ = some f1 ∧ W'.cell? ⟨b2, off2 + k * 4 + 2, none⟩ = some f2 ∧ W'.cell? ⟨b2, off2 + k * 4 + 3, none⟩ = some f3)
          ((first
            | exact hS _ (Ext.refl _).drew
            | exact hS _ hXw
            | exact hS _ (hXw.alloc _)
            | exact hS _ (BoxAt.store hbn hXw _ _ _ _).1
            | exact hS _ (Ext.alloc (And.left (by assumption)) _)))
          ((first
            | (go_at_call 25
               refine (hcall _ ?hw).mono ?_
               case hw => exact And.left (by assumption)
               rintro e w' ⟨rfl, hE2⟩
               have hXw := Ext.trans (And.left (by assumption)) hE2
               unfold flat
               try (have hbn := NewBox.mk' (BW := wr) (Ext.refl _).drew hE2
                    change NewBox wr _ wr.heap.size at hbn
                    have hfz := hbn.frozen
                    have z0 := hbn.box.h0
                    have z1 := hbn.box.h1
                    have z2 := hbn.box.h2
                    have z3 := hbn.box.h3))))
        all_goals
          go_wp2_with fail
          go_meet
          first
            | exact ⟨_, rfl, hXw.alloc _, BoxAt.new _ _ _ _ _ _⟩
            | exact ⟨_, rfl, (BoxAt.store hbn hXw _ _ _ _).1, (BoxAt.store hbn hXw _ _ _ _).2⟩
      case rest =>
        obtain ⟨p7, rfl, hX2, ⟨hp7, y0, y1, y2, y3⟩⟩ := hcut
        clear hcall
        have hN : Hid (NewBox w wc (w.heap.size + 2)) := hnb.ext hX2
        have hfz := hN.out.frozen
        have z0 := hN.out.box.h0
        have z1 := hN.out.box.h1
        have z2 := hN.out.box.h2
        have z3 := hN.out.box.h3
        clear hnb
        have hEc := hE.trans hX2
        rcases o with _ | (_ | _)
        · have HN : Hid (eqVL (l.drop (k + 1)) (l'.drop (k + 1)) false = R) := by rw [← HS.out]; exact (eqVL_none kb hlt hlt2 HO.out).symm
          clear HO HS
          simp only [kO, nO] at y0 y1
          cases kb
          all_goals
            go_wp2
            go_roundw
            case rel => exact ⟨k + 1, false, by omega, rfl, by go_num, hEc, HN.out⟩
            case measure => simp [intOf]; omega
        · have HN : Hid (some false = R) := by rw [← HS.out]; exact (eqVL_false kb hlt hlt2 HO.out).symm
          clear HO HS
          simp only [kO, nO] at y0 y1
          go_wp2
          refine bodyPost_ret (v := flat 1 0) (by simp [flat, results, Try.results25, go_sem, z0, z1, z2, z3]) rfl ⟨by rw [← HN.out]; rfl, ?_⟩
          exact (BoxAt.store hN.out (hB.trans hEc) _ _ _ _).1
        · have HN : Hid (eqVL (l.drop (k + 1)) (l'.drop (k + 1)) kb = R) := by rw [← HS.out]; exact (eqVL_true kb hlt hlt2 HO.out).symm
          clear HO HS
          simp only [kO, nO] at y0 y1
          cases kb
          · go_wp2
            go_roundw
            case rel => exact ⟨k + 1, false, by omega, rfl, by go_num, hEc, HN.out⟩
            case measure => simp [intOf]; omega
          · go_wp2
            go_roundw
            case rel => exact ⟨k + 1, true, by omega, rfl, by go_num, hEc, HN.out⟩
            case measure => simp [intOf]; omega
    · have hN : Hid (NewBox w wr (w.heap.size + 2)) := hnb
      have hfz := hN.out.frozen
      have z0 := hN.out.box.h0
      have z1 := hN.out.box.h1
      have z2 := hN.out.box.h2
      have z3 := hN.out.box.h3
      have hlt0 := hN.out.box.lt
      have HE := eqVL_end k l l' kb (by omega)
      rw [HS.out] at HE
      have HF : Hid (R = if kb then some true else none) := HE
      clear HE HS hnb
      cases kb
      · go_wp2
        refine bodyPost_ret (v := flat 0 0) (by simp [flat, results, Try.results25, go_sem, z0, z1, z2, z3]) rfl ⟨by rw [HF.out]; rfl, ?_⟩
        exact (BoxAt.store hN.out hE0 _ _ _ _).1
      · go_wp2_with fail
        refine (l1Bool_any _ _).mono ?_
        rintro e w2 ⟨rfl, hX⟩
        have hN2 : Hid (NewBox w w2 (w.heap.size + 2)) := hN.out.ext hX
        clear hfz z0 z1 z2 z3
        have hfz := hN2.out.frozen
        have z0 := hN2.out.box.h0
        have z1 := hN2.out.box.h1
        have z2 := hN2.out.box.h2
        have z3 := hN2.out.box.h3
        unfold flat
        go_wp2
        refine bodyPost_ret (v := flat 1 1) (by simp [flat, b01, results, Try.results25, go_sem, z0, z1, z2, z3]) rfl ⟨by rw [HF.out]; rfl, ?_⟩
        exact (BoxAt.store hN2.out (hE0.trans hX) _ _ _ _).1

theorem l1Equal_any : ∀ x, SE x := by
  refine V.ind fun k n t l ih => ?_
  intro y lo lo' u v w hu hv
  have c3 := fun W (hW : Ext w W) => l1Same_any (.mk k n t l) y lo lo' u v W (hu.ext hW) (hv.ext hW)
  obtain ⟨k', n', t', l'⟩ := y
  obtain ⟨a, c, rfl, _, _, _, _, hL⟩ := hu.open
  obtain ⟨a', c', rfl, _, _, _, _, hL'⟩ := hv.open
  by_cases h0 : k = 0 ∨ k' = 0
  · have e : eqV (.mk k n t l) (.mk k' n' t' l') = none := by unfold eqV; rw [if_pos h0]
    rw [e]; exact l1Equal_null k n t l k' n' t' l' a a' c c' w h0
  by_cases h4 : ¬ k = 4 ∨ ¬ k' = 4
  · have e : eqV (.mk k n t l) (.mk k' n' t' l') = some (sameV (.mk k n t l) (.mk k' n' t' l')) := by unfold eqV; rw [if_neg h0, if_pos h4]
    rw [e]
    generalize sameV (.mk k n t l) (.mk k' n' t' l') = r at c3 ⊢
    refine (l1Equal_one k n t l k' n' t' l' a a' c c' w r (fun h => h0 (.inl h)) (fun h => h0 (.inr h)) h4 c3).mono ?_
    rintro e w' ⟨rfl, hE⟩
    exact ⟨by cases r <;> rfl, hE⟩
  obtain rfl : k = 4 := Classical.byContradiction fun h => h4 (.inl h)
  obtain rfl : k' = 4 := Classical.byContradiction fun h => h4 (.inr h)
  by_cases hlen : l.length = l'.length
  · have e : eqV (.mk 4 n t l) (.mk 4 n' t' l') = eqVL l l' true := by unfold eqV; rw [if_neg h0, if_neg h4, if_neg (fun h => h hlen)]
    rw [e]; exact l1Equal_list n t l n' t' l' ih a a' c c' lo lo' w hL hL' hlen
  · have e : eqV (.mk 4 n t l) (.mk 4 n' t' l') = some false := by unfold eqV; rw [if_neg h0, if_neg h4, if_pos hlen]
    rw [e]; exact l1Equal_long n t l n' t' l' a a' c c' w hlen
end Go.Proofs.Ytnbjkbpmdjpocaa
