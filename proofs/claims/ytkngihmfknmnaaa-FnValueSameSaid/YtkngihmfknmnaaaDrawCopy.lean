/- What spec.l1Copy answers: the same value, in new memory. -/
import Derived.Test.YtkngihmfknmnaaaDrawAny
namespace Go.Proofs.Ytkngihmfknmnaaa
open Go.RowKit Go.Deep

def CP (x : V) : Prop := ∀ (lo : Nat) (v : Value) (w : World), ValIn lo w x v → Small x →
  Calls Try.prog 17 #[v] w fun e w' => ∃ v', e = .returned v' ∧ ValS (fun b => w.heap.size ≤ b) w' x v' ∧ Ext w w'

theorem Ext.grown' {a b c : World} (h : Ext a b) {row : Option Nat} (e : b.grownBy c row) (hr : ∀ k, row = some k → a.heap.size ≤ k) : Ext a c :=
  Below.grown h e h.le (fun k hk => hr k hk)

set_option maxRecDepth 100000 in
set_option maxHeartbeats 2000000 in
theorem l1Copy_any : ∀ x, CP x := by
  refine V.ind ?_
  intro kind num text l ih lo v w hv hs
  obtain ⟨a, cap, rfl, wk, wn, wt, _, hL⟩ := hv.open
  have hl : l.length ≤ 1048576 := by cases hs with | mk _ _ _ _ h _ => exact h
  have hsm : ∀ i (hi : i < l.length), Small l[i] := by cases hs with | mk _ _ _ _ _ h => exact h
  clear hs hv
  have hcall := fun k (hk : k < l.length) v W (hx : ValIn lo W l[k] v) => ih k hk lo v W hx (hsm k hk)
  clear ih hsm
  have HC : Hid (∀ k (hk : k < l.length) v W, ValIn lo W l[k] v → Calls Try.prog 17 #[v] W fun e w' => ∃ v', e = .returned v' ∧ ValS (fun b => W.heap.size ≤ b) w' l[k] v' ∧ Ext W w') := hcall
  clear hcall
  have hP := FBox.new w (.int .i64 kind) (.int .i64 num) (.string text) (.slice a l.length cap) 25
  have hR := FBox.new (w.alloc (.cells #[.int .i64 kind, .int .i64 num, .string text, .slice a l.length cap] 25)) (.int .i64 0) (.int .i64 0) (.string ⟨#[]⟩) (.slice none 0 0) 25
  have hO := FBox.new ((w.alloc (.cells #[.int .i64 kind, .int .i64 num, .string text, .slice a l.length cap] 25)).alloc (.cells #[.int .i64 0, .int .i64 0, .string ⟨#[]⟩, .slice none 0 0] 25)) (.int .i64 kind) (.int .i64 num) (.string text) (.slice none 0 0) 25
  have hP2 := (hP.ext ((Ext.refl _).alloc (.cells #[.int .i64 0, .int .i64 0, .string ⟨#[]⟩, .slice none 0 0] 25))).ext ((Ext.refl _).alloc (.cells #[.int .i64 kind, .int .i64 num, .string text, .slice none 0 0] 25))
  have hR2 := hR.ext ((Ext.refl _).alloc (.cells #[.int .i64 kind, .int .i64 num, .string text, .slice none 0 0] 25))
  have hE : Ext w (((w.alloc (.cells #[.int .i64 kind, .int .i64 num, .string text, .slice a l.length cap] 25)).alloc (.cells #[.int .i64 0, .int .i64 0, .string ⟨#[]⟩, .slice none 0 0] 25)).alloc (.cells #[.int .i64 kind, .int .i64 num, .string text, .slice none 0 0] 25)) := (((Ext.refl _).alloc _).alloc _).alloc _
  clear hP hR
  simp only [World.size_alloc] at hO hR2
  go_enter Try.func17, Try.ntmps17
  go_wp2_with fail
  go_loopw [4] (fun iv wr => ∃ (k : Nat) (u : Value) (cs : List Value), iv = .int .i64 k ∧ k ≤ l.length ∧ RowS (w.heap.size + 1 + 1 + 1) wr (l.take k) u cs ∧ FBox wr w.heap.size (.int .i64 kind) (.int .i64 num) (.string text) (.slice a l.length cap) ∧ FBox wr (w.heap.size + 1) (.int .i64 0) (.int .i64 0) (.string ⟨#[]⟩) (.slice none 0 0) ∧ FBox wr (w.heap.size + 1 + 1) (.int .i64 kind) (.int .i64 num) (.string text) u ∧ Ext w wr) (fun iv _ => l.length - (intOf iv).toNat)
  case atStart => exact ⟨0, _, [], rfl, Nat.zero_le _, by rw [List.take_zero]; exact RowS.nil _ _, hP2, hR2, hO, hE⟩
  case round =>
    clear hP2 hR2 hO hE
    obtain ⟨k, u, cs, rfl, hk, hrow, hP, hR, hO, hE⟩ := hrel
    obtain ⟨⟨plt, p0, p1, p2, p3⟩, pf⟩ := id hP
    obtain ⟨⟨olt, o0, o1, o2, o3⟩, of⟩ := id hO
    by_cases hkl : k < l.length
    · obtain ⟨i0, hi, hz0, hz1, hz2⟩ := info_parts Try.infoV
      obtain ⟨cap2, b, off, hsl, _, hbl, hcs⟩ := (hL.ext hE).at (by omega)
      cases hsl
      obtain ⟨d0, d1, d2, d3, g0, g1, g2, g3, hx⟩ := hcs k hkl
      clear hcs
      obtain ⟨kk, nn, tt, aa, ll, cc, hsh⟩ := hx.shape
      simp only [Value.agg.injEq, Array.mk.injEq, List.cons.injEq] at hsh
      obtain ⟨rfl, rfl, rfl, rfl, _⟩ := hsh
      have hc := HC.out k hkl _ wr.drew (hx.ext (Ext.refl _).drew)
      have hrd : RowS (w.heap.size + 1 + 1 + 1) wr.drew (l.take k) u cs := hrow.ext (Ext.refl _).drew
      have htk : (l.take k).length = k := by rw [List.length_take]; omega
      obtain ⟨ua, ucap, hush⟩ := hrow.shape
      rw [htk] at hush
      subst hush
      go_wp2_with fail
      go_region_law
        (first
          | ((refine step_append_lies _ (by rfl) _ _ _ (by rfl) (w.heap.size + 1 + 1 + 1) 25 i0 _ 4 56 Try.underlying23 hi hz0 hz1 hz2 rfl (by omega) (.slice ua k ucap) k cs (by rfl) (hown3.alloc _)
                ⟨w3.heap.size, 0, none⟩ 1 1 [.int .i64 xk, .int .i64 xn, .string xt, .slice xa xl xc] (by rfl) (by rfl) (World.news_of_block (cs := #[.int .i64 xk, .int .i64 xn, .string xt, .slice xa xl xc]) (t := 25) (fr := (0, 0)) (heap_alloc_new w3 _)) (by simp [Value.oneCell'])
                (by omega) (by unfold maxLen; omega) (by omega) (by simp; omega) (w3.heap.size + 1) (by simp) ?_; intro g cap w4 hown4 hgrow hat hlt
              have hO4 := (hO3.ext ((Ext.refl _).alloc (.cells #[.int .i64 xk, .int .i64 xn, .string xt, .slice xa xl xc] 25))).grown hgrow (fun e2 => by have := (hown3.lt _ e2).1; omega)
              obtain ⟨⟨q4, q0, q1, q2, q3⟩, qf⟩ := id hO4))
          | (go_simp
             go_at_call 17
             refine hc.mono ?_
             rintro e w3 ⟨vv, rfl, hx3, hE3⟩
             obtain ⟨xk, xn, xt, xa, xl, xc, hsh⟩ := hx3.shape
             subst hsh
             have hrow3 := hrd.ext hE3
             have hown3 := hrow3.1
             rw [htk] at hown3
             have hO3 := (hO.ext (Ext.refl _).drew).ext hE3
             have hz3 : w.heap.size + 1 + 1 + 1 ≤ w3.heap.size := by have := hO3.box.lt; omega
             have g3 := hO3.box.h3
             have g3' := (hO3.ext ((Ext.refl _).alloc (.cells #[.int .i64 xk, .int .i64 xn, .string xt, .slice xa xl xc] 25))).box.h3))
      all_goals
        have hA : Ext w3 (w3.alloc (.cells #[.int .i64 xk, .int .i64 xn, .string xt, .slice xa xl xc] 25)) := (Ext.refl _).alloc _
        have hP4 := (((hP.ext (Ext.refl _).drew).ext hE3).ext hA).grown hgrow (fun e2 => by have := (hown3.lt _ e2).1; omega)
        have hR4 := (((hR.ext (Ext.refl _).drew).ext hE3).ext hA).grown hgrow (fun e2 => by have := (hown3.lt _ e2).1; omega)
        have hE4 : Ext w w4 := (((hE.drew).trans hE3).trans hA).grown' hgrow (fun k hk => by have := (hown3.lt k hk).1; omega)
        have hrow4 : RowS (w.heap.size + 1 + 1 + 1) w4 (l.take k ++ [l[k]]) (.slice (some ⟨g, 0, none⟩) (k + 1) cap) (cs ++ [.int .i64 xk, .int .i64 xn, .string xt, .slice xa xl xc]) := by
          refine (hrow3.ext hA).push ?_ (by rw [htk]; exact hown4) hgrow ?_
          · refine hx3.carry (by simp) (fun b hb _ => ⟨by have := hO.box.lt; simp at hb; omega, fun e2 => ?_⟩) (fun b _ hlt => Below.heap_alloc _ _ _ hlt)
            have := (hrd.1.lt b e2).2
            simp at this hb
            omega
          · rcases hat with e | e
            · exact .inl e.symm
            · right; subst e; simp [Value.ownBlock]
        rw [List.take_append_getElem] at hrow4
        clear hrow hrd hP hR hO hE hrow3 hown3 hO3 hx3 hE3 hgrow hat hown4 g3 g3' hA hc hx p0 p1 p2 p3 pf o0 o1 o2 o3 of
        go_wp2
        go_roundw
        case rel =>
          exact ⟨k + 1, _, _, by go_num, by omega, hrow4.carry (by simp) (fun b h1 _ => Below.heap_setCell _ _ _ _ (by dsimp only; omega)), hP4.far (by dsimp only; omega) _, hR4.far (by dsimp only; omega) _, hO4.set3 _, hE4.setCell (by dsimp only; omega) _⟩
        case measure => simp [intOf]; omega
    · have hkl' : k = l.length := by omega
      subst hkl'
      rw [List.take_length] at hrow
      obtain ⟨ua, ucap, hush⟩ := hrow.shape
      subst hush
      obtain ⟨⟨rlt, r0, r1, r2, r3⟩, rf⟩ := id hR
      go_wp2
      refine bodyPost_ret (v := .agg #[.int .i64 kind, .int .i64 num, .string text, .slice ua l.length ucap]) (by simp [results, Try.results17, go_sem, r0, r1, r2, r3]) rfl ?_
      have hvs := ValS.of_row (kind := kind) (num := num) (text := text) wk wn wt hl hrow
      refine ⟨_, rfl, hvs.carry (by simp) (fun b h _ => by omega) (fun b h _ => ?_), (((hE.setCell (by dsimp only; omega) _).setCell (by dsimp only; omega) _).setCell (by dsimp only; omega) _).setCell (by dsimp only; omega) _⟩
      rw [Below.heap_setCell _ _ _ _ (by dsimp only; omega), Below.heap_setCell _ _ _ _ (by dsimp only; omega), Below.heap_setCell _ _ _ _ (by dsimp only; omega), Below.heap_setCell _ _ _ _ (by dsimp only; omega)]
end Go.Proofs.Ytkngihmfknmnaaa
