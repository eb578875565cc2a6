/- What spec.l1Copy answers: the same value, in new memory of its own. -/
import Derived.Test.YtbhmblkappmfjaaGreatFb
import Derived.Test.YtbhmblkappmfjaaGreatDGrow
import Derived.Test.YtbhmblkappmfjaaGreatDa
import Derived.BigRegion
import Derived.Deep.RegionWith
import Derived.Deep.RegionLaw
import Derived.Test.YtbhmblkappmfjaaGreatTk
import Derived.Test.YtbhmblkappmfjaaGreatWithSpec
import Derived.Deep.RegionHeld3
namespace Go.Proofs.YtbhmblkappmfjaaGreat
open Go.RowKit Go.Deep

theorem Tryz.infoVc : (Tryz.prog.info? 73).map (fun i => (i.zero, i.size, i.bytes)) = some (some (.agg #[.int .i64 0, .int .i64 0, .string ⟨#[]⟩, .slice none 0 0]), 4, 56) := by kernel_rfl
def CPD (d3 : D) : Prop := Has d3 (.list 2) → SmallL d3 → ∀ (S : Nat → Prop) (x0 x1 : Int) (x2 : ByteArray) (c3 : Value) (w : World), DIn S w d3 c3 →
  Calls Tryz.prog 52 #[.agg #[.int .i64 x0, .int .i64 x1, .string x2, c3]] w fun e w' => ∃ u, e = .returned (.agg #[.int .i64 x0, .int .i64 x1, .string x2, u]) ∧ (DIn (New w.heap.size w'.heap.size) w' d3 u ∧ Own w' d3 (New w.heap.size w'.heap.size) u) ∧ Ext w w'
theorem GSt.far {w : World} {base : Nat} {T : TypeId} {n : Nat} {f : Nat → Nat → D} {k : Nat} {u : Value} {cs : List Value} (h : GSt w base T n f k u cs) {q : Addr} (hq : q.block < base) (v : Value) : GSt (w.setCell q v) base T n f k u cs := by
  obtain ⟨hr, P, hl, hd⟩ := h
  have hb : ∀ b, base ≤ b → (w.setCell q v).heap[b]? = w.heap[b]? := fun b hb => Below.heap_setCell _ _ _ _ (by omega)
  refine ⟨hr.kept (row := some q.block) ⟨rfl, rfl, rfl, by simp, fun b _ hne => Below.heap_setCell _ _ _ _ (fun e => hne (by rw [e]))⟩ ?_, P, fun i hi j hj => ?_, hd⟩
  · cases e : u.ownBlock with
    | none => exact .inl rfl
    | some y => exact .inr (fun e2 => by have := (hr.lt y e).1; cases e2; omega)
  · obtain ⟨c, h1, h2, h3, h4⟩ := hl i hi j hj
    exact ⟨c, h1, h2.carry (by simp) (fun b hb' _ => hb b (h4 b hb').1), h3.carry (by simp) (fun b hb' _ => hb b (h4 b hb').1), fun x hx => ⟨(h4 x hx).1, by simpa using (h4 x hx).2.1, (h4 x hx).2.2⟩⟩

set_option maxRecDepth 100000 in
set_option maxHeartbeats 4000000 in
theorem l1Copy_D : ∀ d3, CPD d3 := by
  intro d3
  induction d3 with
  | int _ => intro H; cases H
  | bool _ => intro H; cases H
  | str _ => intro H; cases H
  | list n0 len f ih =>
  intro H hs S x0 x1 x2 c3 w h3
  obtain ⟨len', f', hde, HRa⟩ := H.list
  cases hde
  change DIn S w (.list 4 len f) c3 at h3
  obtain ⟨a, cap, rfl, _⟩ := h3.list_eq
  obtain ⟨_, hl, hsm⟩ := hs
  have HC : Hid (∀ k, k < len → ∀ (S : Nat → Prop) (y0 y1 : Int) (y2 : ByteArray) (c : Value) (W : World), DIn S W (f k 3) c → Calls Tryz.prog 52 #[.agg #[.int .i64 y0, .int .i64 y1, .string y2, c]] W fun e w' => ∃ u, e = .returned (.agg #[.int .i64 y0, .int .i64 y1, .string y2, u]) ∧ (DIn (New W.heap.size w'.heap.size) w' (f k 3) u ∧ Own w' (f k 3) (New W.heap.size w'.heap.size) u) ∧ Ext W w') :=
    fun k hk S y0 y1 y2 c W hc => ih k 3 (HRa k hk 3 (by decide)) (hsm k hk 3 (by decide)) S y0 y1 y2 c W hc
  clear ih hsm H
  change Calls Tryz.prog 52 _ _ fun e w' => ∃ u, e = .returned (.agg #[.int .i64 x0, .int .i64 x1, .string x2, u]) ∧ (DIn (New w.heap.size w'.heap.size) w' (.list 4 len f) u ∧ Own w' (.list 4 len f) (New w.heap.size w'.heap.size) u) ∧ Ext w w'
  have hP := FBox.new w (.int .i64 x0) (.int .i64 x1) (.string x2) (.slice a len cap) 73
  have hR := FBox.new (w.alloc (.cells #[.int .i64 x0, .int .i64 x1, .string x2, .slice a len cap] 73)) (.int .i64 0) (.int .i64 0) (.string ⟨#[]⟩) (.slice none 0 0) 73
  have hO := FBox.new ((w.alloc (.cells #[.int .i64 x0, .int .i64 x1, .string x2, .slice a len cap] 73)).alloc (.cells #[.int .i64 0, .int .i64 0, .string ⟨#[]⟩, .slice none 0 0] 73)) (.int .i64 x0) (.int .i64 x1) (.string x2) (.slice none 0 0) 73
  have hP2 := (hP.ext ((Ext.refl _).alloc (.cells #[.int .i64 0, .int .i64 0, .string ⟨#[]⟩, .slice none 0 0] 73))).ext ((Ext.refl _).alloc (.cells #[.int .i64 x0, .int .i64 x1, .string x2, .slice none 0 0] 73))
  have hR2 := hR.ext ((Ext.refl _).alloc (.cells #[.int .i64 x0, .int .i64 x1, .string x2, .slice none 0 0] 73))
  have hE : Ext w (((w.alloc (.cells #[.int .i64 x0, .int .i64 x1, .string x2, .slice a len cap] 73)).alloc (.cells #[.int .i64 0, .int .i64 0, .string ⟨#[]⟩, .slice none 0 0] 73)).alloc (.cells #[.int .i64 x0, .int .i64 x1, .string x2, .slice none 0 0] 73)) := (((Ext.refl _).alloc _).alloc _).alloc _
  clear hP hR
  simp only [World.size_alloc] at hO hR2
  go_enter Tryz.func52, Tryz.ntmps52
  go_wp2_with fail
  go_loopw [4] (fun iv wr => ∃ (k : Nat) (u : Value) (cs : List Value), iv = .int .i64 k ∧ k ≤ len ∧ GSt wr (w.heap.size + 1 + 1 + 1) 73 4 f k u cs ∧ FBox wr w.heap.size (.int .i64 x0) (.int .i64 x1) (.string x2) (.slice a len cap) ∧ FBox wr (w.heap.size + 1) (.int .i64 0) (.int .i64 0) (.string ⟨#[]⟩) (.slice none 0 0) ∧ FBox wr (w.heap.size + 1 + 1) (.int .i64 x0) (.int .i64 x1) (.string x2) u ∧ Ext w wr) (fun iv _ => len - (intOf iv).toNat)
  case atStart => exact ⟨0, _, [], rfl, Nat.zero_le _, GSt.nil _ _ _ _ _, hP2, hR2, hO, hE⟩
  case round =>
    clear hP2 hR2 hO hE
    obtain ⟨k, u, cs, rfl, hk, hrow, hP, hR, hO, hE⟩ := hrel
    obtain ⟨⟨plt, p0, p1, p2, p3⟩, pf⟩ := id hP
    obtain ⟨⟨olt, o0, o1, o2, o3⟩, of⟩ := id hO
    obtain ⟨ua, ucap, rfl⟩ := hrow.shape
    by_cases hkl : k < len
    · obtain ⟨i0, hi, hz0, hz1, hz2⟩ := info_parts Tryz.infoVc
      obtain ⟨cap2, b, off, C, hsl, _, hbl, ec, hx⟩ := (h3.ext hE).at hkl
      cases hsl
      have HR := HRa k hkl
      obtain ⟨kk, hd0⟩ := (show Has (f k 0) .int from HR 0 (by decide)).int
      obtain ⟨nn, hd1⟩ := (show Has (f k 1) .int from HR 1 (by decide)).int
      obtain ⟨tt, hd2⟩ := (show Has (f k 2) .str from HR 2 (by decide)).str
      have H3 : Has (f k 3) (.list 2) := HR 3 (by decide)
      have k0 := hx 0 (by decide)
      have k1 := hx 1 (by decide)
      have k2 := hx 2 (by decide)
      have k3 := hx 3 (by decide)
      have g0 := ec 0 (by decide)
      have g1 := ec 1 (by decide)
      have g2 := ec 2 (by decide)
      have g3 := ec 3 (by decide)
      rw [hd0] at k0
      rw [hd1] at k1
      rw [hd2] at k2
      obtain ⟨y0, z0⟩ := k0.int_eq
      obtain ⟨y1, z1⟩ := k1.int_eq
      obtain ⟨y2, z2⟩ := k2.str_eq
      rw [y0] at g0
      rw [y1] at g1
      rw [y2] at g2
      simp only [Nat.add_zero] at g0
      have hc := HC.out k hkl S kk nn tt (C 3) wr.drew (k3.ext (Ext.refl _).drew)
      obtain ⟨aa, cc, ll, f3, hD3, hC3, _, _⟩ := list_shape H3 k3
      rw [hC3] at g3 hc
      clear hD3 hC3 ec hx k0 k1 k2 k3 y0 y1 y2
      have hrd : GSt wr.drew (w.heap.size + 1 + 1 + 1) 73 4 f k (.slice ua k ucap) cs := hrow.ext (Ext.refl _).drew
      go_wp2_with fail
      go_region_law
        (first
          | ((refine step_append_lies _ (by rfl) _ _ _ (by rfl) (w.heap.size + 1 + 1 + 1) 73 i0 _ 4 56 Tryz.underlying71 hi hz0 hz1 hz2 rfl (by omega) (.slice ua k ucap) k cs (by rfl) (hown3.alloc _)
                ⟨w3.heap.size, 0, none⟩ 1 1 [.int .i64 kk, .int .i64 nn, .string tt, .slice xa xl xc] (by rfl) (by rfl) (World.news_of_block (cs := #[.int .i64 kk, .int .i64 nn, .string tt, .slice xa xl xc]) (t := 73) (fr := (0, 0)) (heap_alloc_new w3 _)) (by simp [Value.oneCell'])
                (by omega) (by unfold maxLen; omega) (by omega) (by simp; omega) (w3.heap.size + 1) (by simp) ?_; intro g gcap w4 hown4 hgrow hat hlt
              have hO4 := (hO3.ext ((Ext.refl _).alloc (.cells #[.int .i64 kk, .int .i64 nn, .string tt, .slice xa xl xc] 73))).grown hgrow (fun e2 => by have := (hown3.lt _ e2).1; omega)
              obtain ⟨⟨q4, q0, q1, q2, q3⟩, qf⟩ := id hO4))
          | (go_simp
             go_at_call 52
             refine hc.mono ?_
             rintro e w3 ⟨vv, rfl, ⟨hDv, hOv⟩, hE3⟩
             obtain ⟨xa, xc, xl, fx, hDx, hCx, _, _⟩ := list_shape H3 hDv
             subst hCx
             clear hDx
             have hrow3 := hrd.ext hE3
             have hown3 := hrow3.row
             have hO3 := (hO.ext (Ext.refl _).drew).ext hE3
             have hz3 : w.heap.size + 1 + 1 + 1 ≤ w3.heap.size := by have := hO3.box.lt; omega
             have g3x := hO3.box.h3
             have g3' := (hO3.ext ((Ext.refl _).alloc (.cells #[.int .i64 kk, .int .i64 nn, .string tt, .slice xa xl xc] 73))).box.h3))
      all_goals
        have hA : Ext w3 (w3.alloc (.cells #[.int .i64 kk, .int .i64 nn, .string tt, .slice xa xl xc] 73)) := (Ext.refl _).alloc _
        have hP4 := (((hP.ext (Ext.refl _).drew).ext hE3).ext hA).grown hgrow (fun e2 => by have := (hown3.lt _ e2).1; omega)
        have hR4 := (((hR.ext (Ext.refl _).drew).ext hE3).ext hA).grown hgrow (fun e2 => by have := (hown3.lt _ e2).1; omega)
        have hE4 : Ext w w4 := Below.grown (((hE.drew).trans hE3).trans hA) hgrow (((hE.drew).trans hE3).trans hA).le (fun k hk => by have := (hown3.lt k hk).1; omega)
        have hrow4 : GSt w4 (w.heap.size + 1 + 1 + 1) 73 4 f (k + 1) (.slice (some ⟨g, 0, none⟩) (k + 1) gcap) (cs ++ [.int .i64 kk, .int .i64 nn, .string tt, .slice xa xl xc]) := by
          refine hrd.push (w1 := w3.alloc _) (hE3.trans hA) (by have := hO.box.lt; show _ ≤ wr.heap.size; omega) [.int .i64 kk, .int .i64 nn, .string tt, .slice xa xl xc] rfl (fun j => if j = 3 then New wr.drew.heap.size w3.heap.size else fun _ => False) (fun j hj => ?_) (fun j j' hj hj' hne x hx hx' => ?_) hown4 hgrow ?_
          · have hc4 : j = 0 ∨ j = 1 ∨ j = 2 ∨ j = 3 := by omega
            rcases hc4 with rfl | rfl | rfl | rfl
            · rw [hd0]; exact ⟨⟨rfl, z0⟩, trivial, fun x hx => absurd hx (by simp)⟩
            · rw [hd1]; exact ⟨⟨rfl, z1⟩, trivial, fun x hx => absurd hx (by simp)⟩
            · rw [hd2]; exact ⟨⟨rfl, z2⟩, trivial, fun x hx => absurd hx (by simp)⟩
            · exact ⟨hDv.ext hA, hOv.ext hA, fun x hx => ⟨hx.1, Nat.lt_of_lt_of_le hx.2 hA.le⟩⟩
          · by_cases h3' : j = 3
            · rw [if_neg (by omega)] at hx'; exact hx'
            · rw [if_neg h3'] at hx; exact hx
          · rcases hat with e | e
            · exact .inl e.symm
            · right; subst e; simp [Value.ownBlock]
        clear hrow hrd hP hR hO hE hrow3 hown3 hO3 hDv hOv hE3 hgrow hat hown4 g3x g3' hA hc p0 p1 p2 p3 pf o0 o1 o2 o3 of
        go_wp2
        go_roundw
        case rel =>
          exact ⟨k + 1, _, _, by go_num, by omega, hrow4.far (by dsimp only; omega) _, hP4.far (by dsimp only; omega) _, hR4.far (by dsimp only; omega) _, hO4.set3 _, hE4.setCell (by dsimp only; omega) _⟩
        case measure => simp [intOf]; omega
    · have hkl' : k = len := by omega
      subst hkl'
      obtain ⟨⟨rlt, r0, r1, r2, r3⟩, rf⟩ := id hR
      have rf0 := rf 0
      have rf1 := rf 1
      have rf2 := rf 2
      have rf3 := rf 3
      have hrow5 := (((hrow.far (q := ⟨w.heap.size + 1, 0, none⟩) (by dsimp only; omega) (.int .i64 x0)).far (q := ⟨w.heap.size + 1, 1, none⟩) (by dsimp only; omega) (.int .i64 x1)).far (q := ⟨w.heap.size + 1, 2, none⟩) (by dsimp only; omega) (.string x2)).far (q := ⟨w.heap.size + 1, 3, none⟩) (by dsimp only; omega) (.slice ua k ucap)
      have hend := hrow5.end (by unfold maxLen; omega)
      have hEf := (((hE.setCell (p := ⟨w.heap.size + 1, 0, none⟩) (by dsimp only; omega) (.int .i64 x0)).setCell (p := ⟨w.heap.size + 1, 1, none⟩) (by dsimp only; omega) (.int .i64 x1)).setCell (p := ⟨w.heap.size + 1, 2, none⟩) (by dsimp only; omega) (.string x2)).setCell (p := ⟨w.heap.size + 1, 3, none⟩) (by dsimp only; omega) (.slice ua k ucap)
      have HD : Hid _ := hend
      clear hend hrow5 hrow hP hR hO
      go_wp2
      refine bodyPost_ret (v := .agg #[.int .i64 x0, .int .i64 x1, .string x2, .slice ua k ucap]) (by simp [results, Tryz.results52, go_sem, r0, r1, r2, r3]) rfl ⟨_, rfl, ⟨HD.out.1.mono (fun x hx => ⟨by have := hx.1; omega, hx.2⟩), HD.out.2.mono (fun x hx => ⟨by have := hx.1; omega, hx.2⟩)⟩, hEf⟩
end Go.Proofs.YtbhmblkappmfjaaGreat

/- What spec.l2Ps answers: the same props, in new memory of their own. -/
namespace Go.Proofs.YtbhmblkappmfjaaGreat
open Go.RowKit Go.Deep

theorem Tryz.infoPc : (Tryz.prog.info? 75).map (fun i => (i.zero, i.size, i.bytes)) = some (some (.agg #[.string ⟨#[]⟩, .int .i64 0, .int .i64 0, .string ⟨#[]⟩, .slice none 0 0]), 5, 72) := by kernel_rfl
set_option maxRecDepth 100000 in
set_option maxHeartbeats 4000000 in
theorem l2Ps_any (d : D) (H : Has d (.list 3)) (hs : SmallL d) (S : Nat → Prop) (v : Value) (w : World) (hv : DIn S w d v) :
    Calls Tryz.prog 34 #[v] w fun e w' => ∃ a l c, e = .returned (.slice a l c) ∧ (DIn (New w.heap.size w'.heap.size) w' d (.slice a l c) ∧ Own w' d (New w.heap.size w'.heap.size) (.slice a l c)) ∧ Ext w w' := by
  obtain ⟨len, f, rfl, HRa⟩ := H.list
  change DIn S w (.list 5 len f) v at hv
  obtain ⟨_, hl, hsm⟩ := hs
  obtain ⟨a, cap, rfl, hm⟩ := hv.list_eq
  clear hm
  obtain ⟨i0, hi, hz0, hz1, hz2⟩ := info_parts Tryz.infoPc
  change Calls _ _ _ _ fun e w' => ∃ a l c, e = .returned (.slice a l c) ∧ (DIn (New w.heap.size w'.heap.size) w' (.list 5 len f) (.slice a l c) ∧ Own w' (.list 5 len f) (New w.heap.size w'.heap.size) (.slice a l c)) ∧ Ext w w'
  go_enter Tryz.func34, Tryz.ntmps34
  go_wp2
  have hG0 := GSt.made w w.heap.size 75 5 f (Nat.le_refl _)
  have hE0 : Ext w (w.alloc (.cells #[] 75)) := (Ext.refl _).alloc _
  go_loopw [3, 4] (fun u i wr => ∃ (k : Nat) (cs : List Value), k ≤ len ∧ i = .int .i64 k ∧ GSt wr w.heap.size 75 5 f k u cs ∧ Ext w wr) (fun _ i _ => len - (intOf i).toNat)
  case atStart => exact ⟨0, [], Nat.zero_le _, rfl, hG0, hE0⟩
  case round =>
    clear hG0 hE0
    obtain ⟨k, cs, hk, rfl, hG, hE⟩ := hrel
    obtain ⟨ua, ucap, rfl⟩ := hG.shape
    by_cases hlt : k < len
    · obtain ⟨cap2, b, off, C, hsl, _, _, ec, hx⟩ := hv.at hlt
      have hbl : b < w.heap.size := by assumption
      cases hsl
      have HR := HRa k hlt
      obtain ⟨x0, hd0⟩ := (show Has (f k 0) .str from HR 0 (by decide)).str
      obtain ⟨x1, hd1⟩ := (show Has (f k 1) .int from HR 1 (by decide)).int
      obtain ⟨x2, hd2⟩ := (show Has (f k 2) .int from HR 2 (by decide)).int
      obtain ⟨x3, hd3⟩ := (show Has (f k 3) .str from HR 3 (by decide)).str
      have H4 : Has (f k 4) (.list 2) := HR 4 (by decide)
      have k0 := hx 0 (by decide)
      have k1 := hx 1 (by decide)
      have k2 := hx 2 (by decide)
      have k3 := hx 3 (by decide)
      have k4 := hx 4 (by decide)
      have e0 := ec 0 (by decide)
      have e1 := ec 1 (by decide)
      have e2 := ec 2 (by decide)
      have e3 := ec 3 (by decide)
      have e4 := ec 4 (by decide)
      rw [hd0] at k0
      rw [hd1] at k1
      rw [hd2] at k2
      rw [hd3] at k3
      obtain ⟨y0, z0⟩ := k0.str_eq
      obtain ⟨y1, z1⟩ := k1.int_eq
      obtain ⟨y2, z2⟩ := k2.int_eq
      obtain ⟨y3, z3⟩ := k3.str_eq
      rw [y0] at e0
      rw [y1] at e1
      rw [y2] at e2
      rw [y3] at e3
      simp only [Nat.add_zero] at e0
      have hcall := fun (W : World) (hW : Ext w W) => l1Copy_D (f k 4) H4 (hsm k hlt 4 (by decide)) S x1 x2 x3 (C 4) W (k4.ext hW)
      obtain ⟨a4, cap4, l4, f4, hD4, hC4, _, _⟩ := list_shape H4 k4
      rw [hC4] at e4 hcall
      clear hD4 hC4 ec hx k0 k1 k2 k3 k4 y0 y1 y2 y3
      have HK : Hid (∀ W, Ext w W → W.cell? ⟨b, off + k * 5, none⟩ = some (.string x0) ∧ W.cell? ⟨b, off + k * 5 + 1, none⟩ = some (.int .i64 x1) ∧ W.cell? ⟨b, off + k * 5 + 2, none⟩ = some (.int .i64 x2) ∧ W.cell? ⟨b, off + k * 5 + 3, none⟩ = some (.string x3) ∧ W.cell? ⟨b, off + k * 5 + 4, none⟩ = some (.slice a4 l4 cap4)) := fun W hW => by
        rw [hW.cell hbl, hW.cell hbl, hW.cell hbl, hW.cell hbl, hW.cell hbl]; exact ⟨e0, e1, e2, e3, e4⟩
      clear e0 e1 e2 e3 e4
      have hGd := hG.ext (Ext.refl wr).drew
      have hle := hE.le
      go_wp2_with fail
      have hcur : Ext w wr.drew := hE.drew
      refine wp_region_held_drew (S := (fun W => W.cell? ⟨b, off + k * 5, none⟩ = some (.string x0) ∧ W.cell? ⟨b, off + k * 5 + 1, none⟩ = some (.int .i64 x1) ∧ W.cell? ⟨b, off + k * 5 + 2, none⟩ = some (.int .i64 x2) ∧ W.cell? ⟨b, off + k * 5 + 3, none⟩ = some (.string x3) ∧ W.cell? ⟨b, off + k * 5 + 4, none⟩ = some (.slice a4 l4 cap4))) (by kernel_rfl) (HK.out _ hcur) (fun hHeld => ?_)
      refine tkL 0 ⟨some 12, .move (.tmp 3), 32, _, #[], none⟩ ?_ hHeld ?yyA0 ?rrA0
      case yyA0 => (intro w hSw; (try dsimp only at hSw); go_simp; try with_reducible rfl)
      try simp only [Act.put, putA, putB, putC]
      refine tkL 1 ⟨some 13, .move (.tmp 0), 32, _, #[], none⟩ ?_ hHeld ?yyA1 ?rrA1
      case yyA1 => (intro w hSw; (try dsimp only at hSw); go_simp; try with_reducible rfl)
      try simp only [Act.put, putA, putB, putC]
      refine tkL 2 ⟨some 14, .move (.tmp 4), 3, _, #[], none⟩ ?_ hHeld ?yyA2 ?rrA2
      case yyA2 => (intro w hSw; (try dsimp only at hSw); go_simp; try with_reducible rfl)
      try simp only [Act.put, putA, putB, putC]
      refine tkL 3 ⟨some 15, .indexAddr 32 (.tmp 13) (.tmp 14), 0, _, #[⟨1, .data⟩, ⟨2, .data⟩], none⟩ ?_ hHeld ?yyA3 ?rrA3
      case yyA3 => (intro w hSw; (try dsimp only at hSw); go_simp; try with_reducible rfl)
      try simp only [Act.put, putA, putB, putC]
      refine tkL 4 ⟨some 16, .fieldAddr 75 (.tmp 15) 0, 0, _, #[⟨3, .data⟩], none⟩ ?_ hHeld ?yyA4 ?rrA4
      case yyA4 => (intro w hSw; (try dsimp only at hSw); go_simp; try with_reducible rfl)
      try simp only [Act.put, putA, putB, putC]
      refine tkL 5 ⟨some 17, .load 9 (.tmp 16), 9, _, #[⟨4, .data⟩], none⟩ ?_ hHeld ?yyA5 ?rrA5
      case yyA5 => (intro w hSw; (try dsimp only at hSw); go_simp; try with_reducible rfl)
      try simp only [Act.put, putA, putB, putC]
      refine tkL 6 ⟨some 18, .move (.tmp 0), 32, _, #[], none⟩ ?_ hHeld ?yyA6 ?rrA6
      case yyA6 => (intro w hSw; (try dsimp only at hSw); go_simp; try with_reducible rfl)
      try simp only [Act.put, putA, putB, putC]
      refine tkL 7 ⟨some 19, .move (.tmp 4), 3, _, #[], none⟩ ?_ hHeld ?yyA7 ?rrA7
      case yyA7 => (intro w hSw; (try dsimp only at hSw); go_simp; try with_reducible rfl)
      try simp only [Act.put, putA, putB, putC]
      refine tkL 8 ⟨some 20, .indexAddr 32 (.tmp 18) (.tmp 19), 0, _, #[⟨6, .data⟩, ⟨7, .data⟩], none⟩ ?_ hHeld ?yyA8 ?rrA8
      case yyA8 => (intro w hSw; (try dsimp only at hSw); go_simp; try with_reducible rfl)
      try simp only [Act.put, putA, putB, putC]
      refine tkL 9 ⟨some 21, .fieldAddr 75 (.tmp 20) 1, 0, _, #[⟨8, .data⟩], none⟩ ?_ hHeld ?yyA9 ?rrA9
      case yyA9 => (intro w hSw; (try dsimp only at hSw); go_simp; try with_reducible rfl)
      try simp only [Act.put, putA, putB, putC]
      refine tkL 10 ⟨some 22, .load 73 (.tmp 21), 73, _, #[⟨9, .data⟩], none⟩ ?_ hHeld ?yyA10 ?rrA10
      case yyA10 => (intro w hSw; (try dsimp only at hSw); go_simp; try with_reducible rfl)
      try simp only [Act.put, putA, putB, putC]
      refine wpAnyH_ready (rs := [11]) (by kernel_rfl) (by simp) ?_
      refine AllReadyH.cons (o := ⟨some 23, .call { callee := .value (.func 52), args := #[.tmp 22], argTypes := #[73] }, 73, _, #[⟨10, .data⟩], none⟩) rfl (fun K hK => ?_) (AllReadyH.nil)
      go_simp
      refine (hcall _ hcur).mono ?_
      rintro e w1 ⟨vv, rfl, ⟨hDv, hOv⟩, hE1⟩
      obtain ⟨xa, xc, xl, fx, hDx, hCx, _, _⟩ := list_shape H4 hDv
      subst hCx
      clear hDx
      replace hcur := hcur.trans hE1
      go_wp2_with fail
      refine hK.out _ _ (HK.out _ hcur) (fun hHeld => ?_)
      clear hK K
      try simp only [Act.put, putA, putB, putC]
      refine tkL 12 ⟨some 24, .build 75 #[(0, .tmp 17), (1, .tmp 23)], 75, _, #[⟨5, .data⟩, ⟨11, .data⟩], none⟩ ?_ hHeld ?yyA12 ?rrA12
      case yyA12 => (intro w hSw; (try dsimp only at hSw); go_simp; try with_reducible rfl)
      try simp only [Act.put, putA, putB, putC]
      refine wpAnyH_ready (rs := [13]) (by kernel_rfl) (by simp) ?_
      refine AllReadyH.cons (o := ⟨some 25, .buildSlice 32 1 #[(0, .tmp 24)], 32, _, #[⟨12, .data⟩], none⟩) rfl (fun K hK => ?_) (AllReadyH.nil)
      go_simp
      refine hK.out _ _ (HK.out _ (hcur.alloc _)) (fun hHeld => ?_)
      clear hK K
      try simp only [Act.put, putA, putB, putC]
      refine wpAnyH_ready (rs := [14]) (by kernel_rfl) (by simp) ?_
      refine AllReadyH.cons (o := ⟨some 26, .call { callee := .builtin .append, args := #[.tmp 12, .tmp 25], argTypes := #[32, 32] }, 32, _, #[⟨0, .data⟩, ⟨13, .data⟩, ⟨11, .chain⟩], none⟩) rfl (fun K hK => ?_) (AllReadyH.nil)
      have hG1 := hGd.ext hE1
      have hle1 := hE1.le
      refine step_append_lies _ (by rfl) _ _ _ (by rfl) w.heap.size 75 i0 _ 5 72 Tryz.underlying32 hi hz0 hz1 hz2 rfl (by omega) (.slice ua k ucap) k cs (by rfl) (hG1.row.alloc _) ⟨w1.heap.size, 0, none⟩ 1 1 [.string x0, .int .i64 x1, .int .i64 x2, .string x3, .slice xa xl xc] (by rfl) (by rfl) (World.news_of_block (cs := #[.string x0, .int .i64 x1, .int .i64 x2, .string x3, .slice xa xl xc]) (t := 75) (fr := (0, 0)) (heap_alloc_new w1 _)) (by simp [Value.oneCell']) (by omega) (by unfold maxLen; omega) (by omega) (by have := hcur.le; simp; omega) (w1.heap.size + 1) (by simp) ?_
      intro g gcap w4 hown4 hgrow hat hlt4
      have hA : Ext w1 (w1.alloc (.cells #[.string x0, .int .i64 x1, .int .i64 x2, .string x3, .slice xa xl xc] 75)) := (Ext.refl _).alloc _
      have hE4 : Ext w w4 := Below.grown (hcur.trans hA) hgrow (hcur.trans hA).le (fun j hj => (hG1.row.lt j hj).1)
      have hrow4 : GSt w4 w.heap.size 75 5 f (k + 1) (.slice (some ⟨g, 0, none⟩) (k + 1) gcap) (cs ++ [.string x0, .int .i64 x1, .int .i64 x2, .string x3, .slice xa xl xc]) := by
        refine hGd.push (w1 := w1.alloc _) (hE1.trans hA) hle [.string x0, .int .i64 x1, .int .i64 x2, .string x3, .slice xa xl xc] rfl (fun j => if j = 4 then New wr.drew.heap.size w1.heap.size else fun _ => False) (fun j hj => ?_) (fun j j' hj hj' hne x hx hx' => ?_) hown4 hgrow ?_
        · have hc4 : j = 0 ∨ j = 1 ∨ j = 2 ∨ j = 3 ∨ j = 4 := by omega
          rcases hc4 with rfl | rfl | rfl | rfl | rfl
          · rw [hd0]; exact ⟨⟨rfl, z0⟩, trivial, fun x hx => absurd hx (by simp)⟩
          · rw [hd1]; exact ⟨⟨rfl, z1⟩, trivial, fun x hx => absurd hx (by simp)⟩
          · rw [hd2]; exact ⟨⟨rfl, z2⟩, trivial, fun x hx => absurd hx (by simp)⟩
          · rw [hd3]; exact ⟨⟨rfl, z3⟩, trivial, fun x hx => absurd hx (by simp)⟩
          · exact ⟨hDv.ext hA, hOv.ext hA, fun x hx => ⟨hx.1, Nat.lt_of_lt_of_le hx.2 hA.le⟩⟩
        · by_cases h4' : j = 4
          · rw [if_neg (by omega)] at hx'; exact hx'
          · rw [if_neg h4'] at hx; exact hx
        · rcases hat with e | e
          · exact .inl e.symm
          · right; subst e; simp [Value.ownBlock]
      refine hK.out _ _ (HK.out _ hE4) (fun hHeld => ?_)
      clear hK K hDv hOv hcall
      try simp only [Act.put, putA, putB, putC]
      refine tkL 15 ⟨some 3, .assign (.tmp 26), 32, _, #[⟨14, .data⟩, ⟨14, .chain⟩, ⟨0, .phase⟩, ⟨1, .phase⟩, ⟨2, .phase⟩, ⟨3, .phase⟩, ⟨4, .phase⟩, ⟨5, .phase⟩, ⟨6, .phase⟩, ⟨7, .phase⟩, ⟨8, .phase⟩, ⟨9, .phase⟩, ⟨10, .phase⟩, ⟨11, .phase⟩, ⟨12, .phase⟩, ⟨13, .phase⟩, ⟨14, .phase⟩], none⟩ ?_ hHeld ?yyA15 ?rrA15
      case yyA15 => (intro w hSw; (try dsimp only at hSw); go_simp; try with_reducible rfl)
      try simp only [Act.put, putA, putB, putC]
      refine wpAnyH_done (by kernel_rfl) ?_ _
      go_wp2
      go_roundw
      case rel => exact ⟨k + 1, _, by omega, by go_num, hrow4, hE4⟩
      case measure => simp [intOf]; omega
    · have hkx : k = len := by omega
      subst hkx
      have hend : Hid _ := hG.end (by unfold maxLen; omega)
      go_wp2
      go_ret
      exact ⟨_, _, _, rfl, hend.out, hE⟩
end Go.Proofs.YtbhmblkappmfjaaGreat
