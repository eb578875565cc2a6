/- What spec.l11Props and spec.l11AnyProps draw: some props. -/
import Derived.Test.YtbhmblkappmfjaaGreatTk
import Derived.Test.YtbhmblkappmfjaaGreatDwx
import Derived.Test.YtbhmblkappmfjaaGreatDrawAny
namespace Go.Proofs.YtbhmblkappmfjaaGreat
open Go.RowKit Go.Deep

theorem Tryz.infoPd : (Tryz.prog.info? 75).map (fun i => (i.zero, i.size, i.bytes)) = some (some (.agg #[.string ⟨#[]⟩, .int .i64 0, .int .i64 0, .string ⟨#[]⟩, .slice none 0 0]), 5, 72) := by kernel_rfl
/-- A prop's five cells: a text, and a value's four. -/
def propF (s : ByteArray) (f : Nat → D) : Nat → D := fun j => if j = 0 then .str s else f (j - 1)
theorem propF_row {s : ByteArray} {f : Nat → D} (h : HasRow 2 f) : HasRow 3 (propF s f) := by
  intro j hj
  have hj' : j = 0 ∨ j = 1 ∨ j = 2 ∨ j = 3 ∨ j = 4 := by change j < 5 at hj; omega
  rcases hj' with rfl | rfl | rfl | rfl | rfl
  · exact rfl
  · exact h 0 (by decide)
  · exact h 1 (by decide)
  · exact h 2 (by decide)
  · exact h 3 (by decide)
theorem propF_in {S : Nat → Prop} {W : World} {s : ByteArray} {f : Nat → D} {c0 c1 c2 c3 : Value} (hs : s.size ≤ 1000) (hf : ∀ j, j < 4 → SmallL (f j)) (h0 : DIn S W (f 0) c0) (h1 : DIn S W (f 1) c1) (h2 : DIn S W (f 2) c2) (h3 : DIn S W (f 3) c3) :
    ∀ j, j < 5 → DIn S W (propF s f j) ([Value.string s, c0, c1, c2, c3].getD j undef) ∧ SmallL (propF s f j) := by
  intro j hj
  have hj' : j = 0 ∨ j = 1 ∨ j = 2 ∨ j = 3 ∨ j = 4 := by omega
  rcases hj' with rfl | rfl | rfl | rfl | rfl
  · exact ⟨⟨rfl, by unfold maxLen; omega⟩, trivial⟩
  · exact ⟨h0, hf 0 (by decide)⟩
  · exact ⟨h1, hf 1 (by decide)⟩
  · exact ⟨h2, hf 2 (by decide)⟩
  · exact ⟨h3, hf 3 (by decide)⟩
/-- What is drawn as a value, by its cells. -/
theorem ValS.four {S : Nat → Prop} {w : World} {x : V} {v : Value} (h : ValS S w x v) : ∃ (f : Nat → D) (k n : Int) (t : ByteArray) (a : Option Addr) (l c : Nat), v = .agg #[.int .i64 k, .int .i64 n, .string t, .slice a l c] ∧ HasRow 2 f ∧ (∀ j, j < 4 → SmallL (f j)) ∧ DIn S w (f 0) (.int .i64 k) ∧ DIn S w (f 1) (.int .i64 n) ∧ DIn S w (f 2) (.string t) ∧ DIn S w (f 3) (.slice a l c) := by
  obtain ⟨kk, nn, tt, aa, ll, cc, e⟩ := h.shape
  obtain ⟨f, h1, h2, c, e2, h3⟩ := h.data
  rw [e] at e2
  have e3 : #[Value.int .i64 kk, .int .i64 nn, .string tt, .slice aa ll cc] = #[c 0, c 1, c 2, c 3] := Value.agg.inj e2
  simp only [Array.mk.injEq, List.cons.injEq, and_true] at e3
  obtain ⟨e0, e1, e2, e3⟩ := e3
  exact ⟨f, kk, nn, tt, aa, ll, cc, e, h1, h2, by rw [e0]; exact h3 0 (by decide), by rw [e1]; exact h3 1 (by decide), by rw [e2]; exact h3 2 (by decide), by rw [e3]; exact h3 3 (by decide)⟩
theorem lies_loc {u : Value} {g H H' n cap : Nat} (h : u.ownBlock = some g ∨ g = H) (e : H' = H) : (Value.slice (some ⟨g, 0, none⟩) n cap).ownBlock = u.ownBlock ∨ (Value.slice (some ⟨g, 0, none⟩) n cap).ownBlock = some H' := by
  subst e
  rcases h with h | h
  · exact .inl h.symm
  · subst h; exact .inr rfl
theorem own_away {base base' : Nat} {w W : World} {T : TypeId} {n r k : Nat} {u : Value} {cs : List Value} {d : D} {v : Value} (h : WRow base w T n r k u cs) (hb : base ≤ base') (hw : w.heap.size ≤ base') (h2 : DIn (fun b => base' ≤ b) W d v) : DIn (fun b => base ≤ b ∧ u.ownBlock ≠ some b) W d v :=
  h2.mono (fun b hb2 => ⟨Nat.le_trans hb hb2, fun e => by have := (h.1.lt b e).2; omega⟩)

set_option maxRecDepth 100000 in
set_option maxHeartbeats 8000000 in
theorem l11Props_any (R p : Nat) (w : World) (h : RdAt w R p) (hp : p + 30 ≤ 1000000) :
    Calls Tryz.prog 37 #[.pointer (some ⟨R, 0, none⟩)] w fun e w' => ∃ u k cs p', e = .returned u ∧ WRow w.heap.size w' 75 5 3 k u cs ∧ k ≤ 3 ∧ RdAt w' R p' ∧ p' ≤ p + 27 ∧ Only R (R + 1) w w' := by
  obtain ⟨i0, hi, hz0, hz1, hz2⟩ := info_parts Tryz.infoPd
  have hRl := h.lt
  have hE1 : Ext w (w.alloc (.cells #[] 75)) := (Ext.refl _).alloc _
  have hE2 : Ext (w.alloc (.cells #[] 75)) ((w.alloc (.cells #[] 75)).alloc (.cells #[.string ⟨#[110]⟩, .string ⟨#[110, 97, 109, 101]⟩, .string ⟨#[120]⟩] 9)) := (Ext.refl _).alloc _
  have hO2 : Only R (R + 1) w ((w.alloc (.cells #[] 75)).alloc (.cells #[.string ⟨#[110]⟩, .string ⟨#[110, 97, 109, 101]⟩, .string ⟨#[120]⟩] 9)) := ((Only.refl _ _ _).alloc _).alloc _
  have hrow : WRow w.heap.size (w.alloc (.cells #[] 75)) 75 5 3 0 (.slice (some ⟨w.heap.size, 0, none⟩) 0 0) [] := WRow.empty (World.ownsRow_made w #[] 0 (Nat.le_refl _) (Nat.zero_le _) (by simp))
  have hrow2 := hrow.ext hE2
  have hR2 := h.ext (hE1.trans hE2)
  obtain ⟨nm, hnm⟩ : ∃ nm : Nat → ByteArray, nm = fun j => if j = 0 then ⟨#[110]⟩ else if j = 1 then ⟨#[110, 97, 109, 101]⟩ else ⟨#[120]⟩ := ⟨_, rfl⟩
  have hns : ∀ j, (nm j).size ≤ 1000 := fun j => by rw [hnm]; dsimp only; (repeat' split) <;> decide
  have hnc : ∀ j, j < 3 → ((w.alloc (.cells #[] 75)).alloc (.cells #[.string ⟨#[110]⟩, .string ⟨#[110, 97, 109, 101]⟩, .string ⟨#[120]⟩] 9)).cell? ⟨(w.alloc (.cells #[] 75)).heap.size, j, none⟩ = some (.string (nm j)) := by
    intro j hj
    have hj' : j = 0 ∨ j = 1 ∨ j = 2 := by omega
    rcases hj' with rfl | rfl | rfl <;> exact box_cell (Ext.refl _) _ _ (by rw [hnm]; rfl)
  have hzn : (w.alloc (.cells #[] 75)).heap.size = w.heap.size + 1 := by simp
  have hz2n : ((w.alloc (.cells #[] 75)).alloc (.cells #[.string ⟨#[110]⟩, .string ⟨#[110, 97, 109, 101]⟩, .string ⟨#[120]⟩] 9)).heap.size = w.heap.size + 2 := by simp
  rw [hzn] at hnc
  have hun : (Value.slice (some ⟨w.heap.size, 0, none⟩) 0 0).ownBlock ≠ some (w.heap.size + 1) := fun e => by have e2 : w.heap.size = w.heap.size + 1 := Option.some.inj e; omega
  clear hnm hrow hE1 hE2 h
  go_enter Tryz.func37, Tryz.ntmps37
  go_wp2_with fail
  clear hzn
  generalize hu0 : Value.slice (some ⟨w.heap.size, 0, none⟩) 0 0 = u0 at *
  clear hu0
  generalize (w.alloc (.cells #[] 75)).alloc (.cells #[.string ⟨#[110]⟩, .string ⟨#[110, 97, 109, 101]⟩, .string ⟨#[120]⟩] 9) = w2 at *
  obtain ⟨nb, hnb⟩ : ∃ nb, nb = w.heap.size + 1 := ⟨_, rfl⟩
  rw [← hnb] at hnc hun ⊢
  have hnb1 := Nat.le_of_eq hnb
  have hnb2 := Nat.le_of_eq hnb.symm
  clear hnb
  go_loopw [3, 5] (fun u i wr => ∃ (j k : Nat) (cs : List Value) (q : Nat), j ≤ 3 ∧ i = .int .i64 j ∧ WRow w.heap.size wr 75 5 3 k u cs ∧ k ≤ j ∧ RdAt wr R q ∧ q ≤ p + 9 * j ∧ Only R (R + 1) w wr ∧ ((∀ j, j < 3 → wr.cell? ⟨nb, j, none⟩ = some (.string (nm j))) ∧ u.ownBlock ≠ some nb ∧ nb < wr.heap.size)) (fun _ i _ => 3 - (intOf i).toNat)
  case atStart => exact ⟨0, 0, [], p, by omega, rfl, hrow2, by omega, hR2, by omega, hO2, hnc, hun, by omega⟩
  case round =>
    clear hrow2 hR2 hO2 hnc hun
    obtain ⟨j, k, cs, q, hj, rfl, hrow, hk, hR, hq, hO, hnc, hun, hnl⟩ := hrel
    obtain ⟨ua, ucap, rfl⟩ := hrow.shape
    have hzr := hO.size
    by_cases hlt : j < 3
    · go_wp2_with fail
      refine (pick_any R q 2 wr hR (by omega) (by omega) (by omega)).mono ?_
      rintro e w4 ⟨m, rfl, hm, hR4, hO4⟩
      have hrow4 := hrow.only hO4 (by omega)
      have hOw4 := hO.trans hO4
      have hnc4 : ∀ j, j < 3 → w4.cell? ⟨nb, j, none⟩ = some (.string (nm j)) := fun j hj => by rw [hO4.cell (show nb < wr.heap.size from hnl) (.inr (show R + 1 ≤ nb by omega))]; exact hnc j hj
      have hz4 := hO4.size
      clear hO4 hrow hO hnc hR
      cases hm0 : ((m : Int) == 0)
      · go_wp2
        go_roundw
        case rel => exact ⟨j + 1, k, cs, q + 1, by omega, by go_num, hrow4, by omega, hR4, by omega, hOw4, hnc4, hun, by omega⟩
        case measure => simp [intOf]; omega
      · have hN : Hid (∀ W, Only R (R + 1) w4 W → W.cell? ⟨nb, j, none⟩ = some (.string (nm j))) := fun W hW => by
          rw [hW.cell (show nb < w4.heap.size by omega) (.inr (show R + 1 ≤ nb by omega))]
          exact hnc4 j hlt
        have hss := hns j
        obtain ⟨s, hs⟩ : ∃ s, s = nm j := ⟨_, rfl⟩
        rw [← hs] at hN hss
        clear hs
        have hO0 : Only R (R + 1) w4 w4.drew := Only.of_ext (Ext.refl _).drew
        have hrow0 := hrow4.ext (Ext.refl _).drew
        have hR0 := hR4.ext (Ext.refl _).drew
        have hz0' : w4.drew.heap.size = w4.heap.size := rfl
        go_wp2_with fail
        refine wp_region_held_drew (S := (fun W => W.cell? ⟨nb, j, none⟩ = some (.string s))) (by kernel_rfl) (hN.out _ hO0) (fun hHeld => ?_)
        refine tkL 0 ⟨some 15, .move (.tmp 3), 32, _, #[], none⟩ ?_ hHeld ?yyA0 ?rrA0
        case yyA0 => (intro w hSw; (try dsimp only at hSw); go_simp; try with_reducible rfl)
        try simp only [Act.put, putA, putB, putC]
        refine tkL 1 ⟨some 16, .move (.tmp 4), 31, _, #[], none⟩ ?_ hHeld ?yyA1 ?rrA1
        case yyA1 => (intro w hSw; (try dsimp only at hSw); go_simp; try with_reducible rfl)
        try simp only [Act.put, putA, putB, putC]
        refine tkL 2 ⟨some 17, .move (.tmp 5), 3, _, #[], none⟩ ?_ hHeld ?yyA2 ?rrA2
        case yyA2 => (intro w hSw; (try dsimp only at hSw); go_simp; try with_reducible rfl)
        try simp only [Act.put, putA, putB, putC]
        refine tkL 3 ⟨some 18, .indexAddr 31 (.tmp 16) (.tmp 17), 0, _, #[⟨1, .data⟩, ⟨2, .data⟩], none⟩ ?_ hHeld ?yyA3 ?rrA3
        case yyA3 => (intro w hSw; (try dsimp only at hSw); go_simp; try with_reducible rfl)
        try simp only [Act.put, putA, putB, putC]
        refine tkL 4 ⟨some 19, .load 9 (.tmp 18), 9, _, #[⟨3, .data⟩], none⟩ ?_ hHeld ?yyA4 ?rrA4
        case yyA4 => (intro w hSw; (try dsimp only at hSw); go_simp; try with_reducible rfl)
        try simp only [Act.put, putA, putB, putC]
        refine tkL 5 ⟨some 20, .move (.tmp 0), 37, _, #[], none⟩ ?_ hHeld ?yyA5 ?rrA5
        case yyA5 => (intro w hSw; (try dsimp only at hSw); go_simp; try with_reducible rfl)
        try simp only [Act.put, putA, putB, putC]
        generalize w4.drew = w5 at *
        refine wpAnyH_ready (rs := [6]) (by kernel_rfl) (by simp) ?_
        refine AllReadyH.cons (o := ⟨some 21, .call { callee := .value (.func 42), args := #[.tmp 20, .const (.int .i64 2)], argTypes := #[37, 3] }, 73, _, #[⟨5, .data⟩], none⟩) rfl (fun K hK => ?_) (AllReadyH.nil)
        go_simp
        refine (plain2 R (q + 1) w5 hR0 (by omega)).mono ?_
        rintro e w6 ⟨x, vv, q', rfl, hx, hR6, ⟨hq6, _⟩, hO6⟩
        obtain ⟨f, xk, xn, xt, xa, xl, xc, rfl, hf1, hf2, g0, g1, g2, g3⟩ := hx.four
        have hO06 := hO0.trans hO6
        have hrow6 := hrow0.only hO6 (by omega)
        have hz6 := hO6.size
        go_wp2_with fail
        refine hK.out _ _ (hN.out _ hO06) (fun hHeld => ?_)
        clear hK K
        try simp only [Act.put, putA, putB, putC]
        refine tkL 7 ⟨some 22, .build 75 #[(0, .tmp 19), (1, .tmp 21)], 75, _, #[⟨4, .data⟩, ⟨6, .data⟩], none⟩ ?_ hHeld ?yyA7 ?rrA7
        case yyA7 => (intro w hSw; (try dsimp only at hSw); go_simp; try with_reducible rfl)
        try simp only [Act.put, putA, putB, putC]
        refine wpAnyH_ready (rs := [8]) (by kernel_rfl) (by simp) ?_
        refine AllReadyH.cons (o := ⟨some 23, .buildSlice 32 1 #[(0, .tmp 22)], 32, _, #[⟨7, .data⟩], none⟩) rfl (fun K hK => ?_) (AllReadyH.nil)
        go_simp
        refine hK.out _ _ (hN.out _ (hO06.alloc _)) (fun hHeld => ?_)
        clear hK K
        try simp only [Act.put, putA, putB, putC]
        refine wpAnyH_ready (rs := [9]) (by kernel_rfl) (by simp) ?_
        refine AllReadyH.cons (o := ⟨some 24, .call { callee := .builtin .append, args := #[.tmp 15, .tmp 23], argTypes := #[32, 32] }, 32, _, #[⟨0, .data⟩, ⟨8, .data⟩, ⟨6, .chain⟩], none⟩) rfl (fun K hK => ?_) (AllReadyH.nil)
        refine step_append_lies _ (by rfl) _ _ _ (by rfl) w.heap.size 75 i0 _ 5 72 Tryz.underlying32 hi hz0 hz1 hz2 rfl (by omega) (.slice ua k ucap) k cs (by rfl) (hrow6.1.alloc _) ⟨w6.heap.size, 0, none⟩ 1 1 [.string s, .int .i64 xk, .int .i64 xn, .string xt, .slice xa xl xc] (by rfl) (by rfl) (World.news_of_block (cs := #[.string s, .int .i64 xk, .int .i64 xn, .string xt, .slice xa xl xc]) (t := 75) (fr := (0, 0)) (heap_alloc_new w6 _)) (by simp [Value.oneCell']) (by omega) (by unfold maxLen; omega) (by omega) (by simp; omega) (w6.heap.size + 1) (by simp) ?_
        intro g gcap w7 hown7 hgrow7 hat7 hlt7
        obtain ⟨hrow7, hR7, hO7, hz7⟩ := WRow.add (.cells #[.string s, .int .i64 xk, .int .i64 xn, .string xt, .slice xa xl xc] 75) hrow6 hR6 ((hOw4.trans hO0).trans hO6) hRl (Nat.le_refl _) (propF_row (s := s) hf1) rfl (propF_in hss hf2 (own_away hrow0 (by omega) (Nat.le_refl _) g0) (own_away hrow0 (by omega) (Nat.le_refl _) g1) (own_away hrow0 (by omega) (Nat.le_refl _) g2) (own_away hrow0 (by omega) (Nat.le_refl _) g3)) hown7 hgrow7 (lies_loc hat7 (by simp))
        have hcc : ∀ j, j < 3 → w7.cell? ⟨nb, j, none⟩ = some (.string (nm j)) := fun j hj => by
          rw [World.cell?_of_block (hgrow7.block nb (by simp; omega) (fun e => hun e.symm)), Ext.cell ((Ext.refl w6).alloc _) (show nb < w6.heap.size by omega), hO06.cell (show nb < w4.heap.size by omega) (.inr (show R + 1 ≤ nb by omega))]
          exact hnc4 j hj
        have hun7 : (Value.slice (some ⟨g, 0, none⟩) (k + 1) gcap).ownBlock ≠ some nb := by
          rcases hat7 with e | e
          · rw [show (Value.slice (some ⟨g, 0, none⟩) (k + 1) gcap).ownBlock = some g from rfl, ← e]; exact hun
          · subst e; intro e2; have e3 : w6.heap.size + 1 = nb := Option.some.inj e2; omega
        have hret : Hid ((∀ W, Only R (R + 1) w4 W → W.cell? ⟨nb, j, none⟩ = some (.string s)) → w7.cell? ⟨nb, j, none⟩ = some (.string s)) := fun _ => by
          have h1 := hcc j hlt
          have h2 := hnc4 j hlt
          have h3 := hN.out _ (Only.refl _ _ _)
          rw [h1, ← h2, h3]
        refine hK.out _ _ (hret.out hN.out) (fun hHeld => ?_)
        clear hK K
        try simp only [Act.put, putA, putB, putC]
        refine tkL 10 ⟨some 3, .assign (.tmp 24), 32, _, #[⟨9, .data⟩, ⟨9, .chain⟩, ⟨0, .phase⟩, ⟨1, .phase⟩, ⟨2, .phase⟩, ⟨3, .phase⟩, ⟨4, .phase⟩, ⟨5, .phase⟩, ⟨6, .phase⟩, ⟨7, .phase⟩, ⟨8, .phase⟩, ⟨9, .phase⟩], none⟩ ?_ hHeld ?yyA10 ?rrA10
        case yyA10 => (intro w hSw; (try dsimp only at hSw); go_simp; try with_reducible rfl)
        try simp only [Act.put, putA, putB, putC]
        refine wpAnyH_done (by kernel_rfl) ?_ _
        clear hrow6 hrow0 hrow4 hR6 hR0 hR4 hO06 hO6 hO0 hOw4 hown7 hgrow7 hat7 hx g0 g1 g2 g3 hf1 hf2 hN hret hnc4
        go_wp2
        go_roundw
        case rel => exact ⟨j + 1, k + 1, _, q', by omega, by go_num, hrow7, by omega, hR7, by omega, hO7, hcc, hun7, by omega⟩
        case measure => simp [intOf]; omega
    · go_wp2
      go_ret
      exact ⟨_, _, _, _, rfl, hrow, by omega, hR, by omega, hO⟩
theorem WRow.pushN {base : Nat} {w w' : World} {T : TypeId} {n r k m : Nat} {u v' : Value} {cs us : List Value} {d : Nat → Nat → D} (h : WRow base w T n r k u cs) (hd : ∀ i, i < m → HasRow r (d i)) (hx : ∀ i, i < m → ∀ j, j < n → ∃ c, us[i * n + j]? = some c ∧ DIn (fun b => base ≤ b ∧ u.ownBlock ≠ some b) w (d i j) c ∧ SmallL (d i j))
    (hown : w'.ownsRow base T n v' (k + m) (cs ++ us)) (hg : w.grownBy w' u.ownBlock) (hat : v'.ownBlock = u.ownBlock ∨ v'.ownBlock = some w.heap.size) : WRow base w' T n r (k + m) v' (cs ++ us) := by
  obtain ⟨h1, f, h2, h3⟩ := h
  have hlen : cs.length = k * n := h1.1
  have key : ∀ (d : D) (c : Value), DIn (fun b => base ≤ b ∧ u.ownBlock ≠ some b) w d c → DIn (fun b => base ≤ b ∧ v'.ownBlock ≠ some b) w' d c := by
    intro d c hy
    refine hy.turn hg.size (fun b hb hlt => ⟨hb.1, ?_⟩) (fun b hb hlt => hg.block b hlt (fun e => hb.2 e.symm))
    rcases hat with e | e
    · rw [e]; exact hb.2
    · rw [e]; intro e2; cases e2; omega
  refine ⟨hown, fun i => if i < k then f i else d (i - k), fun i hi => ?_, fun i hi j hj => ?_⟩
  · dsimp only
    split
    · next h => exact h2 i h
    · exact hd _ (by omega)
  · by_cases hik : i < k
    · obtain ⟨c, h4, h5, h6⟩ := h3 i hik j hj
      have hlt : i * n + j < k * n := by
        have : (i + 1) * n ≤ k * n := Nat.mul_le_mul_right n (by omega)
        rw [Nat.add_mul] at this
        omega
      dsimp only
      rw [if_pos hik]
      exact ⟨c, by rw [List.getElem?_append_left (by omega)]; exact h4, key _ _ h5, h6⟩
    · obtain ⟨c, h4, h5, h6⟩ := hx (i - k) (by omega) j hj
      dsimp only
      rw [if_neg hik]
      refine ⟨c, ?_, key _ _ h5, h6⟩
      have hkn : k * n ≤ i * n := Nat.mul_le_mul_right n (by omega)
      rw [List.getElem?_append_right (by omega), show i * n + j - cs.length = (i - k) * n + j by rw [Nat.sub_mul]; omega]
      exact h4

set_option maxRecDepth 100000 in
set_option maxHeartbeats 8000000 in
theorem l11AnyProps_any (R p : Nat) (w : World) (h : RdAt w R p) (hp : p + 100 ≤ 1000000) :
    Calls Tryz.prog 21 #[.pointer (some ⟨R, 0, none⟩)] w fun e w' => ∃ u k cs p', e = .returned u ∧ WRow w.heap.size w' 75 5 3 k u cs ∧ k ≤ 5 ∧ RdAt w' R p' ∧ p' ≤ p + 90 ∧ Only R (R + 1) w w' := by
  obtain ⟨i0, hi, hz0, hz1, hz2⟩ := info_parts Tryz.infoPd
  have hRl := h.lt
  go_enter Tryz.func21, Tryz.ntmps21
  go_wp2_with fail
  refine (l11Props_any R p w h (by omega)).mono ?_
  rintro e w1 ⟨u1, k, cs1, p1, rfl, hrow1, hk1, hR1, hp1, hO1⟩
  go_wp2_with fail
  refine (pick_any R p1 14 w1 hR1 (by omega) (by omega) (by omega)).mono ?_
  rintro e w2 ⟨m, rfl, hm, hR2, hO2⟩
  have hrow2 := hrow1.only hO2 (by omega)
  have hOw2 := hO1.trans hO2
  have hz1' := hO1.size
  have hz2' := hO2.size
  clear hrow1 hR1 hO1 hO2
  cases hm0 : ((m : Int) == 0)
  · cases hm1 : ((m : Int) == 1)
    · go_wp2
      go_ret
      exact ⟨_, _, _, _, rfl, hrow2, by omega, hR2, by omega, hOw2⟩
    · go_wp2_with fail
      refine (plain1 R (p1 + 1) w2 hR2 (by omega)).mono ?_
      rintro e w3 ⟨x, vv, q3, rfl, hx, hR3, ⟨hq3, _⟩, hO3⟩
      obtain ⟨f, xk, xn, xt, xa, xl, xc, rfl, hf1, hf2, g0, g1, g2, g3⟩ := hx.four
      have hrow3 := hrow2.only hO3 (by omega)
      have hOw3 := hOw2.trans hO3
      have hz3 := hO3.size
      have a0 := own_away hrow2 (by omega) (Nat.le_refl _) g0
      have a1 := own_away hrow2 (by omega) (Nat.le_refl _) g1
      have a2 := own_away hrow2 (by omega) (Nat.le_refl _) g2
      have a3 := own_away hrow2 (by omega) (Nat.le_refl _) g3
      have hub : ∀ b, w.heap.size ≤ b ∧ u1.ownBlock ≠ some b → b < R ∨ R + 1 ≤ b := fun b hb => .inr (by omega)
      clear hx hO3 hOw2 hR2 g0 g1 g2 g3
      go_wp2_with fail
      refine (plain1 R q3 w3 hR3 (by omega)).mono ?_
      rintro e w4 ⟨y, vv, q4, rfl, hy, hR4, ⟨hq4, _⟩, hO4⟩
      obtain ⟨f', yk, yn, yt, ya, yl, yc, rfl, hf1', hf2', g0, g1, g2, g3⟩ := hy.four
      have hrow4 := hrow3.only hO4 (by omega)
      have hOw4 := hOw3.trans hO4
      have hz4 := hO4.size
      have b0 := own_away hrow3 (by omega) (Nat.le_refl _) g0
      have b1 := own_away hrow3 (by omega) (Nat.le_refl _) g1
      have b2 := own_away hrow3 (by omega) (Nat.le_refl _) g2
      have b3 := own_away hrow3 (by omega) (Nat.le_refl _) g3
      replace a0 := a0.onlyR hO4 hub
      replace a1 := a1.onlyR hO4 hub
      replace a2 := a2.onlyR hO4 hub
      replace a3 := a3.onlyR hO4 hub
      have hd1 := propF_in (s := ⟨#[121]⟩) (by decide) hf2 a0 a1 a2 a3
      have hd2 := propF_in (s := ⟨#[122]⟩) (by decide) hf2' b0 b1 b2 b3
      clear hy hO4 hOw3 hR3 g0 g1 g2 g3 hrow2 hrow3 a0 a1 a2 a3 b0 b1 b2 b3
      have hA : Ext w4 (w4.alloc (.cells #[.string ⟨#[121]⟩, .int .i64 xk, .int .i64 xn, .string xt, .slice xa xl xc, .string ⟨#[122]⟩, .int .i64 yk, .int .i64 yn, .string yt, .slice ya yl yc] 75)) := (Ext.refl _).alloc _
      have hOA : Only R (R + 1) w (w4.alloc (.cells #[.string ⟨#[121]⟩, .int .i64 xk, .int .i64 xn, .string xt, .slice xa xl xc, .string ⟨#[122]⟩, .int .i64 yk, .int .i64 yn, .string yt, .slice ya yl yc] 75)) := hOw4.alloc _
      have hnews := World.news_of_block (cs := #[.string ⟨#[121]⟩, .int .i64 xk, .int .i64 xn, .string xt, .slice xa xl xc, .string ⟨#[122]⟩, .int .i64 yk, .int .i64 yn, .string yt, .slice ya yl yc]) (t := 75) (fr := (0, 0)) (heap_alloc_new w4 _)
      go_wp2_with (first
        | (at_builtin; refine wpList_append_own_at _ rfl _ _ 32 rfl w.heap.size 75 i0 _ 5 72 Tryz.underlying32 hi hz0 hz1 hz2 rfl (by decide) _ _ _ rfl (hrow4.1.alloc _) ⟨_, 0, none⟩ 2 2 [.string ⟨#[121]⟩, .int .i64 xk, .int .i64 xn, .string xt, .slice xa xl xc, .string ⟨#[122]⟩, .int .i64 yk, .int .i64 yn, .string yt, .slice ya yl yc] rfl rfl hnews (by simp [Value.oneCell']) (by unfold maxLen; omega) (by omega) (by simp; omega) ?_; intro v5 w5 hown5 hgrow5 hnil5 hloc5)
        | fail)
      have hlt : ∀ z, u1.ownBlock = some z → w.heap.size ≤ z := fun z hz => (hrow4.1.lt z hz).1
      have hrow5 := (hrow4.ext hA).pushN (m := 2) (d := fun i => if i = 0 then propF ⟨#[121]⟩ f else propF ⟨#[122]⟩ f') (fun i hi => by
        have hi' : i = 0 ∨ i = 1 := by omega
        rcases hi' with rfl | rfl
        · exact propF_row hf1
        · exact propF_row hf1') (fun i hi j hj => by
        have hi' : i = 0 ∨ i = 1 := by omega
        have hj' : j = 0 ∨ j = 1 ∨ j = 2 ∨ j = 3 ∨ j = 4 := by omega
        rcases hi' with rfl | rfl
        · rcases hj' with rfl | rfl | rfl | rfl | rfl
          · exact ⟨_, rfl, ((hd1 0 (by decide)).1).ext hA, (hd1 0 (by decide)).2⟩
          · exact ⟨_, rfl, ((hd1 1 (by decide)).1).ext hA, (hd1 1 (by decide)).2⟩
          · exact ⟨_, rfl, ((hd1 2 (by decide)).1).ext hA, (hd1 2 (by decide)).2⟩
          · exact ⟨_, rfl, ((hd1 3 (by decide)).1).ext hA, (hd1 3 (by decide)).2⟩
          · exact ⟨_, rfl, ((hd1 4 (by decide)).1).ext hA, (hd1 4 (by decide)).2⟩
        · rcases hj' with rfl | rfl | rfl | rfl | rfl
          · exact ⟨_, rfl, ((hd2 0 (by decide)).1).ext hA, (hd2 0 (by decide)).2⟩
          · exact ⟨_, rfl, ((hd2 1 (by decide)).1).ext hA, (hd2 1 (by decide)).2⟩
          · exact ⟨_, rfl, ((hd2 2 (by decide)).1).ext hA, (hd2 2 (by decide)).2⟩
          · exact ⟨_, rfl, ((hd2 3 (by decide)).1).ext hA, (hd2 3 (by decide)).2⟩
          · exact ⟨_, rfl, ((hd2 4 (by decide)).1).ext hA, (hd2 4 (by decide)).2⟩) hown5 hgrow5 hloc5
      have hR5 := (hR4.ext hA).grown hgrow5 (fun z hz => by have := hlt z hz; omega)
      have hO5 := hOA.grown hgrow5 (fun z hz => hlt z hz)
      go_ret
      exact ⟨_, _, _, _, rfl, hrow5, by omega, hR5, by omega, hO5⟩
  · have hmem : ∀ s : ByteArray, s ∈ [⟨#[]⟩, ⟨#[97]⟩, ⟨#[122]⟩, (⟨#[120]⟩ : ByteArray)] → s.size ≤ 1000 := by
      intro s hs
      simp only [List.mem_cons, List.not_mem_nil, or_false] at hs
      rcases hs with rfl | rfl | rfl | rfl <;> decide
    go_wp2_with fail
    refine (ofList_any R (p1 + 1) 4 [⟨#[]⟩, ⟨#[97]⟩, ⟨#[122]⟩, ⟨#[120]⟩] #[.string ⟨#[]⟩, .string ⟨#[97]⟩, .string ⟨#[122]⟩, .string ⟨#[120]⟩] 9 w2 hR2 (by omega) rfl rfl (by omega) (by omega)).mono ?_
    rintro e w4 ⟨s, hs, rfl, hR4, hO4⟩
    have hss := hmem s hs
    have hrow4 := hrow2.only hO4 (by omega)
    have hOw4 := hOw2.trans hO4
    have hz4' := hO4.size
    clear hO4 hrow2 hOw2 hR2 hmem hs
    go_wp2_with fail
    refine (anyValue_any R (p1 + 1 + 1) w4 hR4 (by omega)).mono ?_
    rintro e w6 ⟨x, vv, q', rfl, hx, hR6, ⟨hq6, _⟩, hO6⟩
    obtain ⟨f, xk, xn, xt, xa, xl, xc, rfl, hf1, hf2, g0, g1, g2, g3⟩ := hx.four
    have hrow6 := hrow4.only hO6 (by omega)
    have hOw6 := hOw4.trans hO6
    have hz6 := hO6.size
    have hd1 := propF_in hss hf2 (own_away hrow4 (by omega) (Nat.le_refl _) g0) (own_away hrow4 (by omega) (Nat.le_refl _) g1) (own_away hrow4 (by omega) (Nat.le_refl _) g2) (own_away hrow4 (by omega) (Nat.le_refl _) g3)
    clear hO6 hOw4 hR4 hx g0 g1 g2 g3 hrow4
    have hnews := World.news_of_block (cs := #[.string s, .int .i64 xk, .int .i64 xn, .string xt, .slice xa xl xc]) (t := 75) (fr := (0, 0)) (heap_alloc_new w6 _)
    go_wp2_with (first
      | (at_builtin; refine wpList_append_own_at _ rfl _ _ 32 rfl w.heap.size 75 i0 _ 5 72 Tryz.underlying32 hi hz0 hz1 hz2 rfl (by decide) _ _ _ rfl (hrow6.1.alloc _) ⟨_, 0, none⟩ 1 1 [.string s, .int .i64 xk, .int .i64 xn, .string xt, .slice xa xl xc] rfl rfl hnews (by simp [Value.oneCell']) (by unfold maxLen; omega) (by omega) (by simp; omega) ?_; intro v5 w5 hown5 hgrow5 hnil5 hloc5)
      | fail)
    obtain ⟨hrow7, hR7, hO7, hz7⟩ := WRow.add (.cells #[.string s, .int .i64 xk, .int .i64 xn, .string xt, .slice xa xl xc] 75) hrow6 hR6 hOw6 hRl (Nat.le_refl _) (propF_row (s := s) hf1) rfl hd1 hown5 hgrow5 hloc5
    go_ret
    exact ⟨_, _, _, _, rfl, hrow7, by omega, hR7, by omega, hO7⟩
end Go.Proofs.YtbhmblkappmfjaaGreat
