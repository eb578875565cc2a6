/- What spec.StoreNew and impl.StoreNew hand back: a store without anything but a copy of rules that are ok, in new memory of its own. -/
import Derived.Test.YtbapbcdkmhkigaaStRules
namespace Go.Proofs.Ytbapbcdkmhkigaa
open Go.RowKit Go.Deep

theorem box_frz {w W : World} {cs : Array Value} {T : TypeId} (h : Ext (w.alloc (.cells cs T)) W) (o : Nat) : W.frozen? ⟨w.heap.size, o, none⟩ = false := by
  have hg := heap_alloc_new w (.cells cs T)
  rw [World.frozen?_of_block (Below.block h _ (by simp))]
  unfold World.frozen?
  rw [hg]
  simp
set_option maxRecDepth 100000 in
set_option maxHeartbeats 4000000 in
theorem implStoreNew_any (d : D) (H : Has d (.list 7)) (S : Nat → Prop) (v : Value) (w : World) (hv : DIn S w d v) :
    Calls Try.prog 7 #[v] w fun e w' => ∃ a l c, e = .returned (.tuple #[stV (.slice a l c), .bool (rulesB (rulXs d))]) ∧ (DIn (New w.heap.size w'.heap.size) w' (stD d) (.slice a l c) ∧ Own w' (stD d) (New w.heap.size w'.heap.size) (.slice a l c)) ∧ Ext w w' := by
  have hE0 : Ext w (w.alloc (.cells #[.slice none 0 0, .slice none 0 0, .int .i64 0, .int .i64 0, .slice none 0 0, .int .i64 0, .slice none 0 0, .slice none 0 0, .int .i64 0] 32)) := (Ext.refl _).alloc _
  have hok := implRulesOk_any v (rulXs d) _ (rul_of H (hv.ext hE0))
  have h3 : rulesB (rulXs d) = true → d.len! ≤ 3 := rulesB_len
  have hst : Hid (stD d = if rulesB (rulXs d) then d else emptyD) := rfl
  have hvW := fun (W : World) (hW : Ext w W) => hv.ext hW
  generalize stD d = sd at *
  generalize rulesB (rulXs d) = b at *
  obtain ⟨len, f, rfl, HR⟩ := H.list
  change ∀ W, Ext w W → DIn S W (.list 2 len f) v at hvW
  obtain ⟨a, cap, rfl, hl⟩ := (hvW _ (Ext.refl _)).list_eq
  clear hl hv
  cases b
  · have hsd : sd = emptyD := hst.out
    subst hsd
    go_enter Try.func7, Try.ntmps7
    go_wp2_with (go_at_call 16; refine hok.mono ?_; rintro e w1 ⟨rfl, E1⟩; have bx0 : w1.cell? ⟨w.heap.size, 0, none⟩ = some (.slice none 0 0) := box_cell E1 0 _ rfl; have bx1 : w1.cell? ⟨w.heap.size, 1, none⟩ = some (.slice none 0 0) := box_cell E1 1 _ rfl; have bx2 : w1.cell? ⟨w.heap.size, 2, none⟩ = some (.int .i64 0) := box_cell E1 2 _ rfl; have bx3 : w1.cell? ⟨w.heap.size, 3, none⟩ = some (.int .i64 0) := box_cell E1 3 _ rfl; have bx4 : w1.cell? ⟨w.heap.size, 4, none⟩ = some (.slice none 0 0) := box_cell E1 4 _ rfl; have bx5 : w1.cell? ⟨w.heap.size, 5, none⟩ = some (.int .i64 0) := box_cell E1 5 _ rfl; have bx6 : w1.cell? ⟨w.heap.size, 6, none⟩ = some (.slice none 0 0) := box_cell E1 6 _ rfl; have bx7 : w1.cell? ⟨w.heap.size, 7, none⟩ = some (.slice none 0 0) := box_cell E1 7 _ rfl; have bx8 : w1.cell? ⟨w.heap.size, 8, none⟩ = some (.int .i64 0) := box_cell E1 8 _ rfl; have fz := box_frz E1)
    refine bodyPost_ret (v := .tuple #[stV (.slice none 0 0), .bool false]) (by simp [results, Try.results7, go_sem, stV, bx0, bx1, bx2, bx3, bx4, bx5, bx6, bx7, bx8]) rfl ?_
    have hX : Ext w w1 := hE0.trans E1
    refine ⟨_, _, _, rfl, ⟨(empty_in _ _).1, (empty_in _ _).2⟩, ?_⟩
    repeat refine Ext.setCell ?_ (Nat.le_refl _) _
    exact hX
  · have hsd : sd = .list 2 len f := hst.out
    subst hsd
    have hlen : len ≤ 3 := h3 rfl
    clear h3 hst
    have hcl := fun (W : World) (hW : Ext w W) => cloneRules_any (.list (rowsOf 7).length len f) H hlen S _ W (hvW W hW)
    go_enter Try.func7, Try.ntmps7
    go_wp2_with (first
      | (go_at_call 16; refine hok.mono ?_; rintro e w1 ⟨rfl, E1⟩; have bx0 : w1.cell? ⟨w.heap.size, 0, none⟩ = some (.slice none 0 0) := box_cell E1 0 _ rfl; have bx1 : w1.cell? ⟨w.heap.size, 1, none⟩ = some (.slice none 0 0) := box_cell E1 1 _ rfl; have bx2 : w1.cell? ⟨w.heap.size, 2, none⟩ = some (.int .i64 0) := box_cell E1 2 _ rfl; have bx3 : w1.cell? ⟨w.heap.size, 3, none⟩ = some (.int .i64 0) := box_cell E1 3 _ rfl; have bx4 : w1.cell? ⟨w.heap.size, 4, none⟩ = some (.slice none 0 0) := box_cell E1 4 _ rfl; have bx5 : w1.cell? ⟨w.heap.size, 5, none⟩ = some (.int .i64 0) := box_cell E1 5 _ rfl; have bx6 : w1.cell? ⟨w.heap.size, 6, none⟩ = some (.slice none 0 0) := box_cell E1 6 _ rfl; have bx7 : w1.cell? ⟨w.heap.size, 7, none⟩ = some (.slice none 0 0) := box_cell E1 7 _ rfl; have bx8 : w1.cell? ⟨w.heap.size, 8, none⟩ = some (.int .i64 0) := box_cell E1 8 _ rfl; have fz := box_frz E1)
      | (go_at_call 17; refine (hcl _ (hE0.trans E1)).mono ?_; rintro e w2 ⟨ra, rl, rc, rfl, ⟨hD, hO⟩, E2⟩; have cx0 : w2.cell? ⟨w.heap.size, 0, none⟩ = some (.slice none 0 0) := box_cell (E1.trans E2) 0 _ rfl; have cx1 : w2.cell? ⟨w.heap.size, 1, none⟩ = some (.slice none 0 0) := box_cell (E1.trans E2) 1 _ rfl; have cx2 : w2.cell? ⟨w.heap.size, 2, none⟩ = some (.int .i64 0) := box_cell (E1.trans E2) 2 _ rfl; have cx3 : w2.cell? ⟨w.heap.size, 3, none⟩ = some (.int .i64 0) := box_cell (E1.trans E2) 3 _ rfl; have cx4 : w2.cell? ⟨w.heap.size, 4, none⟩ = some (.slice none 0 0) := box_cell (E1.trans E2) 4 _ rfl; have cx5 : w2.cell? ⟨w.heap.size, 5, none⟩ = some (.int .i64 0) := box_cell (E1.trans E2) 5 _ rfl; have cx6 : w2.cell? ⟨w.heap.size, 6, none⟩ = some (.slice none 0 0) := box_cell (E1.trans E2) 6 _ rfl; have cx7 : w2.cell? ⟨w.heap.size, 7, none⟩ = some (.slice none 0 0) := box_cell (E1.trans E2) 7 _ rfl; have cx8 : w2.cell? ⟨w.heap.size, 8, none⟩ = some (.int .i64 0) := box_cell (E1.trans E2) 8 _ rfl; have gz := box_frz (E1.trans E2)))
    refine bodyPost_ret (v := .tuple #[stV (.slice ra rl rc), .bool true]) (by simp [results, Try.results7, go_sem, stV, cx0, cx1, cx2, cx3, cx4, cx5, cx6, cx7, cx8]) rfl ?_
    have hX : Ext w w2 := (hE0.trans E1).trans E2
    have hs1 : w.heap.size < w1.heap.size := by have := E1.le; simp at this; omega
    have hb : ∀ x, New w1.heap.size w2.heap.size x → x ≠ w.heap.size := fun x hx => by have := hx.1; omega
    have hm : ∀ (W : World), W.heap.size = w2.heap.size → ∀ x, New w1.heap.size w2.heap.size x → New w.heap.size W.heap.size x := fun W hW x hx => ⟨by have := hx.1; omega, by rw [hW]; exact hx.2⟩
    have hD' : DIn (New w1.heap.size w2.heap.size) w2 (.list 2 len f) (.slice ra rl rc) := hD
    have hO' : Own w2 (.list 2 len f) (New w1.heap.size w2.heap.size) (.slice ra rl rc) := hO
    refine ⟨_, _, _, rfl, ⟨?_, ?_⟩, ?_⟩
    · refine DIn.mono (hm _ (by simp)) ?_
      repeat refine DIn.setCell ?_ (fun h => hb _ h rfl) _
      exact hD'
    · refine Own.mono (hm _ (by simp)) ?_
      repeat refine Own.setCell ?_ (fun h => hb _ h rfl) _
      exact hO'
    · repeat refine Ext.setCell ?_ (Nat.le_refl _) _
      exact hX

set_option maxRecDepth 100000 in
set_option maxHeartbeats 4000000 in
theorem specStoreNew_any (d : D) (H : Has d (.list 7)) (S : Nat → Prop) (v : Value) (w : World) (hv : DIn S w d v) :
    Calls Try.prog 5 #[v] w fun e w' => ∃ a l c, e = .returned (.tuple #[stV (.slice a l c), .bool (rulesB (rulXs d))]) ∧ (DIn (New w.heap.size w'.heap.size) w' (stD d) (.slice a l c) ∧ Own w' (stD d) (New w.heap.size w'.heap.size) (.slice a l c)) ∧ Ext w w' := by
  have hE0 : Ext w (w.alloc (.cells #[.slice none 0 0, .slice none 0 0, .int .i64 0, .int .i64 0, .slice none 0 0, .int .i64 0, .slice none 0 0, .slice none 0 0, .int .i64 0] 32)) := (Ext.refl _).alloc _
  have hok := specRulesOk_any v (rulXs d) _ (rul_of H (hv.ext hE0))
  have h3 : rulesB (rulXs d) = true → d.len! ≤ 3 := rulesB_len
  have hst : Hid (stD d = if rulesB (rulXs d) then d else emptyD) := rfl
  have hvW := fun (W : World) (hW : Ext w W) => hv.ext hW
  generalize stD d = sd at *
  generalize rulesB (rulXs d) = b at *
  obtain ⟨len, f, rfl, HR⟩ := H.list
  change ∀ W, Ext w W → DIn S W (.list 2 len f) v at hvW
  obtain ⟨a, cap, rfl, hl⟩ := (hvW _ (Ext.refl _)).list_eq
  clear hl hv
  cases b
  · have hsd : sd = emptyD := hst.out
    subst hsd
    go_enter Try.func5, Try.ntmps5
    go_wp2_with (go_at_call 14; refine hok.mono ?_; rintro e w1 ⟨rfl, E1⟩; have bx0 : w1.cell? ⟨w.heap.size, 0, none⟩ = some (.slice none 0 0) := box_cell E1 0 _ rfl; have bx1 : w1.cell? ⟨w.heap.size, 1, none⟩ = some (.slice none 0 0) := box_cell E1 1 _ rfl; have bx2 : w1.cell? ⟨w.heap.size, 2, none⟩ = some (.int .i64 0) := box_cell E1 2 _ rfl; have bx3 : w1.cell? ⟨w.heap.size, 3, none⟩ = some (.int .i64 0) := box_cell E1 3 _ rfl; have bx4 : w1.cell? ⟨w.heap.size, 4, none⟩ = some (.slice none 0 0) := box_cell E1 4 _ rfl; have bx5 : w1.cell? ⟨w.heap.size, 5, none⟩ = some (.int .i64 0) := box_cell E1 5 _ rfl; have bx6 : w1.cell? ⟨w.heap.size, 6, none⟩ = some (.slice none 0 0) := box_cell E1 6 _ rfl; have bx7 : w1.cell? ⟨w.heap.size, 7, none⟩ = some (.slice none 0 0) := box_cell E1 7 _ rfl; have bx8 : w1.cell? ⟨w.heap.size, 8, none⟩ = some (.int .i64 0) := box_cell E1 8 _ rfl; have fz := box_frz E1)
    refine bodyPost_ret (v := .tuple #[stV (.slice none 0 0), .bool false]) (by simp [results, Try.results5, go_sem, stV, bx0, bx1, bx2, bx3, bx4, bx5, bx6, bx7, bx8]) rfl ?_
    have hX : Ext w w1 := hE0.trans E1
    refine ⟨_, _, _, rfl, ⟨(empty_in _ _).1, (empty_in _ _).2⟩, ?_⟩
    repeat refine Ext.setCell ?_ (Nat.le_refl _) _
    exact hX
  · have hsd : sd = .list 2 len f := hst.out
    subst hsd
    have hlen : len ≤ 3 := h3 rfl
    clear h3 hst
    obtain ⟨i0, hi, hz0, hz1, hz2⟩ := infoR_parts
    have hnl : (newsR len f).length = len * 2 := by simp [newsR]
    have hn1 : ∀ u ∈ newsR len f, u.oneCell' = true := by
      intro u hu
      obtain ⟨o, _, rfl⟩ := List.mem_map.1 hu
      rfl
    have hm0 := fun (W : World) => World.ownsRow_made (e := 45) (size := 2) W #[] 0 (Nat.le_refl _) (Nat.zero_le _) (by simp)
    cases a with
    | none =>
      have h0 : len = 0 := by
        obtain ⟨a, cap', b, off, hv', _, ha, _⟩ := hvW _ (Ext.refl _)
        cases hv'
        by_cases h : 0 < len
        · have := (ha h).1; cases this
        · omega
      subst h0
      go_enter Try.func5, Try.ntmps5
      go_wp2_with (go_at_call 14; refine hok.mono ?_; rintro e w1 ⟨rfl, E1⟩; have bx0 : w1.cell? ⟨w.heap.size, 0, none⟩ = some (.slice none 0 0) := box_cell E1 0 _ rfl; have bx1 : w1.cell? ⟨w.heap.size, 1, none⟩ = some (.slice none 0 0) := box_cell E1 1 _ rfl; have bx2 : w1.cell? ⟨w.heap.size, 2, none⟩ = some (.int .i64 0) := box_cell E1 2 _ rfl; have bx3 : w1.cell? ⟨w.heap.size, 3, none⟩ = some (.int .i64 0) := box_cell E1 3 _ rfl; have bx4 : w1.cell? ⟨w.heap.size, 4, none⟩ = some (.slice none 0 0) := box_cell E1 4 _ rfl; have bx5 : w1.cell? ⟨w.heap.size, 5, none⟩ = some (.int .i64 0) := box_cell E1 5 _ rfl; have bx6 : w1.cell? ⟨w.heap.size, 6, none⟩ = some (.slice none 0 0) := box_cell E1 6 _ rfl; have bx7 : w1.cell? ⟨w.heap.size, 7, none⟩ = some (.slice none 0 0) := box_cell E1 7 _ rfl; have bx8 : w1.cell? ⟨w.heap.size, 8, none⟩ = some (.int .i64 0) := box_cell E1 8 _ rfl; have fz := box_frz E1; have E2 : Ext w1 (w1.alloc (.cells #[] 45)) := (Ext.refl w1).alloc _; have cx0 : (w1.alloc (.cells #[] 45)).cell? ⟨w.heap.size, 0, none⟩ = some (.slice none 0 0) := box_cell (E1.trans E2) 0 _ rfl; have cx1 : (w1.alloc (.cells #[] 45)).cell? ⟨w.heap.size, 1, none⟩ = some (.slice none 0 0) := box_cell (E1.trans E2) 1 _ rfl; have cx2 : (w1.alloc (.cells #[] 45)).cell? ⟨w.heap.size, 2, none⟩ = some (.int .i64 0) := box_cell (E1.trans E2) 2 _ rfl; have cx3 : (w1.alloc (.cells #[] 45)).cell? ⟨w.heap.size, 3, none⟩ = some (.int .i64 0) := box_cell (E1.trans E2) 3 _ rfl; have cx4 : (w1.alloc (.cells #[] 45)).cell? ⟨w.heap.size, 4, none⟩ = some (.slice none 0 0) := box_cell (E1.trans E2) 4 _ rfl; have cx5 : (w1.alloc (.cells #[] 45)).cell? ⟨w.heap.size, 5, none⟩ = some (.int .i64 0) := box_cell (E1.trans E2) 5 _ rfl; have cx6 : (w1.alloc (.cells #[] 45)).cell? ⟨w.heap.size, 6, none⟩ = some (.slice none 0 0) := box_cell (E1.trans E2) 6 _ rfl; have cx7 : (w1.alloc (.cells #[] 45)).cell? ⟨w.heap.size, 7, none⟩ = some (.slice none 0 0) := box_cell (E1.trans E2) 7 _ rfl; have cx8 : (w1.alloc (.cells #[] 45)).cell? ⟨w.heap.size, 8, none⟩ = some (.int .i64 0) := box_cell (E1.trans E2) 8 _ rfl; have gz := box_frz (E1.trans E2))
      refine bodyPost_ret (v := .tuple #[stV (.slice (some ⟨w1.heap.size, 0, none⟩) 0 0), .bool true]) (by simp [results, Try.results5, go_sem, stV, cx0, cx1, cx2, cx3, cx4, cx5, cx6, cx7, cx8]) rfl ?_
      have hX : Ext w (w1.alloc (.cells #[] 45)) := (hE0.trans E1).trans E2
      refine ⟨_, _, _, rfl, ⟨?_, ?_⟩, ?_⟩
      · exact ⟨_, _, 0, 0, rfl, Nat.zero_le _, fun h => by omega, fun i hi => by omega⟩
      · exact ⟨_, _, 0, 0, fun _ _ _ => False, rfl, fun h => by omega, fun i _ hi => by omega, fun i _ _ _ hi => by omega, fun i hi => by omega⟩
      · repeat refine Ext.setCell ?_ (Nat.le_refl _) _
        exact hX
    | some p =>
      have hA := fun (W : World) => (Ext.refl W).alloc (.cells #[] 45)
      have hnews := fun (W : World) (hW : Ext w W) => newsR_cells HR (hvW W hW)
      go_enter Try.func5, Try.ntmps5
      go_wp2_with (first
        | (go_at_call 14; refine hok.mono ?_; rintro e w1 ⟨rfl, E1⟩; have bx0 : w1.cell? ⟨w.heap.size, 0, none⟩ = some (.slice none 0 0) := box_cell E1 0 _ rfl; have bx1 : w1.cell? ⟨w.heap.size, 1, none⟩ = some (.slice none 0 0) := box_cell E1 1 _ rfl; have bx2 : w1.cell? ⟨w.heap.size, 2, none⟩ = some (.int .i64 0) := box_cell E1 2 _ rfl; have bx3 : w1.cell? ⟨w.heap.size, 3, none⟩ = some (.int .i64 0) := box_cell E1 3 _ rfl; have bx4 : w1.cell? ⟨w.heap.size, 4, none⟩ = some (.slice none 0 0) := box_cell E1 4 _ rfl; have bx5 : w1.cell? ⟨w.heap.size, 5, none⟩ = some (.int .i64 0) := box_cell E1 5 _ rfl; have bx6 : w1.cell? ⟨w.heap.size, 6, none⟩ = some (.slice none 0 0) := box_cell E1 6 _ rfl; have bx7 : w1.cell? ⟨w.heap.size, 7, none⟩ = some (.slice none 0 0) := box_cell E1 7 _ rfl; have bx8 : w1.cell? ⟨w.heap.size, 8, none⟩ = some (.int .i64 0) := box_cell E1 8 _ rfl; have fz := box_frz E1)
        | (at_builtin; refine wpList_append_own_at _ rfl _ _ 28 rfl w1.heap.size 45 i0 _ 2 32 Try.underlying28 hi hz0 hz1 hz2 rfl (by decide) _ _ _ rfl (hm0 w1) p len cap (newsR len f) rfl hnl (hnews _ (hE0.trans (E1.trans (hA w1)))) hn1 (by unfold maxLen; omega) (by omega) (by simp) ?_; intro v' w2 hown hgrow hnil hat; have E2 : Ext w1 w2 := Below.grown (hA w1) hgrow (hA w1).le (fun j hj => ((hm0 w1).lt j hj).1); have cx0 : w2.cell? ⟨w.heap.size, 0, none⟩ = some (.slice none 0 0) := box_cell (E1.trans E2) 0 _ rfl; have cx1 : w2.cell? ⟨w.heap.size, 1, none⟩ = some (.slice none 0 0) := box_cell (E1.trans E2) 1 _ rfl; have cx2 : w2.cell? ⟨w.heap.size, 2, none⟩ = some (.int .i64 0) := box_cell (E1.trans E2) 2 _ rfl; have cx3 : w2.cell? ⟨w.heap.size, 3, none⟩ = some (.int .i64 0) := box_cell (E1.trans E2) 3 _ rfl; have cx4 : w2.cell? ⟨w.heap.size, 4, none⟩ = some (.slice none 0 0) := box_cell (E1.trans E2) 4 _ rfl; have cx5 : w2.cell? ⟨w.heap.size, 5, none⟩ = some (.int .i64 0) := box_cell (E1.trans E2) 5 _ rfl; have cx6 : w2.cell? ⟨w.heap.size, 6, none⟩ = some (.slice none 0 0) := box_cell (E1.trans E2) 6 _ rfl; have cx7 : w2.cell? ⟨w.heap.size, 7, none⟩ = some (.slice none 0 0) := box_cell (E1.trans E2) 7 _ rfl; have cx8 : w2.cell? ⟨w.heap.size, 8, none⟩ = some (.int .i64 0) := box_cell (E1.trans E2) 8 _ rfl; have gz := box_frz (E1.trans E2); rw [Nat.zero_add, List.nil_append] at hown; have hG := GSt.rules HR (hvW _ (Ext.refl _)) hown; obtain ⟨ra, rc, rfl⟩ := hG.shape))
      have hend := hG.end (by unfold maxLen; omega)
      refine bodyPost_ret (v := .tuple #[stV (.slice ra len rc), .bool true]) (by simp [results, Try.results5, go_sem, stV, cx0, cx1, cx2, cx3, cx4, cx5, cx6, cx7, cx8]) rfl ?_
      have hX : Ext w w2 := (hE0.trans E1).trans E2
      have hs1 : w.heap.size < w1.heap.size := by have := E1.le; simp at this; omega
      have hb : ∀ x, New w1.heap.size w2.heap.size x → x ≠ w.heap.size := fun x hx => by have := hx.1; omega
      have hm : ∀ (W : World), W.heap.size = w2.heap.size → ∀ x, New w1.heap.size w2.heap.size x → New w.heap.size W.heap.size x := fun W hW x hx => ⟨by have := hx.1; omega, by rw [hW]; exact hx.2⟩
      refine ⟨_, _, _, rfl, ⟨?_, ?_⟩, ?_⟩
      · refine DIn.mono (hm _ (by simp)) ?_
        repeat refine DIn.setCell ?_ (fun h => hb _ h rfl) _
        exact hend.1
      · refine Own.mono (hm _ (by simp)) ?_
        repeat refine Own.setCell ?_ (fun h => hb _ h rfl) _
        exact hend.2
      · repeat refine Ext.setCell ?_ (Nat.le_refl _) _
        exact hX

end Go.Proofs.Ytbapbcdkmhkigaa
