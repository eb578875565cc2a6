/- What the tables' methods has and put answer, and isNext. -/
import Derived.Test.YtbhmblkappmfjaaGreatTk
import Derived.Test.YtbhmblkappmfjaaGreatNetM
import Derived.Test.YtbhmblkappmfjaaGreatDa
import Derived.Test.YtbhmblkappmfjaaGreatIn1
import Derived.Deep.RegionHeld3
import Derived.Laws.Cover1
import Derived.WalkSpells
import Derived.Deep.DeepCutAuto
namespace Go.Proofs.YtbhmblkappmfjaaGreat
open Go.RowKit Go.Deep
open Go.ChangeMaps (setBlock)

theorem zeroNode (w : World) : (zeroValue 34).run Tryz.prog w = .ok (.agg #[.int .i64 0, .slice none 0 0, .slice none 0 0]) w := by kernel_rfl
theorem zeroEdge (w : World) : (zeroValue 46).run Tryz.prog w = .ok (.agg #[.int .i64 0, .string ⟨#[]⟩, .int .i64 0, .int .i64 0, .slice none 0 0]) w := by kernel_rfl
theorem zeroInts (w : World) : (zeroValue 29).run Tryz.prog w = .ok (.slice none 0 0) w := by kernel_rfl

set_option maxRecDepth 100000 in
set_option maxHeartbeats 1000000 in
theorem hasNode_any (w : World) (base c : Nat) (N : NetD) (k : Int) (h : NetIn w base c N) (hk : (Lit.int .i64 k).wf = true) :
    Calls Tryz.prog 47 #[.pointer (some ⟨N.nb, 0, none⟩), .int .i64 k] w fun e w' => e = .returned (.bool (decide (k ∈ N.keys .n))) ∧ Ext w w' := by
  have hlook := (h.maps .n).look Tryz.underlying58 (zeroNode w) hk true
  have c1 := h.c1
  simp only [if_true] at hlook
  by_cases hin : k ∈ N.keys .n
  · obtain ⟨id, a, l, cc, a', l', c', hs, _⟩ := h.shp .n k hin
    rw [if_pos hin, hs, decide_eq_true hin] at hlook
    have hd : Hid (decide (k ∈ N.keys .n) = true) := decide_eq_true hin
    clear hs h
    go_enter Tryz.func47, Tryz.ntmps47
    go_wp2
    go_ret
    exact ⟨ret_bool hd.out.symm, (Ext.refl _).alloc _⟩
  · rw [if_neg hin, decide_eq_false hin] at hlook
    have hd : Hid (decide (k ∈ N.keys .n) = false) := decide_eq_false hin
    clear h
    go_enter Tryz.func47, Tryz.ntmps47
    go_wp2
    go_ret
    exact ⟨ret_bool hd.out.symm, (Ext.refl _).alloc _⟩

theorem Tryz.infoI : (Tryz.prog.info? 3).map (fun i => (i.zero, i.size, i.bytes)) = some (some (.int .i64 0), 1, 8) := by kernel_rfl
/-- A number may be the next in a row: it is above the last, and below the next one. -/
def okPut (l : List Int) (next id : Int) : Bool := decide (l.getLast?.getD (-1) < id) && decide (id < next)
theorem own_succ {w : World} {base : Nat} {u : Value} {n : Nat} {xs : List Value} (h : w.ownsRow base 3 1 u (n + 1) xs) : ∃ g cap, u = .slice (some ⟨g, 0, none⟩) (n + 1) cap := by
  rcases h.2 with ⟨_, h0⟩ | ⟨g, cap, cur, rfl, _⟩
  · omega
  · exact ⟨g, cap, rfl⟩
theorem own_last {W0 : World} {base : Nat} {l : List Int} {a : Option Addr} {cap : Nat} {last : Int} (hrows : ∀ W, Ext W0 W → W.ownsRow base 3 1 (.slice a l.length cap) l.length (l.map (Value.int .i64))) (hl : l.getLast?.getD (-1) = last) (h0 : ¬ l.length = 0) :
    ∃ g, a = some ⟨g, 0, none⟩ ∧ ∀ W, Ext W0 W → W.cell? ⟨g, l.length - 1, none⟩ = some (.int .i64 last) := by
  rcases (hrows W0 (Ext.refl _)).2 with ⟨_, e⟩ | ⟨g, cap', cur, e, _⟩
  · exact absurd e h0
  · injection e with e1 e2 e3
    refine ⟨g, e1, fun W hW => ?_⟩
    have := (hrows W hW).cells (g := g) (by rw [e1]; rfl) (l.length - 1) (.int .i64 last) ?_
    · rw [Go.WideShapes.add_plain] at this
      simpa using this
    · rw [List.getElem?_map, ← List.getLast?_eq_getElem?, ← hl]
      cases h : l.getLast? with
      | none => rw [List.getLast?_eq_none_iff] at h; exact absurd (by rw [h]; rfl) h0
      | some x => rfl
theorem net_grown {w w3 : World} {base c : Nat} {N : NetD} (h : NetIn w base c N) (r : RN) {u : Value} (hrow : N.rows r = u) (hg : w.grownBy w3 u.ownBlock) : w3.heap[N.nb]? = some (.cells N.cells 68 (0, 0)) ∧ (∀ o, w3.frozen? ⟨N.nb, o, none⟩ = false) ∧ ∀ o v, N.cells[o]? = some v → w3.cell? ⟨N.nb, o, none⟩ = some v := by
  have hnb : w3.heap[N.nb]? = some (.cells N.cells 68 (0, 0)) := by rw [hg.block _ h.nb_lt (fun e => h.row_nb r (by rw [hrow]; exact e.symm) rfl)]; exact h.blk
  exact ⟨hnb, fun o => by simp [World.frozen?, hnb], fun o v e => by simp [World.cell?, hnb, e]⟩

set_option maxHeartbeats 400000 in
theorem isNext_any (n : Int) (w : World) : Calls Tryz.prog 23 #[.int .i64 n] w fun e w' => e = .returned (.bool (inB n 0 1000000000)) ∧ w' = w := by
  go_enter Tryz.func23, Tryz.ntmps23
  go_wp2
  all_goals go_ret
  all_goals exact ⟨ret_bool (by first | (simp [inB, *]; done) | (simp [inB, *]; omega)), rfl⟩

set_option maxRecDepth 100000 in
set_option maxHeartbeats 4000000 in
theorem putNode_any (w : World) (base c : Nat) (N : NetD) (id : Int) (y0 : Int) (a1 : Option Addr) (l1 k1 : Nat) (a2 : Option Addr) (l2 k2 : Nat) (h : NetIn w base c N) (hid : (Lit.int .i64 id).wf = true) (hc : c ≤ 1000) (hb : base ≤ w.heap.size) (hk1 : l1 ≤ k1) (hk2 : l2 ≤ k2) :
    Calls Tryz.prog 45 #[.pointer (some ⟨N.nb, 0, none⟩), .int .i64 id, .agg #[.int .i64 y0, .slice a1 l1 k1, .slice a2 l2 k2]] w fun e w' => e = .returned (.bool (okPut (N.lists .n) N.nn id)) ∧ ∃ N', NetIn w' base (c + 1) N' ∧ (okPut (N.lists .n) N.nn id = true → ∃ v', N' = (N.push .n v' id).put .n id (.agg #[.int .i64 y0, .slice a1 l1 k1, .slice a2 l2 k2])) ∧ (okPut (N.lists .n) N.nn id = false → N' = N) ∧ NStep w N w' N' := by
  obtain ⟨i0, hi, hz0, hz1, hz2⟩ := info_parts Tryz.infoI
  obtain ⟨a, cap, hrow⟩ := h.shape .n
  have hlast : Hid (∀ last : Int, (N.lists .n).getLast?.getD (-1) = last → okPut (N.lists .n) N.nn id = (decide (last < id) && decide (id < N.nn))) := fun last e => by rw [okPut, e]
  generalize hok : okPut (N.lists .n) N.nn id = ok at *
  clear hok
  go_enter Tryz.func45, Tryz.ntmps45
  go_upto_region 2 with fail
  generalize hW0 : w.alloc _ = W0
  have hE0 : Ext w W0 := by subst hW0; exact (Ext.refl _).alloc _
  generalize hBe : w.heap.size = B
  have hrb : ∀ W, Ext W0 W → W.cell? ⟨B, 0, none⟩ = some (.int .i64 y0) ∧ W.cell? ⟨B, 1, none⟩ = some (.slice a1 l1 k1) ∧ W.cell? ⟨B, 2, none⟩ = some (.slice a2 l2 k2) := fun W hW => by subst hBe; subst hW0; exact ⟨box_cell hW 0 _ rfl, box_cell hW 1 _ rfl, box_cell hW 2 _ rfl⟩
  have hBlt : B < W0.heap.size := by subst hBe; subst hW0; simp
  clear hW0
  generalize hlst : (N.lists .n).getLast?.getD (-1) = last
  have c0 := fun (W : World) (hW : Ext W0 W) => (h.ext (hE0.trans hW)).c0
  rw [hrow] at c0
  have hrows := fun (W : World) (hW : Ext W0 W) => (h.ext (hE0.trans hW)).own .n
  rw [hrow] at hrows
  have hl2 := h.len .n
  have c0' := c0 W0 (Ext.refl _)
  go_upto_if 13 with fail
  go_cut [7] (fun s wc => s = .int .i64 last ∧ Ext W0 wc)
  case first =>
    clear hlast c0'
    by_cases hl0 : (N.lists .n).length = 0
    · have hle : Hid (last = -1) := by show _ = _; rw [← hlst, List.length_eq_zero_iff.1 hl0]; rfl
      rw [hl0]
      go_wp2
      go_meet
      case rel => exact ⟨by rw [hle.out], Ext.refl _⟩
    · obtain ⟨g, hsl, hcell⟩ := own_last hrows hlst hl0
      subst hsl
      have n0 : 0 < ((N.lists .n).length : Int) := by omega
      generalize (N.lists .n).length = len at *
      obtain ⟨m, rfl⟩ : ∃ m, len = m + 1 := ⟨len - 1, by omega⟩
      go_upto_region 3 with fail
      have i1 : (m : Int) < (m : Int) + 1 := by omega
      have iw : IntKind.i64.wrap (m : Int) = m := wrap_i64 (by omega) (by omega)
      have HK : Hid (∀ W, Ext W0 W → W.cell? ⟨N.nb, 0, none⟩ = some (.slice (some ⟨g, 0, none⟩) (m + 1) cap) ∧ W.cell? ⟨g, m, none⟩ = some (.int .i64 last)) := fun W hW => ⟨c0 W hW, hcell W hW⟩
      have hcur : Ext W0 W0.drew := (Ext.refl _).drew
      refine wp_region_held_drew (S := (fun W => W.cell? ⟨N.nb, 0, none⟩ = some (.slice (some ⟨g, 0, none⟩) (m + 1) cap) ∧ W.cell? ⟨g, m, none⟩ = some (.int .i64 last))) (by kernel_rfl) (HK.out _ hcur) (fun hHeld => ?_)
      refine tkL 0 ⟨some 14, .move (.tmp 0), 104, _, #[], none⟩ ?_ hHeld ?yyL0 ?rrL0
      case yyL0 => (intro w hSw; (try dsimp only at hSw); go_simp; try with_reducible rfl)
      try simp only [Act.put, putA, putB, putC]
      refine tkL 1 ⟨some 15, .nilCheck (.tmp 14), 0, _, #[⟨0, .data⟩], none⟩ ?_ hHeld ?yyL1 ?rrL1
      case yyL1 => (intro w hSw; (try dsimp only at hSw); go_simp; try with_reducible rfl)
      try simp only [Act.put, putA, putB, putC]
      refine tkL 2 ⟨some 16, .fieldAddr 60 (.tmp 15) 0, 0, _, #[⟨1, .data⟩], none⟩ ?_ hHeld ?yyL2 ?rrL2
      case yyL2 => (intro w hSw; (try dsimp only at hSw); go_simp; try with_reducible rfl)
      try simp only [Act.put, putA, putB, putC]
      refine tkL 3 ⟨some 17, .load 29 (.tmp 16), 29, _, #[⟨2, .data⟩], none⟩ ?_ hHeld ?yyL3 ?rrL3
      case yyL3 => (intro w hSw; (try dsimp only at hSw); go_simp; try with_reducible rfl)
      try simp only [Act.put, putA, putB, putC]
      refine tkL 4 ⟨some 18, .move (.tmp 0), 104, _, #[], none⟩ ?_ hHeld ?yyL4 ?rrL4
      case yyL4 => (intro w hSw; (try dsimp only at hSw); go_simp; try with_reducible rfl)
      try simp only [Act.put, putA, putB, putC]
      refine tkL 5 ⟨some 19, .nilCheck (.tmp 18), 0, _, #[⟨4, .data⟩], none⟩ ?_ hHeld ?yyL5 ?rrL5
      case yyL5 => (intro w hSw; (try dsimp only at hSw); go_simp; try with_reducible rfl)
      try simp only [Act.put, putA, putB, putC]
      refine tkL 6 ⟨some 20, .fieldAddr 60 (.tmp 19) 0, 0, _, #[⟨5, .data⟩], none⟩ ?_ hHeld ?yyL6 ?rrL6
      case yyL6 => (intro w hSw; (try dsimp only at hSw); go_simp; try with_reducible rfl)
      try simp only [Act.put, putA, putB, putC]
      refine tkL 7 ⟨some 21, .load 29 (.tmp 20), 29, _, #[⟨6, .data⟩], none⟩ ?_ hHeld ?yyL7 ?rrL7
      case yyL7 => (intro w hSw; (try dsimp only at hSw); go_simp; try with_reducible rfl)
      try simp only [Act.put, putA, putB, putC]
      refine tkL 8 ⟨some 22, .call { callee := .builtin .len, args := #[.tmp 21], argTypes := #[29] }, 3, _, #[⟨7, .data⟩], none⟩ ?_ hHeld ?yyL8 ?rrL8
      case yyL8 => (intro w hSw; (try dsimp only at hSw); go_simp; try with_reducible rfl)
      try simp only [Act.put, putA, putB, putC]
      refine tkL 9 ⟨some 23, .binOp .sub 3 (.tmp 22) (.const (.int .i64 1)) 3, 3, _, #[⟨8, .data⟩], none⟩ ?_ hHeld ?yyL9 ?rrL9
      case yyL9 => (intro w hSw; (try dsimp only at hSw); go_simp; try with_reducible rfl)
      try simp only [Act.put, putA, putB, putC]
      refine tkL 10 ⟨some 24, .indexAddr 29 (.tmp 17) (.tmp 23), 0, _, #[⟨3, .data⟩, ⟨9, .data⟩], none⟩ ?_ hHeld ?yyL10 ?rrL10
      case yyL10 => (intro w hSw; (try dsimp only at hSw); go_simp; try with_reducible rfl)
      try simp only [Act.put, putA, putB, putC]
      refine tkL 11 ⟨some 25, .load 3 (.tmp 24), 3, _, #[⟨10, .data⟩], none⟩ ?_ hHeld ?yyL11 ?rrL11
      case yyL11 => (intro w hSw; (try dsimp only at hSw); go_simp; try with_reducible rfl)
      try simp only [Act.put, putA, putB, putC]
      refine tkL 12 ⟨some 7, .assign (.tmp 25), 3, _, #[⟨11, .data⟩, ⟨0, .phase⟩, ⟨1, .phase⟩, ⟨2, .phase⟩, ⟨3, .phase⟩, ⟨4, .phase⟩, ⟨5, .phase⟩, ⟨6, .phase⟩, ⟨7, .phase⟩, ⟨8, .phase⟩, ⟨9, .phase⟩, ⟨10, .phase⟩, ⟨11, .phase⟩], none⟩ ?_ hHeld ?yyL12 ?rrL12
      case yyL12 => (intro w hSw; (try dsimp only at hSw); go_simp; try with_reducible rfl)
      try simp only [Act.put, putA, putB, putC]
      refine wpAnyH_done (by kernel_rfl) ?_ _
      go_wp2
      go_meet
      case rel => exact ⟨rfl, hcur⟩
  case rest =>
    obtain ⟨rfl, hWc⟩ := hcut
    obtain ⟨W, rfl⟩ : ∃ W, W = wc := ⟨_, rfl⟩
    have hW := hE0.trans hWc
    clear c0 c0' hrows
    have hB : ∀ W', Ext W W' → NetIn W' base c N := fun W' hW' => h.ext (hW.trans hW')
    have c0 := (hB W (Ext.refl _)).c0
    have c2 := (hB W (Ext.refl _)).c2
    rw [hrow] at c0
    by_cases g1 : id ≤ last
    · have hf : Hid (ok = false) := by show _ = _; rw [hlast.out last hlst, decide_eq_false (by omega : ¬ last < id)]; rfl
      have g1' : decide (id ≤ last) = true := decide_eq_true g1
      go_wp2
      go_ret
      exact ⟨ret_bool hf.out.symm, N, (hB _ (Ext.refl _)).mono (by omega), fun e => (by rw [hf.out] at e; cases e), fun _ => rfl, NStep.ext N hW⟩
    have g1' : decide (id ≤ last) = false := decide_eq_false g1
    by_cases g2 : N.nn ≤ id
    · have hf : Hid (ok = false) := by show _ = _; rw [hlast.out last hlst, decide_eq_false (by omega : ¬ id < N.nn), Bool.and_false]
      have g2' : decide (N.nn ≤ id) = true := decide_eq_true g2
      go_wp2
      go_ret
      exact ⟨ret_bool hf.out.symm, N, (hB _ (Ext.refl _)).mono (by omega), fun e => (by rw [hf.out] at e; cases e), fun _ => rfl, NStep.ext N hW⟩
    have g2' : decide (N.nn ≤ id) = false := decide_eq_false g2
    have hf : Hid (ok = true) := by show _ = _; rw [hlast.out last hlst, decide_eq_true (by omega : last < id), decide_eq_true (by omega : id < N.nn)]; rfl
    have hl2 := h.len .n
    have hsz := hW.le
    have hown0 := (hB _ ((Ext.refl W).alloc (.cells #[.int .i64 id] 3))).own .n
    rw [hrow] at hown0
    go_wp2_with (at_builtin; refine wpList_append_own_at _ rfl _ _ 29 rfl base 3 i0 _ 1 8 Tryz.underlying29 hi hz0 hz1 hz2 rfl (by decide) _ _ _ rfl hown0 ⟨_, 0, none⟩ 1 1 [.int .i64 id] rfl rfl (cell_one_new _ _ _) (by simp [Value.oneCell']) (by unfold maxLen; omega) (by omega) (by simp; omega) ?_; intro v' w3 hown' hgrow hnil hloc; obtain ⟨g, cap', rfl⟩ := own_succ hown'; have hw3 := net_grown (hB _ ((Ext.refl W).alloc (.cells #[.int .i64 id] 3))) .n hrow hgrow; have f3 := hw3.2.1 0; have c3 := hw3.2.2 0 _ rfl)
    have hP := (hB _ ((Ext.refl W).alloc (.cells #[.int .i64 id] 3))).push .n (by simp) (x := id) (by exact hown') (by rw [hrow]; exact hgrow) (by rw [hrow]; exact hloc)
    have hvn : ∀ x, (Value.slice (some ⟨g, 0, none⟩) ((N.lists .n).length + 1) cap').ownBlock = some x → (N.rows .n).ownBlock = some x ∨ W.heap.size ≤ x := fun x hx => by
      rcases hloc with e | e
      · rw [hrow]; rw [e] at hx; exact .inl hx
      · rw [e] at hx; cases hx; exact .inr (by simp)
    have hchg : Chg (NetR N) w (w3.setCell ⟨N.nb, 0, none⟩ (.slice (some ⟨g, 0, none⟩) ((N.lists .n).length + 1) cap')) := ((Chg.of_ext (hW.alloc _)).grown hgrow (fun k hk => .inr (.inr ⟨.n, by rw [hrow]; exact hk⟩))).setCell (.inl rfl) _
    have hrb3 : ∀ k, (w3.setCell ⟨N.nb, 0, none⟩ (.slice (some ⟨g, 0, none⟩) ((N.lists .n).length + 1) cap')).cell? ⟨B, k, none⟩ = W.cell? ⟨B, k, none⟩ := fun k => by
      have hBW : B < W.heap.size := Nat.lt_of_lt_of_le hBlt hWc.le
      have hne : B ≠ N.nb := by have := h.nb_lt; omega
      rw [World.cell?_of_block (Below.heap_setCell _ _ _ _ hne), World.cell?_of_block (hgrow.block B (by simp; omega) (fun e2 => by have := (h.row_lt .n (by rw [hrow]; exact e2.symm)).2; omega)), World.cell?_of_block (Below.heap_alloc _ _ _ hBW)]
    change NetIn (w3.setCell ⟨N.nb, 0, none⟩ _) base (c + 1) _ at hP
    have hB4 : B < (w3.setCell ⟨N.nb, 0, none⟩ (.slice (some ⟨g, 0, none⟩) ((N.lists .n).length + 1) cap')).heap.size := by have h1 := hgrow.size; have h2 := hWc.le; simp at h1; simp; omega
    generalize w3.setCell ⟨N.nb, 0, none⟩ _ = w4 at *
    obtain ⟨r0, r1, r2⟩ := hrb W hWc
    simp only [← hrb3] at r0 r1 r2
    have hmbB : B ≠ N.mb .n := by have := (h.maps .n).lt; omega
    have HK : Hid (∀ W, Chg (fun x => x = N.mb .n) w4 W → W.cell? ⟨N.nb, 1, none⟩ = some (.map (some (N.mb .n))) ∧ W.cell? ⟨B, 0, none⟩ = some (.int .i64 y0) ∧ W.cell? ⟨B, 1, none⟩ = some (.slice a1 l1 k1) ∧ W.cell? ⟨B, 2, none⟩ = some (.slice a2 l2 k2)) := fun W hW => by
      have hx : ∀ b k, b < w4.heap.size → b ≠ N.mb .n → W.cell? ⟨b, k, none⟩ = w4.cell? ⟨b, k, none⟩ := fun b k h1 h2 => World.cell?_of_block (hW.block b h1 h2)
      have hnn := hP.nb_lt
      refine ⟨by rw [hx N.nb _ hnn (Ne.symm (hP.mb_nb .n))]; exact hP.c1, by rw [hx B _ hB4 hmbB]; exact r0, by rw [hx B _ hB4 hmbB]; exact r1, by rw [hx B _ hB4 hmbB]; exact r2⟩
    have hcur : Chg (fun x => x = N.mb .n) w4 w4.drew := Chg.of_ext (Ext.refl _).drew
    obtain ⟨ob, hput, hM, hsz4, hoth⟩ := ((hP.ext (Ext.refl _).drew).maps .n).put Tryz.underlying58 hid (.agg #[.int .i64 y0, .slice a1 l1 k1, .slice a2 l2 k2])
    replace hput : (Instr.mapUpdate 58 (.map (some (N.mb .n))) (.int .i64 id) (.agg #[.int .i64 y0, .slice a1 l1 k1, .slice a2 l2 k2])).run Tryz.prog w4.drew = .ok () (setBlock w4.drew (N.mb .n) ob) := hput
    refine wp_region_held_drew (S := (fun W => W.cell? ⟨N.nb, 1, none⟩ = some (.map (some (N.mb .n))) ∧ W.cell? ⟨B, 0, none⟩ = some (.int .i64 y0) ∧ W.cell? ⟨B, 1, none⟩ = some (.slice a1 l1 k1) ∧ W.cell? ⟨B, 2, none⟩ = some (.slice a2 l2 k2))) (by kernel_rfl) (HK.out _ hcur) (fun hHeld => ?_)
    refine tkL 0 ⟨some 47, .move (.tmp 0), 104, _, #[], none⟩ ?_ hHeld ?yyM0 ?rrM0
    case yyM0 => (intro w hSw; (try dsimp only at hSw); go_simp; try with_reducible rfl)
    try simp only [Act.put, putA, putB, putC]
    refine tkL 1 ⟨some 48, .nilCheck (.tmp 47), 0, _, #[⟨0, .data⟩], none⟩ ?_ hHeld ?yyM1 ?rrM1
    case yyM1 => (intro w hSw; (try dsimp only at hSw); go_simp; try with_reducible rfl)
    try simp only [Act.put, putA, putB, putC]
    refine tkL 2 ⟨some 49, .fieldAddr 60 (.tmp 48) 1, 0, _, #[⟨1, .data⟩], none⟩ ?_ hHeld ?yyM2 ?rrM2
    case yyM2 => (intro w hSw; (try dsimp only at hSw); go_simp; try with_reducible rfl)
    try simp only [Act.put, putA, putB, putC]
    refine tkL 3 ⟨some 50, .load 58 (.tmp 49), 58, _, #[⟨2, .data⟩], none⟩ ?_ hHeld ?yyM3 ?rrM3
    case yyM3 => (intro w hSw; (try dsimp only at hSw); go_simp; try with_reducible rfl)
    try simp only [Act.put, putA, putB, putC]
    refine tkL 4 ⟨some 51, .move (.tmp 1), 3, _, #[], none⟩ ?_ hHeld ?yyM4 ?rrM4
    case yyM4 => (intro w hSw; (try dsimp only at hSw); go_simp; try with_reducible rfl)
    try simp only [Act.put, putA, putB, putC]
    refine tkL 5 ⟨some 52, .load 34 (.tmp 5), 34, _, #[], none⟩ ?_ hHeld ?yyM5 ?rrM5
    case yyM5 => (intro w hSw; (try dsimp only at hSw); go_simp; try with_reducible rfl)
    try simp only [Act.put, putA, putB, putC]
    refine wpAnyH_ready (rs := [6]) (by kernel_rfl) (by simp) ?_
    refine AllReadyH.cons (o := ⟨none, .mapUpdate 58 (.tmp 50) (.tmp 51) (.tmp 52), 0, _, #[⟨3, .data⟩, ⟨4, .data⟩, ⟨5, .data⟩, ⟨0, .phase⟩, ⟨1, .phase⟩, ⟨2, .phase⟩, ⟨3, .phase⟩, ⟨4, .phase⟩, ⟨5, .phase⟩], none⟩) rfl (fun K hK => ?_) AllReadyH.nil
    go_simp
    replace hcur := hcur.setBlock (B := N.mb .n) rfl ob hoth
    refine hK.out _ _ (HK.out _ hcur) (fun hHeld => ?_)
    clear hK K
    try simp only [Act.put, putA, putB, putC]
    refine wpAnyH_done (by kernel_rfl) ?_ _
    go_wp2
    go_ret
    exact ⟨ret_bool hf.out.symm, _, (hP.ext (Ext.refl _).drew).put .n (by simp) hM hoth (⟨_, _, _, _, _, _, _, rfl, hk1, hk2⟩), fun _ => ⟨_, rfl⟩, fun e => (by rw [hf.out] at e; cases e), ⟨hchg.trans (hcur.mono (fun x hx => .inr (.inl ⟨.n, hx⟩))), fun x hx => (NetR.push hvn (NetR.put hx)).imp_right (Nat.le_trans hsz)⟩⟩

set_option maxRecDepth 100000 in
set_option maxHeartbeats 4000000 in
theorem putEdge_any (w : World) (base c : Nat) (N : NetD) (id : Int) (y0 : Int) (y1 : ByteArray) (y2 y3 : Int) (a2 : Option Addr) (l2 k2 : Nat) (h : NetIn w base c N) (hid : (Lit.int .i64 id).wf = true) (hc : c ≤ 1000) (hb : base ≤ w.heap.size) (hk2 : l2 ≤ k2) :
    Calls Tryz.prog 48 #[.pointer (some ⟨N.nb, 3, none⟩), .int .i64 id, .agg #[.int .i64 y0, .string y1, .int .i64 y2, .int .i64 y3, .slice a2 l2 k2]] w fun e w' => e = .returned (.bool (okPut (N.lists .e) N.ne id)) ∧ ∃ N', NetIn w' base (c + 1) N' ∧ (okPut (N.lists .e) N.ne id = true → ∃ v', N' = (N.push .e v' id).put .e id (.agg #[.int .i64 y0, .string y1, .int .i64 y2, .int .i64 y3, .slice a2 l2 k2])) ∧ (okPut (N.lists .e) N.ne id = false → N' = N) ∧ NStep w N w' N' := by
  obtain ⟨i0, hi, hz0, hz1, hz2⟩ := info_parts Tryz.infoI
  obtain ⟨a, cap, hrow⟩ := h.shape .e
  have hlast : Hid (∀ last : Int, (N.lists .e).getLast?.getD (-1) = last → okPut (N.lists .e) N.ne id = (decide (last < id) && decide (id < N.ne))) := fun last e => by rw [okPut, e]
  generalize hok : okPut (N.lists .e) N.ne id = ok at *
  clear hok
  go_enter Tryz.func48, Tryz.ntmps48
  go_upto_region 2 with fail
  generalize hW0 : w.alloc _ = W0
  have hE0 : Ext w W0 := by subst hW0; exact (Ext.refl _).alloc _
  generalize hBe : w.heap.size = B
  have hrb : ∀ W, Ext W0 W → W.cell? ⟨B, 0, none⟩ = some (.int .i64 y0) ∧ W.cell? ⟨B, 1, none⟩ = some (.string y1) ∧ W.cell? ⟨B, 2, none⟩ = some (.int .i64 y2) ∧ W.cell? ⟨B, 3, none⟩ = some (.int .i64 y3) ∧ W.cell? ⟨B, 4, none⟩ = some (.slice a2 l2 k2) := fun W hW => by subst hBe; subst hW0; exact ⟨box_cell hW 0 _ rfl, box_cell hW 1 _ rfl, box_cell hW 2 _ rfl, box_cell hW 3 _ rfl, box_cell hW 4 _ rfl⟩
  have hBlt : B < W0.heap.size := by subst hBe; subst hW0; simp
  clear hW0
  generalize hlst : (N.lists .e).getLast?.getD (-1) = last
  have c0 := fun (W : World) (hW : Ext W0 W) => (h.ext (hE0.trans hW)).c3
  rw [hrow] at c0
  have hrows := fun (W : World) (hW : Ext W0 W) => (h.ext (hE0.trans hW)).own .e
  rw [hrow] at hrows
  have hl2 := h.len .e
  have c0' := c0 W0 (Ext.refl _)
  go_upto_if 13 with fail
  go_cut [7] (fun s wc => s = .int .i64 last ∧ Ext W0 wc)
  case first =>
    clear hlast c0'
    by_cases hl0 : (N.lists .e).length = 0
    · have hle : Hid (last = -1) := by show _ = _; rw [← hlst, List.length_eq_zero_iff.1 hl0]; rfl
      rw [hl0]
      go_wp2
      go_meet
      case rel => exact ⟨by rw [hle.out], Ext.refl _⟩
    · obtain ⟨g, hsl, hcell⟩ := own_last hrows hlst hl0
      subst hsl
      have n0 : 0 < ((N.lists .e).length : Int) := by omega
      generalize (N.lists .e).length = len at *
      obtain ⟨m, rfl⟩ : ∃ m, len = m + 1 := ⟨len - 1, by omega⟩
      go_upto_region 3 with fail
      have i1 : (m : Int) < (m : Int) + 1 := by omega
      have iw : IntKind.i64.wrap (m : Int) = m := wrap_i64 (by omega) (by omega)
      have HK : Hid (∀ W, Ext W0 W → W.cell? ⟨N.nb, 3, none⟩ = some (.slice (some ⟨g, 0, none⟩) (m + 1) cap) ∧ W.cell? ⟨g, m, none⟩ = some (.int .i64 last)) := fun W hW => ⟨c0 W hW, hcell W hW⟩
      have hcur : Ext W0 W0.drew := (Ext.refl _).drew
      refine wp_region_held_drew (S := (fun W => W.cell? ⟨N.nb, 3, none⟩ = some (.slice (some ⟨g, 0, none⟩) (m + 1) cap) ∧ W.cell? ⟨g, m, none⟩ = some (.int .i64 last))) (by kernel_rfl) (HK.out _ hcur) (fun hHeld => ?_)
      refine tkL 0 ⟨some 14, .move (.tmp 0), 106, _, #[], none⟩ ?_ hHeld ?yyL0 ?rrL0
      case yyL0 => (intro w hSw; (try dsimp only at hSw); go_simp; try with_reducible rfl)
      try simp only [Act.put, putA, putB, putC]
      refine tkL 1 ⟨some 15, .nilCheck (.tmp 14), 0, _, #[⟨0, .data⟩], none⟩ ?_ hHeld ?yyL1 ?rrL1
      case yyL1 => (intro w hSw; (try dsimp only at hSw); go_simp; try with_reducible rfl)
      try simp only [Act.put, putA, putB, putC]
      refine tkL 2 ⟨some 16, .fieldAddr 64 (.tmp 15) 0, 0, _, #[⟨1, .data⟩], none⟩ ?_ hHeld ?yyL2 ?rrL2
      case yyL2 => (intro w hSw; (try dsimp only at hSw); go_simp; try with_reducible rfl)
      try simp only [Act.put, putA, putB, putC]
      refine tkL 3 ⟨some 17, .load 29 (.tmp 16), 29, _, #[⟨2, .data⟩], none⟩ ?_ hHeld ?yyL3 ?rrL3
      case yyL3 => (intro w hSw; (try dsimp only at hSw); go_simp; try with_reducible rfl)
      try simp only [Act.put, putA, putB, putC]
      refine tkL 4 ⟨some 18, .move (.tmp 0), 106, _, #[], none⟩ ?_ hHeld ?yyL4 ?rrL4
      case yyL4 => (intro w hSw; (try dsimp only at hSw); go_simp; try with_reducible rfl)
      try simp only [Act.put, putA, putB, putC]
      refine tkL 5 ⟨some 19, .nilCheck (.tmp 18), 0, _, #[⟨4, .data⟩], none⟩ ?_ hHeld ?yyL5 ?rrL5
      case yyL5 => (intro w hSw; (try dsimp only at hSw); go_simp; try with_reducible rfl)
      try simp only [Act.put, putA, putB, putC]
      refine tkL 6 ⟨some 20, .fieldAddr 64 (.tmp 19) 0, 0, _, #[⟨5, .data⟩], none⟩ ?_ hHeld ?yyL6 ?rrL6
      case yyL6 => (intro w hSw; (try dsimp only at hSw); go_simp; try with_reducible rfl)
      try simp only [Act.put, putA, putB, putC]
      refine tkL 7 ⟨some 21, .load 29 (.tmp 20), 29, _, #[⟨6, .data⟩], none⟩ ?_ hHeld ?yyL7 ?rrL7
      case yyL7 => (intro w hSw; (try dsimp only at hSw); go_simp; try with_reducible rfl)
      try simp only [Act.put, putA, putB, putC]
      refine tkL 8 ⟨some 22, .call { callee := .builtin .len, args := #[.tmp 21], argTypes := #[29] }, 3, _, #[⟨7, .data⟩], none⟩ ?_ hHeld ?yyL8 ?rrL8
      case yyL8 => (intro w hSw; (try dsimp only at hSw); go_simp; try with_reducible rfl)
      try simp only [Act.put, putA, putB, putC]
      refine tkL 9 ⟨some 23, .binOp .sub 3 (.tmp 22) (.const (.int .i64 1)) 3, 3, _, #[⟨8, .data⟩], none⟩ ?_ hHeld ?yyL9 ?rrL9
      case yyL9 => (intro w hSw; (try dsimp only at hSw); go_simp; try with_reducible rfl)
      try simp only [Act.put, putA, putB, putC]
      refine tkL 10 ⟨some 24, .indexAddr 29 (.tmp 17) (.tmp 23), 0, _, #[⟨3, .data⟩, ⟨9, .data⟩], none⟩ ?_ hHeld ?yyL10 ?rrL10
      case yyL10 => (intro w hSw; (try dsimp only at hSw); go_simp; try with_reducible rfl)
      try simp only [Act.put, putA, putB, putC]
      refine tkL 11 ⟨some 25, .load 3 (.tmp 24), 3, _, #[⟨10, .data⟩], none⟩ ?_ hHeld ?yyL11 ?rrL11
      case yyL11 => (intro w hSw; (try dsimp only at hSw); go_simp; try with_reducible rfl)
      try simp only [Act.put, putA, putB, putC]
      refine tkL 12 ⟨some 7, .assign (.tmp 25), 3, _, #[⟨11, .data⟩, ⟨0, .phase⟩, ⟨1, .phase⟩, ⟨2, .phase⟩, ⟨3, .phase⟩, ⟨4, .phase⟩, ⟨5, .phase⟩, ⟨6, .phase⟩, ⟨7, .phase⟩, ⟨8, .phase⟩, ⟨9, .phase⟩, ⟨10, .phase⟩, ⟨11, .phase⟩], none⟩ ?_ hHeld ?yyL12 ?rrL12
      case yyL12 => (intro w hSw; (try dsimp only at hSw); go_simp; try with_reducible rfl)
      try simp only [Act.put, putA, putB, putC]
      refine wpAnyH_done (by kernel_rfl) ?_ _
      go_wp2
      go_meet
      case rel => exact ⟨rfl, hcur⟩
  case rest =>
    obtain ⟨rfl, hWc⟩ := hcut
    obtain ⟨W, rfl⟩ : ∃ W, W = wc := ⟨_, rfl⟩
    have hW := hE0.trans hWc
    clear c0 c0' hrows
    have hB : ∀ W', Ext W W' → NetIn W' base c N := fun W' hW' => h.ext (hW.trans hW')
    have c0 := (hB W (Ext.refl _)).c3
    have c2 := (hB W (Ext.refl _)).c5
    rw [hrow] at c0
    by_cases g1 : id ≤ last
    · have hf : Hid (ok = false) := by show _ = _; rw [hlast.out last hlst, decide_eq_false (by omega : ¬ last < id)]; rfl
      have g1' : decide (id ≤ last) = true := decide_eq_true g1
      go_wp2
      go_ret
      exact ⟨ret_bool hf.out.symm, N, (hB _ (Ext.refl _)).mono (by omega), fun e => (by rw [hf.out] at e; cases e), fun _ => rfl, NStep.ext N hW⟩
    have g1' : decide (id ≤ last) = false := decide_eq_false g1
    by_cases g2 : N.ne ≤ id
    · have hf : Hid (ok = false) := by show _ = _; rw [hlast.out last hlst, decide_eq_false (by omega : ¬ id < N.ne), Bool.and_false]
      have g2' : decide (N.ne ≤ id) = true := decide_eq_true g2
      go_wp2
      go_ret
      exact ⟨ret_bool hf.out.symm, N, (hB _ (Ext.refl _)).mono (by omega), fun e => (by rw [hf.out] at e; cases e), fun _ => rfl, NStep.ext N hW⟩
    have g2' : decide (N.ne ≤ id) = false := decide_eq_false g2
    have hf : Hid (ok = true) := by show _ = _; rw [hlast.out last hlst, decide_eq_true (by omega : last < id), decide_eq_true (by omega : id < N.ne)]; rfl
    have hl2 := h.len .e
    have hsz := hW.le
    have hown0 := (hB _ ((Ext.refl W).alloc (.cells #[.int .i64 id] 3))).own .e
    rw [hrow] at hown0
    go_wp2_with (at_builtin; refine wpList_append_own_at _ rfl _ _ 29 rfl base 3 i0 _ 1 8 Tryz.underlying29 hi hz0 hz1 hz2 rfl (by decide) _ _ _ rfl hown0 ⟨_, 0, none⟩ 1 1 [.int .i64 id] rfl rfl (cell_one_new _ _ _) (by simp [Value.oneCell']) (by unfold maxLen; omega) (by omega) (by simp; omega) ?_; intro v' w3 hown' hgrow hnil hloc; obtain ⟨g, cap', rfl⟩ := own_succ hown'; have hw3 := net_grown (hB _ ((Ext.refl W).alloc (.cells #[.int .i64 id] 3))) .e hrow hgrow; have f3 := hw3.2.1 3; have c3 := hw3.2.2 3 _ rfl)
    have hP := (hB _ ((Ext.refl W).alloc (.cells #[.int .i64 id] 3))).push .e (by simp) (x := id) (by exact hown') (by rw [hrow]; exact hgrow) (by rw [hrow]; exact hloc)
    have hvn : ∀ x, (Value.slice (some ⟨g, 0, none⟩) ((N.lists .e).length + 1) cap').ownBlock = some x → (N.rows .e).ownBlock = some x ∨ W.heap.size ≤ x := fun x hx => by
      rcases hloc with e | e
      · rw [hrow]; rw [e] at hx; exact .inl hx
      · rw [e] at hx; cases hx; exact .inr (by simp)
    have hchg : Chg (NetR N) w (w3.setCell ⟨N.nb, 3, none⟩ (.slice (some ⟨g, 0, none⟩) ((N.lists .e).length + 1) cap')) := ((Chg.of_ext (hW.alloc _)).grown hgrow (fun k hk => .inr (.inr ⟨.e, by rw [hrow]; exact hk⟩))).setCell (.inl rfl) _
    have hrb3 : ∀ k, (w3.setCell ⟨N.nb, 3, none⟩ (.slice (some ⟨g, 0, none⟩) ((N.lists .e).length + 1) cap')).cell? ⟨B, k, none⟩ = W.cell? ⟨B, k, none⟩ := fun k => by
      have hBW : B < W.heap.size := Nat.lt_of_lt_of_le hBlt hWc.le
      have hne : B ≠ N.nb := by have := h.nb_lt; omega
      rw [World.cell?_of_block (Below.heap_setCell _ _ _ _ hne), World.cell?_of_block (hgrow.block B (by simp; omega) (fun e2 => by have := (h.row_lt .e (by rw [hrow]; exact e2.symm)).2; omega)), World.cell?_of_block (Below.heap_alloc _ _ _ hBW)]
    change NetIn (w3.setCell ⟨N.nb, 3, none⟩ _) base (c + 1) _ at hP
    have hB4 : B < (w3.setCell ⟨N.nb, 3, none⟩ (.slice (some ⟨g, 0, none⟩) ((N.lists .e).length + 1) cap')).heap.size := by have h1 := hgrow.size; have h2 := hWc.le; simp at h1; simp; omega
    generalize w3.setCell ⟨N.nb, 3, none⟩ _ = w4 at *
    obtain ⟨r0, r1, r2, r3, r4⟩ := hrb W hWc
    simp only [← hrb3] at r0 r1 r2 r3 r4
    have hmbB : B ≠ N.mb .e := by have := (h.maps .e).lt; omega
    have HK : Hid (∀ W, Chg (fun x => x = N.mb .e) w4 W → W.cell? ⟨N.nb, 4, none⟩ = some (.map (some (N.mb .e))) ∧ W.cell? ⟨B, 0, none⟩ = some (.int .i64 y0) ∧ W.cell? ⟨B, 1, none⟩ = some (.string y1) ∧ W.cell? ⟨B, 2, none⟩ = some (.int .i64 y2) ∧ W.cell? ⟨B, 3, none⟩ = some (.int .i64 y3) ∧ W.cell? ⟨B, 4, none⟩ = some (.slice a2 l2 k2)) := fun W hW => by
      have hx : ∀ b k, b < w4.heap.size → b ≠ N.mb .e → W.cell? ⟨b, k, none⟩ = w4.cell? ⟨b, k, none⟩ := fun b k h1 h2 => World.cell?_of_block (hW.block b h1 h2)
      have hnn := hP.nb_lt
      refine ⟨by rw [hx N.nb _ hnn (Ne.symm (hP.mb_nb .e))]; exact hP.c4, by rw [hx B _ hB4 hmbB]; exact r0, by rw [hx B _ hB4 hmbB]; exact r1, by rw [hx B _ hB4 hmbB]; exact r2, by rw [hx B _ hB4 hmbB]; exact r3, by rw [hx B _ hB4 hmbB]; exact r4⟩
    have hcur : Chg (fun x => x = N.mb .e) w4 w4.drew := Chg.of_ext (Ext.refl _).drew
    obtain ⟨ob, hput, hM, hsz4, hoth⟩ := ((hP.ext (Ext.refl _).drew).maps .e).put Tryz.underlying62 hid (.agg #[.int .i64 y0, .string y1, .int .i64 y2, .int .i64 y3, .slice a2 l2 k2])
    replace hput : (Instr.mapUpdate 62 (.map (some (N.mb .e))) (.int .i64 id) (.agg #[.int .i64 y0, .string y1, .int .i64 y2, .int .i64 y3, .slice a2 l2 k2])).run Tryz.prog w4.drew = .ok () (setBlock w4.drew (N.mb .e) ob) := hput
    refine wp_region_held_drew (S := (fun W => W.cell? ⟨N.nb, 4, none⟩ = some (.map (some (N.mb .e))) ∧ W.cell? ⟨B, 0, none⟩ = some (.int .i64 y0) ∧ W.cell? ⟨B, 1, none⟩ = some (.string y1) ∧ W.cell? ⟨B, 2, none⟩ = some (.int .i64 y2) ∧ W.cell? ⟨B, 3, none⟩ = some (.int .i64 y3) ∧ W.cell? ⟨B, 4, none⟩ = some (.slice a2 l2 k2))) (by kernel_rfl) (HK.out _ hcur) (fun hHeld => ?_)
    refine tkL 0 ⟨some 47, .move (.tmp 0), 106, _, #[], none⟩ ?_ hHeld ?yyM0 ?rrM0
    case yyM0 => (intro w hSw; (try dsimp only at hSw); go_simp; try with_reducible rfl)
    try simp only [Act.put, putA, putB, putC]
    refine tkL 1 ⟨some 48, .nilCheck (.tmp 47), 0, _, #[⟨0, .data⟩], none⟩ ?_ hHeld ?yyM1 ?rrM1
    case yyM1 => (intro w hSw; (try dsimp only at hSw); go_simp; try with_reducible rfl)
    try simp only [Act.put, putA, putB, putC]
    refine tkL 2 ⟨some 49, .fieldAddr 64 (.tmp 48) 1, 0, _, #[⟨1, .data⟩], none⟩ ?_ hHeld ?yyM2 ?rrM2
    case yyM2 => (intro w hSw; (try dsimp only at hSw); go_simp; try with_reducible rfl)
    try simp only [Act.put, putA, putB, putC]
    refine tkL 3 ⟨some 50, .load 62 (.tmp 49), 62, _, #[⟨2, .data⟩], none⟩ ?_ hHeld ?yyM3 ?rrM3
    case yyM3 => (intro w hSw; (try dsimp only at hSw); go_simp; try with_reducible rfl)
    try simp only [Act.put, putA, putB, putC]
    refine tkL 4 ⟨some 51, .move (.tmp 1), 3, _, #[], none⟩ ?_ hHeld ?yyM4 ?rrM4
    case yyM4 => (intro w hSw; (try dsimp only at hSw); go_simp; try with_reducible rfl)
    try simp only [Act.put, putA, putB, putC]
    refine tkL 5 ⟨some 52, .load 46 (.tmp 5), 46, _, #[], none⟩ ?_ hHeld ?yyM5 ?rrM5
    case yyM5 => (intro w hSw; (try dsimp only at hSw); go_simp; try with_reducible rfl)
    try simp only [Act.put, putA, putB, putC]
    refine wpAnyH_ready (rs := [6]) (by kernel_rfl) (by simp) ?_
    refine AllReadyH.cons (o := ⟨none, .mapUpdate 62 (.tmp 50) (.tmp 51) (.tmp 52), 0, _, #[⟨3, .data⟩, ⟨4, .data⟩, ⟨5, .data⟩, ⟨0, .phase⟩, ⟨1, .phase⟩, ⟨2, .phase⟩, ⟨3, .phase⟩, ⟨4, .phase⟩, ⟨5, .phase⟩], none⟩) rfl (fun K hK => ?_) AllReadyH.nil
    go_simp
    replace hcur := hcur.setBlock (B := N.mb .e) rfl ob hoth
    refine hK.out _ _ (HK.out _ hcur) (fun hHeld => ?_)
    clear hK K
    try simp only [Act.put, putA, putB, putC]
    refine wpAnyH_done (by kernel_rfl) ?_ _
    go_wp2
    go_ret
    exact ⟨ret_bool hf.out.symm, _, (hP.ext (Ext.refl _).drew).put .e (by simp) hM hoth (⟨_, _, _, _, _, _, _, rfl, hk2⟩), fun _ => ⟨_, rfl⟩, fun e => (by rw [hf.out] at e; cases e), ⟨hchg.trans (hcur.mono (fun x hx => .inr (.inl ⟨.e, hx⟩))), fun x hx => (NetR.push hvn (NetR.put hx)).imp_right (Nat.le_trans hsz)⟩⟩
end Go.Proofs.YtbhmblkappmfjaaGreat

/- What stands in a net's maps of rows: data in memory of their own. -/
namespace Go.Proofs.YtbhmblkappmfjaaGreat
open Go.RowKit Go.Deep

/-- The first k rows of f stand under their numbers, leaf c of row i in the memory P i c of its own, from block base on, apart from the net's own blocks. -/
def RowsP (w : World) (N : NetD) (base hi : Nat) (j : MI) (n : Nat) (f : Nat → Nat → D) (k : Nat) (P : Nat → Nat → Nat → Prop) : Prop :=
  hi ≤ w.heap.size ∧ (∀ i, i < k → ∃ C : Nat → Value, N.val j (f i 0).int! = .agg ((List.range n).map C).toArray ∧ ∀ c, c < n → DIn (P i c) w (f i c) (C c) ∧ Own w (f i c) (P i c) (C c) ∧ ∀ x, P i c x → base ≤ x ∧ x < hi ∧ ¬ NetR N x) ∧
  (∀ i c i' c', i < k → c < n → i' < k → c' < n → ¬ (i = i' ∧ c = c') → ∀ x, P i c x → ¬ P i' c' x)
def RowsD (w : World) (N : NetD) (base hi : Nat) (j : MI) (n : Nat) (f : Nat → Nat → D) (k : Nat) : Prop := ∃ P, RowsP w N base hi j n f k P

theorem RowsD.nil (w : World) (N : NetD) (base : Nat) (j : MI) (n : Nat) (f : Nat → Nat → D) : RowsD w N base w.heap.size j n f 0 :=
  ⟨fun _ _ _ => False, Nat.le_refl _, fun i hi => by omega, fun i _ _ _ hi => by omega⟩
theorem RowsD.low {w : World} {N : NetD} {base base' hi : Nat} {j : MI} {n : Nat} {f : Nat → Nat → D} {k : Nat} (h : RowsD w N base hi j n f k) (e : base' ≤ base) : RowsD w N base' hi j n f k := by
  obtain ⟨P, hw, h1, h2⟩ := h
  refine ⟨P, hw, fun i hi => ?_, h2⟩
  obtain ⟨C, hv, hc⟩ := h1 i hi
  exact ⟨C, hv, fun c hc' => ⟨(hc c hc').1, (hc c hc').2.1, fun x hx => ⟨Nat.le_trans e ((hc c hc').2.2 x hx).1, ((hc c hc').2.2 x hx).2⟩⟩⟩
/-- The net has gone on: what stood there stands. -/
theorem RowsP.step {w w' : World} {N N' : NetD} {base hi : Nat} {j : MI} {n : Nat} {f : Nat → Nat → D} {k : Nat} {P : Nat → Nat → Nat → Prop} (h : RowsP w N base hi j n f k P) (st : NStep w N w' N') (hv : ∀ i, i < k → N'.val j (f i 0).int! = N.val j (f i 0).int!) : RowsP w' N' base hi j n f k P := by
  obtain ⟨hw, h1, h2⟩ := h
  refine ⟨Nat.le_trans hw st.chg.size, fun i hi => ?_, h2⟩
  obtain ⟨C, hv1, hc⟩ := h1 i hi
  refine ⟨C, (hv i hi).trans hv1, fun c hc' => ?_⟩
  obtain ⟨a1, a2, a3⟩ := hc c hc'
  have key : ∀ x, P i c x → x < w.heap.size → w'.heap[x]? = w.heap[x]? := fun x hx hl => st.chg.block x hl (a3 x hx).2.2
  refine ⟨a1.carry st.chg.size key, a2.carry st.chg.size key, fun x hx => ⟨(a3 x hx).1, (a3 x hx).2.1, fun hn => ?_⟩⟩
  rcases st.own x hn with h3 | h3
  · exact (a3 x hx).2.2 h3
  · have := (a3 x hx).2.1; omega
theorem RowsD.step {w w' : World} {N N' : NetD} {base hi : Nat} {j : MI} {n : Nat} {f : Nat → Nat → D} {k : Nat} (h : RowsD w N base hi j n f k) (st : NStep w N w' N') (hv : ∀ i, i < k → N'.val j (f i 0).int! = N.val j (f i 0).int!) : RowsD w' N' base hi j n f k := by
  obtain ⟨P, h⟩ := h
  exact ⟨P, h.step st hv⟩
theorem RowsD.ext {w w' : World} {N : NetD} {base hi : Nat} {j : MI} {n : Nat} {f : Nat → Nat → D} {k : Nat} (h : RowsD w N base hi j n f k) (e : Ext w w') : RowsD w' N base hi j n f k := h.step (NStep.ext N e) (fun _ _ => rfl)
/-- One row more. -/
theorem RowsD.push {w w' : World} {N N' : NetD} {base hi : Nat} {j : MI} {n : Nat} {f : Nat → Nat → D} {k : Nat} (h : RowsD w N base hi j n f k) (st : NStep w N w' N') (hv : ∀ i, i < k → N'.val j (f i 0).int! = N.val j (f i 0).int!) (hb : base ≤ w.heap.size)
    (C : Nat → Value) (hval : N'.val j (f k 0).int! = .agg ((List.range n).map C).toArray) (Q : Nat → Nat → Prop)
    (hq : ∀ c, c < n → DIn (Q c) w' (f k c) (C c) ∧ Own w' (f k c) (Q c) (C c) ∧ ∀ x, Q c x → w.heap.size ≤ x ∧ x < w'.heap.size ∧ ¬ NetR N' x) (hdq : ∀ c c', c < n → c' < n → c ≠ c' → ∀ x, Q c x → ¬ Q c' x) : RowsD w' N' base w'.heap.size j n f (k + 1) := by
  obtain ⟨P, h⟩ := h
  have hlow : ∀ i, i < k → ∀ c, c < n → ∀ x, P i c x → x < w.heap.size := fun i hi c hc x hx => by
    obtain ⟨_, _, hc0⟩ := h.2.1 i hi
    exact Nat.lt_of_lt_of_le ((hc0 c hc).2.2 x hx).2.1 h.1
  obtain ⟨hw, h1, h2⟩ := h.step st hv
  refine ⟨fun i c => if i = k then Q c else P i c, Nat.le_refl _, fun i hi => ?_, fun i c i' c' hi hc hi' hc' hne x hx => ?_⟩
  · by_cases hik : i = k
    · subst hik
      refine ⟨C, hval, fun c hc => ?_⟩
      dsimp only
      rw [if_pos rfl]
      exact ⟨(hq c hc).1, (hq c hc).2.1, fun x hx => ⟨Nat.le_trans hb ((hq c hc).2.2 x hx).1, ((hq c hc).2.2 x hx).2⟩⟩
    · obtain ⟨C', hv', hc'⟩ := h1 i (by omega)
      refine ⟨C', hv', fun c hc => ?_⟩
      dsimp only
      rw [if_neg hik]
      exact ⟨(hc' c hc).1, (hc' c hc).2.1, fun x hx => ⟨((hc' c hc).2.2 x hx).1, Nat.lt_of_lt_of_le ((hc' c hc).2.2 x hx).2.1 hw, ((hc' c hc).2.2 x hx).2.2⟩⟩
  · dsimp only at hx ⊢
    by_cases e1 : i = k <;> by_cases e2 : i' = k
    · rw [if_pos e1] at hx
      rw [if_pos e2]
      exact hdq c c' hc hc' (fun h => hne ⟨by omega, h⟩) x hx
    · rw [if_pos e1] at hx
      rw [if_neg e2]
      intro hx2
      have := hlow i' (by omega) c' hc' x hx2
      have := ((hq c hc).2.2 x hx).1
      omega
    · rw [if_neg e1] at hx
      rw [if_pos e2]
      intro hx2
      have := hlow i (by omega) c hc x hx
      have := ((hq c' hc').2.2 x hx2).1
      omega
    · rw [if_neg e1] at hx
      rw [if_neg e2]
      exact h2 i c i' c' (by omega) hc (by omega) hc' hne x hx
end Go.Proofs.YtbhmblkappmfjaaGreat

/- A list that is made of a net's rows: its own block is new, its leaves lie where the net's rows do. -/
namespace Go.Proofs.YtbhmblkappmfjaaGreat
open Go.RowKit Go.Deep

/-- The cells of the first k rows. -/
def rowCells (n : Nat) (C : Nat → Nat → Value) : Nat → List Value
  | 0 => []
  | k + 1 => rowCells n C k ++ (List.range n).map (C k)
theorem rowCells_len (n : Nat) (C : Nat → Nat → Value) (k : Nat) : (rowCells n C k).length = k * n := by
  induction k with
  | zero => simp [rowCells]
  | succ k ih => simp [rowCells, ih, Nat.add_mul]
theorem rowCells_get (n : Nat) (C : Nat → Nat → Value) (k : Nat) : ∀ i, i < k → ∀ c, c < n → (rowCells n C k)[i * n + c]? = some (C i c) := by
  induction k with
  | zero => intro i hi; omega
  | succ k ih =>
    intro i hi c hc
    have hlen := rowCells_len n C k
    by_cases hik : i = k
    · subst hik
      rw [rowCells, List.getElem?_append_right (by omega), show i * n + c - (rowCells n C i).length = c by omega, List.getElem?_map, List.getElem?_range hc]
      rfl
    · have hlt := at_lt (show i < k by omega) hc
      rw [rowCells, List.getElem?_append_left (by omega)]
      exact ih i (by omega) c hc
/-- What stands under the numbers of a net, its leaves in blocks of S. -/
def RowsQ (w : World) (N : NetD) (S : Nat → Prop) (j : MI) (n : Nat) (f : Nat → Nat → D) (k : Nat) (P : Nat → Nat → Nat → Prop) : Prop :=
  (∀ x, S x → x < w.heap.size) ∧ (∀ i, i < k → ∃ C : Nat → Value, N.val j (f i 0).int! = .agg ((List.range n).map C).toArray ∧ ∀ c, c < n → DIn (P i c) w (f i c) (C c) ∧ Own w (f i c) (P i c) (C c) ∧ ∀ x, P i c x → S x ∧ ¬ NetR N x) ∧
  (∀ i c i' c', i < k → c < n → i' < k → c' < n → ¬ (i = i' ∧ c = c') → ∀ x, P i c x → ¬ P i' c' x)
def RowsS (w : World) (N : NetD) (S : Nat → Prop) (j : MI) (n : Nat) (f : Nat → Nat → D) (k : Nat) : Prop := ∃ P, RowsQ w N S j n f k P
theorem RowsQ.step {w w' : World} {N N' : NetD} {S : Nat → Prop} {j : MI} {n : Nat} {f : Nat → Nat → D} {k : Nat} {P : Nat → Nat → Nat → Prop} (h : RowsQ w N S j n f k P) (st : NStep w N w' N') (hv : ∀ i, i < k → N'.val j (f i 0).int! = N.val j (f i 0).int!) : RowsQ w' N' S j n f k P := by
  obtain ⟨hw, h1, h2⟩ := h
  refine ⟨fun x hx => Nat.lt_of_lt_of_le (hw x hx) st.chg.size, fun i hi => ?_, h2⟩
  obtain ⟨C, hv1, hc⟩ := h1 i hi
  refine ⟨C, (hv i hi).trans hv1, fun c hc' => ?_⟩
  obtain ⟨a1, a2, a3⟩ := hc c hc'
  have key : ∀ x, P i c x → x < w.heap.size → w'.heap[x]? = w.heap[x]? := fun x hx hl => st.chg.block x hl (a3 x hx).2
  refine ⟨a1.carry st.chg.size key, a2.carry st.chg.size key, fun x hx => ⟨(a3 x hx).1, fun hn => ?_⟩⟩
  rcases st.own x hn with h3 | h3
  · exact (a3 x hx).2 h3
  · have := hw x (a3 x hx).1; omega
theorem RowsS.step {w w' : World} {N N' : NetD} {S : Nat → Prop} {j : MI} {n : Nat} {f : Nat → Nat → D} {k : Nat} (h : RowsS w N S j n f k) (st : NStep w N w' N') (hv : ∀ i, i < k → N'.val j (f i 0).int! = N.val j (f i 0).int!) : RowsS w' N' S j n f k := by
  obtain ⟨P, h⟩ := h
  exact ⟨P, h.step st hv⟩
theorem RowsS.ext {w w' : World} {N : NetD} {S : Nat → Prop} {j : MI} {n : Nat} {f : Nat → Nat → D} {k : Nat} (h : RowsS w N S j n f k) (e : Ext w w') : RowsS w' N S j n f k := h.step (NStep.ext N e) (fun _ _ => rfl)
/-- One row more, its leaves in new blocks. -/
theorem RowsS.push {w w' : World} {N N' : NetD} {S S' : Nat → Prop} {j : MI} {n : Nat} {f : Nat → Nat → D} {k : Nat} (h : RowsS w N S j n f k) (st : NStep w N w' N') (hv : ∀ i, i < k → N'.val j (f i 0).int! = N.val j (f i 0).int!) (hS : ∀ x, S x → S' x) (hS' : ∀ x, S' x → x < w'.heap.size)
    (C : Nat → Value) (hval : N'.val j (f k 0).int! = .agg ((List.range n).map C).toArray) (Q : Nat → Nat → Prop)
    (hq : ∀ c, c < n → DIn (Q c) w' (f k c) (C c) ∧ Own w' (f k c) (Q c) (C c) ∧ ∀ x, Q c x → w.heap.size ≤ x ∧ S' x ∧ ¬ NetR N' x) (hdq : ∀ c c', c < n → c' < n → c ≠ c' → ∀ x, Q c x → ¬ Q c' x) : RowsS w' N' S' j n f (k + 1) := by
  obtain ⟨P, h⟩ := h
  have hlow : ∀ i, i < k → ∀ c, c < n → ∀ x, P i c x → x < w.heap.size := fun i hi c hc x hx => by
    obtain ⟨_, _, hc0⟩ := h.2.1 i hi
    exact h.1 x ((hc0 c hc).2.2 x hx).1
  obtain ⟨hw, h1, h2⟩ := h.step st hv
  refine ⟨fun i c => if i = k then Q c else P i c, hS', fun i hi => ?_, fun i c i' c' hi hc hi' hc' hne x hx => ?_⟩
  · by_cases hik : i = k
    · subst hik
      refine ⟨C, hval, fun c hc => ?_⟩
      dsimp only
      rw [if_pos rfl]
      exact ⟨(hq c hc).1, (hq c hc).2.1, fun x hx => ⟨((hq c hc).2.2 x hx).2.1, ((hq c hc).2.2 x hx).2.2⟩⟩
    · obtain ⟨C', hv', hc'⟩ := h1 i (by omega)
      refine ⟨C', hv', fun c hc => ?_⟩
      dsimp only
      rw [if_neg hik]
      exact ⟨(hc' c hc).1, (hc' c hc).2.1, fun x hx => ⟨hS x ((hc' c hc).2.2 x hx).1, ((hc' c hc).2.2 x hx).2⟩⟩
  · dsimp only at hx ⊢
    by_cases e1 : i = k <;> by_cases e2 : i' = k
    · rw [if_pos e1] at hx
      rw [if_pos e2]
      exact hdq c c' hc hc' (fun h => hne ⟨by omega, h⟩) x hx
    · rw [if_pos e1] at hx
      rw [if_neg e2]
      intro hx2
      have := hlow i' (by omega) c' hc' x hx2
      have := ((hq c hc).2.2 x hx).1
      omega
    · rw [if_neg e1] at hx
      rw [if_pos e2]
      intro hx2
      have := hlow i (by omega) c hc x hx
      have := ((hq c' hc').2.2 x hx2).1
      omega
    · rw [if_neg e1] at hx
      rw [if_neg e2]
      exact h2 i c i' c' (by omega) hc (by omega) hc' hne x hx
/-- The rows are told of one list alone: another list that agrees on them will do. -/
theorem RowsS.congr {w : World} {N : NetD} {S : Nat → Prop} {j : MI} {n : Nat} {f g : Nat → Nat → D} {k : Nat} (h : RowsS w N S j n f k) (e : ∀ i, i < k → g i = f i) : RowsS w N S j n g k := by
  obtain ⟨P, h0, h1, h2⟩ := h
  exact ⟨P, h0, fun i hi => by rw [e i hi]; exact h1 i hi, h2⟩
/-- The cells, chosen. -/
theorem RowsQ.cells {w : World} {N : NetD} {S : Nat → Prop} {j : MI} {n : Nat} {f : Nat → Nat → D} {k : Nat} {P : Nat → Nat → Nat → Prop} (h : RowsQ w N S j n f k P) : ∃ C : Nat → Nat → Value, ∀ i, i < k → N.val j (f i 0).int! = .agg ((List.range n).map (C i)).toArray ∧ ∀ c, c < n → DIn (P i c) w (f i c) (C i c) ∧ Own w (f i c) (P i c) (C i c) ∧ ∀ x, P i c x → S x ∧ ¬ NetR N x := by
  refine ⟨fun i => if hi : i < k then Classical.choose (h.2.1 i hi) else fun _ => undef, fun i hi' => ?_⟩
  dsimp only
  rw [dif_pos hi']
  exact Classical.choose_spec (h.2.1 i hi')
end Go.Proofs.YtbhmblkappmfjaaGreat
