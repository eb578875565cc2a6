/- What the tables' method list answers: a list out of the net's rows. -/
import Derived.Test.YteijgejpenlgjaaGreatNetD
import Derived.Deep.AppendLies
import Derived.Test.YteijgejpenlgjaaGreatTk
namespace Go.Proofs.YteijgejpenlgjaaGreat
open Go.RowKit Go.Deep

theorem Tryz.infoNode : (Tryz.prog.info? 81).map (fun i => (i.zero, i.size, i.bytes)) = some (some (.agg #[.int .i64 0, .slice none 0 0, .slice none 0 0]), 3, 56) := by kernel_rfl
set_option maxRecDepth 100000 in
set_option maxHeartbeats 4000000 in
theorem listNode_any (w : World) (base0 c : Nat) (S : Nat → Prop) (N : NetD) (f : Nat → Nat → D) (len : Nat) (h : NetIn w base0 c N) (HRa : ∀ i, i < len → HasRow 4 (f i)) (hln : N.lists .n = (List.range len).map fun i => (f i 0).int!) (hkn : ∀ i, i < len → (f i 0).int! ∈ N.keys .n) (hrn : RowsS w N S .n 3 f len) (hl : len ≤ 1000) :
  Calls Tryz.prog 62 #[.pointer (some ⟨N.nb, 0, none⟩)] w fun e w' => ∃ a l c, e = .returned (.slice a l c) ∧ (DIn (fun x => S x ∨ w.heap.size ≤ x ∧ x < w'.heap.size) w' (.list 3 len f) (.slice a l c) ∧ Own w' (.list 3 len f) (fun x => S x ∨ w.heap.size ≤ x ∧ x < w'.heap.size) (.slice a l c)) ∧ Ext w w' := by
 obtain ⟨i0, hi0, hz0, hz1, hz2⟩ := info_parts Tryz.infoNode
 obtain ⟨a, cap, hrow⟩ := h.shape .n
 have hlen : (N.lists .n).length = len := by rw [hln]; simp
 rw [hlen] at hrow
 have c0 := h.c0
 rw [hrow] at c0
 have hcell : ∀ k, k < len → ∃ g, a = some ⟨g, 0, none⟩ ∧ g < w.heap.size ∧ w.cell? ⟨g, k, none⟩ = some (.int .i64 (f k 0).int!) := by
  intro k hk
  have ho := h.own .n
  rw [hrow, hlen] at ho
  rcases ho.2 with ⟨_, e⟩ | ⟨g, cap', cur, e, _⟩
  ·
   omega
  ·
   injection e with e1 _ _
   refine ⟨g, e1, (ho.lt g (by rw [e1]; rfl)).2, ?_⟩
   have := ho.cells (g := g) (by rw [e1]; rfl) k (.int .i64 (f k 0).int!) (by rw [List.getElem?_map, hln, List.getElem?_map, List.getElem?_range hk]; rfl)
   rw [Go.WideShapes.add_plain] at this
   simpa using this
 obtain ⟨P, hRP⟩ := hrn
 obtain ⟨C, hC⟩ := hRP.cells
 have hdis := hRP.2.2
 have hhi := hRP.1
 clear hRP
 go_enter Tryz.func62, Tryz.ntmps62
 go_wp2
 go_loopw [3, 11] (fun u i wr => ∃ k : Nat, k ≤ len ∧ i = .int .i64 k ∧ wr.ownsRow w.heap.size 81 3 u k (rowCells 3 C k) ∧ Ext w wr) (fun _ i _ => len - (intOf i).toNat)
 case atStart => exact ⟨0, Nat.zero_le _, rfl, World.ownsRow_nil _ _ _ _, Ext.refl _⟩
 case round =>
  obtain ⟨k, hk, rfl, hown, hE⟩ := hrel
  obtain ⟨ua, ucap, rfl⟩ : ∃ a cap, u3 = .slice a k cap := by
   rcases hown.2 with ⟨rfl, rfl⟩ | ⟨g, cap', cur, rfl, _⟩
   ·
    exact ⟨_, _, rfl⟩
   ·
    exact ⟨_, _, rfl⟩
  by_cases hlt : k < len
  ·
   obtain ⟨g, rfl, hgl, e0⟩ := hcell k hlt
   rw [← hE.cell hgl] at e0
   have HR := HRa k hlt
   obtain ⟨id, hd⟩ := (show Has (f k 0) .int from HR 0 (by decide)).int
   have hidv : (f k 0).int! = id := by rw [hd]; rfl
   obtain ⟨hval, hCk⟩ := hC k hlt
   have b0 := (hCk 0 (by decide)).1
   rw [hd] at b0
   obtain ⟨v0, zid⟩ := b0.int_eq
   obtain ⟨a1, cap1, l1, f1, hD1, v1, _, _⟩ := list_shape (show Has (f k 1) (.list 0) from HR 1 (by decide)) (hCk 1 (by decide)).1
   clear hD1
   obtain ⟨a2, cap2, l2, f2, hD2, v2, _, _⟩ := list_shape (show Has (f k 2) (.list 3) from HR 2 (by decide)) (hCk 2 (by decide)).1
   clear hD2
   have hin := hkn k hlt
   have c1 := (h.ext hE).c1
   have hlook := ((h.ext hE).maps .n).look Tryz.underlying97 (zeroNode wr) (k := id) zid false
   rw [hidv] at hin hval e0
   simp only [Bool.false_eq_true, if_false, if_pos hin, hval] at hlook
   have hrc : (List.range 3).map (C k) = [.int .i64 id, .slice a1 l1 cap1, .slice a2 l2 cap2] := by
    show [C k 0, C k 1, C k 2] = _
    rw [v0, v1, v2]
   rw [hrc] at hlook
   have hnext : Hid (rowCells 3 C (k + 1) = rowCells 3 C k ++ [.int .i64 id, .slice a1 l1 cap1, .slice a2 l2 cap2]) := by show rowCells 3 C k ++ (List.range 3).map (C k) = _; rw [hrc]
   have hle := hE.le
   clear hCk hval b0 hrc hin v0 v1 v2
   go_wp2_with (at_builtin; refine wpList_append_own_at _ rfl _ _ 31 rfl w.heap.size 81 i0 _ 3 56 Tryz.underlying31 hi0 hz0 hz1 hz2 rfl (by decide) _ _ _ rfl (hown.alloc _) ⟨_, 0, none⟩ 1 1 [.int .i64 id, .slice a1 l1 cap1, .slice a2 l2 cap2] rfl rfl (World.news_of_block (cs := #[.int .i64 id, .slice a1 l1 cap1, .slice a2 l2 cap2]) (t := 81) (fr := (0, 0)) (heap_alloc_new _ _)) (by simp [Value.oneCell']) (by unfold maxLen; omega) (by omega) (by simp; omega) ?_; intro v' w3 hown' hgrow hnil hloc)
   go_roundw
   case rel => exact ⟨k + 1, by omega, by go_num, by rw [hnext.out]; exact hown', Below.grown (hE.alloc _) hgrow (by simp; omega) (fun j hj => (hown.lt j hj).1)⟩
   case measure => simp [intOf]; omega
  ·
   have hkx : k = len := by omega
   subst hkx
   have hend : Hid _ := rows_end (S := S) hown (fun i hi' c hc => ⟨((hC i hi').2 c hc).1.ext hE, ((hC i hi').2 c hc).2.1.ext hE, fun x hx => (((hC i hi').2 c hc).2.2 x hx).1⟩) hdis hhi (by unfold maxLen; omega)
   clear hC
   go_wp2
   go_ret
   exact ⟨_, _, _, rfl, hend.out, hE⟩

theorem Tryz.infoEdge : (Tryz.prog.info? 86).map (fun i => (i.zero, i.size, i.bytes)) = some (some (.agg #[.int .i64 0, .string ⟨#[]⟩, .int .i64 0, .int .i64 0, .slice none 0 0]), 5, 64) := by kernel_rfl
set_option maxRecDepth 100000 in
set_option maxHeartbeats 4000000 in
theorem listEdge_any (w : World) (base0 c : Nat) (S : Nat → Prop) (N : NetD) (f : Nat → Nat → D) (len : Nat) (h : NetIn w base0 c N) (HRa : ∀ i, i < len → HasRow 5 (f i)) (hln : N.lists .e = (List.range len).map fun i => (f i 0).int!) (hkn : ∀ i, i < len → (f i 0).int! ∈ N.keys .e) (hrn : RowsS w N S .e 5 f len) (hl : len ≤ 1000) :
  Calls Tryz.prog 63 #[.pointer (some ⟨N.nb, 3, none⟩)] w fun e w' => ∃ a l c, e = .returned (.slice a l c) ∧ (DIn (fun x => S x ∨ w.heap.size ≤ x ∧ x < w'.heap.size) w' (.list 5 len f) (.slice a l c) ∧ Own w' (.list 5 len f) (fun x => S x ∨ w.heap.size ≤ x ∧ x < w'.heap.size) (.slice a l c)) ∧ Ext w w' := by
 obtain ⟨i0, hi0, hz0, hz1, hz2⟩ := info_parts Tryz.infoEdge
 obtain ⟨a, cap, hrow⟩ := h.shape .e
 have hlen : (N.lists .e).length = len := by rw [hln]; simp
 rw [hlen] at hrow
 have c0 := h.c3
 rw [hrow] at c0
 have hcell : ∀ k, k < len → ∃ g, a = some ⟨g, 0, none⟩ ∧ g < w.heap.size ∧ w.cell? ⟨g, k, none⟩ = some (.int .i64 (f k 0).int!) := by
  intro k hk
  have ho := h.own .e
  rw [hrow, hlen] at ho
  rcases ho.2 with ⟨_, e⟩ | ⟨g, cap', cur, e, _⟩
  ·
   omega
  ·
   injection e with e1 _ _
   refine ⟨g, e1, (ho.lt g (by rw [e1]; rfl)).2, ?_⟩
   have := ho.cells (g := g) (by rw [e1]; rfl) k (.int .i64 (f k 0).int!) (by rw [List.getElem?_map, hln, List.getElem?_map, List.getElem?_range hk]; rfl)
   rw [Go.WideShapes.add_plain] at this
   simpa using this
 obtain ⟨P, hRP⟩ := hrn
 obtain ⟨C, hC⟩ := hRP.cells
 have hdis := hRP.2.2
 have hhi := hRP.1
 clear hRP
 go_enter Tryz.func63, Tryz.ntmps63
 go_wp2
 go_loopw [3, 11] (fun u i wr => ∃ k : Nat, k ≤ len ∧ i = .int .i64 k ∧ wr.ownsRow w.heap.size 86 5 u k (rowCells 5 C k) ∧ Ext w wr) (fun _ i _ => len - (intOf i).toNat)
 case atStart => exact ⟨0, Nat.zero_le _, rfl, World.ownsRow_nil _ _ _ _, Ext.refl _⟩
 case round =>
  obtain ⟨k, hk, rfl, hown, hE⟩ := hrel
  obtain ⟨ua, ucap, rfl⟩ : ∃ a cap, u3 = .slice a k cap := by
   rcases hown.2 with ⟨rfl, rfl⟩ | ⟨g, cap', cur, rfl, _⟩
   ·
    exact ⟨_, _, rfl⟩
   ·
    exact ⟨_, _, rfl⟩
  by_cases hlt : k < len
  ·
   obtain ⟨g, rfl, hgl, e0⟩ := hcell k hlt
   rw [← hE.cell hgl] at e0
   have HR := HRa k hlt
   obtain ⟨id, hd⟩ := (show Has (f k 0) .int from HR 0 (by decide)).int
   have hidv : (f k 0).int! = id := by rw [hd]; rfl
   obtain ⟨hval, hCk⟩ := hC k hlt
   have b0 := (hCk 0 (by decide)).1
   rw [hd] at b0
   obtain ⟨v0, zid⟩ := b0.int_eq
   obtain ⟨x1, hd1⟩ := (show Has (f k 1) .str from HR 1 (by decide)).str
   have b1 := (hCk 1 (by decide)).1
   rw [hd1] at b1
   have v1 := b1.str_eq.1
   obtain ⟨x2, hd2⟩ := (show Has (f k 2) .int from HR 2 (by decide)).int
   have b2 := (hCk 2 (by decide)).1
   rw [hd2] at b2
   have v2 := b2.int_eq.1
   obtain ⟨x3, hd3⟩ := (show Has (f k 3) .int from HR 3 (by decide)).int
   have b3 := (hCk 3 (by decide)).1
   rw [hd3] at b3
   have v3 := b3.int_eq.1
   obtain ⟨a4, cap4, l4, f4, hD4, v4, _, _⟩ := list_shape (show Has (f k 4) (.list 3) from HR 4 (by decide)) (hCk 4 (by decide)).1
   clear hD4
   have hin := hkn k hlt
   have c1 := (h.ext hE).c4
   have hlook := ((h.ext hE).maps .e).look Tryz.underlying101 (zeroEdge wr) (k := id) zid false
   rw [hidv] at hin hval e0
   simp only [Bool.false_eq_true, if_false, if_pos hin, hval] at hlook
   have hrc : (List.range 5).map (C k) = [.int .i64 id, .string x1, .int .i64 x2, .int .i64 x3, .slice a4 l4 cap4] := by
    show [C k 0, C k 1, C k 2, C k 3, C k 4] = _
    rw [v0, v1, v2, v3, v4]
   rw [hrc] at hlook
   have hnext : Hid (rowCells 5 C (k + 1) = rowCells 5 C k ++ [.int .i64 id, .string x1, .int .i64 x2, .int .i64 x3, .slice a4 l4 cap4]) := by show rowCells 5 C k ++ (List.range 5).map (C k) = _; rw [hrc]
   have hle := hE.le
   clear hCk hval b0 hrc hin v0 v1 v2 v3 v4
   go_wp2_with (at_builtin; refine wpList_append_own_at _ rfl _ _ 32 rfl w.heap.size 86 i0 _ 5 64 Tryz.underlying32 hi0 hz0 hz1 hz2 rfl (by decide) _ _ _ rfl (hown.alloc _) ⟨_, 0, none⟩ 1 1 [.int .i64 id, .string x1, .int .i64 x2, .int .i64 x3, .slice a4 l4 cap4] rfl rfl (World.news_of_block (cs := #[.int .i64 id, .string x1, .int .i64 x2, .int .i64 x3, .slice a4 l4 cap4]) (t := 86) (fr := (0, 0)) (heap_alloc_new _ _)) (by simp [Value.oneCell']) (by unfold maxLen; omega) (by omega) (by simp; omega) ?_; intro v' w3 hown' hgrow hnil hloc)
   go_roundw
   case rel => exact ⟨k + 1, by omega, by go_num, by rw [hnext.out]; exact hown', Below.grown (hE.alloc _) hgrow (by simp; omega) (fun j hj => (hown.lt j hj).1)⟩
   case measure => simp [intOf]; omega
  ·
   have hkx : k = len := by omega
   subst hkx
   have hend : Hid _ := rows_end (S := S) hown (fun i hi' c hc => ⟨((hC i hi').2 c hc).1.ext hE, ((hC i hi').2 c hc).2.1.ext hE, fun x hx => (((hC i hi').2 c hc).2.2 x hx).1⟩) hdis hhi (by unfold maxLen; omega)
   clear hC
   go_wp2
   go_ret
   exact ⟨_, _, _, rfl, hend.out, hE⟩
end Go.Proofs.YteijgejpenlgjaaGreat

/- What the net's method graph answers: the graph of its rows, in memory of its own. -/
namespace Go.Proofs.YteijgejpenlgjaaGreat
open Go.RowKit Go.Deep

/-- The two lists of a graph, each in memory of its own, from block base on, apart from each other. -/
def GraphOwn (w : World) (base : Nat) (d0 d1 : D) (u0 u1 : Value) : Prop := ∃ Q0 Q1 : Nat → Prop, (DIn Q0 w d0 u0 ∧ Own w d0 Q0 u0 ∧ ∀ x, Q0 x → base ≤ x ∧ x < w.heap.size) ∧ (DIn Q1 w d1 u1 ∧ Own w d1 Q1 u1 ∧ ∀ x, Q1 x → base ≤ x ∧ x < w.heap.size) ∧ ∀ x, Q0 x → ¬ Q1 x

set_option maxRecDepth 100000 in
set_option maxHeartbeats 4000000 in
theorem netGraph_any (w : World) (base0 c base : Nat) (S0 S1 : Nat → Prop) (N : NetD) (f0 f1 : Nat → Nat → D) (len0 len1 : Nat) (h : NetIn w base0 c N) (HR0 : ∀ i, i < len0 → HasRow 4 (f0 i)) (HR1 : ∀ i, i < len1 → HasRow 5 (f1 i)) (hln : N.lists .n = (List.range len0).map fun i => (f0 i 0).int!) (hle : N.lists .e = (List.range len1).map fun i => (f1 i 0).int!) (hkn : ∀ i, i < len0 → (f0 i 0).int! ∈ N.keys .n) (hke : ∀ i, i < len1 → (f1 i 0).int! ∈ N.keys .e) (hrn : RowsS w N S0 .n 3 f0 len0) (hre : RowsS w N S1 .e 5 f1 len1) (hb0 : ∀ x, S0 x → base ≤ x) (hb1 : ∀ x, S1 x → base ≤ x) (hb : base ≤ w.heap.size) (hSS : ∀ x, S0 x → ¬ S1 x) (l0 : len0 ≤ 1000) (l1 : len1 ≤ 1000) :
  Calls Tryz.prog 28 #[.pointer (some ⟨N.nb, 0, none⟩)] w fun e w' => ∃ u0 u1, e = .returned (.agg #[u0, u1, .int .i64 N.nn, .int .i64 N.ne]) ∧ GraphOwn w' base (.list 3 len0 f0) (.list 5 len1 f1) u0 u1 ∧ Ext w w' := by
 have hlt0 : ∀ x, S0 x → x < w.heap.size := by obtain ⟨P, hP⟩ := hrn; exact hP.1
 have hlt1 : ∀ x, S1 x → x < w.heap.size := by obtain ⟨P, hP⟩ := hre; exact hP.1
 have hL0 := fun (W : World) (hW : Ext w W) => listNode_any W base0 c S0 N f0 len0 (h.ext hW) HR0 hln hkn (hrn.ext hW) l0
 have hL1 := fun (W : World) (hW : Ext w W) => listEdge_any W base0 c S1 N f1 len1 (h.ext hW) HR1 hle hke (hre.ext hW) l1
 have hnb : N.nb < w.heap.size := h.nb_lt
 have c2 := fun (W : World) (hW : Ext w W) => (h.ext hW).c2
 have c5 := fun (W : World) (hW : Ext w W) => (h.ext hW).c5
 go_enter Tryz.func28, Tryz.ntmps28
 go_upto_region 1 with fail
 generalize hWa : w.alloc _ = Wa
 have hEa : Ext w Wa := by subst hWa; exact (Ext.refl _).alloc _
 have hza : Wa.heap.size = w.heap.size + 1 := by subst hWa; simp
 have hbx : ∀ W, Ext Wa W → (W.cell? ⟨w.heap.size, 0, none⟩ = some (.slice none 0 0) ∧ W.cell? ⟨w.heap.size, 1, none⟩ = some (.slice none 0 0) ∧ W.cell? ⟨w.heap.size, 2, none⟩ = some (.int .i64 0) ∧ W.cell? ⟨w.heap.size, 3, none⟩ = some (.int .i64 0)) ∧ ∀ o, W.frozen? ⟨w.heap.size, o, none⟩ = false := fun W hW => by
  subst hWa
  exact ⟨⟨box_cell hW 0 _ rfl, box_cell hW 1 _ rfl, box_cell hW 2 _ rfl, box_cell hW 3 _ rfl⟩, fun o => by rw [(bcell hW).2 _ _ (by simp)]; simp⟩
 clear hWa
 have HK : Hid (∀ W, Chg (fun x => x = w.heap.size) Wa W → W.cell? ⟨N.nb, 2, none⟩ = some (.int .i64 N.nn) ∧ W.cell? ⟨N.nb, 5, none⟩ = some (.int .i64 N.ne)) := fun W hW => by
  have hx : ∀ k, W.cell? ⟨N.nb, k, none⟩ = Wa.cell? ⟨N.nb, k, none⟩ := fun k => World.cell?_of_block (hW.block N.nb (by omega) (by omega))
  exact ⟨(hx 2).trans (c2 _ hEa), (hx 5).trans (c5 _ hEa)⟩
 clear c2 c5
 have hcur : Chg (fun x => x = w.heap.size) Wa Wa.drew := Chg.of_ext (Ext.refl _).drew
 have hed : Ext Wa Wa.drew := (Ext.refl _).drew
 refine wp_region_held_drew (S := (fun W => W.cell? ⟨N.nb, 2, none⟩ = some (.int .i64 N.nn) ∧ W.cell? ⟨N.nb, 5, none⟩ = some (.int .i64 N.ne))) (by kernel_rfl) (HK.out _ hcur) (fun hHeld => ?_)
 refine tkL 0 ⟨some 3, .move (.tmp 0), 56, _, #[], none⟩ ?_ hHeld ?yyA0 ?rrA0
 case yyA0 => (intro w hSw; (try dsimp only at hSw); go_simp; try with_reducible rfl)
 try simp only [Act.put, putA, putB, putC]
 refine tkL 1 ⟨some 4, .nilCheck (.tmp 3), 0, _, #[⟨0, .data⟩], none⟩ ?_ hHeld ?yyA1 ?rrA1
 case yyA1 => (intro w hSw; (try dsimp only at hSw); go_simp; try with_reducible rfl)
 try simp only [Act.put, putA, putB, putC]
 refine tkL 2 ⟨some 5, .fieldAddr 107 (.tmp 4) 0, 0, _, #[⟨1, .data⟩], none⟩ ?_ hHeld ?yyA2 ?rrA2
 case yyA2 => (intro w hSw; (try dsimp only at hSw); go_simp; try with_reducible rfl)
 try simp only [Act.put, putA, putB, putC]
 refine tkL 4 ⟨some 7, .move (.tmp 0), 56, _, #[], none⟩ ?_ hHeld ?yyA4 ?rrA4
 case yyA4 => (intro w hSw; (try dsimp only at hSw); go_simp; try with_reducible rfl)
 try simp only [Act.put, putA, putB, putC]
 refine tkL 5 ⟨some 8, .nilCheck (.tmp 7), 0, _, #[⟨4, .data⟩], none⟩ ?_ hHeld ?yyA5 ?rrA5
 case yyA5 => (intro w hSw; (try dsimp only at hSw); go_simp; try with_reducible rfl)
 try simp only [Act.put, putA, putB, putC]
 refine tkL 6 ⟨some 9, .fieldAddr 107 (.tmp 8) 1, 0, _, #[⟨5, .data⟩], none⟩ ?_ hHeld ?yyA6 ?rrA6
 case yyA6 => (intro w hSw; (try dsimp only at hSw); go_simp; try with_reducible rfl)
 try simp only [Act.put, putA, putB, putC]
 refine tkL 8 ⟨some 11, .move (.tmp 0), 56, _, #[], none⟩ ?_ hHeld ?yyA8 ?rrA8
 case yyA8 => (intro w hSw; (try dsimp only at hSw); go_simp; try with_reducible rfl)
 try simp only [Act.put, putA, putB, putC]
 refine tkL 9 ⟨some 12, .nilCheck (.tmp 11), 0, _, #[⟨8, .data⟩], none⟩ ?_ hHeld ?yyA9 ?rrA9
 case yyA9 => (intro w hSw; (try dsimp only at hSw); go_simp; try with_reducible rfl)
 try simp only [Act.put, putA, putB, putC]
 refine tkL 10 ⟨some 13, .fieldAddr 107 (.tmp 12) 0, 0, _, #[⟨9, .data⟩], none⟩ ?_ hHeld ?yyA10 ?rrA10
 case yyA10 => (intro w hSw; (try dsimp only at hSw); go_simp; try with_reducible rfl)
 try simp only [Act.put, putA, putB, putC]
 refine tkL 11 ⟨some 14, .fieldAddr 99 (.tmp 13) 2, 0, _, #[⟨10, .data⟩], none⟩ ?_ hHeld ?yyA11 ?rrA11
 case yyA11 => (intro w hSw; (try dsimp only at hSw); go_simp; try with_reducible rfl)
 try simp only [Act.put, putA, putB, putC]
 refine tkL 12 ⟨some 15, .load 3 (.tmp 14), 3, _, #[⟨11, .data⟩], none⟩ ?_ hHeld ?yyA12 ?rrA12
 case yyA12 => (intro w hSw; (try dsimp only at hSw); go_simp; try with_reducible rfl)
 try simp only [Act.put, putA, putB, putC]
 refine tkL 13 ⟨some 16, .move (.tmp 0), 56, _, #[], none⟩ ?_ hHeld ?yyA13 ?rrA13
 case yyA13 => (intro w hSw; (try dsimp only at hSw); go_simp; try with_reducible rfl)
 try simp only [Act.put, putA, putB, putC]
 refine tkL 14 ⟨some 17, .nilCheck (.tmp 16), 0, _, #[⟨13, .data⟩], none⟩ ?_ hHeld ?yyA14 ?rrA14
 case yyA14 => (intro w hSw; (try dsimp only at hSw); go_simp; try with_reducible rfl)
 try simp only [Act.put, putA, putB, putC]
 refine tkL 15 ⟨some 18, .fieldAddr 107 (.tmp 17) 1, 0, _, #[⟨14, .data⟩], none⟩ ?_ hHeld ?yyA15 ?rrA15
 case yyA15 => (intro w hSw; (try dsimp only at hSw); go_simp; try with_reducible rfl)
 try simp only [Act.put, putA, putB, putC]
 refine tkL 16 ⟨some 19, .fieldAddr 103 (.tmp 18) 2, 0, _, #[⟨15, .data⟩], none⟩ ?_ hHeld ?yyA16 ?rrA16
 case yyA16 => (intro w hSw; (try dsimp only at hSw); go_simp; try with_reducible rfl)
 try simp only [Act.put, putA, putB, putC]
 refine tkL 17 ⟨some 20, .load 3 (.tmp 19), 3, _, #[⟨16, .data⟩], none⟩ ?_ hHeld ?yyA17 ?rrA17
 case yyA17 => (intro w hSw; (try dsimp only at hSw); go_simp; try with_reducible rfl)
 try simp only [Act.put, putA, putB, putC]
 refine wpAnyH_ready (rs := [3]) (by kernel_rfl) (by simp) ?_
 refine AllReadyH.cons (o := ⟨some 6, .call { callee := .value (.func 62), args := #[.tmp 5], argTypes := #[99] }, 31, _, #[⟨2, .data⟩], none⟩) rfl (fun K hK => ?_) (AllReadyH.nil)
 go_simp
 refine (hL0 _ (hEa.trans hed)).mono ?_
 rintro e w1 ⟨ua, ul, uc, rfl, ⟨hD0, hO0⟩, hE1⟩
 replace hed := hed.trans hE1
 replace hcur : Chg (fun x => x = w.heap.size) Wa w1 := Chg.of_ext hed
 go_wp2_with fail
 refine hK.out _ _ (HK.out _ hcur) (fun hHeld => ?_)
 clear hK K
 try simp only [Act.put, putA, putB, putC]
 refine wpAnyH_ready (rs := [7]) (by kernel_rfl) (by simp) ?_
 refine AllReadyH.cons (o := ⟨some 10, .call { callee := .value (.func 63), args := #[.tmp 9], argTypes := #[103] }, 32, _, #[⟨6, .data⟩, ⟨3, .chain⟩], none⟩) rfl (fun K hK => ?_) (AllReadyH.nil)
 go_simp
 refine (hL1 _ (hEa.trans hed)).mono ?_
 rintro e w2 ⟨va, vl, vc, rfl, ⟨hD1, hO1⟩, hE2⟩
 replace hed := hed.trans hE2
 replace hcur : Chg (fun x => x = w.heap.size) Wa w2 := Chg.of_ext hed
 go_wp2_with fail
 refine hK.out _ _ (HK.out _ hcur) (fun hHeld => ?_)
 clear hK K
 try simp only [Act.put, putA, putB, putC]
 refine tkL 18 ⟨some 21, .build 34 #[(0, .tmp 6), (1, .tmp 10), (2, .tmp 15), (3, .tmp 20)], 34, _, #[⟨3, .data⟩, ⟨7, .data⟩, ⟨12, .data⟩, ⟨17, .data⟩], none⟩ ?_ hHeld ?yyA18 ?rrA18
 case yyA18 => (intro w hSw; (try dsimp only at hSw); go_simp; try with_reducible rfl)
 try simp only [Act.put, putA, putB, putC]
 obtain ⟨⟨b0, b1, b2, b3⟩, fz⟩ := hbx w2 hed
 have z0 := fz 0
 have z1 := fz 1
 have z2 := fz 2
 have z3 := fz 3
 clear fz
 refine wpAnyH_ready (rs := [19]) (by kernel_rfl) (by simp) ?_
 refine AllReadyH.cons (o := ⟨none, .store 34 (.tmp 2) (.tmp 21), 0, _, #[⟨18, .data⟩, ⟨7, .chain⟩, ⟨0, .phase⟩, ⟨1, .phase⟩, ⟨2, .phase⟩, ⟨3, .phase⟩, ⟨4, .phase⟩, ⟨5, .phase⟩, ⟨6, .phase⟩, ⟨7, .phase⟩, ⟨8, .phase⟩, ⟨9, .phase⟩, ⟨10, .phase⟩, ⟨11, .phase⟩, ⟨12, .phase⟩, ⟨13, .phase⟩, ⟨14, .phase⟩, ⟨15, .phase⟩, ⟨16, .phase⟩, ⟨17, .phase⟩, ⟨18, .phase⟩], none⟩) rfl (fun K hK => ?_) (AllReadyH.nil)
 go_simp
 replace hcur := (((hcur.setCell (p := ⟨w.heap.size, 0, none⟩) rfl (.slice ua ul uc)).setCell (p := ⟨w.heap.size, 1, none⟩) rfl (.slice va vl vc)).setCell (p := ⟨w.heap.size, 2, none⟩) rfl (.int .i64 N.nn)).setCell (p := ⟨w.heap.size, 3, none⟩) rfl (.int .i64 N.ne)
 refine hK.out _ _ (HK.out _ hcur) (fun hHeld => ?_)
 clear hK K
 try simp only [Act.put, putA, putB, putC]
 refine wpAnyH_done (by kernel_rfl) ?_ _
 have s1 := hE1.le
 have s2 := hE2.le
 have s0 : Wa.drew.heap.size = w.heap.size + 1 := hza
 rw [s0] at hD0 hO0 s1
 have n0 : ¬ (fun x => S0 x ∨ w.heap.size + 1 ≤ x ∧ x < w1.heap.size) w.heap.size := fun hx => by rcases hx with hx | hx; (have := hlt0 _ hx; omega); omega
 have n1 : ¬ (fun x => S1 x ∨ w1.heap.size ≤ x ∧ x < w2.heap.size) w.heap.size := fun hx => by rcases hx with hx | hx; (have := hlt1 _ hx; omega); omega
 have D0' := ((((hD0.ext hE2).setCell (p := ⟨w.heap.size, 0, none⟩) n0 (.slice ua ul uc)).setCell (p := ⟨w.heap.size, 1, none⟩) n0 (.slice va vl vc)).setCell (p := ⟨w.heap.size, 2, none⟩) n0 (.int .i64 N.nn)).setCell (p := ⟨w.heap.size, 3, none⟩) n0 (.int .i64 N.ne)
 have O0' := ((((hO0.ext hE2).setCell (p := ⟨w.heap.size, 0, none⟩) n0 (.slice ua ul uc)).setCell (p := ⟨w.heap.size, 1, none⟩) n0 (.slice va vl vc)).setCell (p := ⟨w.heap.size, 2, none⟩) n0 (.int .i64 N.nn)).setCell (p := ⟨w.heap.size, 3, none⟩) n0 (.int .i64 N.ne)
 have D1' := (((hD1.setCell (p := ⟨w.heap.size, 0, none⟩) n1 (.slice ua ul uc)).setCell (p := ⟨w.heap.size, 1, none⟩) n1 (.slice va vl vc)).setCell (p := ⟨w.heap.size, 2, none⟩) n1 (.int .i64 N.nn)).setCell (p := ⟨w.heap.size, 3, none⟩) n1 (.int .i64 N.ne)
 have O1' := (((hO1.setCell (p := ⟨w.heap.size, 0, none⟩) n1 (.slice ua ul uc)).setCell (p := ⟨w.heap.size, 1, none⟩) n1 (.slice va vl vc)).setCell (p := ⟨w.heap.size, 2, none⟩) n1 (.int .i64 N.nn)).setCell (p := ⟨w.heap.size, 3, none⟩) n1 (.int .i64 N.ne)
 have hEf : Ext w ((((w2.setCell ⟨w.heap.size, 0, none⟩ (.slice ua ul uc)).setCell ⟨w.heap.size, 1, none⟩ (.slice va vl vc)).setCell ⟨w.heap.size, 2, none⟩ (.int .i64 N.nn)).setCell ⟨w.heap.size, 3, none⟩ (.int .i64 N.ne)) := (((((hEa.trans hed).setCell (Nat.le_refl _) _).setCell (Nat.le_refl _) _).setCell (Nat.le_refl _) _).setCell (Nat.le_refl _) _)
 clear hD0 hO0 hD1 hO1 HK hHeld
 have HD : Hid _ := And.intro (And.intro D0' O0') (And.intro D1' O1')
 clear D0' O0' D1' O1'
 go_wp2
 refine bodyPost_ret (v := .agg #[.slice ua ul uc, .slice va vl vc, .int .i64 N.nn, .int .i64 N.ne]) (by simp [results, Tryz.results28, go_sem, b0, b1, b2, b3]) rfl ⟨_, _, rfl, ⟨_, _, ⟨HD.out.1.1, HD.out.1.2, fun x hx => ?_⟩, ⟨HD.out.2.1, HD.out.2.2, fun x hx => ?_⟩, fun x hx hx' => ?_⟩, hEf⟩
 ·
  simp only [World.size_setCell]
  rcases hx with hx | hx
  ·
   have := hlt0 _ hx; have := hb0 _ hx; omega
  ·
   omega
 ·
  simp only [World.size_setCell]
  rcases hx with hx | hx
  ·
   have := hlt1 _ hx; have := hb1 _ hx; omega
  ·
   omega
 ·
  rcases hx with hx | hx <;> rcases hx' with hx' | hx'
  ·
   exact hSS x hx hx'
  ·
   have := hlt0 _ hx; omega
  ·
   have := hlt1 _ hx'; omega
  ·
   omega
end Go.Proofs.YteijgejpenlgjaaGreat
