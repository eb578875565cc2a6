/- What the terms' method value answers: the value that the term was made of, in new memory of its own. -/
import Derived.Test.YtejahpkpmbnmkaaGreatGPlain
import Derived.Test.YtejahpkpmbnmkaaGreatName
import Derived.Test.YtejahpkpmbnmkaaGreatDGrow
import Derived.WalkSpells
import Derived.Deep.AppendLies
namespace Go.Proofs.YtejahpkpmbnmkaaGreat
open Go.RowKit Go.Deep

def tyV (k : Int) : TypeId := if k = 0 then 161 else if k = 1 then 171 else if k = 2 then 172 else if k = 3 then 173 else if k = 4 then 165 else if k = 5 then 162 else 163
def vaF (k : Int) : Nat := if k = 0 then 128 else if k = 1 then 140 else if k = 2 then 143 else if k = 3 then 146 else if k = 4 then 137 else if k = 5 then 131 else 134

theorem TermIn.tyv {S : Nat → Prop} {w : World} {k n : Int} {s : ByteArray} {l : List V} {t : Value} (h : TermIn S w (.mk k n s l) t) : ∃ z, t = .iface (tyV k) z ∧ (k = 0 ∨ k = 1 ∨ k = 2 ∨ k = 3 ∨ k = 4 ∨ k = 5 ∨ k = 6) := by
  cases h <;> exact ⟨_, rfl, by simp⟩
theorem mval_null (z : Value) (w : World) : (method 294 161 z "loop.example/ashlar/impl.value").run Tryz.prog w = .ok (128, z) w := by kernel_rfl
theorem mval_bool (z : Value) (w : World) : (method 294 171 z "loop.example/ashlar/impl.value").run Tryz.prog w = .ok (140, z) w := by kernel_rfl
theorem mval_num (z : Value) (w : World) : (method 294 172 z "loop.example/ashlar/impl.value").run Tryz.prog w = .ok (143, z) w := by kernel_rfl
theorem mval_text (z : Value) (w : World) : (method 294 173 z "loop.example/ashlar/impl.value").run Tryz.prog w = .ok (146, z) w := by kernel_rfl
theorem mval_list (z : Value) (w : World) : (method 294 165 z "loop.example/ashlar/impl.value").run Tryz.prog w = .ok (137, z) w := by kernel_rfl
theorem mval_node (z : Value) (w : World) : (method 294 162 z "loop.example/ashlar/impl.value").run Tryz.prog w = .ok (131, z) w := by kernel_rfl
theorem mval_edge (z : Value) (w : World) : (method 294 163 z "loop.example/ashlar/impl.value").run Tryz.prog w = .ok (134, z) w := by kernel_rfl
theorem mval_any (k : Int) (hk : k = 0 ∨ k = 1 ∨ k = 2 ∨ k = 3 ∨ k = 4 ∨ k = 5 ∨ k = 6) (z : Value) (w : World) : (method 294 (tyV k) z "loop.example/ashlar/impl.value").run Tryz.prog w = .ok (vaF k, z) w := by
  rcases hk with rfl | rfl | rfl | rfl | rfl | rfl | rfl
  · exact mval_null z w
  · exact mval_bool z w
  · exact mval_num z w
  · exact mval_text z w
  · exact mval_list z w
  · exact mval_node z w
  · exact mval_edge z w

theorem enter_any (k : Int) (hk : k = 0 ∨ k = 1 ∨ k = 2 ∨ k = 3 ∨ k = 4 ∨ k = 5 ∨ k = 6) (z : Value) (w : World) : (callFunc (vaF k) #[z]).run Tryz.prog w = .ok (.enter (vaF k) #[z]) w := by
  rcases hk with rfl | rfl | rfl | rfl | rfl | rfl | rfl <;> kernel_rfl

/-- What value answers of the term of x. -/
def VL (x : V) : Prop := ∀ (k n : Int) (t : ByteArray) (d3 : D) (dp : Nat) (S : Nat → Prop) (z : Value) (w : World), x = .mk k n t (vsOf d3) → Has d3 (.list 2) → okN dp x = true → TermIn S w x (.iface (tyV k) z) →
  Calls Tryz.prog (vaF k) #[z] w fun e w' => ∃ u, e = .returned (.agg #[.int .i64 k, .int .i64 n, .string t, u]) ∧ DIn (New w.heap.size w'.heap.size) w' d3 u ∧ Own w' d3 (New w.heap.size w'.heap.size) u ∧ Ext w w'

theorem wfOf {n : Int} (h : -1000000000 ≤ n ∧ n ≤ 1000000000) : (Lit.int .i64 n).wf = true := by
  simp [Lit.wf, IntKind.min, IntKind.max, IntKind.signed, IntKind.bits]; omega
theorem gokN_num (d : Nat) (k n : Int) (t : ByteArray) (l : List V) (h : okN d (.mk k n t l) = true) : (-1000000000 ≤ n ∧ n ≤ 1000000000) ∧ t.size ≤ 16 := by
  have hs : t.toList = [] → t.size ≤ 16 := fun e => by rw [(toList_nil t).1 e]; omega
  match d with
  | 0 | 1 | d + 2 =>
    unfold okN at h
    repeat' split at h
    all_goals simp [inB, textB] at h
    all_goals first | exact ⟨by omega, by omega⟩ | exact ⟨by omega, hs (by simp_all)⟩
theorem gokN_wf (d : Nat) (k n : Int) (t : ByteArray) (l : List V) (h : okN d (.mk k n t l) = true) : (Lit.int .i64 k).wf = true ∧ (Lit.int .i64 n).wf = true ∧ t.size ≤ maxLen := by
  obtain ⟨h0, h6, _⟩ := gokN_kind d k n t l h
  obtain ⟨h1, h2⟩ := gokN_num d k n t l h
  exact ⟨wfOf (by omega), wfOf h1, by unfold maxLen; omega⟩
theorem empty_str {t : ByteArray} (h : t.toList = []) : t = ⟨#[]⟩ := by
  rw [ByteArray.toList_eq] at h
  cases t with
  | mk a =>
    have : a = #[] := by simpa using h
    rw [this]
theorem none_in {d3 : D} (H : Has d3 (.list 2)) (h : (vsOf d3).length = 0) (S : Nat → Prop) (w : World) : DIn S w d3 (.slice none 0 0) ∧ Own w d3 S (.slice none 0 0) := by
  obtain ⟨len, f, rfl, _⟩ := H.list
  rw [vsOf_len] at h
  subst h
  exact ⟨⟨none, 0, 0, 0, rfl, Nat.zero_le _, fun h => by omega, fun i hi => by omega⟩, ⟨none, 0, 0, 0, fun _ _ _ => False, rfl, fun h => by omega, fun i _ hi => by omega, fun i _ _ _ hi => by omega, fun i hi => by omega⟩⟩

set_option maxHeartbeats 1000000 in
theorem value_flat (k n : Int) (t : ByteArray) (l : List V) (h4 : ¬ k = 4) : VL (.mk k n t l) := by
  intro k' n' t' d3 dp S z w hx H hok hT
  cases hx
  obtain ⟨_, _, hl, ht, hn⟩ := gokN_kind dp k n t _ hok
  have hd := fun (Q : Nat → Prop) (W : World) => none_in H (hl h4) Q W
  cases hT with
  | list => exact absurd rfl h4
  | null =>
    have e1 := empty_str (ht (by omega))
    subst e1
    have e2 := hn (by omega)
    subst e2
    show Calls Tryz.prog 128 _ _ _
    go_enter Tryz.func128, Tryz.ntmps128
    go_wp2
    refine bodyPost_ret (v := .agg #[.int .i64 0, .int .i64 0, .string ⟨#[]⟩, .slice none 0 0]) (by simp [results, Tryz.results128, go_sem]) rfl ⟨_, rfl, (hd _ _).1, (hd _ _).2, ?_⟩
    first | exact (Ext.refl _).alloc _ | exact ((Ext.refl _).alloc _).alloc _
  | bool =>
    have e1 := empty_str (ht (by omega))
    subst e1
    show Calls Tryz.prog 140 _ _ _
    go_enter Tryz.func140, Tryz.ntmps140
    go_wp2
    refine bodyPost_ret (v := .agg #[.int .i64 1, .int .i64 n, .string ⟨#[]⟩, .slice none 0 0]) (by simp [results, Tryz.results140, go_sem]) rfl ⟨_, rfl, (hd _ _).1, (hd _ _).2, ?_⟩
    first | exact (Ext.refl _).alloc _ | exact ((Ext.refl _).alloc _).alloc _
  | num =>
    have e1 := empty_str (ht (by omega))
    subst e1
    show Calls Tryz.prog 143 _ _ _
    go_enter Tryz.func143, Tryz.ntmps143
    go_wp2
    refine bodyPost_ret (v := .agg #[.int .i64 2, .int .i64 n, .string ⟨#[]⟩, .slice none 0 0]) (by simp [results, Tryz.results143, go_sem]) rfl ⟨_, rfl, (hd _ _).1, (hd _ _).2, ?_⟩
    first | exact (Ext.refl _).alloc _ | exact ((Ext.refl _).alloc _).alloc _
  | text =>
    have e2 := hn (by omega)
    subst e2
    show Calls Tryz.prog 146 _ _ _
    go_enter Tryz.func146, Tryz.ntmps146
    go_wp2
    refine bodyPost_ret (v := .agg #[.int .i64 3, .int .i64 0, .string t, .slice none 0 0]) (by simp [results, Tryz.results146, go_sem]) rfl ⟨_, rfl, (hd _ _).1, (hd _ _).2, ?_⟩
    first | exact (Ext.refl _).alloc _ | exact ((Ext.refl _).alloc _).alloc _
  | node =>
    have e1 := empty_str (ht (by omega))
    subst e1
    show Calls Tryz.prog 131 _ _ _
    go_enter Tryz.func131, Tryz.ntmps131
    go_wp2
    refine bodyPost_ret (v := .agg #[.int .i64 5, .int .i64 n, .string ⟨#[]⟩, .slice none 0 0]) (by simp [results, Tryz.results131, go_sem]) rfl ⟨_, rfl, (hd _ _).1, (hd _ _).2, ?_⟩
    first | exact (Ext.refl _).alloc _ | exact ((Ext.refl _).alloc _).alloc _
  | edge =>
    have e1 := empty_str (ht (by omega))
    subst e1
    show Calls Tryz.prog 134 _ _ _
    go_enter Tryz.func134, Tryz.ntmps134
    go_wp2
    refine bodyPost_ret (v := .agg #[.int .i64 6, .int .i64 n, .string ⟨#[]⟩, .slice none 0 0]) (by simp [results, Tryz.results134, go_sem]) rfl ⟨_, rfl, (hd _ _).1, (hd _ _).2, ?_⟩
    first | exact (Ext.refl _).alloc _ | exact ((Ext.refl _).alloc _).alloc _

theorem Tryz.infoV : (Tryz.prog.info? 95).map (fun i => (i.zero, i.size, i.bytes)) = some (some (.agg #[.int .i64 0, .int .i64 0, .string ⟨#[]⟩, .slice none 0 0]), 4, 56) := by kernel_rfl

set_option maxRecDepth 4000 in
set_option maxHeartbeats 2000000 in
theorem value_list (n : Int) (t : ByteArray) (l : List V) (ih : ∀ i (hi : i < l.length), VL l[i]) : VL (.mk 4 n t l) := by
  intro k' n' t' d3 dp S z w hx H hok hT
  obtain ⟨rfl, rfl, rfl, rfl⟩ : 4 = k' ∧ n = n' ∧ t = t' ∧ l = vsOf d3 := by injection hx; exact ⟨by assumption, by assumption, by assumption, by assumption⟩
  clear hx
  obtain ⟨_, _, _, ht, hn⟩ := gokN_kind dp 4 n t _ hok
  have hoks := gokN_list4 dp n t _ hok
  have e1 := empty_str (ht (by omega))
  have e2 := hn (by omega)
  subst e1 e2
  clear ht hn hok
  obtain ⟨len, f, rfl, HR⟩ := H.list
  rw [show (rowsOf 2).length = 4 from rfl] at *
  have hlen := vsOf_len 4 len f
  cases hT with
  | list _ _ _ a cap b off c hll ha hc hv =>
  rw [hlen] at hll ha
  generalize hls : vsOf (D.list 4 len f) = ls at *
  show Calls Tryz.prog 137 _ _ _
  obtain ⟨i0, hi, hz0, hz1, hz2⟩ := info_parts Tryz.infoV
  go_enter Tryz.func137, Tryz.ntmps137
  go_wp2
  generalize hW0 : w.alloc _ = W0
  have hE0 : Ext w W0 := by subst hW0; exact (Ext.refl _).alloc _
  have hz : W0.heap.size = w.heap.size + 1 := by subst hW0; simp
  have hfz : ∀ W, Ext W0 W → ∀ o, W.frozen? ⟨w.heap.size, o, none⟩ = false := fun W hW o => by rw [(bcell hW).2 _ _ (by omega)]; subst hW0; simp
  have hbx : ∀ W, Ext W0 W → ∃ c0 c1 c2 c3, W.cell? ⟨w.heap.size, 0, none⟩ = some c0 ∧ W.cell? ⟨w.heap.size, 1, none⟩ = some c1 ∧ W.cell? ⟨w.heap.size, 2, none⟩ = some c2 ∧ W.cell? ⟨w.heap.size, 3, none⟩ = some c3 := fun W hW => by
    subst hW0; exact ⟨_, _, _, _, box_cell hW 0 _ rfl, box_cell hW 1 _ rfl, box_cell hW 2 _ rfl, box_cell hW 3 _ rfl⟩
  clear hW0
  go_loopw [3, 8] (fun u i wr => ∃ (k : Nat) (cs : List Value), k ≤ len ∧ i = .int .i64 k ∧ GSt wr W0.heap.size 95 4 f k u cs ∧ Ext W0 wr) (fun _ i _ => len - (intOf i).toNat)
  case atStart => exact ⟨0, [], Nat.zero_le _, rfl, GSt.nil _ _ _ _ _, Ext.refl _⟩
  case round =>
    obtain ⟨k, cs, hk, rfl, hG, hE⟩ := hrel
    obtain ⟨ua, ucap, rfl⟩ := hG.shape
    by_cases hlt : k < len
    · obtain ⟨rfl, hS, hb⟩ := ha (by omega)
      have g0 := hc k (by omega)
      have hEw : Ext w wr := hE0.trans hE
      rw [← hEw.cell hb] at g0
      have hx := (hv k (by omega)).ext hEw
      have hat : ls[k] = .mk (f k 0).int! (f k 1).int! (f k 2).str! (vsOf (f k 3)) := by subst hls; exact vsOf_at 4 len f k hlt
      have HRk := HR k hlt
      have H3 : Has (f k 3) (.list 2) := HRk 3 (by decide)
      obtain ⟨x0, hd0⟩ := (show Has (f k 0) .int from HRk 0 (by decide)).int
      obtain ⟨x1, hd1⟩ := (show Has (f k 1) .int from HRk 1 (by decide)).int
      obtain ⟨x2, hd2⟩ := (show Has (f k 2) .str from HRk 2 (by decide)).str
      rw [hd0, hd1, hd2] at hat
      simp only [D.int!, D.str!] at hat
      have hx2 := hx
      rw [hat] at hx2
      obtain ⟨zz, hzz, hkind⟩ := hx2.tyv
      rw [hzz] at g0
      have hcall := ih k (by omega) x0 x1 x2 (f k 3) (dp - 1) S zz wr hat H3 (hoks k (by omega)) (by rw [← hzz]; exact hx)
      have hmeth := mval_any x0 hkind zz
      have hent := enter_any x0 hkind zz
      have hwf := gokN_wf (dp - 1) x0 x1 x2 (vsOf (f k 3)) (by rw [← hat]; exact hoks k (by omega))
      clear ih hoks hx hx2 hzz hat HRk
      go_wp2_with fail
      refine hcall.mono ?_
      rintro e w' ⟨u, rfl, hDi, hOw, hE2⟩
      clear hcall hmeth hent g0
      obtain ⟨len3, f3, hd3, _⟩ := H3.list
      have hDi2 := hDi
      rw [hd3] at hDi2
      obtain ⟨a3, cap3, rfl, _⟩ := hDi2.list_eq
      clear hDi2
      have hz2' := hE2.le
      have hz1' := hE.le
      go_wp2_with (at_builtin; go_must (refine wpList_append_own_at _ rfl _ _ 93 rfl W0.heap.size 95 i0 _ 4 56 Tryz.underlying93 hi hz0 hz1 hz2 rfl (by decide) _ _ _ rfl ((hG.ext hE2).row.alloc _) ⟨w'.heap.size, 0, none⟩ 1 1 [.int .i64 x0, .int .i64 x1, .string x2, .slice a3 len3 cap3] rfl rfl (World.news_of_block (cs := #[.int .i64 x0, .int .i64 x1, .string x2, .slice a3 len3 cap3]) (t := 95) (fr := (0, 0)) (heap_alloc_new w' _)) (by simp [Value.oneCell']) (by unfold maxLen; omega) (by omega) (by simp; omega) ?_); intro v' w3 hown' hgrow hnil hloc)
      go_roundw
      case rel =>
        refine ⟨k + 1, cs ++ [.int .i64 x0, .int .i64 x1, .string x2, .slice a3 len3 cap3], by omega, by go_num, ?_, hG.grew ((hE.trans hE2).alloc _) hgrow⟩
        refine hG.push (w1 := w'.alloc _) (hE2.alloc _) (by have := hE.le; omega) [.int .i64 x0, .int .i64 x1, .string x2, .slice a3 len3 cap3] rfl (fun j => if j = 3 then New wr.heap.size w'.heap.size else fun _ => False) (fun j hj => ?_) (fun j j' hj hj' hne x hx => ?_) hown' hgrow hloc
        · have hc : j = 0 ∨ j = 1 ∨ j = 2 ∨ j = 3 := by omega
          rcases hc with rfl | rfl | rfl | rfl
          · rw [hd0]; exact ⟨⟨rfl, hwf.1⟩, trivial, fun x hx => absurd hx (by simp)⟩
          · rw [hd1]; exact ⟨⟨rfl, hwf.2.1⟩, trivial, fun x hx => absurd hx (by simp)⟩
          · rw [hd2]; exact ⟨⟨rfl, hwf.2.2⟩, trivial, fun x hx => absurd hx (by simp)⟩
          · exact ⟨hDi.ext ((Ext.refl _).alloc _), hOw.ext ((Ext.refl _).alloc _), fun x hx => ⟨hx.1, Nat.lt_of_lt_of_le hx.2 (by simp)⟩⟩
        · intro hx'
          by_cases h3 : j = 3
          · rw [if_neg (by omega)] at hx'; exact hx'
          · rw [if_neg h3] at hx; exact hx
      case measure => simp [intOf]; omega
    · have hkl : k = len := by omega
      subst hkl
      obtain ⟨hD, hO⟩ := hG.end (by unfold maxLen; omega)
      obtain ⟨c0, c1, c2, c3, b0, b1, b2, b3⟩ := hbx wr hE
      have q0 := hfz wr hE 0
      have q1 := hfz wr hE 1
      have q2 := hfz wr hE 2
      have q3 := hfz wr hE 3
      have hlt0 : w.heap.size < wr.heap.size := by have := hE.le; omega
      clear ih hoks
      go_wp2
      have hnot : ¬ New W0.heap.size wr.heap.size w.heap.size := fun h => by have := h.1; omega
      have hmono : ∀ x, New W0.heap.size wr.heap.size x → New w.heap.size wr.heap.size x := fun x h => ⟨by have := h.1; omega, h.2⟩
      refine bodyPost_ret (v := .agg #[.int .i64 4, .int .i64 0, .string ⟨#[]⟩, .slice ua k ucap]) (by simp [results, Tryz.results137, go_sem, b0, b1, b2, b3]) rfl ⟨_, rfl, ?_, ?_, ?_⟩
      · simp only [World.size_setCell]
        exact ((((hD.setCell hnot _).setCell hnot _).setCell hnot _).setCell hnot _).mono hmono
      · simp only [World.size_setCell]
        exact ((((hO.setCell hnot _).setCell hnot _).setCell hnot _).setCell hnot _).mono hmono
      · exact ((((hE0.trans hE).setCell (Nat.le_refl _) _).setCell (Nat.le_refl _) _).setCell (Nat.le_refl _) _).setCell (Nat.le_refl _) _

theorem value_any : ∀ x, VL x := by
  refine V.ind fun k n t l ih => ?_
  by_cases h4 : k = 4
  · subst h4; exact value_list n t l ih
  · exact value_flat k n t l h4
end Go.Proofs.YtejahpkpmbnmkaaGreat
