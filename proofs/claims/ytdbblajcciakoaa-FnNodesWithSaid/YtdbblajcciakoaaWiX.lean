/- What impl.hasLabel and the net's method nodesWith answer. -/
import Derived.Test.YtdbblajcciakoaaWithSpec
import Derived.Test.YtdbblajcciakoaaNetD
import Derived.Test.YtdbblajcciakoaaNetOf
import Derived.Test.YtdbblajcciakoaaGSpec4
namespace Go.Proofs.Ytdbblajcciakoaa
open Go.RowKit Go.Deep

set_option maxHeartbeats 1000000 in
theorem idxLab_any (d : D) (H : Has d (.list 0)) (S : Nat → Prop) (v : Value) (s : ByteArray) (w : World) (hv : DIn S w d v) :
    Calls Try.prog 64 #[v, .string s] w fun e w' => ∃ r : Int, e = .returned (.int .i64 r) ∧ decide (0 ≤ r) = hasLab d s ∧ Ext w w' := by
  obtain ⟨len, f, rfl, HRa⟩ := H.list
  change DIn S w (.list 1 len f) v at hv
  obtain ⟨a, cap, rfl, hm⟩ := hv.list_eq
  unfold maxLen at hm
  have HY : Hid _ := fun k (hk : k < len) (h : ((f k 0).str!.toList == s.toList) = true) => has_yes (d := .list (rowsOf 0).length len f) hk h
  have HN : Hid _ := fun (h : ∀ k, k < len → ((f k 0).str!.toList == s.toList) = false) => has_no (d := .list (rowsOf 0).length len f) h
  generalize hasLab (.list (rowsOf 0).length len f) s = hb at *
  go_enter Try.func64, Try.ntmps64
  go_wp2
  go_loopw [8] (fun i wr => ∃ k : Nat, k ≤ len ∧ i = .int .i64 k ∧ Ext w wr ∧ ∀ j, j < k → ((f j 0).str!.toList == s.toList) = false) (fun i _ => len - (intOf i).toNat)
  case atStart => exact ⟨0, Nat.zero_le _, rfl, Ext.refl _, fun j h => by omega⟩
  case round =>
    obtain ⟨k, hk, rfl, hE, hno⟩ := hrel
    by_cases hlt : k < len
    · obtain ⟨cap2, b, off, C, hsl, _, hbl, ec, hx⟩ := (hv.ext hE).at hlt
      cases hsl
      obtain ⟨x0, hd0⟩ := (show Has (f k 0) .str from HRa k hlt 0 (by decide)).str
      have h0 := hx 0 (by decide)
      have e0 := ec 0 (by decide)
      rw [hd0] at h0
      rw [h0.str_eq.1] at e0
      simp only [Nat.add_zero, Nat.mul_one] at e0
      clear hx ec h0
      have hsym : (s.toList == x0.toList) = (x0.toList == s.toList) := by rw [Bool.eq_iff_iff, beq_iff_eq, beq_iff_eq]; exact eq_comm
      cases hq : (x0.toList == s.toList)
      · have hq' : Hid (((f k 0).str!.toList == s.toList) = false) := by show _ = _; rw [hd0]; exact hq
        rw [hq] at hsym
        go_wp2
        go_roundw
        case rel => exact ⟨k + 1, by omega, by go_num, hE, fun j hj => by
          rcases Nat.lt_succ_iff_lt_or_eq.1 hj with h' | h'
          · exact hno j h'
          · subst h'; exact hq'.out⟩
        case measure => simp [intOf]; omega
      · have hf : Hid (hb = true) := HY.out k hlt (by rw [hd0]; exact hq)
        rw [hq] at hsym
        go_wp2
        go_ret
        exact ⟨k, rfl, by rw [hf.out]; exact decide_eq_true (by omega), hE⟩
    · have hf : Hid (hb = false) := HN.out (fun j hj => hno j (by omega))
      go_wp2
      go_ret
      exact ⟨-1, rfl, by rw [hf.out]; rfl, hE⟩
theorem hasLab_any (d : D) (H : Has d (.list 0)) (S : Nat → Prop) (v : Value) (s : ByteArray) (w : World) (hv : DIn S w d v) :
    Calls Try.prog 52 #[v, .string s] w fun e w' => e = .returned (.bool (hasLab d s)) ∧ Ext w w' := by
  have hcall := idxLab_any d H S v s w hv
  obtain ⟨a, cap, l, f, hD, rfl, _, _⟩ := list_shape H hv
  clear hD
  go_enter Try.func52, Try.ntmps52
  go_wp2_with (go_at_call 64; refine hcall.mono ?_; rintro e w' ⟨r, rfl, hr, hE⟩)
  go_ret
  exact ⟨ret_bool (by rw [← hr]), hE⟩
set_option maxHeartbeats 1000000 in
theorem hasLabel_any (id : Int) (d : D) (cL cP : Value) (H : Has d (.list 0)) (S : Nat → Prop) (s : ByteArray) (w : World) (hv : DIn S w d cL) (hP : ∃ a l c, cP = .slice a l c) :
    Calls Try.prog 32 #[.agg #[.int .i64 id, cL, cP], .string s] w fun e w' => e = .returned (.bool ((s.toList == []) || hasLab d s)) ∧ Ext w w' := by
  have hcall := fun (W : World) (hW : Ext w W) => hasLab_any d H S cL s W (hv.ext hW)
  obtain ⟨a, cap, l, f, hD, rfl, _, _⟩ := list_shape H hv
  obtain ⟨a2, l2, c2, rfl⟩ := hP
  clear hD
  generalize hasLab d s = hb at *
  cases hs0 : (s.toList == [])
  · go_enter Try.func32, Try.ntmps32
    go_wp2_with (go_at_call 52; refine (hcall _ ((Ext.refl _).alloc _)).mono ?_; rintro e w' ⟨rfl, hE⟩)
    go_ret
    exact ⟨ret_bool (by simp), ((Ext.refl _).alloc _).trans hE⟩
  · go_enter Try.func32, Try.ntmps32
    go_wp2
    go_ret
    exact ⟨ret_bool (by simp), (Ext.refl _).alloc _⟩

set_option maxRecDepth 100000 in
set_option maxHeartbeats 4000000 in
theorem netNodesWith_any (w : World) (base hi0 : Nat) (N : NetD) (f : Nat → Nat → D) (len : Nat) (s : ByteArray) (h : NetIn w base 100 N) (HRa : ∀ i, i < len → HasRow 4 (f i)) (hln : N.lists .n = (List.range len).map fun i => (f i 0).int!) (hkn : ∀ x, x ∈ N.keys .n ↔ x ∈ (List.range len).map fun i => (f i 0).int!) (hrn : RowsD w N base hi0 .n 3 f len) (hl : len ≤ 12) :
    Calls Try.prog 14 #[.pointer (some ⟨N.nb, 0, none⟩), .string s] w fun e w' => ∃ a l c, e = .returned (.slice a l c) ∧ DIn (New w.heap.size w'.heap.size) w' (intsD (withIds f s len)) (.slice a l c) ∧ Own w' (intsD (withIds f s len)) (New w.heap.size w'.heap.size) (.slice a l c) ∧ Ext w w' := by
  obtain ⟨i0, hi, hz0, hz1, hz2⟩ := info_parts Try.infoI
  obtain ⟨a, cap, hrow⟩ := h.shape .n
  have hlen : (N.lists .n).length = len := by rw [hln]; simp
  rw [hlen] at hrow
  have c0 := h.c0
  rw [hrow] at c0
  have hcell : ∀ k, k < len → ∃ g, a = some ⟨g, 0, none⟩ ∧ g < w.heap.size ∧ w.cell? ⟨g, k, none⟩ = some (.int .i64 (f k 0).int!) := by
    intro k hk
    have ho := h.own .n
    rw [hrow, hlen] at ho
    rcases ho.2 with ⟨_, e⟩ | ⟨g, cap', cur, e, _⟩
    · omega
    · injection e with e1 _ _
      refine ⟨g, e1, (ho.lt g (by rw [e1]; rfl)).2, ?_⟩
      have := ho.cells (g := g) (by rw [e1]; rfl) k (.int .i64 (f k 0).int!) (by rw [List.getElem?_map, hln, List.getElem?_map, List.getElem?_range hk]; rfl)
      rw [Go.WideShapes.add_plain] at this
      simpa using this
  have hmem : ∀ k, k < len → (f k 0).int! ∈ N.keys .n := fun k hk => (hkn _).2 (List.mem_map.2 ⟨k, List.mem_range.2 hk, rfl⟩)
  go_enter Try.func14, Try.ntmps14
  go_wp2
  go_loopw [5, 14] (fun u i wr => ∃ (k : Nat) (cs : List Value), k ≤ len ∧ i = .int .i64 k ∧ GSt wr w.heap.size 3 1 (intsF (withIds f s k)) (withIds f s k).length u cs ∧ Ext w wr) (fun _ i _ => len - (intOf i).toNat)
  case atStart => exact ⟨0, [], Nat.zero_le _, rfl, GSt.nil _ _ _ _ _, Ext.refl _⟩
  case round =>
    obtain ⟨k, cs, hk, rfl, hG, hE⟩ := hrel
    obtain ⟨ua, ucap, rfl⟩ := hG.shape
    by_cases hlt : k < len
    · obtain ⟨g, rfl, hgl, e0⟩ := hcell k hlt
      rw [← hE.cell hgl] at e0
      have HR := HRa k hlt
      obtain ⟨id, hd⟩ := (show Has (f k 0) .int from HR 0 (by decide)).int
      have hidv : (f k 0).int! = id := by rw [hd]; rfl
      obtain ⟨P, _, hP, _⟩ := hrn.ext hE
      obtain ⟨C, hC, hcs⟩ := hP k hlt
      have hin := hmem k hlt
      have c1 := (h.ext hE).c1
      have hd0 := (hcs 0 (by decide)).1
      rw [hd] at hd0
      obtain ⟨y0, zid⟩ := hd0.int_eq
      have hlook := ((h.ext hE).maps .n).look Try.underlying62 (zeroNode wr) (k := id) zid false
      rw [hidv] at hin hC e0
      simp only [Bool.false_eq_true, if_false, if_pos hin, hC] at hlook
      have HL : Has (f k 1) (.list 0) := HR 1 (by decide)
      have HP : Has (f k 2) (.list 3) := HR 2 (by decide)
      have hL := (hcs 1 (by decide)).1
      have hPp := (hcs 2 (by decide)).1
      obtain ⟨aP, capP, lP, fP, hDP, hCP, _, _⟩ := list_shape HP hPp
      obtain ⟨aL, capL, lL, fL, hDL, hCL, _, _⟩ := list_shape HL hL
      have hcall := hasLabel_any id (f k 1) (C 1) (C 2) HL _ s wr hL ⟨_, _, _, hCP⟩
      replace hlook : (Instr.lookup 62 (.map (some (N.mb .n))) (.int .i64 id) false).run Try.prog wr = .ok (.agg #[.int .i64 id, .slice aL lL capL, .slice aP lP capP]) wr := by
        rw [hlook, ← hCL, ← hCP, ← y0]; rfl
      rw [hCL, hCP] at hcall
      clear hC hcs hP hd0 y0 hL hPp hCP hCL hDP hDL hin
      have hw := with_len f s k
      have hsucc : Hid (withIds f s (k + 1) = withIds f s k ++ (if withB f s k then [id] else [])) := by rw [← hidv]; exact with_succ f s k
      have hwb : Hid (withB f s k = ((s.toList == []) || hasLab (f k 1) s)) := rfl
      have hle := hE.le
      have hnew : Hid (∀ {wx w3 : World} {v' : Value}, Ext wr wx → w3.ownsRow w.heap.size 3 1 v' ((withIds f s k).length + 1) (cs ++ [.int .i64 id]) → (wx.alloc (.cells #[.int .i64 id] 3)).grownBy w3 (Value.slice ua (withIds f s k).length ucap).ownBlock → (v'.ownBlock = (Value.slice ua (withIds f s k).length ucap).ownBlock ∨ v'.ownBlock = some (wx.alloc (.cells #[.int .i64 id] 3)).heap.size) →
          GSt w3 w.heap.size 3 1 (intsF (withIds f s k ++ [id])) (withIds f s k ++ [id]).length v' (cs ++ [.int .i64 id]) ∧ Ext w w3) := by
        intro wx w3 v' hEx hown hg hloc
        exact ⟨hG.int_push (hEx.alloc _) (by omega) zid hown hg hloc rfl, hG.grew (hE.trans (hEx.alloc _)) hg⟩
      have hown0 := fun (wx : World) (hEx : Ext wr wx) => (hG.ext hEx).row
      generalize hln' : (withIds f s k).length = ln at *
      generalize hwk : withB f s k = wb at *
      rw [← hwb.out] at hcall
      cases wb
      · have hw1 : Hid (withIds f s (k + 1) = withIds f s k) := by show _ = _; rw [hsucc.out]; simp
        go_wp2_with (go_at_call 32; refine hcall.mono ?_; rintro e wx ⟨rfl, hEx⟩)
        go_roundw
        case rel => exact ⟨k + 1, cs, by omega, by go_num, by rw [hw1.out, hln']; exact hG.ext hEx, hE.trans hEx⟩
        case measure => simp [intOf]; omega
      · have hw1 : Hid (withIds f s (k + 1) = withIds f s k ++ [id]) := by show _ = _; rw [hsucc.out]; simp
        go_wp2_with (first | (go_at_call 32; refine hcall.mono ?_; rintro e wx ⟨rfl, hEx⟩; have hro := hown0 wx hEx; have hlx := hEx.le) | (at_builtin; refine wpList_append_own_at _ rfl _ _ 29 rfl w.heap.size 3 i0 _ 1 8 Try.underlying29 hi hz0 hz1 hz2 rfl (by decide) _ _ _ rfl (hro.alloc _) ⟨_, 0, none⟩ 1 1 [.int .i64 id] rfl rfl (cell_one_new _ _ _) (by simp [Value.oneCell']) (by unfold maxLen; omega) (by omega) (by simp; omega) ?_; intro v' w3 hown' hgrow hnil hloc))
        go_roundw
        case rel =>
          obtain ⟨s1, s2⟩ := hnew.out hEx hown' hgrow hloc
          exact ⟨k + 1, _, by omega, by go_num, by rw [hw1.out]; exact s1, s2⟩
        case measure => simp [intOf]; omega
    · have hkx : k = len := by omega
      subst hkx
      have hw := with_len f s k
      have hDO : Hid _ := hG.end (by unfold maxLen; omega)
      go_wp2
      go_ret
      exact ⟨_, _, _, rfl, hDO.out.1, hDO.out.2, hE⟩
end Go.Proofs.Ytdbblajcciakoaa

/- What impl.NodesWith answers. -/
namespace Go.Proofs.Ytdbblajcciakoaa
open Go.RowKit Go.Deep

/-- The answer, as numbers. -/
def withAns (d0 d1 : D) (x2 x3 : Int) (s : ByteArray) : List Int := if graphB d0 d1 x2 x3 then withIds d0.at! s d0.len! else []
set_option maxRecDepth 100000 in
set_option maxHeartbeats 1000000 in
theorem implNodesWith_any (S : Nat → Prop) (d0 d1 : D) (c0 c1 : Value) (x2 x3 : Int) (s : ByteArray) (w : World) (H0 : Has d0 (.list 4)) (h0 : DIn S w d0 c0) (H1 : Has d1 (.list 5)) (h1 : DIn S w d1 c1) :
    Calls Try.prog 5 #[.agg #[c0, c1, .int .i64 x2, .int .i64 x3], .string s] w fun e w' => ∃ a l c, e = .returned (.slice a l c) ∧ DIn (New w.heap.size w'.heap.size) w' (intsD (withAns d0 d1 x2 x3 s)) (.slice a l c) ∧ Own w' (intsD (withAns d0 d1 x2 x3 s)) (New w.heap.size w'.heap.size) (.slice a l c) ∧ Ext w w' := by
  have hnet := fun (W : World) (hW : Ext w W) => netOf_any S d0 d1 c0 c1 x2 x3 W H0 (h0.ext hW) H1 (h1.ext hW)
  have hlim : graphB d0 d1 x2 x3 = true → d0.len! ≤ 12 := fun h => by
    simp only [graphB, Bool.and_eq_true, decide_eq_true_eq] at h
    exact h.2.1.1.1
  have hrows : ∀ i, i < d0.len! → HasRow 4 (d0.at! i) := by
    obtain ⟨len, f, rfl, HR⟩ := H0.list
    exact HR
  obtain ⟨a0, cap0, l0, f0, hD0, rfl, _, _⟩ := list_shape H0 h0
  obtain ⟨a1, cap1, l1, f1, hD1, rfl, _, _⟩ := list_shape H1 h1
  clear hD0 hD1
  have HA : Hid (withAns d0 d1 x2 x3 s = if graphB d0 d1 x2 x3 then withIds d0.at! s d0.len! else []) := rfl
  have HL : Hid _ := hlim
  clear hlim
  generalize withAns d0 d1 x2 x3 s = ans at *
  generalize graphB d0 d1 x2 x3 = gb at *
  go_enter Try.func5, Try.ntmps5
  go_wp2_with fail
  refine (hnet _ ((Ext.refl _).alloc _)).mono ?_
  rintro e w1 ⟨p, rfl, hN, hE1⟩
  have hE2 : Ext w w1 := ((Ext.refl _).alloc _).trans hE1
  cases gb
  · have hans : Hid (ans = []) := HA.out
    clear hN
    go_wp2
    go_ret
    exact ⟨_, _, _, rfl, by rw [hans.out]; exact ⟨⟨none, 0, 0, 0, rfl, Nat.zero_le _, fun h => by simp at h, fun i hi => by simp at hi⟩, ⟨none, 0, 0, 0, fun _ _ _ => False, rfl, fun h => by simp at h, fun i _ hi => by simp at hi, fun i _ _ _ hi => by simp at hi, fun i hi => by simp at hi⟩, hE2⟩⟩
  · have hans : Hid (ans = withIds d0.at! s d0.len!) := HA.out
    obtain ⟨N, rfl, hNI, hF⟩ := hN rfl
    clear hN
    obtain ⟨mid, _, hrn, _⟩ := hF.rows
    have hwith := netNodesWith_any w1 _ mid N d0.at! d0.len! s hNI hrows hF.ln hF.kn hrn (by first | exact HL.out rfl | exact HL.out trivial)
    rw [← hans.out] at hwith
    go_wp2_with fail
    refine hwith.mono ?_
    rintro e w2 ⟨a, l, c, rfl, hD, hO, hE3⟩
    have hmono : ∀ x, New w1.heap.size w2.heap.size x → New w.heap.size w2.heap.size x := fun x hx => ⟨Nat.le_trans hE2.le hx.1, hx.2⟩
    have hD' : Hid _ := hD.mono hmono
    have hO' : Hid _ := hO.mono hmono
    clear hD hO
    go_wp2
    go_ret
    exact ⟨_, _, _, rfl, hD'.out, hO'.out, hE2.trans hE3⟩
end Go.Proofs.Ytdbblajcciakoaa

/- What spec.l2With and spec.NodesWith answer. -/
namespace Go.Proofs.Ytdbblajcciakoaa
open Go.RowKit Go.Deep

theorem Try.infoN : (Try.prog.info? 3).map (fun i => (i.zero, i.size, i.bytes)) = some (some (.int .i64 0), 1, 8) := by kernel_rfl

set_option maxRecDepth 100000 in
set_option maxHeartbeats 4000000 in
theorem l2With_any (S : Nat → Prop) (d0 : D) (c0 c1 : Value) (x2 x3 : Int) (s : ByteArray) (w : World) (H0 : Has d0 (.list 4)) (h0 : DIn S w d0 c0) (hc1 : ∃ a l c, c1 = .slice a l c) (hl : d0.len! ≤ 12) :
    Calls Try.prog 15 #[.agg #[c0, c1, .int .i64 x2, .int .i64 x3], .string s] w fun e w' => ∃ a l c, e = .returned (.slice a l c) ∧ DIn (New w.heap.size w'.heap.size) w' (intsD (withIds d0.at! s d0.len!)) (.slice a l c) ∧ Ext w w' := by
  obtain ⟨a1, l1, k1, rfl⟩ := hc1
  obtain ⟨len, f, rfl, HRa⟩ := H0.list
  change DIn S w (.list 3 len f) c0 at h0
  change len ≤ 12 at hl
  change Calls _ _ _ _ fun e w' => ∃ a l c, e = .returned (.slice a l c) ∧ DIn (New w.heap.size w'.heap.size) w' (intsD (withIds f s len)) (.slice a l c) ∧ Ext w w'
  obtain ⟨a, cap, rfl, hm⟩ := h0.list_eq
  clear hm
  obtain ⟨i0, hi, hz0, hz1, hz2⟩ := info_parts Try.infoN
  go_enter Try.func15, Try.ntmps15
  go_wp2
  generalize hW0 : (w.alloc _).alloc _ = W0
  have hE0 : Ext w W0 := by subst hW0; exact ((Ext.refl _).alloc _).alloc _
  have hbx : W0.cell? ⟨w.heap.size, 0, none⟩ = some (.slice a len cap) := by
    subst hW0; exact box_cell ((Ext.refl _).alloc _) 0 _ rfl
  have hG0 : GSt W0 (w.heap.size + 1) 3 1 (intsF []) 0 (.slice (some ⟨w.heap.size + 1, 0, none⟩) 0 0) [] := by
    subst hW0
    have := GSt.made (w.alloc (.cells #[.slice a len cap, .slice a1 l1 k1, .int .i64 x2, .int .i64 x3] 26)) (w.heap.size + 1) 3 1 (intsF []) (by simp)
    simpa using this
  have hz : w.heap.size + 2 ≤ W0.heap.size := by subst hW0; simp
  clear hW0
  go_loopw [5, 6] (fun u i wr => ∃ (k : Nat) (cs : List Value), k ≤ len ∧ i = .int .i64 k ∧ GSt wr (w.heap.size + 1) 3 1 (intsF (withIds f s k)) (withIds f s k).length u cs ∧ Below (w.heap.size + 1) W0 wr) (fun _ i _ => len - (intOf i).toNat)
  case atStart => exact ⟨0, [], Nat.zero_le _, rfl, hG0, Below.refl _ _⟩
  case round =>
    obtain ⟨k, cs, hk, rfl, hG, hB⟩ := hrel
    have hE : Ext w wr := Below.trans hE0 (Below.mono hB (by omega))
    have hszr := Below.size hB
    have p0 : wr.cell? ⟨w.heap.size, 0, none⟩ = some (.slice a len cap) := by rw [Below.cell hB (by simp)]; exact hbx
    obtain ⟨ua, ucap, rfl⟩ := hG.shape
    by_cases hlt : k < len
    · obtain ⟨cap2, b, off, C, hsl, _, hbl, ec, hx⟩ := (h0.ext hE).at hlt
      cases hsl
      have HR := HRa k hlt
      obtain ⟨id, hd⟩ := (show Has (f k 0) .int from HR 0 (by decide)).int
      have k0 := hx 0 (by decide)
      have e0 := ec 0 (by decide)
      have e1 := ec 1 (by decide)
      rw [hd] at k0
      obtain ⟨y0, zid⟩ := k0.int_eq
      rw [y0] at e0
      simp only [Nat.add_zero] at e0
      have HL : Has (f k 1) (.list 0) := HR 1 (by decide)
      have hL := hx 1 (by decide)
      have hcall := l2Has_any (f k 1) HL S (C 1) s wr hL
      obtain ⟨aL, capL, lL, fL, hDL, hCL, _, _⟩ := list_shape HL hL
      rw [hCL] at e1 hcall
      have hidv : (f k 0).int! = id := by rw [hd]; rfl
      clear ec hx k0 y0 hL hCL hDL
      have hw := with_len f s k
      have hsucc : Hid (withIds f s (k + 1) = withIds f s k ++ (if withB f s k then [id] else [])) := by rw [← hidv]; exact with_succ f s k
      have hwb : Hid (withB f s k = ((s.toList == []) || hasLab (f k 1) s)) := rfl
      have hnew : Hid (∀ {wx w3 : World} {v' : Value}, Ext wr wx → w3.ownsRow (w.heap.size + 1) 3 1 v' ((withIds f s k).length + 1) (cs ++ [.int .i64 id]) → (wx.alloc (.cells #[.int .i64 id] 3)).grownBy w3 (Value.slice ua (withIds f s k).length ucap).ownBlock → (v'.ownBlock = (Value.slice ua (withIds f s k).length ucap).ownBlock ∨ v'.ownBlock = some (wx.alloc (.cells #[.int .i64 id] 3)).heap.size) →
          GSt w3 (w.heap.size + 1) 3 1 (intsF (withIds f s k ++ [id])) (withIds f s k ++ [id]).length v' (cs ++ [.int .i64 id]) ∧ Below (w.heap.size + 1) W0 w3) := by
        intro wx w3 v' hEx hown hg hloc
        have hle := hEx.le
        exact ⟨hG.int_push (hEx.alloc _) (by omega) zid hown hg hloc rfl, Below.grown (Below.trans hB (Below.mono (hEx.alloc _) (by omega))) hg (by simp; omega) (fun j hj => (hG.row.lt j hj).1)⟩
      have hown0 := fun (wx : World) (hEx : Ext wr wx) => (hG.ext hEx).row
      generalize hln : (withIds f s k).length = ln at *
      cases hs0 : (s.toList == [])
      · cases hh : hasLab (f k 1) s
        · rw [hh] at hcall
          have hw1 : Hid (withIds f s (k + 1) = withIds f s k) := by show _ = _; rw [hsucc.out, hwb.out, hs0, hh]; simp
          go_wp2_with (go_at_call 33; refine hcall.mono ?_; rintro e wx ⟨rfl, hEx⟩)
          go_roundw
          case rel => exact ⟨k + 1, cs, by omega, by go_num, by rw [hw1.out, hln]; exact hG.ext hEx, Below.trans hB (Below.mono hEx (by omega))⟩
          case measure => simp [intOf]; omega
        · rw [hh] at hcall
          have hw1 : Hid (withIds f s (k + 1) = withIds f s k ++ [id]) := by show _ = _; rw [hsucc.out, hwb.out, hs0, hh]; simp
          have hcl := fun (wx : World) (hEx : Ext wr wx) => (show wx.cell? ⟨w.heap.size, 0, none⟩ = some (.slice (some ⟨b, off, none⟩) len cap) ∧ wx.cell? ⟨b, off + k * 3, none⟩ = some (.int .i64 id) from ⟨by rw [hEx.cell (by simp; omega)]; exact p0, by rw [hEx.cell hbl]; exact e0⟩)
          go_wp2_with (first | (go_at_call 33; refine hcall.mono ?_; rintro e wx ⟨rfl, hEx⟩; obtain ⟨p0', e0'⟩ := hcl wx hEx; have hro := hown0 wx hEx; have hlx := hEx.le) | (at_builtin; refine wpList_append_own_at _ rfl _ _ 29 rfl (w.heap.size + 1) 3 i0 _ 1 8 Try.underlying29 hi hz0 hz1 hz2 rfl (by decide) _ _ _ rfl (hro.alloc _) ⟨_, 0, none⟩ 1 1 [.int .i64 id] rfl rfl (cell_one_new _ _ _) (by simp [Value.oneCell']) (by unfold maxLen; omega) (by omega) (by simp; omega) ?_; intro v' w3 hown' hgrow hnil hloc))
          go_roundw
          case rel =>
            obtain ⟨s1, s2⟩ := hnew.out hEx hown' hgrow hloc
            exact ⟨k + 1, _, by omega, by go_num, by rw [hw1.out]; exact s1, s2⟩
          case measure => simp [intOf]; omega
      · have hw1 : Hid (withIds f s (k + 1) = withIds f s k ++ [id]) := by show _ = _; rw [hsucc.out, hwb.out, hs0]; simp
        have hro := hown0 wr (Ext.refl _)
        clear hcall
        go_wp2_with (at_builtin; refine wpList_append_own_at _ rfl _ _ 29 rfl (w.heap.size + 1) 3 i0 _ 1 8 Try.underlying29 hi hz0 hz1 hz2 rfl (by decide) _ _ _ rfl (hro.alloc _) ⟨_, 0, none⟩ 1 1 [.int .i64 id] rfl rfl (cell_one_new _ _ _) (by simp [Value.oneCell']) (by unfold maxLen; omega) (by omega) (by simp; omega) ?_; intro v' w3 hown' hgrow hnil hloc)
        go_roundw
        case rel =>
          obtain ⟨s1, s2⟩ := hnew.out (Ext.refl _) hown' hgrow hloc
          exact ⟨k + 1, _, by omega, by go_num, by rw [hw1.out]; exact s1, s2⟩
        case measure => simp [intOf]; omega
    · have hkx : k = len := by omega
      subst hkx
      have hw := with_len f s k
      obtain ⟨hD, _⟩ := hG.end (by unfold maxLen; omega)
      have hD' : Hid (DIn (New w.heap.size wr.heap.size) wr (intsD (withIds f s k)) (.slice ua (withIds f s k).length ucap)) := hD.mono (fun x hx => ⟨by have := hx.1; omega, hx.2⟩)
      clear hD
      go_wp2
      go_ret
      exact ⟨_, _, _, rfl, hD'.out, hE⟩

end Go.Proofs.Ytdbblajcciakoaa

/- What spec.NodesWith answers. -/
namespace Go.Proofs.Ytdbblajcciakoaa
open Go.RowKit Go.Deep

set_option maxRecDepth 100000 in
set_option maxHeartbeats 1000000 in
theorem specNodesWith_any (S : Nat → Prop) (d0 d1 : D) (c0 c1 : Value) (x2 x3 : Int) (s : ByteArray) (w : World) (H0 : Has d0 (.list 4)) (h0 : DIn S w d0 c0) (H1 : Has d1 (.list 5)) (h1 : DIn S w d1 c1) :
    Calls Try.prog 7 #[.agg #[c0, c1, .int .i64 x2, .int .i64 x3], .string s] w fun e w' => ∃ a l c, e = .returned (.slice a l c) ∧ DIn (New w.heap.size w'.heap.size) w' (intsD (if graphB d0 d1 x2 x3 then withIds d0.at! s d0.len! else [])) (.slice a l c) ∧ Ext w w' := by
  have hok := fun (W : World) (hW : Ext w W) => specGraphOk_any S d0 d1 c0 c1 x2 x3 W H0 (h0.ext hW) H1 (h1.ext hW)
  have hwith := fun (W : World) (hW : Ext w W) (hc1 : ∃ a l c, c1 = .slice a l c) (hl : d0.len! ≤ 12) => l2With_any S d0 c0 c1 x2 x3 s W H0 (h0.ext hW) hc1 hl
  have hlim : graphB d0 d1 x2 x3 = true → d0.len! ≤ 12 := fun h => by
    simp only [graphB, Bool.and_eq_true, decide_eq_true_eq] at h
    exact h.2.1.1.1
  obtain ⟨a0, cap0, l0, f0, hD0, rfl, _, _⟩ := list_shape H0 h0
  obtain ⟨a1, cap1, l1, f1, hD1, rfl, _, _⟩ := list_shape H1 h1
  clear hD0 hD1
  have HL : Hid _ := hlim
  clear hlim
  generalize graphB d0 d1 x2 x3 = gb at *
  go_enter Try.func7, Try.ntmps7
  cases gb
  · go_wp2_with (go_at_call 8; refine (hok _ ((Ext.refl _).alloc _)).mono ?_; rintro e w1 ⟨rfl, hE1⟩)
    go_ret
    have hE2 : Ext w w1 := ((Ext.refl _).alloc _).trans hE1
    exact ⟨_, _, _, rfl, ⟨_, _, 0, 0, rfl, Nat.zero_le _, fun h => by simp at h, fun i hi => by simp at hi⟩, hE2.alloc _⟩
  · go_wp2_with fail
    refine (hok _ ((Ext.refl _).alloc _)).mono ?_
    rintro e w1 ⟨rfl, hE1⟩
    have hE2 : Ext w w1 := ((Ext.refl _).alloc _).trans hE1
    have p0 := box_cell hE1 0 _ rfl
    have p1 := box_cell hE1 1 _ rfl
    have p2 := box_cell hE1 2 _ rfl
    have p3 := box_cell hE1 3 _ rfl
    go_wp2_with fail
    refine (hwith _ hE2 ⟨_, _, _, rfl⟩ (by first | exact HL.out rfl | exact HL.out trivial)).mono ?_
    rintro e w2 ⟨a, l, c, rfl, hD, hE3⟩
    have hD' : Hid _ := hD.mono (fun x (hx : New w1.heap.size w2.heap.size x) => (show New w.heap.size w2.heap.size x from ⟨Nat.le_trans hE2.le hx.1, hx.2⟩))
    clear hD
    go_wp2
    go_ret
    exact ⟨_, _, _, rfl, hD'.out, hE2.trans hE3⟩
end Go.Proofs.Ytdbblajcciakoaa
