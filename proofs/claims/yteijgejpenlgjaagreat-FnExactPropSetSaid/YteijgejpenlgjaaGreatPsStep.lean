/- What the net's method setProp does, as a step of a net. -/
import Derived.Test.YteijgejpenlgjaaGreatPsN
import Derived.Test.YteijgejpenlgjaaGreatEdS
namespace Go.Proofs.YteijgejpenlgjaaGreat
open Go.RowKit Go.Deep

/-- The props of a node, or of an edge, are others. -/
def psB (d0 d1 : D) (vk vn : Int) (s : ByteArray) (k n : Int) (t : ByteArray) (d3 : D) : Bool := if vk = 5 then (match edK d0 vn with | some i => proOk (d0.at! i 2) s k n t d3 | none => false) else if vk = 6 then (match edK d1 vn with | some i => proOk (d1.at! i 4) s k n t d3 | none => false) else false
def psD (m c : Nat) (d : D) (vn : Int) (s : ByteArray) (k n : Int) (t : ByteArray) (d3 : D) : D := match edK d vn with | some i => .list m d.len! (setF d.at! i c (proD (d.at! i c) s k n t d3)) | none => d
def psD0 (g b : Bool) (d0 : D) (vk vn : Int) (s : ByteArray) (k n : Int) (t : ByteArray) (d3 : D) : D := if g then (if b && decide (vk = 5) then psD 3 2 d0 vn s k n t d3 else d0) else noneL 3
def psD1 (g b : Bool) (d1 : D) (vk vn : Int) (s : ByteArray) (k n : Int) (t : ByteArray) (d3 : D) : D := if g then (if b && decide (vk = 6) then psD 5 4 d1 vn s k n t d3 else d1) else noneL 5
theorem psD_some {m c : Nat} {d : D} {vn : Int} {s : ByteArray} {k n : Int} {t : ByteArray} {d3 : D} {i : Nat} (h : edK d vn = some i) : psD m c d vn s k n t d3 = .list m d.len! (setF d.at! i c (proD (d.at! i c) s k n t d3)) := by unfold psD; rw [h]
theorem psD_has {m c r : Nat} {d : D} {vn : Int} {s : ByteArray} {k n : Int} {t : ByteArray} {d3 : D} (H : Has d (.list r)) (hm : m = (rowsOf r).length) (hcm : c < m) (hr : (rowsOf r).getD c Leaf.int = .list 3) (H3 : Has d3 (.list 2)) : Has (psD m c d vn s k n t d3) (.list r) := by
 unfold psD
 cases h : edK d vn with
 | none => exact H
 | some i =>
  obtain ⟨len, f, rfl, HR⟩ := H.list
  have hi := (edK_some h).1
  subst hm
  refine ⟨r, rfl, rfl, fun q hq j hj => setF_has (r := r) HR hr (proD_has (by have := HR i hi c hcm; rw [hr] at this; exact this) H3) q hq j hj⟩
theorem psD0_has {g b : Bool} {d0 : D} {vk vn : Int} {s : ByteArray} {k n : Int} {t : ByteArray} {d3 : D} (H0 : Has d0 (.list 4)) (H3 : Has d3 (.list 2)) : Has (psD0 g b d0 vk vn s k n t d3) (.list 4) := by
 unfold psD0
 cases g
 ·
  exact ⟨4, rfl, rfl, fun i hi => by omega⟩
 ·
  simp only [if_true]
  split
  ·
   exact psD_has H0 rfl (by decide) rfl H3
  ·
   exact H0
theorem psD1_has {g b : Bool} {d1 : D} {vk vn : Int} {s : ByteArray} {k n : Int} {t : ByteArray} {d3 : D} (H1 : Has d1 (.list 5)) (H3 : Has d3 (.list 2)) : Has (psD1 g b d1 vk vn s k n t d3) (.list 5) := by
 unfold psD1
 cases g
 ·
  exact ⟨5, rfl, rfl, fun i hi => by omega⟩
 ·
  simp only [if_true]
  split
  ·
   exact psD_has H1 rfl (by decide) rfl H3
  ·
   exact H1
theorem psD_len {m c : Nat} {d : D} {vn : Int} {s : ByteArray} {k n : Int} {t : ByteArray} {d3 : D} : (psD m c d vn s k n t d3).len! = d.len! := by
 unfold psD
 cases h : edK d vn with
 | none => rfl
 | some i => rfl
theorem psD0_len {b : Bool} {d0 : D} {vk vn : Int} {s : ByteArray} {k n : Int} {t : ByteArray} {d3 : D} : (psD0 true b d0 vk vn s k n t d3).len! ≤ d0.len! := by
 unfold psD0
 simp only [if_true]
 split
 ·
  exact Nat.le_of_eq psD_len
 ·
  exact Nat.le_refl _
theorem psD1_len {b : Bool} {d1 : D} {vk vn : Int} {s : ByteArray} {k n : Int} {t : ByteArray} {d3 : D} : (psD1 true b d1 vk vn s k n t d3).len! ≤ d1.len! := by
 unfold psD1
 simp only [if_true]
 split
 ·
  exact Nat.le_of_eq psD_len
 ·
  exact Nat.le_refl _
theorem edge_incD {d0 d1 : D} {x2 x3 : Int} (h : graphB d0 d1 x2 x3 = true) : incD d1 := by
 simp only [graphB, Bool.and_eq_true, List.all_eq_true, List.mem_range] at h
 exact edge_inc h.1.2
theorem graph_propsN {d0 d1 : D} {x2 x3 : Int} (h : graphB d0 d1 x2 x3 = true) : ∀ i, i < d0.len! → propsB (d0.at! i 2) = true := by
 simp only [graphB, Bool.and_eq_true, List.all_eq_true, List.mem_range] at h
 intro i hi
 have := h.1.1 i hi
 simp only [nodeB, Bool.and_eq_true] at this
 exact this.1.2
theorem graph_propsE {d0 d1 : D} {x2 x3 : Int} (h : graphB d0 d1 x2 x3 = true) : ∀ i, i < d1.len! → propsB (d1.at! i 4) = true := by
 simp only [graphB, Bool.and_eq_true, List.all_eq_true, List.mem_range] at h
 intro i hi
 have := h.1.2 i hi
 simp only [edgeB, Bool.and_eq_true] at this
 exact this.1.1.1.2
/-- A node of the rows: its cells. -/
theorem RowsS.nodeP {w : World} {base : Nat} {N : NetD} {S : Nat → Prop} {f : Nat → Nat → D} {len k : Nat} (h : RowsS w N S .n 3 f len) (hN : NetIn w base 100 N) (hin : (f k 0).int! ∈ N.keys .n) (hk : k < len) (HR : HasRow 4 (f k)) :
  ∃ idc pa pl pc a c, ∃ P : Nat → Prop, N.val .n (f k 0).int! = rowN idc pa pl pc a (f k 2).len! c ∧ DIn P w (f k 2) (.slice a (f k 2).len! c) ∧ (f k 2).len! ≤ c ∧ pl ≤ pc := by
 obtain ⟨P, h0, h1, h2⟩ := h
 obtain ⟨C, hv, hc⟩ := h1 k hk
 obtain ⟨id, a, l, c, a', l', c', hs, g1, g2⟩ := hN.shp .n _ hin
 have a1 := (hc 2 (by decide)).1
 rw [hv] at hs
 have e : [C 0, C 1, C 2] = [.int .i64 id, .slice a l c, .slice a' l' c'] := by
  injection hs with hs
  have := congrArg Array.toList hs
  exact this
 simp only [List.cons.injEq, and_true] at e
 obtain ⟨e0, e1, e2⟩ := e
 obtain ⟨lenD, fD, hdD, HRD⟩ := (show Has (f k 2) (.list 3) from HR 2 (by decide)).list
 have hl : l' = (f k 2).len! := by
  rw [e2, hdD] at a1
  rw [hdD]
  obtain ⟨_, _, ee, _⟩ := a1.list_eq
  injection ee
 subst hl
 refine ⟨id, a, l, c, a', c', P k 2, ?_, by rw [← e2]; exact a1, g2, g1⟩
 rw [hv]
 show Value.agg #[C 0, C 1, C 2] = _
 rw [e0, e1, e2]
 rfl
/-- An edge of the rows: its cells. -/
theorem RowsS.edgeP {w : World} {base : Nat} {N : NetD} {S : Nat → Prop} {f : Nat → Nat → D} {len k : Nat} (h : RowsS w N S .e 5 f len) (hN : NetIn w base 100 N) (hin : (f k 0).int! ∈ N.keys .e) (hk : k < len) (HR : HasRow 5 (f k)) :
  ∃ idc ek y2 y3 a c, ∃ P : Nat → Prop, N.val .e (f k 0).int! = rowE idc ek y2 y3 a (f k 4).len! c ∧ DIn P w (f k 4) (.slice a (f k 4).len! c) ∧ (f k 4).len! ≤ c := by
 obtain ⟨P, h0, h1, h2⟩ := h
 obtain ⟨C, hv, hc⟩ := h1 k hk
 obtain ⟨id, ek, y2, y3, a, l, c, hs, g1⟩ := hN.shp .e _ hin
 have a1 := (hc 4 (by decide)).1
 rw [hv] at hs
 have e : [C 0, C 1, C 2, C 3, C 4] = [.int .i64 id, .string ek, .int .i64 y2, .int .i64 y3, .slice a l c] := by
  injection hs with hs
  have := congrArg Array.toList hs
  exact this
 simp only [List.cons.injEq, and_true] at e
 obtain ⟨e0, e1, e2, e3, e4⟩ := e
 obtain ⟨lenD, fD, hdD, HRD⟩ := (show Has (f k 4) (.list 3) from HR 4 (by decide)).list
 have hl : l = (f k 4).len! := by
  rw [e4, hdD] at a1
  rw [hdD]
  obtain ⟨_, _, ee, _⟩ := a1.list_eq
  injection ee
 subst hl
 refine ⟨id, ek, y2, y3, a, c, P k 4, ?_, by rw [← e4]; exact a1, g1⟩
 rw [hv]
 show Value.agg #[C 0, C 1, C 2, C 3, C 4] = _
 rw [e0, e1, e2, e3, e4]
 rfl
set_option maxRecDepth 100000 in
set_option maxHeartbeats 8000000 in
theorem setProp_any (w : World) (base : Nat) (N : NetD) (S0 S1 ST S3 : Nat → Prop) (d0 d1 d3 : D) (vk vn : Int) (vt : ByteArray) (vl : List V) (tv : Value) (s : ByteArray) (k n : Int) (t : ByteArray) (a3 : Option Addr) (l3 p3 : Nat) (h : NetDat w base N S0 S1 d0 d1) (hSS : ∀ x, S0 x → ¬ S1 x) (H0 : Has d0 (.list 4)) (H1 : Has d1 (.list 5)) (hi0 : incD d0) (hi1 : incD d1) (hp0 : ∀ i, i < d0.len! → propsB (d0.at! i 2) = true) (hp1 : ∀ i, i < d1.len! → propsB (d1.at! i 4) = true) (zvn : (Lit.int .i64 vn).wf = true) (hT : TermIn ST w (.mk vk vn vt vl) tv) (zs : s.size ≤ maxLen) (zk : (Lit.int .i64 k).wf = true) (zn : (Lit.int .i64 n).wf = true) (zt : t.size ≤ maxLen) (H3 : Has d3 (.list 2)) (h3 : DIn S3 w d3 (.slice a3 l3 p3)) (b : Bool) (hbb : psB d0 d1 vk vn s k n t d3 = b) :
  Calls Tryz.prog 27 #[.pointer (some ⟨N.nb, 0, none⟩), tv, .string s, .agg #[.int .i64 k, .int .i64 n, .string t, .slice a3 l3 p3]] w (NdPost w base N S0 S1 (psD0 true b d0 vk vn s k n t d3) (psD1 true b d1 vk vn s k n t d3) b) := by
 have hE : Ext w ((w.alloc (.cells #[.string s] 9)).alloc (.cells #[.int .i64 k, .int .i64 n, .string t, .slice a3 l3 p3] 40)) := ((Ext.refl _).alloc _).alloc _
 have hEb := (show Hid _ from hE)
 have h6 : ((w.alloc (.cells #[.string s] 9)).alloc (.cells #[.int .i64 k, .int .i64 n, .string t, .slice a3 l3 p3] 40)).cell? ⟨w.heap.size, 0, none⟩ = some (.string s) := box_cell ((Ext.refl _).alloc _) 0 _ rfl
 have h7 : ∀ j c, #[Value.int .i64 k, .int .i64 n, .string t, .slice a3 l3 p3][j]? = some c → ((w.alloc (.cells #[.string s] 9)).alloc (.cells #[.int .i64 k, .int .i64 n, .string t, .slice a3 l3 p3] 40)).cell? ⟨w.heap.size + 1, j, none⟩ = some c := fun j c hc => by
  have := box_cell (w := w.alloc (.cells #[.string s] 9)) (cs := #[.int .i64 k, .int .i64 n, .string t, .slice a3 l3 p3]) (T := 40) (Ext.refl _) j c hc
  rw [World.size_alloc] at this
  exact this
 have h70 := h7 0 _ rfl
 have h71 := h7 1 _ rfl
 have h72 := h7 2 _ rfl
 have h73 := h7 3 _ rfl
 clear h7
 have hz : ((w.alloc (.cells #[.string s] 9)).alloc (.cells #[.int .i64 k, .int .i64 n, .string t, .slice a3 l3 p3] 40)).heap.size = w.heap.size + 2 := by simp
 have hfin0 : Hid (∀ W, Ext w W → NdPost w base N S0 S1 (psD0 true false d0 vk vn s k n t d3) (psD1 true false d1 vk vn s k n t d3) false (.returned (.bool false)) W) := fun W hW => .mk N W S0 S1 (fun _ hx => .inl hx) (fun _ hx => .inl hx) hSS (h.ext hW) (NStep.ext N hW) ⟨rfl, rfl, rfl⟩
 have gT1 := gsT_node
 have gT2 := gsT_edge
 cases hT with
 | node =>
  cases hk : edK d0 vn with
  | none =>
   have hin : vn ∉ N.keys .n := fun hm => by
    obtain ⟨i, hi2⟩ := edK_in ((h.kn _).1 hm)
    rw [hk] at hi2
    cases hi2
   have hbf : b = false := by rw [← hbb]; unfold psB; rw [hk]; rfl
   subst hbf
   have hch := changeN_no _ base N vn w.heap.size (w.heap.size + 1) (h.net.ext hE) zvn hin
   have hfin := hfin0
   clear hE h6 h70 h71 h72 h73 hz h hin hk hbb hfin0
   go_enter Tryz.func27, Tryz.ntmps27
   go_wp2_with fail
   refine hch.mono ?_
   rintro e w1 ⟨rfl, hE1⟩
   go_wp2
   go_ret
   exact hfin.out _ (Ext.trans hEb.out hE1)
  | some i =>
   obtain ⟨hil, hid, _⟩ := edK_some hk
   have HRi : HasRow 4 (d0.at! i) := by
    obtain ⟨len, f, hdd, HR⟩ := H0.list
    rw [hdd] at hil ⊢
    exact HR i hil
   have hin : vn ∈ N.keys .n := by rw [h.kn, ← hid]; exact mem_ids hil
   obtain ⟨idc, pa, pl, pc, a, c, P, hval, hDv, hcc, hpp⟩ := h.rn.nodeP h.net (by rw [hid]; exact hin) hil HRi
   rw [hid] at hval
   have hbk : proOk (d0.at! i 2) s k n t d3 = b := by rw [← hbb]; unfold psB; rw [hk]; rfl
   have hch := changeN_yes P S3 _ base N vn (d0.at! i 2) d3 (HRi 2 (by decide)) H3 idc pa pl pc a c s k n t a3 l3 p3 w.heap.size (w.heap.size + 1) (h.net.ext hE) zvn hin hval (hDv.ext hE) hcc (hp0 i hil) zs zk zn zt (h3.ext hE) hpp h6 h70 h71 h72 h73 (by rw [hz]; omega) (by rw [hz]; omega)
   rw [hbk] at hch
   have hfin : Hid (∀ e W, PrPost ((w.alloc (.cells #[.string s] 9)).alloc (.cells #[.int .i64 k, .int .i64 n, .string t, .slice a3 l3 p3] 40)) base N .n vn (rowN idc pa pl pc) (proD (d0.at! i 2) s k n t d3) b e W → NdPost w base N S0 S1 (psD0 true b d0 5 vn s k n t d3) (psD1 true b d1 5 vn s k n t d3) b e W ∧ e = .returned (.bool b)) := fun e W hp => by
    have hfin0 := hfin0
    cases hp with
    | no w' hE2 => exact ⟨hfin0.out _ (hE.trans hE2), rfl⟩
    | yes la ll lc w' hN st hD hO =>
     refine ⟨?_, rfl⟩
     have stw : NStep w N W _ := (NStep.ext N hE).trans st
     have hzW := stw.chg.size
     have hzb := hE.le
     have hNRl : ∀ x, NetR (N.put .n vn (rowN idc pa pl pc la ll lc)) x → x < w.heap.size := fun x hx => (NetR.lt h.net (NetR.put hx)).2
     have hOl : ∀ x, S1 x → x < w.heap.size := by obtain ⟨P, hP⟩ := h.re; exact hP.1
     have hSl : ∀ x, S0 x → x < w.heap.size := by obtain ⟨P, hP⟩ := h.rn; exact hP.1
     refine .mk _ W (fun x => S0 x ∨ New w.heap.size W.heap.size x) S1 (fun x hx => hx.imp (fun h => h) (fun h => h.1)) (fun x hx => .inl hx) (fun x hx hx1 => hx.elim (fun h => hSS x h hx1) (fun h => by have := hOl x hx1; have := h.1; omega)) ?_ stw ⟨rfl, rfl, rfl⟩
     have hm : ∀ x, New ((w.alloc (.cells #[.string s] 9)).alloc (.cells #[.int .i64 k, .int .i64 n, .string t, .slice a3 l3 p3] 40)).heap.size W.heap.size x → New w.heap.size W.heap.size x := fun x hx => ⟨Nat.le_trans hzb hx.1, hx.2⟩
     have eD : psD0 true true d0 5 vn s k n t d3 = .list 3 d0.len! (setF d0.at! i 2 (proD (d0.at! i 2) s k n t d3)) := (show psD0 true true d0 5 vn s k n t d3 = psD 3 2 d0 vn s k n t d3 from rfl).trans (psD_some hk)
     rw [eD]
     refine ⟨hN, h.ln.trans (ids_setF _ _ _ _ _ (by decide)).symm, h.le, fun x => ?_, h.ke, ?_, h.re.step stw (fun _ _ => rfl)⟩
     ·
      show x ∈ upd N.keys .n (putKeys (N.keys .n) vn) .n ↔ x ∈ idsOf (setF d0.at! i 2 _) d0.len!
      rw [upd_same, mem_putKeys, ids_setF _ _ _ _ _ (by decide), h.kn]
      exact ⟨fun hx => hx.elim (fun h => h) (fun e => by rw [e, ← hid]; exact mem_ids hil), .inl⟩
     ·
      refine h.rn.set hil (by decide) stw (fun q hq hqi => ?_) (fun C hC => ?_) (New w.heap.size W.heap.size) ⟨hD.mono hm, hO.mono hm⟩ (fun x hx => ⟨hx.1, fun hn => by have := hNRl x hn; have := hx.1; omega⟩) (fun x hx => .inl hx) (fun x hx => .inr hx) (fun x hx => hx.elim (fun h => by have := hSl x h; omega) (fun h => h.2))
      ·
       show upd N.val .n (putVal (N.val .n) vn _) .n _ = _
       rw [upd_same, putVal, if_neg]
       rw [← hid]
       intro e
       rcases Nat.lt_or_gt_of_ne hqi with h1 | h1
       ·
        have := hi0 q i h1 hil; omega
       ·
        have := hi0 i q h1 hq; omega
      ·
       show upd N.val .n (putVal (N.val .n) vn _) .n _ = _
       rw [upd_same, putVal, if_pos hid]
       rw [hid, hval] at hC
       have e : [.int .i64 idc, .slice pa pl pc, .slice a (d0.at! i 2).len! c] = [C 0, C 1, C 2] := by
        injection hC with hC
        exact congrArg Array.toList hC
       simp only [List.cons.injEq, and_true] at e
       obtain ⟨e0, e1, _⟩ := e
       show _ = Value.agg #[C 0, C 1, .slice la ll lc]
       rw [← e0, ← e1]
       rfl
   clear hE h6 h70 h71 h72 h73 hz h hin hk hbb hval hDv hfin0 hbk hid
   go_enter Tryz.func27, Tryz.ntmps27
   go_wp2_with fail
   refine hch.mono ?_
   intro e w1 hp
   obtain ⟨hp1, rfl⟩ := hfin.out e w1 hp
   have hp1 := (show Hid _ from hp1)
   clear hch hp hfin
   go_wp2
   go_ret
   exact hp1.out
 | edge =>
  cases hk : edK d1 vn with
  | none =>
   have hin : vn ∉ N.keys .e := fun hm => by
    obtain ⟨i, hi2⟩ := edK_in ((h.ke _).1 hm)
    rw [hk] at hi2
    cases hi2
   have hbf : b = false := by rw [← hbb]; unfold psB; rw [hk]; rfl
   subst hbf
   have hch := changeE_no _ base N vn w.heap.size (w.heap.size + 1) (h.net.ext hE) zvn hin
   have hfin := hfin0
   clear hE h6 h70 h71 h72 h73 hz h hin hk hbb hfin0
   go_enter Tryz.func27, Tryz.ntmps27
   go_wp2_with fail
   refine hch.mono ?_
   rintro e w1 ⟨rfl, hE1⟩
   go_wp2
   go_ret
   exact hfin.out _ (Ext.trans hEb.out hE1)
  | some i =>
   obtain ⟨hil, hid, _⟩ := edK_some hk
   have HRi : HasRow 5 (d1.at! i) := by
    obtain ⟨len, f, hdd, HR⟩ := H1.list
    rw [hdd] at hil ⊢
    exact HR i hil
   have hin : vn ∈ N.keys .e := by rw [h.ke, ← hid]; exact mem_ids hil
   obtain ⟨idc, ek, y2, y3, a, c, P, hval, hDv, hcc⟩ := h.re.edgeP h.net (by rw [hid]; exact hin) hil HRi
   rw [hid] at hval
   have hbk : proOk (d1.at! i 4) s k n t d3 = b := by rw [← hbb]; unfold psB; rw [hk]; rfl
   have hch := changeE_yes P S3 _ base N vn (d1.at! i 4) d3 (HRi 4 (by decide)) H3 idc ek y2 y3 a c s k n t a3 l3 p3 w.heap.size (w.heap.size + 1) (h.net.ext hE) zvn hin hval (hDv.ext hE) hcc (hp1 i hil) zs zk zn zt (h3.ext hE) h6 h70 h71 h72 h73 (by rw [hz]; omega) (by rw [hz]; omega)
   rw [hbk] at hch
   have hfin : Hid (∀ e W, PrPost ((w.alloc (.cells #[.string s] 9)).alloc (.cells #[.int .i64 k, .int .i64 n, .string t, .slice a3 l3 p3] 40)) base N .e vn (rowE idc ek y2 y3) (proD (d1.at! i 4) s k n t d3) b e W → NdPost w base N S0 S1 (psD0 true b d0 6 vn s k n t d3) (psD1 true b d1 6 vn s k n t d3) b e W ∧ e = .returned (.bool b)) := fun e W hp => by
    have hfin0 := hfin0
    cases hp with
    | no w' hE2 => exact ⟨hfin0.out _ (hE.trans hE2), rfl⟩
    | yes la ll lc w' hN st hD hO =>
     refine ⟨?_, rfl⟩
     have stw : NStep w N W _ := (NStep.ext N hE).trans st
     have hzW := stw.chg.size
     have hzb := hE.le
     have hNRl : ∀ x, NetR (N.put .e vn (rowE idc ek y2 y3 la ll lc)) x → x < w.heap.size := fun x hx => (NetR.lt h.net (NetR.put hx)).2
     have hOl : ∀ x, S0 x → x < w.heap.size := by obtain ⟨P, hP⟩ := h.rn; exact hP.1
     have hSl : ∀ x, S1 x → x < w.heap.size := by obtain ⟨P, hP⟩ := h.re; exact hP.1
     refine .mk _ W S0 (fun x => S1 x ∨ New w.heap.size W.heap.size x) (fun x hx => .inl hx) (fun x hx => hx.imp (fun h => h) (fun h => h.1)) (fun x hx hx1 => hx1.elim (fun h => hSS x hx h) (fun h => by have := hOl x hx; have := h.1; omega)) ?_ stw ⟨rfl, rfl, rfl⟩
     have hm : ∀ x, New ((w.alloc (.cells #[.string s] 9)).alloc (.cells #[.int .i64 k, .int .i64 n, .string t, .slice a3 l3 p3] 40)).heap.size W.heap.size x → New w.heap.size W.heap.size x := fun x hx => ⟨Nat.le_trans hzb hx.1, hx.2⟩
     have eD : psD1 true true d1 6 vn s k n t d3 = .list 5 d1.len! (setF d1.at! i 4 (proD (d1.at! i 4) s k n t d3)) := (show psD1 true true d1 6 vn s k n t d3 = psD 5 4 d1 vn s k n t d3 from rfl).trans (psD_some hk)
     rw [eD]
     refine ⟨hN, h.ln, h.le.trans (ids_setF _ _ _ _ _ (by decide)).symm, h.kn, fun x => ?_, h.rn.step stw (fun _ _ => rfl), ?_⟩
     ·
      show x ∈ upd N.keys .e (putKeys (N.keys .e) vn) .e ↔ x ∈ idsOf (setF d1.at! i 4 _) d1.len!
      rw [upd_same, mem_putKeys, ids_setF _ _ _ _ _ (by decide), h.ke]
      exact ⟨fun hx => hx.elim (fun h => h) (fun e => by rw [e, ← hid]; exact mem_ids hil), .inl⟩
     ·
      refine h.re.set hil (by decide) stw (fun q hq hqi => ?_) (fun C hC => ?_) (New w.heap.size W.heap.size) ⟨hD.mono hm, hO.mono hm⟩ (fun x hx => ⟨hx.1, fun hn => by have := hNRl x hn; have := hx.1; omega⟩) (fun x hx => .inl hx) (fun x hx => .inr hx) (fun x hx => hx.elim (fun h => by have := hSl x h; omega) (fun h => h.2))
      ·
       show upd N.val .e (putVal (N.val .e) vn _) .e _ = _
       rw [upd_same, putVal, if_neg]
       rw [← hid]
       intro e
       rcases Nat.lt_or_gt_of_ne hqi with h1 | h1
       ·
        have := hi1 q i h1 hil; omega
       ·
        have := hi1 i q h1 hq; omega
      ·
       show upd N.val .e (putVal (N.val .e) vn _) .e _ = _
       rw [upd_same, putVal, if_pos hid]
       rw [hid, hval] at hC
       have e : [.int .i64 idc, .string ek, .int .i64 y2, .int .i64 y3, .slice a (d1.at! i 4).len! c] = [C 0, C 1, C 2, C 3, C 4] := by
        injection hC with hC
        exact congrArg Array.toList hC
       simp only [List.cons.injEq, and_true] at e
       obtain ⟨e0, e1, e2, e3, _⟩ := e
       show _ = Value.agg #[C 0, C 1, C 2, C 3, .slice la ll lc]
       rw [← e0, ← e1, ← e2, ← e3]
       rfl
   clear hE h6 h70 h71 h72 h73 hz h hin hk hbb hval hDv hfin0 hbk hid
   go_enter Tryz.func27, Tryz.ntmps27
   go_wp2_with fail
   refine hch.mono ?_
   intro e w1 hp
   obtain ⟨hp1, rfl⟩ := hfin.out e w1 hp
   have hp1 := (show Hid _ from hp1)
   clear hch hp hfin
   go_wp2
   go_ret
   exact hp1.out
 | null =>
  have hbf : b = false := by rw [← hbb]; rfl
  subst hbf
  have hfin := hfin0
  clear hE h6 h70 h71 h72 h73 hz h hbb hfin0
  go_enter Tryz.func27, Tryz.ntmps27
  go_wp2
  go_ret
  exact hfin.out _ hEb.out
 | bool =>
  have hbf : b = false := by rw [← hbb]; rfl
  subst hbf
  have hfin := hfin0
  clear hE h6 h70 h71 h72 h73 hz h hbb hfin0
  go_enter Tryz.func27, Tryz.ntmps27
  go_wp2
  go_ret
  exact hfin.out _ hEb.out
 | num =>
  have hbf : b = false := by rw [← hbb]; rfl
  subst hbf
  have hfin := hfin0
  clear hE h6 h70 h71 h72 h73 hz h hbb hfin0
  go_enter Tryz.func27, Tryz.ntmps27
  go_wp2
  go_ret
  exact hfin.out _ hEb.out
 | text =>
  have hbf : b = false := by rw [← hbb]; rfl
  subst hbf
  have hfin := hfin0
  clear hE h6 h70 h71 h72 h73 hz h hbb hfin0
  go_enter Tryz.func27, Tryz.ntmps27
  go_wp2
  go_ret
  exact hfin.out _ hEb.out
 | list =>
  have hbf : b = false := by rw [← hbb]; rfl
  subst hbf
  have hfin := hfin0
  clear hE h6 h70 h71 h72 h73 hz h hbb hfin0
  go_enter Tryz.func27, Tryz.ntmps27
  go_wp2
  go_ret
  exact hfin.out _ hEb.out
end Go.Proofs.YteijgejpenlgjaaGreat
