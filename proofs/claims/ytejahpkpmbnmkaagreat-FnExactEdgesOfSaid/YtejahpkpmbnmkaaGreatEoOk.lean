/- What impl.EdgesOf answers. -/
import Derived.Test.YtejahpkpmbnmkaaGreatEoNet
import Derived.Test.YtejahpkpmbnmkaaGreatEoS
import Derived.Test.YtejahpkpmbnmkaaGreatEdDef
namespace Go.Proofs.YtejahpkpmbnmkaaGreat
open Go.RowKit Go.Deep

/-- A graph that is ok has no edge at a number that is no node's. -/
theorem eo_none {d0 d1 : D} {x2 x3 id way : Int} {s : ByteArray} (hg : graphB d0 d1 x2 x3 = true) (hn : hasId d0 id = false) : eoIds d1.at! id way s d1.len! = [] := by
  unfold eoIds
  rw [List.map_eq_nil_iff, List.filter_eq_nil_iff]
  intro i hi he
  have hi' := List.mem_range.1 hi
  simp only [graphB, Bool.and_eq_true, List.all_eq_true, List.mem_range] at hg
  have hed := hg.1.2 i hi'
  have hne : ∀ c, hasId d0 ((d1.at! i c).int!) = true → ¬ ((d1.at! i c).int! == id) = true := fun c h e => by rw [beq_iff_eq] at e; rw [e, hn] at h; cases h
  simp only [edgeB, Bool.and_eq_true] at hed
  simp only [eoB, endsB, Bool.and_eq_true, Bool.or_eq_true] at he
  rcases he.1 with h | h
  · exact hne 2 hed.1.1.2 h.2
  · exact hne 3 hed.1.2 h.2
theorem eoAns_eq {d0 d1 : D} {x2 x3 id way : Int} {s : ByteArray} (hg : graphB d0 d1 x2 x3 = true) : eoAns (graphB d0 d1 x2 x3 && hasId d0 id) d1 id way s = eoN d1.at! id way s d1.len! := by
  rw [hg]
  unfold eoAns
  by_cases hw : -1 ≤ way ∧ way ≤ 1
  · rw [eoN_in (graph_inc hg) hw.1 hw.2]
    have hi : inB way (-1) 1 = true := by simp [inB, hw.1, hw.2]
    rw [hi]
    cases hn : hasId d0 id
    · rw [eo_none hg hn]; rfl
    · rfl
  · have hi : inB way (-1) 1 = false := by
      rw [Bool.eq_false_iff]
      intro h
      simp only [inB, decide_eq_true_eq] at h
      exact hw h
    rw [eoN_out hw, hi, Bool.and_false]
    rfl

set_option maxRecDepth 100000 in
set_option maxHeartbeats 1000000 in
theorem implEdgesOf_any (S : Nat → Prop) (d0 d1 : D) (c0 c1 : Value) (x2 x3 id way : Int) (s : ByteArray) (zid : (Lit.int .i64 id).wf = true) (w : World) (H0 : Has d0 (.list 4)) (h0 : DIn S w d0 c0) (H1 : Has d1 (.list 5)) (h1 : DIn S w d1 c1) :
    Calls Tryz.prog 7 #[.agg #[c0, c1, .int .i64 x2, .int .i64 x3], .int .i64 id, .int .i64 way, .string s] w fun e w' => ∃ a l c, e = .returned (.slice a l c) ∧ DIn (New w.heap.size w'.heap.size) w' (intsD (eoAns (graphB d0 d1 x2 x3 && hasId d0 id) d1 id way s)) (.slice a l c) ∧ Own w' (intsD (eoAns (graphB d0 d1 x2 x3 && hasId d0 id) d1 id way s)) (New w.heap.size w'.heap.size) (.slice a l c) ∧ Ext w w' := by
  have hnet := fun (W : World) (hW : Ext w W) => netOf_any S d0 d1 c0 c1 x2 x3 W H0 (h0.ext hW) H1 (h1.ext hW)
  have HL : Hid (graphB d0 d1 x2 x3 = true → d1.len! ≤ 16 ∧ ∀ i j, i < j → j < d1.len! → (d1.at! i 0).int! < (d1.at! j 0).int!) := fun h => ⟨(graph_len h).2.1, graph_inc h⟩
  have hrows : ∀ i, i < d1.len! → HasRow 5 (d1.at! i) := by
    obtain ⟨len, f, rfl, HR⟩ := H1.list
    exact HR
  have HA : Hid (graphB d0 d1 x2 x3 = true → eoAns (graphB d0 d1 x2 x3 && hasId d0 id) d1 id way s = eoN d1.at! id way s d1.len!) := eoAns_eq
  have HA2 : Hid (graphB d0 d1 x2 x3 = false → eoAns (graphB d0 d1 x2 x3 && hasId d0 id) d1 id way s = []) := fun h => by rw [h]; rfl
  obtain ⟨a0, cap0, l0, f0, hD0, rfl, _, _⟩ := list_shape H0 h0
  obtain ⟨a1, cap1, l1, f1, hD1, rfl, _, _⟩ := list_shape H1 h1
  clear hD0 hD1
  generalize eoAns (graphB d0 d1 x2 x3 && hasId d0 id) d1 id way s = ans at *
  generalize graphB d0 d1 x2 x3 = gb at *
  go_enter Tryz.func7, Tryz.ntmps7
  go_wp2_with fail
  refine (hnet _ ((Ext.refl _).alloc _)).mono ?_
  rintro e w1 ⟨p, rfl, hN, hE1⟩
  have hE2 : Ext w w1 := ((Ext.refl _).alloc _).trans hE1
  cases gb
  · have hans : Hid (ans = []) := HA2.out rfl
    clear hN
    go_wp2
    go_ret
    exact ⟨_, _, _, rfl, by rw [hans.out]; exact ⟨⟨none, 0, 0, 0, rfl, Nat.zero_le _, fun h => by simp at h, fun i hi => by simp at hi⟩, ⟨none, 0, 0, 0, fun _ _ _ => False, rfl, fun h => by simp at h, fun i _ hi => by simp at hi, fun i _ _ _ hi => by simp at hi, fun i hi => by simp at hi⟩, hE2⟩⟩
  · have hans : Hid (ans = eoN d1.at! id way s d1.len!) := HA.out rfl
    obtain ⟨N, rfl, hNI, hF⟩ := hN rfl
    clear hN
    obtain ⟨mid, _, _, hre⟩ := hF.rows
    obtain ⟨hl16, hinc⟩ := HL.out rfl
    have hed := netEdgesOf_any w1 _ mid _ N d1.at! d1.len! id way s hNI hrows hinc hF.oi hF.ke hre hl16 zid
    rw [← hans.out] at hed
    clear hl16 hinc
    go_wp2_with fail
    refine hed.mono ?_
    rintro e w2 ⟨a, l, c, rfl, hD, hO, _, hE3⟩
    have hmono : ∀ x, New w1.heap.size w2.heap.size x → New w.heap.size w2.heap.size x := fun x hx => ⟨Nat.le_trans hE2.le hx.1, hx.2⟩
    have hD' : Hid _ := hD.mono hmono
    have hO' : Hid _ := hO.mono hmono
    clear hD hO
    go_wp2
    go_ret
    exact ⟨_, _, _, rfl, hD'.out, hO'.out, hE2.trans hE3⟩
end Go.Proofs.YtejahpkpmbnmkaaGreat
