/- What slices.Concat answers of three rows of texts. -/
import Derived.Test.YtjbppmclhdaaoaaGreatDAcc
import Derived.Test.YtjbppmclhdaaoaaGreatGrS
import Derived.Test.YtjbppmclhdaaoaaGreatLay
import Derived.Shelf.Spec.SlicesGrow
namespace Go.Proofs.YtjbppmclhdaaoaaGreat
open Go.RowKit Go.Deep

/-- A slice that reads as these texts. -/
def SrcS (w : World) (v : Value) (l : List ByteArray) : Prop := ∃ p c, v = .slice p l.length c ∧ (l = [] ∨ ∃ b off, p = some ⟨b, off, none⟩ ∧ b < w.heap.size ∧ ∀ (j : Nat) (u : Value), (l.map Value.string)[j]? = some u → w.cell? ⟨b, off + j, none⟩ = some u)
theorem SrcS.ext {w w' : World} {v : Value} {l : List ByteArray} (h : SrcS w v l) (e : Ext w w') : SrcS w' v l := by
  obtain ⟨p, c, h1, h2⟩ := h
  refine ⟨p, c, h1, ?_⟩
  rcases h2 with h2 | ⟨b, off, hp, hb, hc⟩
  · exact .inl h2
  · exact .inr ⟨b, off, hp, Nat.lt_of_lt_of_le hb e.le, fun j u hu => by rw [e.cell (p := ⟨b, off + j, none⟩) hb]; exact hc j u hu⟩
theorem own9_shape {w : World} {base n : Nat} {v : Value} {xs : List Value} (h : w.ownsRow base 9 1 v n xs) : ∃ a c, v = .slice a n c ∧ n ≤ c := by
  rcases h.2 with ⟨rfl, rfl⟩ | ⟨g, cap, cur, rfl, _, _, hn, _⟩
  · exact ⟨_, _, rfl, Nat.le_refl _⟩
  · exact ⟨_, _, rfl, hn⟩
theorem run_append_src {B0 : Nat} (w : World) {l m : List ByteArray} {u v : Value} (hu : SrcS w u l) (hv : w.ownsRow B0 9 1 v m.length (m.map Value.string)) (hl : l.length ≤ 1000) (hm : m.length ≤ 1000) (hb : B0 ≤ w.heap.size) (ty : TypeId) :
    ∃ a c w', (Builtin.append_ #[42, 42] ty #[v, u]).run Tryz.prog w = .ok (.slice a (m ++ l).length c) w' ∧ w'.ownsRow B0 9 1 (.slice a (m ++ l).length c) (m ++ l).length ((m ++ l).map Value.string) ∧ w.grownBy w' v.ownBlock := by
  obtain ⟨i0, hi, hz0, hz1, hz2⟩ := infoS_parts
  obtain ⟨p, c, rfl, rfl | ⟨b, off, rfl, _, hcs⟩⟩ := hu
  · obtain ⟨a, c', rfl, hmc⟩ := own9_shape hv
    rw [List.append_nil]
    refine ⟨a, c', w, ?_, hv, ⟨rfl, rfl, rfl, Nat.le_refl _, fun _ _ _ => rfl⟩⟩
    cases p <;> cases a <;> simp [Builtin.append_, run_underlying Tryz.underlying42, sizeOf, typeInfo, hi, Builtin.lenOf, Builtin.firstCells, loadCells, loadCellsFrom, storeCells, hmc]
  · obtain ⟨v', w', hr, h1, hg, _, _⟩ := run_append_own_at (P := Tryz.prog) w B0 42 ty 9 i0 _ 1 16 Tryz.underlying42 hi hz0 hz1 hz2 rfl (by decide) v m.length (m.map Value.string) hv ⟨b, off, none⟩ l.length c (l.map Value.string) (by simp) (fun j u hu => by rw [Go.WideShapes.add_plain]; exact hcs j u hu) (by
      intro u hu
      obtain ⟨o, _, rfl⟩ := List.mem_map.1 hu
      rfl) (by unfold maxLen; omega) (by omega) hb
    rw [← List.map_append, ← List.length_append] at h1
    obtain ⟨a, c', rfl, _⟩ := own9_shape h1
    exact ⟨a, c', w', hr, h1, hg⟩
theorem wpList_append_ranS {ops : Array Oper} {rest : List Oper} {o : Oper} {a : Act} {Q : Exit → Act → World → Prop} (w : World) (hgd : o.guard = none) (s x : Operand) (ho : o.op = .call { callee := .builtin .append, args := #[s, x], argTypes := #[42, 42] }) {v u r : Value} {w' : World}
    (hr : (Builtin.append_ #[42, 42] o.type #[v, u]).run Tryz.prog w = .ok r w') (hs : a.eval s = v) (hx : a.eval x = u) (h : wpList Tryz.prog ops Q rest (a.put o.dst r) w') : wpList Tryz.prog ops Q (o :: rest) a w := by
  refine wpList_plain hgd fun K hK => ?_
  unfold Oper.wp execOp
  simp only [ho, resolve, invoke, builtin, Sem.run_bind, Sem.run_pure, Result.andThen_ok, List.map_toArray, List.map_cons, List.map_nil, hs, hx, hr]
  exact hK _ _ h
/-- The first k rows, one behind the other. -/
def catS (ls : Nat → List ByteArray) : Nat → List ByteArray
  | 0 => []
  | k + 1 => catS ls k ++ ls k
theorem catS_le (ls : Nat → List ByteArray) : ∀ {k m : Nat}, k ≤ m → (catS ls k).length ≤ (catS ls m).length := by
  intro k m h
  induction h with
  | refl => exact Nat.le_refl _
  | step _ ih => exact Nat.le_trans ih (by simp [catS])
/-- slices.Grow of nil. -/
theorem grow_any (n : Nat) (w : World) (hn : n ≤ 1000) :
    Calls Tryz.prog 92 #[.slice none 0 0, .int .i64 n] w fun e w' => ∃ a c, e = .returned (.slice a 0 c) ∧ w'.ownsRow w.heap.size 9 1 (.slice a 0 c) 0 [] ∧ Ext w w' := by
  obtain ⟨i0, hi, hz0, hz1, hz2⟩ := infoS_parts
  by_cases h0 : n = 0
  · subst h0
    have h := Any8.slices_Grow_room (P := Tryz.prog) Tryz.lays4 none 0 0 0 w (Nat.le_refl _) (by omega) (by omega) (by omega)
    change Calls Tryz.prog 92 _ _ _ at h
    refine h.mono ?_
    rintro e w' ⟨rfl, rfl⟩
    exact ⟨none, 0, rfl, World.ownsRow_nil _ _ _ _, Ext.refl _⟩
  · have h := Any8.slices_Grow_grow (P := Tryz.prog) Tryz.lays4 i0 (.string ⟨#[]⟩) hi hz0 (by omega) none 0 0 n [] w (Nat.le_refl _) (by omega) (by rw [hz2]; omega) (by omega) (by simp) (fun _ => rfl) (fun a ha => by cases ha)
    change Calls Tryz.prog 92 _ _ _ at h
    refine h.mono ?_
    rintro e w' ⟨rfl, rfl⟩
    refine ⟨_, _, rfl, ⟨rfl, .inr ⟨w.heap.size, grownCap w (0 + n) 0 9, _, rfl, Nat.le_refl _, heap_alloc_new w.drew _, Nat.zero_le _, grownCap_le_maxLen w (0 + n) 0 9 (by unfold maxLen; omega), ?_, by simp⟩⟩, (Ext.refl w).drew.alloc _⟩
    have hge := grownCap_ge w (0 + n) 0 (Tryz.lays4_ren.t 25)
    have e9 : grownCap w (0 + n) 0 9 = grownCap w (0 + n) 0 (Tryz.lays4_ren.t 25) := rfl
    have hzs : (Value.string ⟨#[]⟩).cells.size = 1 := rfl
    rw [Array.size_append, Array.size_append, size_zeroCells, size_zeroCells, hzs]
    show 0 + (0 + n - 0) * 1 + _ = _
    omega
set_option maxRecDepth 100000 in
set_option maxHeartbeats 4000000 in
theorem concat_any (w : World) (B : Nat) (vs : Nat → Value) (ls : Nat → List ByteArray) (hB : B < w.heap.size) (hc : ∀ k, k < 3 → w.cell? ⟨B, k, none⟩ = some (vs k)) (hs : ∀ k, k < 3 → SrcS w (vs k) (ls k)) (hl : (catS ls 3).length ≤ 1000) :
    Calls Tryz.prog 84 #[.slice (some ⟨B, 0, none⟩) 3 3] w fun e w' => ∃ a c, e = .returned (.slice a (catS ls 3).length c) ∧ w'.ownsRow w.heap.size 9 1 (.slice a (catS ls 3).length c) (catS ls 3).length ((catS ls 3).map Value.string) ∧ Ext w w' := by
  have hle := fun k (hk : k ≤ 3) => catS_le ls (k := k) (m := 3) hk
  have hgrow := grow_any
  have hcc := (show Hid _ from hc)
  have hss := (show Hid _ from hs)
  have hll := (show Hid _ from hle)
  clear hc hs hle
  go_enter Tryz.func84, Tryz.ntmps84
  go_wp2
  go_loopw [3, 11] (fun s i wr => ∃ k : Nat, k ≤ 3 ∧ i = .int .i64 k ∧ s = .int .i64 (catS ls k).length ∧ wr = w) (fun _ i _ => 3 - (intOf i).toNat)
  case atStart => exact ⟨0, Nat.zero_le _, rfl, rfl, rfl⟩
  case round =>
    obtain ⟨k, hk, rfl, rfl, hwr⟩ := hrel
    have hwr' := hwr.symm
    subst hwr'
    by_cases hlt : k < 3
    · have e0 := hcc.out k hlt
      obtain ⟨p, c, hv, _⟩ := hss.out k hlt
      rw [hv] at e0
      have hk1 := hll.out (k + 1) hlt
      have hcat : (catS ls (k + 1)).length = (catS ls k).length + (ls k).length := by simp [catS]
      rw [hcat] at hk1
      have hcH := (show Hid _ from hcat)
      clear hv hcat
      go_wp2
      go_roundw
      case rel => exact ⟨k + 1, by omega, by go_num, by rw [hcH.out]; go_num, by first | rfl | trivial⟩
      case measure => simp [intOf]; omega
    · have hke : k = 3 := by omega
      subst hke
      have hg := hgrow (catS ls 3).length w hl
      clear hgrow hwr
      go_wp2_with fail
      refine hg.mono ?_
      rintro e w1 ⟨ga, gc, rfl, hown, hE1⟩
      clear hg
      go_wp2
      go_loopw [6, 27] (fun u i wr => ∃ k : Nat, k ≤ 3 ∧ i = .int .i64 k ∧ wr.ownsRow w.heap.size 9 1 u (catS ls k).length ((catS ls k).map Value.string) ∧ Ext w wr) (fun _ i _ => 3 - (intOf i).toNat)
      case atStart => exact ⟨0, Nat.zero_le _, rfl, hown, hE1⟩
      case round =>
        clear hown hE1
        obtain ⟨k, hk, rfl, hown, hE⟩ := hrel
        obtain ⟨ua, ucap, rfl, _⟩ := own9_shape hown
        by_cases hlt : k < 3
        · have e0 := hcc.out k hlt
          have hsr := (hss.out k hlt).ext hE
          rw [← hE.cell (p := ⟨B, k, none⟩) hB] at e0
          have hk1 := hll.out (k + 1) hlt
          have hk0 := hll.out k (by omega)
          have hcl : (catS ls (k + 1)).length = (catS ls k).length + (ls k).length := by rw [catS, List.length_append]
          have hkl : (ls k).length ≤ 1000 := by omega
          obtain ⟨a', c', w3, hr, hown', hgr⟩ := run_append_src wr hsr hown hkl (by omega) hE.le 42
          obtain ⟨p, c, hv, _⟩ := hsr
          rw [hv] at e0 hr
          have hEn : Ext w w3 := Below.grown hE hgr hE.le (fun j hj => (hown.lt j hj).1)
          rw [List.length_append] at hown' hr
          have hclH := (show Hid _ from hcl)
          clear hv hgr hcl
          go_wp2_with (at_builtin; refine wpList_append_ranS _ rfl _ _ rfl hr rfl rfl ?_)
          go_roundw
          case rel => exact ⟨k + 1, by omega, by go_num, by rw [hclH.out]; exact hown', hEn⟩
          case measure => simp [intOf]; omega
        · have hke : k = 3 := by omega
          subst hke
          go_wp2
          go_ret
          exact ⟨_, _, rfl, hown, hE⟩
end Go.Proofs.YtjbppmclhdaaoaaGreat
