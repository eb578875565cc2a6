/- What impl.Words answers: the words of a text in memory of their own, and whether all of it was told. -/
import Derived.Test.YthalmejmehjdgaaDoorWEach
namespace Go.Proofs.YthalmejmehjdgaaDoor
open Go.RowKit Go.Shelf

attribute [local go_sem] Oper.semAt_some

theorem boxed_own' {β : Type} (B : Nat) (t : TypeId) (v : Value) : Own (fun (_ : β) W => Boxed W B t v) := by
  intro s X Y row hv hg hrow
  refine Boxed.kept hv hg (fun e' => ?_)
  obtain ⟨o, ho, hc⟩ := hrow B e'.symm
  rw [show X.heap[B]? = _ from hv] at ho; cases ho; cases hc
theorem boxed_other {W : World} {B B' : Nat} {t : TypeId} {v v' : Value} (h : Boxed W B t v) (hne : B ≠ B') : Boxed (W.setCell ⟨B', 0, none⟩ v') B t v := h.kept (grownBy_setCell' W B' v') (by simpa using hne)
theorem boxed_put {W : World} {B D : Nat} {t : TypeId} {v : Value} (h : Boxed W B t v) (hK : W.heap[D]? = some (.deferred (some []))) (o : Obj) : Boxed (W.putObj D o) B t v :=
  h.kept (grownBy_putObj' W D o) (fun e => by
    have e' : B = D := by simpa using e
    subst e'
    rw [show W.heap[B]? = _ from h] at hK; cases hK)
theorem fine_of {l : By} (h : ∀ x ∈ seqOf l, x ≠ []) : fine l = true ∧ wordsOf l = seqOf l := by
  have hf : fine l = true := by
    unfold fine
    rw [List.all_eq_true]
    intro x hx
    have := h x hx
    cases x with
    | nil => exact absurd rfl this
    | cons => rfl
  exact ⟨hf, by unfold wordsOf; rw [hf, if_pos rfl]⟩
theorem fine_not {l : By} (h : [] ∈ seqOf l) : fine l = false ∧ wordsOf l = [] := by
  have hf : fine l = false := by
    unfold fine
    rw [List.all_eq_false]
    exact ⟨[], h, by simp⟩
  exact ⟨hf, by unfold wordsOf; rw [hf]; rfl⟩

set_option maxRecDepth 100000 in
set_option maxHeartbeats 4000000 in
theorem implWords_any (s : ByteArray) (w : World) (hs : s.size ≤ 1048576) :
    Calls Tryd.prog 5 #[.string s] w fun e w' => ∃ v, e = .returned (.tuple #[v, .bool (fine s.data.toList)]) ∧ OwnS w.heap.size w' v (wordsOf s.data.toList) ∧ Ext w w' := by
  obtain ⟨i0, hi, hz0, hz1, hz2⟩ := info_parts Tryd.infoS
  refine (callsIn_wide (n := 3)).1 ?_
  have hlen := seqOf_len s.data.toList
  rw [← Lib.size_eq] at hlen
  refine callsIn_of_wp_marks Tryd.func5 rfl trivial ?_ rfl
  simp only [Tryd.ntmps5, List.size_toArray, List.length_cons, List.length_nil, Nat.reduceAdd, Nat.reduceSub, Array.replicate_succ, Array.replicate_zero, List.push_toArray, List.append_toArray, List.nil_append, List.cons_append]
  gi_wp2_with (refine ⟨trivial, ?_⟩; gi_at_call 11; refine (each_in _ _ _).mono ?_; rintro e w' ⟨rfl, rfl⟩)
  have bR := Boxed.new w 24 (.slice none 0 0)
  have bB := Boxed.new (w.alloc (.cells #[.slice none 0 0] 24)) 4 (.bool false)
  have bO := Boxed.new ((w.alloc (.cells #[.slice none 0 0] 24)).alloc (.cells #[.bool false] 4)) 24 (.slice none 0 0)
  have bS := Boxed.new (((w.alloc (.cells #[.slice none 0 0] 24)).alloc (.cells #[.bool false] 4)).alloc (.cells #[.slice none 0 0] 24)) 9 (.string s)
  simp only [World.size_alloc] at bB bO bS
  have hB0 : Below w.heap.size w ((((w.alloc (.cells #[.slice none 0 0] 24)).alloc (.cells #[.bool false] 4)).alloc (.cells #[.slice none 0 0] 24)).alloc (.cells #[.string s] 9)) :=
    ((((Below.refl _ w).alloc (Nat.le_refl _) _).alloc (by simp) _).alloc (by simp; omega) _).alloc (by simp; omega) _
  refine wpIn_rangeFunc_ownG (α := By) rfl (by omega) (gf := 13) (lb := #[.pointer (some ⟨w.heap.size + 1 + 1 + 1, 0, none⟩)]) rfl trivial (enters_of Tryd.func13 (by kernel_rfl) rfl)
    (each_stops _ (by omega) (w.heap.size + 1 + 1 + 1) w.heap.size s hs _ (by simp) bS.cell) belowK_t (belowK_b (by simp; omega)) (Below.refl _ _) (fun _ => rfl)
    (fun (pre : List By) W => (∃ v, Boxed W (w.heap.size + 1 + 1) 24 v ∧ W.ownsRow w.heap.size 9 1 v pre.length (pre.map encS) ∧ ∀ x ∈ pre, x ≠ []) ∧ (Boxed W w.heap.size 24 (.slice none 0 0) ∧ Boxed W (w.heap.size + 1) 4 (.bool false) ∧ Below w.heap.size w W))
    (fun c (pre : List By) W => (c = .ret ∧ [] ∈ pre) ∧ (Boxed W w.heap.size 24 (.slice none 0 0) ∧ Boxed W (w.heap.size + 1) 4 (.bool false) ∧ Below w.heap.size w W))
    (OwnFrom.and (Own.from (holdsRow_own w.heap.size (w.heap.size + 1 + 1) 24 9 1 (fun (pre : List By) => pre.length) (fun (pre : List By) => pre.map encS) (fun (pre : List By) _ => ∀ x ∈ pre, x ≠ [])) _) (OwnFrom.and (Own.from (boxed_own' _ _ _) _) (OwnFrom.and (Own.from (boxed_own' _ _ _) _) (ownFrom_below (Nat.le_refl _) (by simp; omega)))))
    (fun c => OwnFrom.and (fun _ _ _ _ h _ _ => h) (OwnFrom.and (Own.from (boxed_own' _ _ _) _) (OwnFrom.and (Own.from (boxed_own' _ _ _) _) (ownFrom_below (Nat.le_refl _) (by simp; omega)))))
    ⟨⟨_, bO.alloc _, World.ownsRow_nil _ _ _ _, by simp⟩, ((bR.alloc _).alloc _).alloc _, (bB.alloc _).alloc _, hB0⟩
    (fun (x : By) => { tmps := #[.string s, undef, .pointer (some ⟨w.heap.size, 0, none⟩), .pointer (some ⟨w.heap.size + 1, 0, none⟩), .pointer (some ⟨w.heap.size + 1 + 1, 0, none⟩), .string (bs x), .string s, .func (.func 13) #[] #[.pointer (some ⟨w.heap.size + 1 + 1 + 1, 0, none⟩)], .string (bs x), undef, undef, undef, undef, undef, undef, undef], defers := [] }) ?assign ?body ?done ?stop
  case assign =>
    intro l x W K hK
    gi_wp2
    exact hK
  case body =>
    rintro l pre x W ⟨⟨v, hv, hrow, hall⟩, hR, hF, hB⟩ hlt
    have hc := hv.cell
    by_cases hx : x = []
    · subst hx
      have hE0 : (bs []).toList.isEmpty = true := by rw [bs_toList]; rfl
      have hcR := hR.cell
      have hfR := hR.frozen
      have hR2 : Boxed (W.setCell ⟨w.heap.size, 0, none⟩ (.slice none 0 0)) w.heap.size 24 (.slice none 0 0) := hR.set _
      have hF2 : Boxed (W.setCell ⟨w.heap.size, 0, none⟩ (.slice none 0 0)) (w.heap.size + 1) 4 (.bool false) := boxed_other hF (by omega)
      have hcF := hF2.cell
      have hfF := hF2.frozen
      gi_wp2
      refine ⟨((KeepsOthers.setCell _ _ _).trans (KeepsOthers.setCell _ _ _)).from _, ⟨rfl, by simp⟩, boxed_other hR2 (by omega), hF2.set _, ?_⟩
      exact (hB.setCell (p := ⟨w.heap.size, 0, none⟩) (Nat.le_refl _) _).setCell (p := ⟨w.heap.size + 1, 0, none⟩) (Nat.le_add_right _ _) _
    · have hE0 : (bs x).toList.isEmpty = false := by rw [bs_toList]; cases x with | nil => exact absurd rfl hx | cons => rfl
      gi_wp2_with (gi_at_builtin; refine wpListIn_append_own _ rfl _ _ 24 rfl w.heap.size 9 i0 (.string ⟨#[]⟩) 1 16 Tryd.underlying24 hi hz0 hz1 hz2 rfl (by decide) _ _ _ rfl (hrow.alloc _) ⟨W.heap.size, 0, none⟩ 1 1 [.string (bs x)] rfl rfl (cell_one_new _ _ _) (by simp [Value.oneCell']) (by unfold maxLen; omega) (by omega) (by have := hB.size; simp; omega) ?_; intro v' w1 hown' hgrow _; obtain ⟨g', cap', rfl⟩ := ownsRow_succ hown'; obtain ⟨hv1, hv2, hr2, hk2, hb2⟩ := hv.appended (by decide) hrow hB.size (by omega) hown' hgrow; have hc1 := hv1.cell; have hf1 := hv1.frozen)
      have hR1 : Boxed w1 w.heap.size 24 (.slice none 0 0) := (hR.alloc _).kept hgrow (hR.not_row (by decide) hrow)
      have hF1 : Boxed w1 (w.heap.size + 1) 4 (.bool false) := (hF.alloc _).kept hgrow (hF.not_row (by decide) hrow)
      refine ⟨hk2.from _, hb2, ⟨_, hv2, by simpa [encS] using hr2, ?_⟩, boxed_other hR1 (by omega), boxed_other hF1 (by omega), hB.trans hb2⟩
      intro y hy
      rcases List.mem_append.1 hy with hy | hy
      · exact hall y hy
      · rw [List.mem_singleton.1 hy]; exact hx
  case done =>
    rintro D ys W hD rfl ⟨⟨v, hv, hrow, hall⟩, hR, hF, hB⟩ hK
    obtain ⟨hf, hw⟩ := fine_of hall
    have hc := hv.cell
    have hcR := hR.cell
    have hfR := hR.frozen
    have hshape : ∃ a n c, v = .slice a n c := by
      rcases hrow.2 with ⟨rfl, _⟩ | ⟨g, cap, cur, rfl, _⟩
      · exact ⟨_, _, _, rfl⟩
      · exact ⟨_, _, _, rfl⟩
    obtain ⟨a1, n1, c1, rfl⟩ := hshape
    have hR2 : Boxed (W.setCell ⟨w.heap.size, 0, none⟩ (.slice a1 n1 c1)) w.heap.size 24 (.slice a1 n1 c1) := hR.set _
    have hF2 : Boxed (W.setCell ⟨w.heap.size, 0, none⟩ (.slice a1 n1 c1)) (w.heap.size + 1) 4 (.bool false) := boxed_other hF (by omega)
    have hcF := hF2.cell
    have hfF := hF2.frozen
    gi_wp2
    have hK1 := (KeepsOthers.setCell W ⟨w.heap.size, 0, none⟩ (.slice a1 n1 c1)).same D _ hK rfl
    have hK2 := (KeepsOthers.setCell (W.setCell ⟨w.heap.size, 0, none⟩ (.slice a1 n1 c1)) ⟨w.heap.size + 1, 0, none⟩ (.bool true)).same D _ hK1 rfl
    refine ⟨by simp, .inl ⟨_, _, rfl, run_takeDeferred hK2, ?_⟩⟩
    have cR := (boxed_put (boxed_other (v' := .bool true) hR2 (B' := w.heap.size + 1) (by omega)) hK2 (.deferred none)).cell
    have cF := (boxed_put (hF2.set (.bool true)) hK2 (.deferred none)).cell
    refine ⟨.tuple #[.slice a1 n1 c1, .bool true], ?_, _, by rw [hf], ?_, ?_⟩
    · simp [results, Tryd.f5, go_sem, cR, cF]
    · rw [hw]
      have r1 := hrow.kept (grownBy_setCell' W w.heap.size (.slice a1 n1 c1)) (.inr (hR.not_row (by decide) hrow).symm)
      have r2 := r1.kept (grownBy_setCell' _ (w.heap.size + 1) (.bool true)) (.inr (hF2.not_row (by decide) r1).symm)
      exact ownsRow_putObj r2 _ hK2 rfl
    · have b2 := (hB.setCell (p := ⟨w.heap.size, 0, none⟩) (Nat.le_refl _) (.slice a1 n1 c1)).setCell (p := ⟨w.heap.size + 1, 0, none⟩) (Nat.le_add_right _ _) (.bool true)
      exact b2.trans (belowK_b (w := w) (Nat.le_refl _) _ D _ _ (by simp at hD; omega) hK2 rfl rfl)
  case stop =>
    rintro D c pre W hD hpre ⟨⟨rfl, hin⟩, hR, hF, hB⟩ hK
    obtain ⟨hf, hw⟩ := fine_not (hpre.subset hin)
    gi_wp2
    refine ⟨by simp, .inl ⟨_, _, rfl, run_takeDeferred hK, ?_⟩⟩
    have cR := (boxed_put hR hK (.deferred none)).cell
    have cF := (boxed_put hF hK (.deferred none)).cell
    refine ⟨.tuple #[.slice none 0 0, .bool false], ?_, _, by rw [hf], ?_, ?_⟩
    · simp [results, Tryd.f5, go_sem, cR, cF]
    · rw [hw]; exact World.ownsRow_nil _ _ _ _
    · exact hB.trans (belowK_b (w := w) (Nat.le_refl _) _ D _ _ (by simp at hD; omega) hK rfl rfl)
end Go.Proofs.YthalmejmehjdgaaDoor
