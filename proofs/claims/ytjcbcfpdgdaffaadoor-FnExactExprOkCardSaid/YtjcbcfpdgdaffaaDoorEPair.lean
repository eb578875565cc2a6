/- What impl.isPair and impl.isNoExpr answer, where the table of signs lies as the program's text has it. -/
import Derived.Test.YtjcbcfpdgdaffaaDoorEPlace
import Derived.Deep.DeepCutAuto
namespace Go.Proofs.YtjcbcfpdgdaffaaDoor
open Go.RowKit Go.Deep

/-- The signs between two parts, by kind. -/
def sigL : List (List UInt8) := [[], [], [], [], [], [61], [60], [65, 78, 68], [79, 82], [], [43], [], [73, 78]]
def sigA (i : Nat) : ByteArray := ⟨(sigL.getD i []).toArray⟩
theorem sigA_list (i : Nat) : (sigA i).toList = sigL.getD i [] := by
  have : (sigA i).toList = (sigA i).data.toList := by exact ByteArray.toList_eq _
  rw [this]; simp [sigA]
def Pairs (w : World) : Prop := 0 < w.heap.size ∧ ∀ i, i < 13 → w.cell? ⟨0, i, none⟩ = some (.string (sigA i))
theorem Pairs.ext {w w' : World} (h : Pairs w) (e : Ext w w') : Pairs w' := ⟨Nat.lt_of_lt_of_le h.1 e.le, fun i hi => by rw [e.cell h.1]; exact h.2 i hi⟩

def pairB (k : Int) : Bool := decide ((5 ≤ k ∧ k ≤ 8) ∨ k = 10 ∨ k = 12)

set_option maxHeartbeats 2000000 in
theorem isPair_any (k : Int) (w : World) (hp : Pairs w) : Calls Tryd.prog 27 #[.int .i64 k] w fun e w' => e = .returned (.bool (pairB k)) ∧ w' = w := by
  by_cases h0 : 0 ≤ k
  · by_cases h13 : k < 13
    · have hk : k = 0 ∨ k = 1 ∨ k = 2 ∨ k = 3 ∨ k = 4 ∨ k = 5 ∨ k = 6 ∨ k = 7 ∨ k = 8 ∨ k = 9 ∨ k = 10 ∨ k = 11 ∨ k = 12 := by omega
      rcases hk with rfl | rfl | rfl | rfl | rfl | rfl | rfl | rfl | rfl | rfl | rfl | rfl | rfl
      · have hc := hp.2 0 (by omega)
        have hs : (sigA 0).toList = [] := sigA_list 0
        generalize sigA 0 = sg at hc hs
        go_enter Tryd.func27, Tryd.ntmps27
        go_wp2
        go_ret
        exact ⟨ret_bool (by decide), rfl⟩
      · have hc := hp.2 1 (by omega)
        have hs : (sigA 1).toList = [] := sigA_list 1
        generalize sigA 1 = sg at hc hs
        go_enter Tryd.func27, Tryd.ntmps27
        go_wp2
        go_ret
        exact ⟨ret_bool (by decide), rfl⟩
      · have hc := hp.2 2 (by omega)
        have hs : (sigA 2).toList = [] := sigA_list 2
        generalize sigA 2 = sg at hc hs
        go_enter Tryd.func27, Tryd.ntmps27
        go_wp2
        go_ret
        exact ⟨ret_bool (by decide), rfl⟩
      · have hc := hp.2 3 (by omega)
        have hs : (sigA 3).toList = [] := sigA_list 3
        generalize sigA 3 = sg at hc hs
        go_enter Tryd.func27, Tryd.ntmps27
        go_wp2
        go_ret
        exact ⟨ret_bool (by decide), rfl⟩
      · have hc := hp.2 4 (by omega)
        have hs : (sigA 4).toList = [] := sigA_list 4
        generalize sigA 4 = sg at hc hs
        go_enter Tryd.func27, Tryd.ntmps27
        go_wp2
        go_ret
        exact ⟨ret_bool (by decide), rfl⟩
      · have hc := hp.2 5 (by omega)
        have hs : (sigA 5).toList = [61] := sigA_list 5
        generalize sigA 5 = sg at hc hs
        go_enter Tryd.func27, Tryd.ntmps27
        go_wp2
        go_ret
        exact ⟨ret_bool (by decide), rfl⟩
      · have hc := hp.2 6 (by omega)
        have hs : (sigA 6).toList = [60] := sigA_list 6
        generalize sigA 6 = sg at hc hs
        go_enter Tryd.func27, Tryd.ntmps27
        go_wp2
        go_ret
        exact ⟨ret_bool (by decide), rfl⟩
      · have hc := hp.2 7 (by omega)
        have hs : (sigA 7).toList = [65, 78, 68] := sigA_list 7
        generalize sigA 7 = sg at hc hs
        go_enter Tryd.func27, Tryd.ntmps27
        go_wp2
        go_ret
        exact ⟨ret_bool (by decide), rfl⟩
      · have hc := hp.2 8 (by omega)
        have hs : (sigA 8).toList = [79, 82] := sigA_list 8
        generalize sigA 8 = sg at hc hs
        go_enter Tryd.func27, Tryd.ntmps27
        go_wp2
        go_ret
        exact ⟨ret_bool (by decide), rfl⟩
      · have hc := hp.2 9 (by omega)
        have hs : (sigA 9).toList = [] := sigA_list 9
        generalize sigA 9 = sg at hc hs
        go_enter Tryd.func27, Tryd.ntmps27
        go_wp2
        go_ret
        exact ⟨ret_bool (by decide), rfl⟩
      · have hc := hp.2 10 (by omega)
        have hs : (sigA 10).toList = [43] := sigA_list 10
        generalize sigA 10 = sg at hc hs
        go_enter Tryd.func27, Tryd.ntmps27
        go_wp2
        go_ret
        exact ⟨ret_bool (by decide), rfl⟩
      · have hc := hp.2 11 (by omega)
        have hs : (sigA 11).toList = [] := sigA_list 11
        generalize sigA 11 = sg at hc hs
        go_enter Tryd.func27, Tryd.ntmps27
        go_wp2
        go_ret
        exact ⟨ret_bool (by decide), rfl⟩
      · have hc := hp.2 12 (by omega)
        have hs : (sigA 12).toList = [73, 78] := sigA_list 12
        generalize sigA 12 = sg at hc hs
        go_enter Tryd.func27, Tryd.ntmps27
        go_wp2
        go_ret
        exact ⟨ret_bool (by decide), rfl⟩
    · have hd : decide (k < 13) = false := decide_eq_false h13
      have h0' : decide (0 ≤ k) = true := decide_eq_true h0
      go_enter Tryd.func27, Tryd.ntmps27
      go_wp2
      go_ret
      exact ⟨ret_bool (by simp [pairB]; omega), rfl⟩
  · have hd : decide (0 ≤ k) = false := decide_eq_false h0
    go_enter Tryd.func27, Tryd.ntmps27
    go_wp2
    go_ret
    exact ⟨ret_bool (by simp [pairB]; omega), rfl⟩

theorem zero_rest (x1 x2 : Int) (x3 : ByteArray) (l : List V) : sameV (.mk x1 x2 x3 l) zeroV = (decide (x1 = 0) && restB (.mk x1 x2 x3 l)) := by
  have hL : sameVL l [] = (l.length == 0) := by cases l <;> simp [sameVL]
  have h3 : (x3.toList == (⟨#[]⟩ : ByteArray).toList) = (x3.toList == []) := by
    have : (⟨#[]⟩ : ByteArray).toList = [] := by rw [ByteArray.toList_eq]
    rw [this]
  rw [zeroV, sameV, rest_mk, hL, h3]
  by_cases h : x1 = 0
  · subst h
    simp [Bool.and_assoc, Bool.beq_eq_decide_eq]
  · simp [h]

/-- All else is nothing. -/
def noB (k : Int) (X : V) (nm ky : ByteArray) (d : D) : Bool := sameV X zeroV && decide (k = 0) && (nm.toList == []) && (ky.toList == []) && decide (d.len! = 0)

set_option maxRecDepth 100000 in
set_option maxHeartbeats 2000000 in
theorem isNoExpr_any (S : Nat → Prop) (x0 x1 x2 : Int) (x3 : ByteArray) (d4 : D) (c4 : Value) (x5 x6 : ByteArray) (d7 : D) (c7 : Value) (w : World) (z1 : (Lit.int .i64 x1).wf = true) (z2 : (Lit.int .i64 x2).wf = true) (z3 : x3.size ≤ maxLen) (H4 : Has d4 (.list 2)) (h4 : DIn S w d4 c4) (H7 : Has d7 (.list 8)) (h7 : DIn S w d7 c7) :
    Calls Tryd.prog 28 #[.agg #[.int .i64 x0, .int .i64 x1, .int .i64 x2, .string x3, c4, .string x5, .string x6, c7]] w fun e w' => e = .returned (.bool (noB x0 (.mk x1 x2 x3 (vsOf d4)) x5 x6 d7)) ∧ Ext w w' := by
  have hval : ∀ W, Ext w W → ValIn 0 W (.mk x1 x2 x3 (vsOf d4)) (.agg #[.int .i64 x1, .int .i64 x2, .string x3, c4]) := fun W hW => valIn_of z1 z2 z3 H4 (h4.ext hW)
  have hzr := zero_rest x1 x2 x3 (vsOf d4)
  obtain ⟨a4, cap4, l4, f4, hD4, rfl, _, _⟩ := list_shape H4 h4
  obtain ⟨a7, cap7, len, f, hD7, rfl, hl7, _⟩ := list_shape H7 h7
  have HB : Hid (noB x0 (.mk x1 x2 x3 (vsOf d4)) x5 x6 d7 = (decide (x1 = 0) && restB (.mk x1 x2 x3 (vsOf d4)) && decide (x0 = 0) && (x5.toList == []) && (x6.toList == []) && decide (len = 0))) := by show _ = _; rw [noB, hzr, hD7]; rfl
  clear hD4 hD7 H4 H7 h4 h7 hzr z1 z2 z3
  generalize noB x0 (.mk x1 x2 x3 (vsOf d4)) x5 x6 d7 = R at HB ⊢
  generalize V.mk x1 x2 x3 (vsOf d4) = X at hval HB
  go_enter Tryd.func28, Tryd.ntmps28
  by_cases h1 : x1 = 0
  · subst h1
    go_wp2_with fail
    refine (rest_any X 0 _ _ (hval _ (((Ext.refl _).alloc _).alloc _))).mono ?_
    rintro e w1 ⟨rfl, E1⟩
    have HE : Ext w w1 := (((Ext.refl _).alloc _).alloc _).trans E1
    obtain ⟨hc, hf⟩ := bcell E1
    have hz : w.heap.size < w1.heap.size := by have := E1.le; simp at this; omega
    simp only [World.size_alloc] at hc hf
    have p0 := hc w.heap.size 0 (by omega)
    have p5 := hc w.heap.size 5 (by omega)
    have p6 := hc w.heap.size 6 (by omega)
    have p7 := hc w.heap.size 7 (by omega)
    simp at p0 p5 p6 p7
    clear hc hf E1 hval
    generalize restB X = rb at HB ⊢
    cases rb
    · go_wp2
      go_ret
      exact ⟨ret_bool (by rw [HB.out]; simp), HE⟩
    by_cases h0 : x0 = 0
    · subst h0
      cases e5 : (x5.toList == [])
      · go_wp2
        go_ret
        exact ⟨ret_bool (by rw [HB.out, e5]; simp), HE⟩
      cases e6 : (x6.toList == [])
      · go_wp2
        go_ret
        exact ⟨ret_bool (by rw [HB.out, e6]; simp), HE⟩
      go_wp2
      go_ret
      refine ⟨ret_bool ?_, HE⟩
      rw [HB.out, e5, e6]
      simp [Bool.beq_eq_decide_eq]
    · have n0 : (x0 == 0) = false := by simpa using h0
      go_wp2
      go_ret
      exact ⟨ret_bool (by rw [HB.out]; simp [h0]), HE⟩
  · have n1 : (x1 == 0) = false := by simpa using h1
    go_wp2
    go_ret
    exact ⟨ret_bool (by rw [HB.out]; simp [h1]), ((Ext.refl _).alloc _).alloc _⟩
end Go.Proofs.YtjcbcfpdgdaffaaDoor
