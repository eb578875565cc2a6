/- Lists of one and of two values: whether they are ok, and which is first. -/
import Derived.Test.YtnbjkbpmdjpocaaOrdThy
import Derived.Test.YtnbjkbpmdjpocaaFBox
namespace Go.Proofs.Ytnbjkbpmdjpocaa
open Go.RowKit Go.Deep

theorem okI_mono : ∀ (d : Nat) (x : V), okI d x = true → okI (d + 1) x = true
  | 0, _, h => by cases h
  | d + 1, .mk k n t l, h => by
    rw [okI_succ, Bool.and_eq_true] at h ⊢
    refine ⟨h.1, ?_⟩
    have h2 := h.2
    split
    · rfl
    · rename_i h0
      rw [if_neg h0] at h2
      split
      · rename_i h1; rw [if_pos h1] at h2; exact h2
      · rename_i h1
        rw [if_neg h1] at h2
        split
        · rename_i h3; rw [if_pos h3] at h2; exact h2
        · rename_i h3
          rw [if_neg h3] at h2
          split
          · rename_i h4; rw [if_pos h4] at h2; exact h2
          · rename_i h4
            rw [if_neg h4] at h2
            split
            · rename_i h5
              rw [if_pos h5] at h2
              unfold allI at h2 ⊢
              rw [Bool.and_eq_true] at h2 ⊢
              refine ⟨h2.1, ?_⟩
              rw [List.all_eq_true] at *
              intro y hy
              exact okI_mono d y (h2.2 y hy)
            · rename_i h5; rw [if_neg h5] at h2; exact h2

def lst (l : List V) : V := .mk 4 0 ⟨#[]⟩ l
theorem ok_lst (l : List V) : okN 3 (lst l) = (decide (l.length ≤ 6) && l.all (okI 2)) := by
  rw [← okI_eq 2 (lst l)]
  unfold lst
  rw [okI_succ]
  simp [rest_mk, allI, ByteArray.toList_eq]
theorem list_law {x y : V} (hx : okN 3 (lst [x]) = true) (hy : okN 3 (lst [y]) = true) : ordOk (lst [x]) (lst [y]) = ordOk x y ∧ ordOk (lst [x, x]) (lst [x, y]) = ordOk x y ∧ ordOk (lst [x]) (lst [x, y]) = -1 := by
  rw [ok_lst] at hx hy
  have ax : okI 2 x = true := by simpa using hx
  have ay : okI 2 y = true := by simpa using hy
  have bx : okN 3 x = true := by rw [← okI_eq 2 x]; exact okI_mono 2 x ax
  have byy : okN 3 y = true := by rw [← okI_eq 2 y]; exact okI_mono 2 y ay
  have o1 : okN 3 (lst [x]) = true := by rw [ok_lst]; simp [ax]
  have o2 : okN 3 (lst [y]) = true := by rw [ok_lst]; simp [ay]
  have o3 : okN 3 (lst [x, x]) = true := by rw [ok_lst]; simp [ax]
  have o4 : okN 3 (lst [x, y]) = true := by rw [ok_lst]; simp [ax, ay]
  have e1 : ordVL [x] [y] = ordV x y := by
    unfold ordVL
    by_cases h : ordV x y = 0
    · rw [if_pos h, ordVL_nil_nil, h]
    · rw [if_neg h]
  have e2 : ordVL [x, x] [x, y] = ordV x y := by
    rw [ordVL, if_pos (ordV_refl x)]
    exact e1
  have e3 : ordVL [x] [x, y] = -1 := by
    rw [ordVL, if_pos (ordV_refl x), ordVL]
  have el : ∀ l l', ordV (lst l) (lst l') = ordVL l l' := by
    intro l l'
    unfold lst
    rw [ordV, if_neg (fun h => h rfl), if_neg (by decide), if_pos rfl]
  have ok : ∀ a b, okN 3 a = true → okN 3 b = true → ordOk a b = ordV a b := by
    intro a b h1 h2
    unfold ordOk
    rw [if_pos ⟨h1, h2⟩]
  rw [ok _ _ o1 o2, ok _ _ o3 o4, ok _ _ o1 o4, ok _ _ bx byy, el, el, el]
  exact ⟨e1, e2, e3⟩

/-- A value with a list of two values, in a block of its own. -/
theorem ValS.two {S : Nat → Prop} {w : World} {x y : V} {d0 d1 d2 d3 e0 e1 e2 e3 : Value} {g cap : Nat} (hx : ValS S w x (.agg #[d0, d1, d2, d3])) (hy : ValS S w y (.agg #[e0, e1, e2, e3])) (hS : S g) (hb : g < w.heap.size)
    (h0 : w.cell? ⟨g, 0, none⟩ = some d0) (h1 : w.cell? ⟨g, 1, none⟩ = some d1) (h2 : w.cell? ⟨g, 2, none⟩ = some d2) (h3 : w.cell? ⟨g, 3, none⟩ = some d3) (h4 : w.cell? ⟨g, 4, none⟩ = some e0) (h5 : w.cell? ⟨g, 5, none⟩ = some e1) (h6 : w.cell? ⟨g, 6, none⟩ = some e2) (h7 : w.cell? ⟨g, 7, none⟩ = some e3) :
    ValS S w (lst [x, y]) (.agg #[.int .i64 4, .int .i64 0, .string ⟨#[]⟩, .slice (some ⟨g, 0, none⟩) 2 cap]) := by
  refine .mk 4 0 ⟨#[]⟩ [x, y] _ cap g 0 (fun i => if i = 0 then d0 else e0) (fun i => if i = 0 then d1 else e1) (fun i => if i = 0 then d2 else e2) (fun i => if i = 0 then d3 else e3) rfl rfl (by unfold maxLen; decide) (by simp) (fun _ => ⟨rfl, hS, hb⟩) (fun i hi => ?_) (fun i hi => ?_)
  · have : i = 0 ∨ i = 1 := by simp at hi; omega
    rcases this with rfl | rfl
    · exact ⟨h0, h1, h2, h3⟩
    · exact ⟨h4, h5, h6, h7⟩
  · have : i = 0 ∨ i = 1 := by simp at hi; omega
    rcases this with rfl | rfl
    · exact hx
    · exact hy
end Go.Proofs.Ytnbjkbpmdjpocaa
