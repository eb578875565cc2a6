/- Whether two values are equal: either way round the same; never yes of what has nothing within; else whether they are the same. -/
import Derived.Test.YtnbjkbpmdjpocaaOrdThy
import Derived.Test.YtnbjkbpmdjpocaaAsNull
namespace Go.Proofs.Ytnbjkbpmdjpocaa
open Go.RowKit Go.Deep

theorem sameV_symm (x y : V) : sameV y x = sameV x y := by
  rw [Bool.eq_iff_iff, sameV_iff, sameV_iff]
  exact ⟨fun h => h.symm, fun h => h.symm⟩
mutual
theorem eqV_symm : ∀ (x y : V), eqV y x = eqV x y
  | .mk k n t l, .mk k' n' t' l' => by
    unfold eqV
    by_cases h0 : k = 0 ∨ k' = 0
    · rw [if_pos h0, if_pos h0.symm]
    · rw [if_neg h0, if_neg (fun h => h0 h.symm)]
      by_cases h4 : ¬ k = 4 ∨ ¬ k' = 4
      · rw [if_pos h4, if_pos h4.symm, sameV_symm]
      · rw [if_neg h4, if_neg (fun h => h4 h.symm)]
        by_cases hl : l.length = l'.length
        · rw [if_neg (fun h => h hl.symm), if_neg (fun h => h hl)]
          exact eqVL_symm l l' true
        · rw [if_pos (fun h => hl h.symm), if_pos hl]
theorem eqVL_symm : ∀ (l l' : List V) (b : Bool), eqVL l' l b = eqVL l l' b
  | [], [], b => rfl
  | [], _ :: _, b => by unfold eqVL; rfl
  | _ :: _, [], b => by unfold eqVL; rfl
  | a :: r, c :: r', b => by
    unfold eqVL
    rw [eqV_symm a c]
    split
    · rfl
    · exact eqVL_symm r r' b
    · exact eqVL_symm r r' false
end
theorem neat_leaf {k n : Int} {t : ByteArray} {l : List V} (h : Neat (.mk k n t l)) (h4 : ¬ k = 4) : l = [] := by
  cases h with
  | mk _ _ _ _ hk hr _ =>
    rw [rest_mk, Bool.and_eq_true, Bool.and_eq_true] at hr
    have := hr.2
    exact List.eq_nil_of_length_eq_zero (by simpa [h4] using this)
mutual
theorem eqV_yes : ∀ (x y : V), Neat x → Neat y → eqV x y = some true → nullV x = false ∧ nullV y = false
  | .mk k n t l, .mk k' n' t' l', hx, hy, h => by
    have ax := hx.all
    have ay := hy.all
    unfold eqV at h
    by_cases h0 : k = 0 ∨ k' = 0
    · rw [if_pos h0] at h; cases h
    · rw [if_neg h0] at h
      have k0 : ¬ k = 0 := fun e => h0 (.inl e)
      have k0' : ¬ k' = 0 := fun e => h0 (.inr e)
      by_cases h4 : ¬ k = 4 ∨ ¬ k' = 4
      · rw [if_pos h4] at h
        have e := sameV_eq _ _ (Option.some.inj h)
        cases e
        have n4 : ¬ k = 4 := by rcases h4 with h | h <;> exact h
        have := neat_leaf hx n4
        subst this
        constructor <;> (unfold nullV nullVL; simp [k0])
      · rw [if_neg h4] at h
        have e4 : k = 4 := by omega
        have e4' : k' = 4 := by omega
        by_cases hl : l.length = l'.length
        · rw [if_neg (fun h => h hl)] at h
          obtain ⟨h1, h2, _⟩ := eqVL_yes l l' true (ax e4) (ay e4') hl h
          constructor <;> (unfold nullV; simp [h1, h2, k0, k0'])
        · rw [if_pos hl] at h; cases h
theorem eqVL_yes : ∀ (l l' : List V) (b : Bool), (∀ y, y ∈ l → Neat y) → (∀ y, y ∈ l' → Neat y) → l.length = l'.length → eqVL l l' b = some true → nullVL l = false ∧ nullVL l' = false ∧ b = true
  | [], [], b, _, _, _, h => by
    unfold eqVL at h
    cases b
    · cases h
    · exact ⟨by unfold nullVL; rfl, by unfold nullVL; rfl, rfl⟩
  | [], _ :: _, b, _, _, hl, _ => by simp at hl
  | _ :: _, [], b, _, _, hl, _ => by simp at hl
  | a :: r, c :: r', b, hx, hy, hl, h => by
    have tr := fun d k => eqVL_yes r r' d (fun y hy2 => hx y (List.mem_cons_of_mem _ hy2)) (fun y hy2 => hy y (List.mem_cons_of_mem _ hy2)) (by simpa using hl) k
    unfold eqVL at h
    split at h
    · cases h
    · rename_i he
      obtain ⟨h1, h2⟩ := eqV_yes a c (hx a List.mem_cons_self) (hy c List.mem_cons_self) he
      obtain ⟨h3, h4, h5⟩ := tr b h
      exact ⟨by unfold nullVL; rw [h1, h3]; rfl, by unfold nullVL; rw [h2, h4]; rfl, h5⟩
    · obtain ⟨_, _, h5⟩ := tr false h
      cases h5
end
mutual
theorem eqV_known : ∀ (x y : V), Neat x → Neat y → nullV x = false → nullV y = false → eqV x y = some (sameV x y)
  | .mk k n t l, .mk k' n' t' l', hx, hy, h, h' => by
    have ax := hx.all
    have ay := hy.all
    unfold nullV at h h'
    rw [Bool.or_eq_false_iff] at h h'
    have k0 : ¬ k = 0 := by simpa using h.2
    have k0' : ¬ k' = 0 := by simpa using h'.2
    unfold eqV
    rw [if_neg (fun e => by rcases e with e | e; exact k0 e; exact k0' e)]
    by_cases h4 : ¬ k = 4 ∨ ¬ k' = 4
    · rw [if_pos h4]
    · rw [if_neg h4]
      have e4 : k = 4 := by omega
      have e4' : k' = 4 := by omega
      subst e4 e4'
      have hs : sameV (.mk 4 n t l) (.mk 4 n' t' l') = sameVL l l' := by
        cases hx with
        | mk _ _ _ _ _ hr _ =>
        cases hy with
        | mk _ _ _ _ _ hr' _ =>
        rw [rest_mk, Bool.and_eq_true, Bool.and_eq_true] at hr hr'
        have m0 : n = 0 := by simpa using hr.1.1
        have m0' : n' = 0 := by simpa using hr'.1.1
        have t0 : t.toList = [] := by simpa using hr.1.2
        have t0' : t'.toList = [] := by simpa using hr'.1.2
        unfold sameV
        rw [t0, t0', m0, m0']
        simp
      rw [hs]
      by_cases hl : l.length = l'.length
      · rw [if_neg (fun e => e hl)]
        exact eqVL_known l l' (ax rfl) (ay rfl) hl h.1 h'.1
      · rw [if_pos hl]
        cases hb : sameVL l l'
        · rfl
        · exact absurd (sameVL_length _ _ hb) hl
theorem eqVL_known : ∀ (l l' : List V), (∀ y, y ∈ l → Neat y) → (∀ y, y ∈ l' → Neat y) → l.length = l'.length → nullVL l = false → nullVL l' = false → eqVL l l' true = some (sameVL l l')
  | [], [], _, _, _, _, _ => by unfold eqVL sameVL; rfl
  | [], _ :: _, _, _, hl, _, _ => by simp at hl
  | _ :: _, [], _, _, hl, _, _ => by simp at hl
  | a :: r, c :: r', hx, hy, hl, h, h' => by
    unfold nullVL at h h'
    rw [Bool.or_eq_false_iff] at h h'
    have he := eqV_known a c (hx a List.mem_cons_self) (hy c List.mem_cons_self) h.1 h'.1
    have hr := eqVL_known r r' (fun y hy2 => hx y (List.mem_cons_of_mem _ hy2)) (fun y hy2 => hy y (List.mem_cons_of_mem _ hy2)) (by simpa using hl) h.2 h'.2
    unfold eqVL sameVL
    rw [he]
    cases sameV a c
    · rfl
    · simp [hr]
end
theorem eqK_symm (x y : V) : eqK y x = eqK x y := by
  unfold eqK
  by_cases h : okN 3 x = true ∧ okN 3 y = true
  · rw [if_pos h, if_pos ⟨h.2, h.1⟩, eqV_symm]
  · rw [if_neg h, if_neg (fun k => h ⟨k.2, k.1⟩)]
theorem eqN_symm (x y : V) : eqN y x = eqN x y := by
  unfold eqN
  by_cases h : okN 3 x = true ∧ okN 3 y = true
  · rw [if_pos h, if_pos ⟨h.2, h.1⟩, eqV_symm]
  · rw [if_neg h, if_neg (fun k => h ⟨k.2, k.1⟩)]
theorem eq_law {x y : V} (hx : okN 3 x = true) (hy : okN 3 y = true) : ((nullV x = true ∨ nullV y = true) → eqK x y = 0 ∨ eqN x y = 0) ∧ (nullV x = false → nullV y = false → eqK x y = 1 ∧ (eqN x y == 1) = sameV x y) := by
  unfold eqK eqN
  rw [if_pos ⟨hx, hy⟩, if_pos ⟨hx, hy⟩]
  constructor
  · intro h
    cases e : eqV x y with
    | none => exact .inl rfl
    | some b =>
      cases b
      · exact .inr rfl
      · obtain ⟨h1, h2⟩ := eqV_yes x y (neat_okN hx) (neat_okN hy) e
        rw [h1, h2] at h
        rcases h with h | h <;> cases h
  · intro h1 h2
    rw [eqV_known x y (neat_okN hx) (neat_okN hy) h1 h2]
    cases sameV x y <;> exact ⟨rfl, rfl⟩
end Go.Proofs.Ytnbjkbpmdjpocaa
