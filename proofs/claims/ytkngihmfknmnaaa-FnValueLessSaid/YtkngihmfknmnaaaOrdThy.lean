/- The order of values: turned the other way round, nothing but of the same, and through a third one. -/
import Derived.Test.YtkngihmfknmnaaaOrdImpl
import Derived.Test.YtkngihmfknmnaaaSameThy
import Derived.Test.YtkngihmfknmnaaaLessSpec
namespace Go.Proofs.Ytkngihmfknmnaaa
open Go.RowKit Go.Deep

mutual
theorem sameV_eq : ∀ (x y : V), sameV x y = true → x = y
  | .mk k n t l, .mk k' n' t' l', h => by
    unfold sameV at h
    simp only [Bool.and_eq_true, decide_eq_true_eq, beq_iff_eq] at h
    obtain ⟨⟨⟨rfl, rfl⟩, ht⟩, hl⟩ := h
    have := sameVL_eq l l' hl
    subst this
    have : t = t' := by
      rw [ByteArray.toList_eq, ByteArray.toList_eq] at ht
      exact Go.WideShapes.bytes_inj ht
    rw [this]
theorem sameVL_eq : ∀ (l l' : List V), sameVL l l' = true → l = l'
  | [], [], _ => rfl
  | [], _ :: _, h => by unfold sameVL at h; cases h
  | _ :: _, [], h => by unfold sameVL at h; cases h
  | a :: r, b :: r', h => by
    unfold sameVL at h
    rw [Bool.and_eq_true] at h
    rw [sameV_eq a b h.1, sameVL_eq r r' h.2]
end
mutual
theorem sameV_refl : ∀ (x : V), sameV x x = true
  | .mk k n t l => by unfold sameV; simp [sameVL_refl l]
theorem sameVL_refl : ∀ (l : List V), sameVL l l = true
  | [] => by unfold sameVL; rfl
  | a :: r => by unfold sameVL; rw [sameV_refl a, sameVL_refl r]; rfl
end
theorem sameV_iff (x y : V) : sameV x y = true ↔ x = y := ⟨sameV_eq x y, fun h => by rw [h]; exact sameV_refl y⟩

theorem cmpI_neg (a b : Int) : cmpI b a = - cmpI a b := by unfold cmpI; split <;> split <;> (try split) <;> omega
theorem cmpI_trans {a b c : Int} (h : cmpI a b ≤ 0) (k : cmpI b c ≤ 0) : cmpI a c ≤ 0 := by
  unfold cmpI at *
  split at h <;> split at k <;> (try split at h) <;> (try split at k) <;> split <;> (try split) <;> omega

theorem bl_asymm : ∀ (l m : List UInt8), Op.bytesLess l m = true → Op.bytesLess m l = false
  | [], [], h => by cases h
  | _ :: _, [], h => by cases h
  | [], b :: y, _ => rfl
  | a :: x, b :: y, h => by
    simp only [Op.bytesLess, Bool.or_eq_true, decide_eq_true_eq, Bool.and_eq_true, beq_iff_eq] at h
    simp only [Op.bytesLess, Bool.or_eq_false_iff, decide_eq_false_iff_not, Bool.and_eq_false_iff, beq_eq_false_iff_ne]
    rcases h with h | ⟨rfl, h⟩
    · exact ⟨UInt8.lt_asymm h, .inl (fun e => by subst e; exact UInt8.lt_irrefl _ h)⟩
    · exact ⟨UInt8.lt_irrefl _, .inr (bl_asymm x y h)⟩
theorem bl_total : ∀ (l m : List UInt8), Op.bytesLess l m = false → Op.bytesLess m l = false → l = m
  | [], [], _, _ => rfl
  | [], _ :: _, h, _ => by cases h
  | _ :: _, [], _, h => by cases h
  | a :: x, b :: y, h, k => by
    simp only [Op.bytesLess, Bool.or_eq_false_iff, decide_eq_false_iff_not, Bool.and_eq_false_iff, beq_eq_false_iff_ne] at h k
    have e : a = b := UInt8.le_antisymm (UInt8.not_lt.1 k.1) (UInt8.not_lt.1 h.1)
    subst e
    have h2 : Op.bytesLess x y = false := by rcases h.2 with h2 | h2; exact absurd rfl h2; exact h2
    have k2 : Op.bytesLess y x = false := by rcases k.2 with h2 | h2; exact absurd rfl h2; exact h2
    rw [bl_total x y h2 k2]
theorem bl_trans : ∀ (l m n : List UInt8), Op.bytesLess l m = true → Op.bytesLess m n = true → Op.bytesLess l n = true
  | [], [], _, h, _ => by cases h
  | _ :: _, [], _, h, _ => by cases h
  | _, _ :: _, [], _, k => by cases k
  | [], _ :: _, _ :: _, _, _ => rfl
  | a :: x, b :: y, c :: z, h, k => by
    simp only [Op.bytesLess, Bool.or_eq_true, decide_eq_true_eq, Bool.and_eq_true, beq_iff_eq] at h k ⊢
    rcases h with h | ⟨rfl, h⟩
    · rcases k with k | ⟨rfl, k⟩
      · exact .inl (UInt8.lt_trans h k)
      · exact .inl h
    · rcases k with k | ⟨rfl, k⟩
      · exact .inl k
      · exact .inr ⟨rfl, bl_trans x y z h k⟩

theorem cmpT_neg (s t : ByteArray) : cmpT t s = - cmpT s t := by
  unfold cmpT
  cases h : Op.bytesLess s.toList t.toList
  · cases k : Op.bytesLess t.toList s.toList
    · have e := bl_total _ _ h k
      simp [e]
    · have ne : ¬ s.toList = t.toList := fun e => by rw [e, bytesLess_irrefl] at k; cases k
      simp [ne]
  · have k := bl_asymm _ _ h
    have ne : ¬ t.toList = s.toList := fun e => by rw [e, bytesLess_irrefl] at h; cases h
    simp [k, ne]
theorem cmpT_le (s t : ByteArray) : cmpT s t ≤ 0 ↔ (Op.bytesLess s.toList t.toList = true ∨ s.toList = t.toList) := by
  unfold cmpT
  cases h : Op.bytesLess s.toList t.toList
  · by_cases e : s.toList = t.toList
    · simp [e]
    · simp [e]
  · simp
theorem cmpT_trans {a b c : ByteArray} (h : cmpT a b ≤ 0) (k : cmpT b c ≤ 0) : cmpT a c ≤ 0 := by
  rw [cmpT_le] at *
  rcases h with h | h
  · rcases k with k | k
    · exact .inl (bl_trans _ _ _ h k)
    · rw [← k]; exact .inl h
  · rw [h]; exact k

mutual
theorem ordV_neg : ∀ (x y : V), ordV y x = - ordV x y
  | .mk k n t l, .mk k' n' t' l' => by
    unfold ordV
    by_cases e : k = k'
    · subst e
      simp only [not_true_eq_false, if_false]
      split
      · exact cmpT_neg _ _
      · split
        · exact ordVL_neg l l'
        · exact cmpI_neg _ _
    · rw [if_pos (fun h => e h.symm), if_pos e]
      exact cmpI_neg _ _
theorem ordVL_neg : ∀ (l l' : List V), ordVL l' l = - ordVL l l'
  | [], [] => by unfold ordVL; rfl
  | [], _ :: _ => by unfold ordVL; rfl
  | _ :: _, [] => by unfold ordVL; rfl
  | a :: r, b :: r' => by
    unfold ordVL
    rw [ordV_neg a b, ordVL_neg r r']
    by_cases h : ordV a b = 0
    · simp [h]
    · rw [if_neg h, if_neg (by omega)]
end

mutual
theorem ordV_refl : ∀ (x : V), ordV x x = 0
  | .mk k n t l => by
    unfold ordV
    simp only [not_true_eq_false, if_false]
    split
    · exact cmpT_zero.2 (by simp)
    · split
      · exact ordVL_refl l
      · exact cmpI_zero.2 rfl
theorem ordVL_refl : ∀ (l : List V), ordVL l l = 0
  | [] => by unfold ordVL; rfl
  | a :: r => by unfold ordVL; rw [ordV_refl a, ordVL_refl r]; rfl
end

theorem rankS_inj {k k' : Int} (hk : k = 0 ∨ k = 1 ∨ k = 2 ∨ k = 3 ∨ k = 4 ∨ k = 5 ∨ k = 6) (hk' : k' = 0 ∨ k' = 1 ∨ k' = 2 ∨ k' = 3 ∨ k' = 4 ∨ k' = 5 ∨ k' = 6) (h : rankS k = rankS k') : k = k' := by
  rcases hk with rfl | rfl | rfl | rfl | rfl | rfl | rfl <;> rcases hk' with rfl | rfl | rfl | rfl | rfl | rfl | rfl <;> first | rfl | (exact absurd h (by decide))

theorem Neat.all {k n : Int} {t : ByteArray} {l : List V} (h : Neat (.mk k n t l)) (hk : k = 4) : ∀ y, y ∈ l → Neat y := by
  cases h with
  | mk _ _ _ _ _ _ hl =>
    intro y hy
    obtain ⟨i, hi, rfl⟩ := List.getElem_of_mem hy
    exact hl hk i hi

mutual
theorem ordV_zero : ∀ (x y : V), Neat x → Neat y → ordV x y = 0 → x = y
  | .mk k n t l, .mk k' n' t' l', hx, hy, h => by
    have ax := hx.all
    have ay := hy.all
    cases hx with
    | mk _ _ _ _ hk hr _ =>
    cases hy with
    | mk _ _ _ _ hk' hr' _ =>
    rw [rest_mk, Bool.and_eq_true, Bool.and_eq_true] at hr hr'
    obtain ⟨⟨r1, r2⟩, r3⟩ := hr
    obtain ⟨⟨s1, s2⟩, s3⟩ := hr'
    unfold ordV at h
    by_cases e : k = k'
    · subst e
      simp only [not_true_eq_false, if_false] at h
      by_cases e3 : k = 3
      · subst e3
        rw [if_pos rfl, cmpT_zero] at h
        refine sameV_eq _ _ ?_
        have l0 : l.length = 0 := by simpa using r3
        have l0' : l'.length = 0 := by simpa using s3
        have m0 : n = 0 := by simpa using r1
        have m0' : n' = 0 := by simpa using s1
        unfold sameV
        rw [same_nil l0 l0', h, m0, m0']
        simp
      · rw [if_neg e3] at h
        have t0 : t.toList = [] := by simpa [e3] using r2
        have t0' : t'.toList = [] := by simpa [e3] using s2
        by_cases e4 : k = 4
        · subst e4
          rw [if_pos rfl] at h
          have := ordVL_zero l l' (ax rfl) (ay rfl) h
          subst this
          have m0 : n = 0 := by simpa using r1
          have m0' : n' = 0 := by simpa using s1
          refine sameV_eq _ _ ?_
          unfold sameV
          rw [sameVL_refl, t0, t0', m0, m0']
          simp
        · rw [if_neg e4, cmpI_zero] at h
          have l0 : l.length = 0 := by simpa [e4] using r3
          have l0' : l'.length = 0 := by simpa [e4] using s3
          refine sameV_eq _ _ ?_
          unfold sameV
          rw [same_nil l0 l0', t0, t0', h]
          simp
    · rw [if_pos e, cmpI_zero] at h
      exact absurd (rankS_inj hk hk' h) e
theorem ordVL_zero : ∀ (l l' : List V), (∀ y, y ∈ l → Neat y) → (∀ y, y ∈ l' → Neat y) → ordVL l l' = 0 → l = l'
  | [], [], _, _, _ => rfl
  | [], _ :: _, _, _, h => by unfold ordVL at h; cases h
  | _ :: _, [], _, _, h => by unfold ordVL at h; cases h
  | a :: r, b :: r', hx, hy, h => by
    unfold ordVL at h
    by_cases e : ordV a b = 0
    · rw [if_pos e] at h
      rw [ordV_zero a b (hx a List.mem_cons_self) (hy b List.mem_cons_self) e, ordVL_zero r r' (fun y hy2 => hx y (List.mem_cons_of_mem _ hy2)) (fun y hy2 => hy y (List.mem_cons_of_mem _ hy2)) h]
    · rw [if_neg e] at h; exact absurd h e
end

mutual
theorem ordV_trans : ∀ (x y z : V), Neat x → Neat y → Neat z → ordV x y ≤ 0 → ordV y z ≤ 0 → ordV x z ≤ 0
  | .mk k n t l, .mk k' n' t' l', .mk k'' n'' t'' l'', hx, hy, hz, h1, h2 => by
    have ax := hx.all
    have ay := hy.all
    have az := hz.all
    unfold ordV at h1 h2 ⊢
    by_cases e : k = k'
    · subst e
      by_cases e2 : k = k''
      · subst e2
        simp only [not_true_eq_false, if_false] at h1 h2 ⊢
        by_cases e3 : k = 3
        · rw [if_pos e3] at *; exact cmpT_trans h1 h2
        · rw [if_neg e3] at *
          by_cases e4 : k = 4
          · rw [if_pos e4] at *; exact ordVL_trans l l' l'' (ax e4) (ay e4) (az e4) h1 h2
          · rw [if_neg e4] at *; exact cmpI_trans h1 h2
      · rw [if_pos e2] at *; exact h2
    · rw [if_pos e] at h1
      by_cases e2 : k' = k''
      · subst e2
        rw [if_pos e]; exact h1
      · rw [if_pos e2] at h2
        by_cases e3 : k = k''
        · subst e3
          cases hx with
          | mk _ _ _ _ hk _ _ =>
          cases hy with
          | mk _ _ _ _ hk' _ _ =>
          have := cmpI_neg (rankS k) (rankS k')
          have h3 : cmpI (rankS k) (rankS k') = 0 := by omega
          exact absurd (rankS_inj hk hk' (cmpI_zero.1 h3)) e
        · rw [if_pos e3]; exact cmpI_trans h1 h2
theorem ordVL_trans : ∀ (l l' l'' : List V), (∀ y, y ∈ l → Neat y) → (∀ y, y ∈ l' → Neat y) → (∀ y, y ∈ l'' → Neat y) → ordVL l l' ≤ 0 → ordVL l' l'' ≤ 0 → ordVL l l'' ≤ 0
  | [], _, [], _, _, _, _, _ => by unfold ordVL; exact Int.le_refl _
  | [], _, _ :: _, _, _, _, _, _ => by unfold ordVL; decide
  | _ :: _, [], _, _, _, _, h, _ => by unfold ordVL at h; exact absurd h (by decide)
  | _ :: _, _ :: _, [], _, _, _, _, h => by unfold ordVL at h; exact absurd h (by decide)
  | a :: r, b :: r', c :: r'', hx, hy, hz, h1, h2 => by
    have na := hx a List.mem_cons_self
    have nb := hy b List.mem_cons_self
    have nc := hz c List.mem_cons_self
    have tr := fun k1 k2 => ordVL_trans r r' r'' (fun y hy2 => hx y (List.mem_cons_of_mem _ hy2)) (fun y hy2 => hy y (List.mem_cons_of_mem _ hy2)) (fun y hy2 => hz y (List.mem_cons_of_mem _ hy2)) k1 k2
    unfold ordVL at h1 h2 ⊢
    by_cases e : ordV a b = 0
    · rw [if_pos e] at h1
      have := ordV_zero a b na nb e
      subst this
      by_cases e2 : ordV a c = 0
      · rw [if_pos e2] at h2 ⊢; exact tr h1 h2
      · rw [if_neg e2] at h2 ⊢; exact h2
    · rw [if_neg e] at h1
      by_cases e2 : ordV b c = 0
      · have := ordV_zero b c nb nc e2
        subst this
        rw [if_neg e]; exact h1
      · rw [if_neg e2] at h2
        have h3 := ordV_trans a b c na nb nc h1 h2
        by_cases e3 : ordV a c = 0
        · have := ordV_zero a c na nc e3
          subst this
          have := ordV_neg a b
          omega
        · rw [if_neg e3]; exact h3
end

theorem cmpI_bd (a b : Int) : -1 ≤ cmpI a b ∧ cmpI a b ≤ 1 := by unfold cmpI; split <;> (try split) <;> omega
theorem cmpT_bd (a b : ByteArray) : -1 ≤ cmpT a b ∧ cmpT a b ≤ 1 := by unfold cmpT; split <;> (try split) <;> omega
mutual
theorem ordV_bd : ∀ (x y : V), -1 ≤ ordV x y ∧ ordV x y ≤ 1
  | .mk k n t l, .mk k' n' t' l' => by
    unfold ordV
    split
    · exact cmpI_bd _ _
    · split
      · exact cmpT_bd _ _
      · split
        · exact ordVL_bd l l'
        · exact cmpI_bd _ _
theorem ordVL_bd : ∀ (l l' : List V), -1 ≤ ordVL l l' ∧ ordVL l l' ≤ 1
  | [], [] => by unfold ordVL; omega
  | [], _ :: _ => by unfold ordVL; omega
  | _ :: _, [] => by unfold ordVL; omega
  | a :: r, b :: r' => by
    unfold ordVL
    split
    · exact ordVL_bd r r'
    · exact ordV_bd a b
end
theorem ordOk_bd (x y : V) : -1 ≤ ordOk x y ∧ ordOk x y ≤ 1 := by unfold ordOk; split; exact ordV_bd x y; omega
theorem ordOk_neg (x y : V) : ordOk y x = - ordOk x y := by
  unfold ordOk
  by_cases h : okN 3 x = true ∧ okN 3 y = true
  · rw [if_pos h, if_pos ⟨h.2, h.1⟩]; exact ordV_neg x y
  · rw [if_neg h, if_neg (fun k => h ⟨k.2, k.1⟩)]; rfl
theorem neat_okN {x : V} (h : okN 3 x = true) : Neat x := neat_of 3 x (by rw [okI_eq 2 x]; exact h)
theorem ordOk_same {x y : V} (hx : okN 3 x = true) (hy : okN 3 y = true) : sameV x y = decide (ordOk x y = 0) := by
  unfold ordOk
  rw [if_pos ⟨hx, hy⟩, Bool.eq_iff_iff, decide_eq_true_iff, sameV_iff]
  exact ⟨fun h => by rw [h]; exact ordV_refl y, ordV_zero x y (neat_okN hx) (neat_okN hy)⟩
theorem ordOk_trans {x y z : V} (hx : okN 3 x = true) (hy : okN 3 y = true) (hz : okN 3 z = true) (h1 : ordOk x y ≤ 0) (h2 : ordOk y z ≤ 0) : ordOk x z ≤ 0 := by
  unfold ordOk at *
  rw [if_pos ⟨hx, hy⟩] at h1
  rw [if_pos ⟨hy, hz⟩] at h2
  rw [if_pos ⟨hx, hz⟩]
  exact ordV_trans x y z (neat_okN hx) (neat_okN hy) (neat_okN hz) h1 h2
theorem okN_null : okN 3 (flatV 0 0) = true := by unfold flatV okN; simp [ByteArray.toList_eq]
theorem ordOk_null {x : V} (hx : okN 3 x = true) : ordOk x (flatV 0 0) ≤ 0 := by
  unfold ordOk
  rw [if_pos ⟨hx, okN_null⟩]
  have hn := neat_okN hx
  cases hn with
  | mk k n t l hk hr _ =>
    rw [rest_mk, Bool.and_eq_true, Bool.and_eq_true] at hr
    obtain ⟨⟨r1, r2⟩, r3⟩ := hr
    unfold flatV ordV
    by_cases e : k = 0
    · subst e
      have m0 : n = 0 := by simpa using r1
      subst m0
      simp [cmpI]
    · rw [if_pos e]
      rcases hk with rfl | rfl | rfl | rfl | rfl | rfl | rfl <;> first | (exact absurd rfl e) | decide
end Go.Proofs.Ytkngihmfknmnaaa
