/- How many edges of a node go out of it, and into it, and both. -/
import Derived.Test.YtdmkpekmmpeneaaGreatNdX
import Derived.Test.YtdmkpekmmpeneaaGreatEdS
namespace Go.Proofs.YtdmkpekmmpeneaaGreat
open Go.RowKit Go.Deep

/-- How often members of the one list stand in the other one. -/
def bothN (l m : List Int) : Nat := (l.map fun a => m.count a).sum
theorem both_take {l m : List Int} {i : Nat} (h : i < l.length) : bothN (l.take (i + 1)) m = bothN (l.take i) m + m.count (l.getD i 0) := by
  unfold bothN
  rw [List.take_add_one, List.getElem?_eq_getElem h, List.map_append, List.sum_append]
  simp [List.getD_eq_getElem?_getD, List.getElem?_eq_getElem h]
theorem count_take {m : List Int} {a : Int} {k : Nat} (h : k < m.length) : (m.take (k + 1)).count a = (m.take k).count a + (if a == m.getD k 0 then 1 else 0) := by
  rw [List.take_add_one, List.getElem?_eq_getElem h, List.count_append]
  simp only [Option.toList_some, List.count_singleton, List.getD_eq_getElem?_getD, List.getElem?_eq_getElem h, Option.getD_some]
  congr 1
  by_cases e : m[k] = a
  · simp [e]
  · have e2 : ¬ a = m[k] := fun h => e h.symm
    simp [e, e2]
theorem count_sorted : ∀ {l : List Int}, l.Pairwise (· < ·) → ∀ a, l.count a = if a ∈ l then 1 else 0
  | [], _, a => by simp
  | b :: l, h, a => by
    obtain ⟨h1, h2⟩ := List.pairwise_cons.1 h
    rw [List.count_cons, count_sorted h2 a]
    by_cases e : b = a
    · subst e
      have : b ∉ l := fun hm => by have := h1 b hm; omega
      simp [this]
    · have e2 : ¬ a = b := fun h => e h.symm
      simp [e, e2]
/-- Members of both, by their places. -/
theorem both_filter {f : Nat → Int} {len : Nat} (hinc : ∀ i j, i < j → j < len → f i < f j) (p q : Nat → Bool) :
    bothN (((List.range len).filter p).map f) (((List.range len).filter q).map f) = ((List.range len).filter fun i => p i && q i).length := by
  have hs : (((List.range len).filter q).map f).Pairwise (· < ·) := by
    rw [List.pairwise_map]
    refine List.Pairwise.imp_of_mem ?_ (List.Pairwise.filter _ List.pairwise_lt_range)
    intro i j _ hj hij
    exact hinc i j hij (List.mem_range.1 (List.mem_filter.1 hj).1)
  have hm : ∀ i, i < len → (f i ∈ ((List.range len).filter q).map f ↔ q i = true) := by
    intro i hi
    rw [List.mem_map]
    constructor
    · rintro ⟨j, hj, e⟩
      obtain ⟨hj1, hj2⟩ := List.mem_filter.1 hj
      have hjl := List.mem_range.1 hj1
      rcases Nat.lt_trichotomy i j with h | h | h
      · have := hinc i j h hjl; omega
      · rw [h]; exact hj2
      · have := hinc j i h hi; omega
    · intro hq
      exact ⟨i, List.mem_filter.2 ⟨List.mem_range.2 hi, hq⟩, rfl⟩
  have key : ∀ I : List Nat, (∀ i ∈ I, i < len) → bothN ((I.filter p).map f) (((List.range len).filter q).map f) = (I.filter fun i => p i && q i).length := by
    intro I
    induction I with
    | nil => intro _; rfl
    | cons i I ih =>
      intro hI
      have ih' := ih (fun j hj => hI j (List.mem_cons_of_mem _ hj))
      have hi := hI i (List.mem_cons_self ..)
      unfold bothN at ih' ⊢
      cases hp : p i
      · rw [List.filter_cons_of_neg (by simp [hp]), List.filter_cons_of_neg (by simp [hp])]
        exact ih'
      · rw [List.filter_cons_of_pos hp, List.map_cons, List.map_cons, List.sum_cons, ih', count_sorted hs]
        cases hq : q i
        · rw [if_neg (fun h => by have := (hm i hi).1 h; rw [hq] at this; cases this), List.filter_cons_of_neg (by simp [hq])]
          omega
        · rw [if_pos ((hm i hi).2 hq), List.filter_cons_of_pos (by simp [hp, hq]), List.length_cons]
          omega
  exact key _ (fun i hi => List.mem_range.1 hi)
theorem filter_or {p q : Nat → Bool} (I : List Nat) : (I.filter fun i => p i || q i).length + (I.filter fun i => p i && q i).length = (I.filter p).length + (I.filter q).length := by
  induction I with
  | nil => rfl
  | cons i I ih =>
    simp only [List.filter_cons]
    cases hp : p i <;> cases hq : q i <;> simp <;> omega
theorem filter_le {p q : Nat → Bool} (I : List Nat) (h : ∀ i, p i = true → q i = true) : (I.filter p).length ≤ (I.filter q).length := by
  induction I with
  | nil => exact Nat.le_refl _
  | cons i I ih =>
    simp only [List.filter_cons]
    cases hp : p i
    · cases hq : q i <;> simp <;> omega
    · rw [h i hp]; simp; omega

/-- The edges out of a node and those into it are all its edges; one that is both counts twice. -/
theorem eo_sum {d : D} (hinc : ∀ i j, i < j → j < d.len! → (d.at! i 0).int! < (d.at! j 0).int!) (n : Bool) (id : Int) (s : ByteArray) :
    (eoAns n d id 0 s).length + bothN (eoAns n d id 1 s) (eoAns n d id (-1) s) = (eoAns n d id 1 s).length + (eoAns n d id (-1) s).length := by
  unfold eoAns
  have i1 : inB 1 (-1) 1 = true := by decide
  have i2 : inB (-1) (-1) 1 = true := by decide
  have i3 : inB 0 (-1) 1 = true := by decide
  rw [i1, i2, i3]
  cases n
  · simp [bothN]
  · simp only [Bool.and_self, if_true]
    unfold eoIds
    rw [both_filter hinc]
    simp only [List.length_map]
    have e0 : (fun i => eoB d.at! id 1 s i || eoB d.at! id (-1) s i) = eoB d.at! id 0 s := by
      funext i
      unfold eoB endsB
      simp
      cases ((d.at! i 2).int! == id) <;> cases ((d.at! i 3).int! == id) <;> simp
    have := filter_or (p := eoB d.at! id 1 s) (q := eoB d.at! id (-1) s) (List.range d.len!)
    rw [e0] at this
    exact this
theorem eo_le {d : D} (n : Bool) (id : Int) (s : ByteArray) : (eoAns n d id 0 s).length ≤ (eoAns n d id 0 ⟨#[]⟩).length := by
  unfold eoAns
  split
  · unfold eoIds
    simp only [List.length_map]
    refine filter_le _ (fun i h => ?_)
    unfold eoB at h ⊢
    rw [Bool.and_eq_true] at h
    have e : ((⟨#[]⟩ : ByteArray).toList == []) = true := by kernel_rfl
    rw [h.1, e]
    rfl
  · exact Nat.le_refl _
theorem eoAns_len {d : D} (n : Bool) (id way : Int) (s : ByteArray) : (eoAns n d id way s).length ≤ d.len! := by
  unfold eoAns
  split
  · exact eo_len _ _ _ _ _
  · exact Nat.zero_le _
theorem both_le {l m : List Int} : bothN l m ≤ l.length * m.length := by
  unfold bothN
  induction l with
  | nil => simp
  | cons a l ih =>
    rw [List.map_cons, List.sum_cons, List.length_cons, Nat.add_mul]
    have := List.count_le_length (a := a) (l := m)
    omega
end Go.Proofs.YtdmkpekmmpeneaaGreat
