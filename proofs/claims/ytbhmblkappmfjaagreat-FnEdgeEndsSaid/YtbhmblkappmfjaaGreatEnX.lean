/- How many edges of a node go out of it, and into it, and both. -/
import Derived.Test.YtbhmblkappmfjaaGreatNdX
import Derived.Test.YtbhmblkappmfjaaGreatEdS
namespace Go.Proofs.YtbhmblkappmfjaaGreat
open Go.RowKit Go.Deep

end Go.Proofs.YtbhmblkappmfjaaGreat

/- Each edge is out of one node, and into one. -/
namespace Go.Proofs.YtbhmblkappmfjaaGreat
open Go.RowKit Go.Deep

/-- How many of a list of edges have a node's number at place c, all nodes of the first n put together. -/
def sumE (p : Nat → Nat → Bool) (I : List Nat) : Nat → Nat
  | 0 => 0
  | n + 1 => sumE p I n + (I.filter (p n)).length
theorem sumE_le {p : Nat → Nat → Bool} {I : List Nat} : ∀ n, sumE p I n ≤ n * I.length
  | 0 => by simp [sumE]
  | n + 1 => by
    have h1 := sumE_le (p := p) (I := I) n
    have h2 := List.length_filter_le (p n) I
    rw [Nat.add_mul]
    show sumE p I n + _ ≤ _
    omega
theorem sumE_cons (p : Nat → Nat → Bool) (e : Nat) (I : List Nat) : ∀ n, sumE p (e :: I) n = sumE p I n + sumE p [e] n
  | 0 => rfl
  | n + 1 => by
    simp only [sumE]
    rw [sumE_cons p e I n]
    simp only [List.filter_cons, List.filter_nil]
    cases p n e <;> simp <;> omega
theorem sumE_zero {p : Nat → Nat → Bool} {e : Nat} : ∀ n, (∀ i, i < n → p i e = false) → sumE p [e] n = 0
  | 0, _ => rfl
  | n + 1, h => by
    simp only [sumE, List.filter_cons, List.filter_nil]
    rw [h n (by omega), sumE_zero n (fun i hi => h i (by omega))]
    rfl
theorem sumE_one {p : Nat → Nat → Bool} {e k : Nat} : ∀ n, k < n → (∀ i, i < n → (p i e = true ↔ i = k)) → sumE p [e] n = 1
  | 0, hk, _ => by omega
  | n + 1, hk, h => by
    simp only [sumE, List.filter_cons, List.filter_nil]
    by_cases e2 : n = k
    · rw [(h n (by omega)).2 e2, sumE_zero n (fun i hi => by
        cases hp : p i e
        · rfl
        · have := (h i (by omega)).1 hp; omega)]
      rfl
    · have hp : p n e = false := by
        cases hp : p n e
        · rfl
        · have := (h n (by omega)).1 hp; omega
      rw [hp, sumE_one n (by omega) (fun i hi => h i (by omega))]
      rfl
theorem sumE_all {p : Nat → Nat → Bool} {n : Nat} : ∀ I : List Nat, (∀ e ∈ I, ∃ k, k < n ∧ ∀ i, i < n → (p i e = true ↔ i = k)) → sumE p I n = I.length
  | [], _ => by
    have : ∀ m, sumE p [] m = 0 := fun m => by induction m with | zero => rfl | succ m ih => simp [sumE, ih]
    rw [this]
    rfl
  | e :: I, h => by
    obtain ⟨k, hk, hi⟩ := h e (List.mem_cons_self ..)
    rw [sumE_cons, sumE_all I (fun x hx => h x (List.mem_cons_of_mem _ hx)), sumE_one n hk hi, List.length_cons]
/-- Of a graph that is ok: both ends of each edge are one node's number. -/
theorem ends_ok {d0 d1 : D} {x2 x3 : Int} (h : graphB d0 d1 x2 x3 = true) {e : Nat} (he : e < d1.len!) : hasId d0 (d1.at! e 2).int! = true ∧ hasId d0 (d1.at! e 3).int! = true := by
  simp only [graphB, Bool.and_eq_true, List.all_eq_true, List.mem_range] at h
  have hb := h.1.2 e he
  unfold edgeB at hb
  simp only [Bool.and_eq_true] at hb
  exact ⟨hb.1.1.2, hb.1.2⟩
def outP (d0 d1 : D) (c : Nat) : Nat → Nat → Bool := fun n e => (d1.at! e c).int! == (d0.at! n 0).int!
theorem ends_sum {d0 d1 : D} {x2 x3 : Int} (h : graphB d0 d1 x2 x3 = true) : sumE (outP d0 d1 2) (List.range d1.len!) d0.len! = d1.len! ∧ sumE (outP d0 d1 3) (List.range d1.len!) d0.len! = d1.len! := by
  have hinc := node_incD h
  have key : ∀ c, (∀ e, e < d1.len! → hasId d0 (d1.at! e c).int! = true) → sumE (outP d0 d1 c) (List.range d1.len!) d0.len! = d1.len! := by
    intro c hc
    rw [sumE_all, List.length_range]
    intro e he
    obtain ⟨k, hk⟩ := hasId_in (hc e (List.mem_range.1 he))
    obtain ⟨h1, h2, _⟩ := edK_some hk
    refine ⟨k, h1, fun i hi => ?_⟩
    unfold outP
    rw [beq_iff_eq, ← h2]
    constructor
    · intro e2
      rcases Nat.lt_trichotomy i k with h | h | h
      · have := hinc i k h h1; omega
      · exact h
      · have := hinc k i h hi; omega
    · intro e2; rw [e2]
  exact ⟨key 2 (fun e he => (ends_ok h he).1), key 3 (fun e he => (ends_ok h he).2)⟩
theorem ends_len {d0 d1 : D} {x2 x3 : Int} (h : graphB d0 d1 x2 x3 = true) {k : Nat} (hk : k < d0.len!) :
    (eoAns (graphB d0 d1 x2 x3 && hasId d0 (d0.at! k 0).int!) d1 (d0.at! k 0).int! 1 ⟨#[]⟩).length = ((List.range d1.len!).filter (outP d0 d1 2 k)).length ∧
    (eoAns (graphB d0 d1 x2 x3 && hasId d0 (d0.at! k 0).int!) d1 (d0.at! k 0).int! (-1) ⟨#[]⟩).length = ((List.range d1.len!).filter (outP d0 d1 3 k)).length := by
  have hid : hasId d0 (d0.at! k 0).int! = true := by
    unfold hasId
    rw [List.any_eq_true]
    exact ⟨k, List.mem_range.2 hk, by simp⟩
  have i1 : inB 1 (-1) 1 = true := by decide
  have i2 : inB (-1) (-1) 1 = true := by decide
  have e0 : ((⟨#[]⟩ : ByteArray).toList == []) = true := by kernel_rfl
  rw [h, hid]
  unfold eoAns
  rw [i1, i2]
  simp only [Bool.and_self, if_true]
  unfold eoIds
  simp only [List.length_map]
  have e1 : eoB d1.at! (d0.at! k 0).int! 1 ⟨#[]⟩ = outP d0 d1 2 k := by
    funext i
    unfold eoB endsB outP
    rw [e0]
    simp
  have e2 : eoB d1.at! (d0.at! k 0).int! (-1) ⟨#[]⟩ = outP d0 d1 3 k := by
    funext i
    unfold eoB endsB outP
    rw [e0]
    simp
  rw [e1, e2]
  exact ⟨rfl, rfl⟩
end Go.Proofs.YtbhmblkappmfjaaGreat
