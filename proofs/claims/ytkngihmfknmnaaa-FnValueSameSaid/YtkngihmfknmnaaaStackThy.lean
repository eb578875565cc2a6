/- What is still to be asked, kept on a stack, and lists that were met: when it is known that two values are the same. -/
import Derived.Test.YtkngihmfknmnaaaSameSpec
import Derived.Test.YtkngihmfknmnaaaCnt
namespace Go.Proofs.Ytkngihmfknmnaaa
open Go.RowKit Go.Deep

theorem cnt_child : ∀ (l : List V) (i : Nat) (hi : i < l.length), cntV l[i] < cntL l
  | [], i, hi => by simp at hi
  | x :: r, 0, _ => by simp only [List.getElem_cons_zero, cntL]; omega
  | x :: r, i + 1, hi => by
    have := cnt_child r i (by simpa using hi)
    simp only [List.getElem_cons_succ, cntL]
    omega

abbrev VV := V × V
def sameP (p : VV) : Bool := sameV p.1 p.2

theorem same_mk (k n : Int) (t : ByteArray) (l : List V) (t' : ByteArray) (l' : List V) (ht : (t.toList == t'.toList) = true) : sameV (.mk k n t l) (.mk k n t' l') = sameVL l l' := by
  unfold sameV
  rw [ht]; simp

theorem sameVL_zip : ∀ (l l' : List V), l.length = l'.length → (sameVL l l' = true ↔ ∀ p ∈ l.zip l', sameP p = true)
  | [], [], _ => by simp [sameVL]
  | [], _ :: _, h => by simp at h
  | _ :: _, [], h => by simp at h
  | a :: r, b :: r', h => by
    have ih := sameVL_zip r r' (by simpa using h)
    unfold sameVL
    rw [Bool.and_eq_true, ih]
    simp only [List.zip_cons_cons, List.mem_cons, forall_eq_or_imp, sameP]

theorem zip_small {l l' : List V} {p : VV} (h : p ∈ l.zip l') : cntV p.1 < cntL l := by
  have h1 := List.of_mem_zip h
  obtain ⟨i, hi, he⟩ := List.getElem_of_mem h1.1
  rw [← he]
  exact cnt_child l i hi

/-- What is known while it is asked. -/
structure Known (x y : V) (todo : List VV) (met : List (List V × List V)) : Prop where
  fw : sameV x y = true → ∀ p ∈ todo, sameP p = true
  bw : (∀ p ∈ todo, sameP p = true) → sameV x y = true
  mt : ∀ m ∈ met, (∀ p ∈ todo, cntV p.1 < cntL m.1 → sameP p = true) → sameVL m.1 m.2 = true

theorem Known.start (x y : V) : Known x y [(x, y)] [] :=
  ⟨fun h p hp => by simp at hp; subst hp; exact h, fun h => h (x, y) (by simp), fun m hm => by simp at hm⟩

theorem Known.no {x y : V} {todo : List VV} {met : List (List V × List V)} {q : VV} (h : Known x y (todo ++ [q]) met) (hq : sameP q = false) : sameV x y = false := by
  cases hs : sameV x y
  · rfl
  · have := h.fw hs q (by simp)
    rw [hq] at this; cases this

theorem Known.leaf {x y : V} {todo : List VV} {met : List (List V × List V)} {q : VV} (h : Known x y (todo ++ [q]) met) (hq : sameP q = true) : Known x y todo met := by
  refine ⟨fun hs p hp => h.fw hs p (by simp [hp]), fun ha => h.bw (fun p hp => ?_), fun m hm ha => h.mt m hm (fun p hp hc => ?_)⟩
  · rcases List.mem_append.1 hp with hp | hp
    · exact ha p hp
    · simp at hp; subst hp; exact hq
  · rcases List.mem_append.1 hp with hp | hp
    · exact ha p hp hc
    · simp at hp; subst hp; exact hq

theorem Known.again {x y : V} {todo : List VV} {met : List (List V × List V)} {q : VV} (h : Known x y (todo ++ [q]) met) (hm : (q.1.list, q.2.list) ∈ met) (hq : sameP q = sameVL q.1.list q.2.list) : Known x y todo met := by
  have key : (∀ p ∈ todo, cntV p.1 < cntV q.1 → sameP p = true) → sameP q = true := by
    intro ha
    rw [hq]
    refine h.mt _ hm (fun p hp hc => ?_)
    rw [← cntV_eq] at hc
    rcases List.mem_append.1 hp with hp | hp
    · exact ha p hp hc
    · simp at hp; subst hp; omega
  refine ⟨fun hs p hp => h.fw hs p (by simp [hp]), fun ha => h.bw (fun p hp => ?_), fun m hm2 ha => h.mt m hm2 (fun p hp hc => ?_)⟩
  · rcases List.mem_append.1 hp with hp | hp
    · exact ha p hp
    · simp at hp; subst hp; exact key (fun p hp _ => ha p hp)
  · rcases List.mem_append.1 hp with hp | hp
    · exact ha p hp hc
    · simp at hp; subst hp; exact key (fun p hp hc2 => ha p hp (by omega))

theorem Known.push {x y : V} {todo : List VV} {met : List (List V × List V)} {q : VV} (h : Known x y (todo ++ [q]) met) (hl : q.1.list.length = q.2.list.length) (hq : sameP q = sameVL q.1.list q.2.list) :
    Known x y (todo ++ q.1.list.zip q.2.list) ((q.1.list, q.2.list) :: met) := by
  have hz := sameVL_zip _ _ hl
  refine ⟨fun hs p hp => ?_, fun ha => h.bw (fun p hp => ?_), fun m hm ha => ?_⟩
  · rcases List.mem_append.1 hp with hp | hp
    · exact h.fw hs p (by simp [hp])
    · have := h.fw hs q (by simp)
      rw [hq] at this
      exact hz.1 this p hp
  · rcases List.mem_append.1 hp with hp | hp
    · exact ha p (by simp [hp])
    · simp at hp; subst hp
      rw [hq]
      exact hz.2 (fun p hp => ha p (by simp [hp]))
  · rcases List.mem_cons.1 hm with rfl | hm
    · exact hz.2 (fun p hp => ha p (by simp [hp]) (zip_small hp))
    · refine h.mt m hm (fun p hp hc => ?_)
      rcases List.mem_append.1 hp with hp | hp
      · exact ha p (by simp [hp]) hc
      · simp at hp; subst hp
        rw [hq]
        refine hz.2 (fun p hp => ha p (by simp [hp]) ?_)
        have := zip_small hp
        rw [cntV_eq] at hc
        omega

theorem Known.done {x y : V} {met : List (List V × List V)} (h : Known x y [] met) : sameV x y = true := h.bw (fun p hp => by simp at hp)

/-- How much is still to be asked. -/
def mu : List VV → Nat
  | [] => 0
  | p :: r => 1 + cntV p.1 + mu r
theorem mu_append : ∀ (a b : List VV), mu (a ++ b) = mu a + mu b
  | [], b => by simp [mu]
  | p :: r, b => by simp only [List.cons_append, mu, mu_append r b]; omega
theorem mu_zip : ∀ (l l' : List V), l.length = l'.length → mu (l.zip l') = cntL l
  | [], [], _ => rfl
  | [], _ :: _, h => by simp at h
  | _ :: _, [], h => by simp at h
  | a :: r, b :: r', h => by simp only [List.zip_cons_cons, mu, cntL, mu_zip r r' (by simpa using h)]
theorem mu_len : ∀ (a : List VV), a.length ≤ mu a
  | [] => Nat.zero_le _
  | p :: r => by simp only [List.length_cons, mu]; have := mu_len r; omega
end Go.Proofs.Ytkngihmfknmnaaa
