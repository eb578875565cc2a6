/- Which values are ok, as plain mathematics: as the model says it (okN), and as the program says it (okI); the two are one. -/
import Derived.Test.YtjbppmclhdaaoaaGreatValText
namespace Go.Proofs.YtjbppmclhdaaoaaGreat

/-- The model's: down to a depth. -/
def okN : Nat → V → Bool
  | 0, .mk k n t l => if k = 0 then t.toList == [] && l.length == 0 && n == 0 else if k = 1 then t.toList == [] && l.length == 0 && inB n 0 1 else if k = 2 then t.toList == [] && l.length == 0 && inB n (-1000000000) 1000000000
      else if k = 3 then n == 0 && l.length == 0 && textB t else if k = 5 ∨ k = 6 then t.toList == [] && l.length == 0 && inB n 0 1000000000
      else if k = 4 then l.length == 0 && n == 0 && t.toList == [] else false
  | 1, .mk k n t l => if k = 0 then t.toList == [] && l.length == 0 && n == 0 else if k = 1 then t.toList == [] && l.length == 0 && inB n 0 1 else if k = 2 then t.toList == [] && l.length == 0 && inB n (-1000000000) 1000000000
      else if k = 3 then n == 0 && l.length == 0 && textB t else if k = 5 ∨ k = 6 then t.toList == [] && l.length == 0 && inB n 0 1000000000
      else if k = 4 then l.length == 0 && n == 0 && t.toList == [] else false
  | d + 2, .mk k n t l => if k = 0 then t.toList == [] && l.length == 0 && n == 0 else if k = 1 then t.toList == [] && l.length == 0 && inB n 0 1 else if k = 2 then t.toList == [] && l.length == 0 && inB n (-1000000000) 1000000000
      else if k = 3 then n == 0 && l.length == 0 && textB t else if k = 5 ∨ k = 6 then t.toList == [] && l.length == 0 && inB n 0 1000000000
      else if k = 4 then l.all (okN (d + 1)) && n == 0 && t.toList == [] && decide (l.length ≤ 6) else false

/-- What a value's kind leaves empty. -/
def restB (x : V) : Bool := ((x.kind == 1 || x.kind == 2 || x.kind == 5 || x.kind == 6) || x.num == 0) && (x.kind == 3 || x.text.toList == []) && (x.kind == 4 || x.list.length == 0)

/-- The program's: how many may still be within each other. -/
def okI : Nat → V → Bool
  | 0, _ => false
  | d + 1, .mk k n t l => restB (.mk k n t l) && (if k = 0 then true else if k = 1 then n == 0 || n == 1 else if k = 2 then inB n (-1000000000) 1000000000 else if k = 3 then textB t
      else if k = 4 then decide (l.length ≤ 6) && l.all (okI d) else if k = 5 then inB n 0 1000000000 else if k = 6 then inB n 0 1000000000 else false)

theorem bool01 (n : Int) : (n == 0 || n == 1) = inB n 0 1 := by
  unfold inB
  rw [Bool.eq_iff_iff]; simp; omega

theorem okI_kinds (d : Nat) (k n : Int) (t : ByteArray) (l : List V) (hk : ¬ k = 4) : okI (d + 1) (.mk k n t l) = okN (d + 1) (.mk k n t l) := by
  have e : ∀ c : Int, (k == c) = decide (k = c) := fun c => rfl
  cases d with
  | zero =>
    unfold okI okN restB V.kind V.num V.text V.list
    by_cases h0 : k = 0
    · subst h0; simp [Bool.and_comm, Bool.and_left_comm, Bool.and_assoc]
    by_cases h1 : k = 1
    · subst h1; simp [bool01]
    by_cases h2 : k = 2
    · subst h2; simp
    by_cases h3 : k = 3
    · subst h3; simp
    by_cases h5 : k = 5
    · subst h5; simp
    by_cases h6 : k = 6
    · subst h6; simp
    simp [h0, h1, h2, h3, h5, h6, hk]
  | succ d =>
    unfold okI okN restB V.kind V.num V.text V.list
    by_cases h0 : k = 0
    · subst h0; simp [Bool.and_comm, Bool.and_left_comm, Bool.and_assoc]
    by_cases h1 : k = 1
    · subst h1; simp [bool01]
    by_cases h2 : k = 2
    · subst h2; simp
    by_cases h3 : k = 3
    · subst h3; simp
    by_cases h5 : k = 5
    · subst h5; simp
    by_cases h6 : k = 6
    · subst h6; simp
    simp [h0, h1, h2, h3, h5, h6, hk]

theorem okI_eq : ∀ (d : Nat) (x : V), okI (d + 1) x = okN (d + 1) x := by
  intro d
  induction d with
  | zero =>
    intro x
    obtain ⟨k, n, t, l⟩ := x
    by_cases hk : k = 4
    · subst hk
      unfold okI okN restB V.kind V.num V.text V.list
      cases l with
      | nil => simp
      | cons a r => simp [okI]
    · exact okI_kinds _ k n t l hk
  | succ d ih =>
    intro x
    obtain ⟨k, n, t, l⟩ := x
    by_cases hk : k = 4
    · subst hk
      have : okI (d + 1) = okN (d + 1) := funext ih
      unfold okI okN restB V.kind V.num V.text V.list
      rw [this]
      simp [Bool.and_comm, Bool.and_left_comm, Bool.and_assoc]
    · exact okI_kinds _ k n t l hk
end Go.Proofs.YtjbppmclhdaaoaaGreat
