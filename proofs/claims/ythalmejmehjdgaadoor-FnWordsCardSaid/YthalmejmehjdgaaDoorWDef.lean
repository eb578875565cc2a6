/- Words of a text, as a function of its bytes: what stands one behind the other, and an empty one at the end, if it cannot go on. -/
import Derived.Test.YthalmejmehjdgaaDoorLeaf0
import Derived.Lib.Bytealg
import Derived.Lib.IndexLaws
namespace Go.Proofs.YthalmejmehjdgaaDoor
open Go.RowKit

abbrev By := List UInt8
def bs (l : By) : ByteArray := ⟨l.toArray⟩
def blanks : By := [32, 9, 10]
def signs : By := [40, 41, 91, 93, 123, 125, 44, 46, 58, 61, 60, 62, 43, 45, 36, 42]
def wdB (b : UInt8) : Bool := letB (b.toNat : Int) || figB (b.toNat : Int)
def trimB (l : By) : By := l.dropWhile (blanks.contains ·)

theorem bs_data (s : ByteArray) : bs s.data.toList = s := by obtain ⟨⟨l⟩⟩ := s; rfl
theorem data_bs (l : By) : (bs l).data.toList = l := by simp [bs]
theorem bs_size (l : By) : (bs l).size = l.length := by show (l.toArray).size = _; simp
theorem bs_toList (l : By) : (bs l).toList = l := by rw [ByteArray.toList_eq]; exact data_bs l
theorem bs_inj {a b : By} (h : bs a = bs b) : a = b := by have := congrArg (fun s => s.data.toList) h; simpa [data_bs] using this
theorem extract_bs (s : ByteArray) (a b : Nat) : s.extract a b = bs ((s.data.toList.drop a).take (b - a)) := Lib.extract_eq s a b
theorem extract_end (s : ByteArray) (a : Nat) : s.extract a s.size = bs (s.data.toList.drop a) := by
  rw [extract_bs, List.take_of_length_le]
  rw [List.length_drop, ← Lib.size_eq]; exact Nat.le_refl _

/-- How long the word is that a text begins with; 0, if it begins with none. -/
def wordLen : By → Nat
  | [] => 0
  | b :: t => if b = 39 then (if Lib.indexByte t 39 = -1 then 0 else (Lib.indexByte t 39 + 2).toNat) else if signs.contains b then 1 else ((b :: t).takeWhile wdB).length

theorem takeWhile_len (p : UInt8 → Bool) (l : By) : (l.takeWhile p).length ≤ l.length := (List.takeWhile_prefix p).length_le
theorem indexByte_lt : ∀ (l : By) (c : UInt8), Lib.indexByte l c < l.length ∨ Lib.indexByte l c = -1 := by
  intro l c
  induction l with
  | nil => right; rfl
  | cons b l ih =>
    unfold Lib.indexByte
    split
    · left; simp
    · split
      · right; rfl
      · left
        rename_i h1 h2
        have h2' : ¬ Lib.indexByte l c = -1 := by simpa using h2
        simp
        omega
theorem wordLen_le (l : By) : wordLen l ≤ l.length := by
  cases l with
  | nil => exact Nat.le_refl _
  | cons b t =>
    rw [wordLen]
    split
    · split
      · simp
      · rename_i h
        have h1 := Lib.indexByte_ge t 39
        rcases indexByte_lt t 39 with h2 | h2
        · simp; omega
        · exact absurd h2 h
    · split
      · simp
      · exact takeWhile_len _ _
theorem trimB_le (l : By) : (trimB l).length ≤ l.length := (List.dropWhile_suffix _).length_le

/-- What the words of a text are, told one by one; last an empty one, if it cannot go on to the end. -/
def seqOf (l : By) : List By :=
  if trimB l = [] then [] else if wordLen (trimB l) = 0 then [[]] else (trimB l).take (wordLen (trimB l)) :: seqOf ((trimB l).drop (wordLen (trimB l)))
termination_by l.length
decreasing_by
  have h1 := trimB_le l
  have h2 : 0 < (trimB l).length := by cases h : trimB l with | nil => contradiction | cons => simp
  simp only [List.length_drop]
  omega

theorem seqOf_nil {l : By} (h : trimB l = []) : seqOf l = [] := by rw [seqOf, if_pos h]
theorem seqOf_bad {l : By} (h : trimB l ≠ []) (h0 : wordLen (trimB l) = 0) : seqOf l = [[]] := by rw [seqOf, if_neg h, if_pos h0]
theorem seqOf_word {l : By} (h : trimB l ≠ []) (h0 : wordLen (trimB l) ≠ 0) : seqOf l = (trimB l).take (wordLen (trimB l)) :: seqOf ((trimB l).drop (wordLen (trimB l))) := by rw [seqOf, if_neg h, if_neg h0]
theorem trimB_trimB (l : By) : trimB (trimB l) = trimB l := by
  unfold trimB
  induction l with
  | nil => rfl
  | cons b t ih =>
    rw [List.dropWhile_cons]
    split
    · exact ih
    · rename_i h; rw [List.dropWhile_cons, if_neg h]
theorem seqOf_trim (l : By) : seqOf (trimB l) = seqOf l := by
  rw [seqOf, seqOf.eq_1 l, trimB_trimB]
theorem trimB_blank {b : UInt8} {t : By} (h : blanks.contains b = true) : trimB (b :: t) = trimB t := by
  unfold trimB; rw [List.dropWhile_cons, if_pos h]
theorem trimB_self {b : UInt8} {t : By} (h : blanks.contains b = false) : trimB (b :: t) = b :: t := by
  unfold trimB; rw [List.dropWhile_cons, if_neg (by simpa using h)]
theorem seqOf_blank {b : UInt8} {t : By} (h : blanks.contains b = true) : seqOf (b :: t) = seqOf t := by
  rw [seqOf, seqOf.eq_1 t, trimB_blank h]

/-- Whether all of a text was told in words. -/
def fine (l : By) : Bool := (seqOf l).all (fun x => !x.isEmpty)
/-- The words of a text; none, if it cannot go on to the end. -/
def wordsOf (l : By) : List By := if fine l then seqOf l else []

theorem seqOf_len (l : By) : (seqOf l).length ≤ l.length := by
  fun_induction seqOf l with
  | case1 l h => simp
  | case2 l h h0 =>
    have h1 := trimB_le l
    have h2 : 0 < (trimB l).length := by cases h' : trimB l with | nil => contradiction | cons => simp
    simp; omega
  | case3 l h h0 ih =>
    have h1 := trimB_le l
    have h2 : 0 < (trimB l).length := by cases h' : trimB l with | nil => contradiction | cons => simp
    simp only [List.length_drop] at ih
    simp only [List.length_cons]
    omega
theorem seqOf_size (l : By) : ∀ x ∈ seqOf l, x.length ≤ l.length := by
  fun_induction seqOf l with
  | case1 l h => simp
  | case2 l h h0 => simp
  | case3 l h h0 ih =>
    have h1 := trimB_le l
    intro x hx
    rcases List.mem_cons.1 hx with rfl | hx
    · simp; omega
    · have := ih x hx
      simp only [List.length_drop] at this
      omega
end Go.Proofs.YthalmejmehjdgaaDoor
