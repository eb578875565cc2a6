/- What spec.Words answers: the words of a text in memory of their own, and whether all of it was told. -/
import Derived.Test.YtbdcoiepdlhlkaaDoorWSpec
import Derived.OwnWalk
import Derived.Maps.AppendAt
namespace Go.Proofs.YtbdcoiepdlhlkaaDoor
open Go.RowKit

theorem Tryd.infoS : (Tryd.prog.info? 9).map (fun i => (i.zero, i.size, i.bytes)) = some (some (.string ⟨#[]⟩), 1, 16) := by kernel_rfl

def encS (x : By) : Value := .string (bs x)
/-- v is a slice of the texts ws, in a block of its own from base on. -/
def OwnS (base : Nat) (w : World) (v : Value) (ws : List By) : Prop := w.ownsRow base 9 1 v ws.length (ws.map encS)

theorem OwnS.ext {base : Nat} {w w' : World} {v : Value} {ws : List By} (h : OwnS base w v ws) (hE : Ext w w') : OwnS base w' v ws := World.ownsRow.kept h hE.grown (by cases h : v.ownBlock <;> simp)

theorem data_drop (s : ByteArray) (k : Nat) (h : k < s.size) : s.data.toList.drop k = s[k] :: s.data.toList.drop (k + 1) := by
  obtain ⟨⟨l⟩⟩ := s
  have h' : k < l.length := h
  show l.drop k = _ :: l.drop (k + 1)
  rw [List.drop_eq_getElem_cons h']
  rfl
theorem blank_of {x : UInt8} (h : (x.toNat : Int) = 32 ∨ (x.toNat : Int) = 10 ∨ (x.toNat : Int) = 9) : blanks.contains x = true := by
  rcases h with h | h | h
  · rw [byte_eq (n := 32) (by decide) h]; rfl
  · rw [byte_eq (n := 10) (by decide) h]; rfl
  · rw [byte_eq (n := 9) (by decide) h]; rfl
theorem blank_not {x : UInt8} (h : ¬ ((x.toNat : Int) = 32 ∨ (x.toNat : Int) = 10 ∨ (x.toNat : Int) = 9)) : blanks.contains x = false := by
  cases hc : blanks.contains x with
  | false => rfl
  | true =>
    have hm : x ∈ blanks := by simpa using hc
    simp only [blanks, List.mem_cons, List.not_mem_nil, or_false] at hm
    exfalso; apply h
    rcases hm with rfl | rfl | rfl
    · left; rfl
    · right; right; rfl
    · right; left; rfl

/-- So far: pre has been told, and what is told of the rest comes behind. -/
def Sofar (l : By) (k : Nat) (pre : List By) : Prop := seqOf l = pre ++ seqOf (l.drop k) ∧ (∀ x ∈ pre, x ≠ []) ∧ pre.length ≤ k
theorem Sofar.start (l : By) : Sofar l 0 [] := ⟨by simp, by simp, Nat.le_refl _⟩
theorem Sofar.blank {s : ByteArray} {k : Nat} {pre : List By} (h : Sofar s.data.toList k pre) (hk : k < s.size) (hb : blanks.contains s[k] = true) : Sofar s.data.toList (k + 1) pre := by
  refine ⟨?_, h.2.1, by have := h.2.2; omega⟩
  rw [h.1, data_drop s k hk, seqOf_blank hb]
theorem take_ne {l : By} (h : wordLen l ≠ 0) : l.take (wordLen l) ≠ [] := by
  intro e
  have := congrArg List.length e
  have h1 := wordLen_le l
  rw [List.length_take, List.length_nil] at this
  omega
theorem headW_len (l : By) : (headW l).length = wordLen l := by
  have h1 := wordLen_le l
  rw [headW, List.length_take]; omega
theorem Sofar.word {s : ByteArray} {k : Nat} {pre : List By} (h : Sofar s.data.toList k pre) (hk : k < s.size) (hb : blanks.contains s[k] = false) (hw : wordLen (s.data.toList.drop k) ≠ 0) :
    Sofar s.data.toList (k + wordLen (s.data.toList.drop k)) (pre ++ [headW (s.data.toList.drop k)]) := by
  have ht : trimB (s.data.toList.drop k) = s.data.toList.drop k := by rw [data_drop s k hk, trimB_self hb]
  have hne : trimB (s.data.toList.drop k) ≠ [] := by rw [ht, data_drop s k hk]; simp
  refine ⟨?_, ?_, ?_⟩
  · rw [h.1, seqOf_word hne (by rw [ht]; exact hw), ht, List.drop_drop]
    simp [headW]
  · intro x hx
    rcases List.mem_append.1 hx with hx | hx
    · exact h.2.1 x hx
    · rw [List.mem_singleton.1 hx]; exact take_ne hw
  · have := h.2.2
    simp; omega
theorem Sofar.bad {s : ByteArray} {k : Nat} {pre : List By} (h : Sofar s.data.toList k pre) (hk : k < s.size) (hb : blanks.contains s[k] = false) (hw : wordLen (s.data.toList.drop k) = 0) :
    fine s.data.toList = false ∧ wordsOf s.data.toList = [] := by
  have ht : trimB (s.data.toList.drop k) = s.data.toList.drop k := by rw [data_drop s k hk, trimB_self hb]
  have hne : trimB (s.data.toList.drop k) ≠ [] := by rw [ht, data_drop s k hk]; simp
  have hf : fine s.data.toList = false := by
    unfold fine
    rw [h.1, seqOf_bad hne (by rw [ht]; exact hw)]
    simp
  exact ⟨hf, by unfold wordsOf; rw [hf]; rfl⟩
theorem Sofar.done {s : ByteArray} {k : Nat} {pre : List By} (h : Sofar s.data.toList k pre) (hk : s.size ≤ k) : fine s.data.toList = true ∧ wordsOf s.data.toList = pre := by
  have hd : s.data.toList.drop k = [] := List.drop_of_length_le (by rw [← Lib.size_eq]; exact hk)
  have hs : seqOf s.data.toList = pre := by rw [h.1, hd, seqOf_nil rfl, List.append_nil]
  have hf : fine s.data.toList = true := by
    unfold fine
    rw [hs, List.all_eq_true]
    intro x hx
    have := h.2.1 x hx
    cases x with
    | nil => exact absurd rfl this
    | cons => rfl
  exact ⟨hf, by unfold wordsOf; rw [hf, if_pos rfl, hs]⟩

end Go.Proofs.YtbdcoiepdlhlkaaDoor
