/- What spec.Words answers: the words of a text in memory of their own, and whether all of it was told. -/
import Derived.Test.YthalmejmehjdgaaDoorWSpec
import Derived.OwnWalk
import Derived.Maps.AppendAt
namespace Go.Proofs.YthalmejmehjdgaaDoor
open Go.RowKit

theorem Tryd.infoS : (Tryd.prog.info? 9).map (fun i => (i.zero, i.size, i.bytes)) = some (some (.string ⟨#[]⟩), 1, 16) := by kernel_rfl

def encS (x : By) : Value := .string (bs x)
/-- v is a slice of the texts ws, in a block of its own from base on. -/
def OwnS (base : Nat) (w : World) (v : Value) (ws : List By) : Prop := w.ownsRow base 9 1 v ws.length (ws.map encS)

theorem OwnS.ext {base : Nat} {w w' : World} {v : Value} {ws : List By} (h : OwnS base w v ws) (hE : Ext w w') : OwnS base w' v ws := World.ownsRow.kept h hE.grown (by cases h : v.ownBlock <;> simp)

theorem data_drop (s : ByteArray) (k : Nat) (h : k < s.size) : s.data.toList.drop k = s[k] :: s.data.toList.drop (k + 1) := by
  obtain ⟨⟨l⟩⟩ := s
  have h' : k < l.length := h
  show l.drop k = _ :: l.drop (k + 1)
  rw [List.drop_eq_getElem_cons h']
  rfl
theorem blank_of {x : UInt8} (h : (x.toNat : Int) = 32 ∨ (x.toNat : Int) = 10 ∨ (x.toNat : Int) = 9) : blanks.contains x = true := by
  rcases h with h | h | h
  · rw [byte_eq (n := 32) (by decide) h]; rfl
  · rw [byte_eq (n := 10) (by decide) h]; rfl
  · rw [byte_eq (n := 9) (by decide) h]; rfl
theorem blank_not {x : UInt8} (h : ¬ ((x.toNat : Int) = 32 ∨ (x.toNat : Int) = 10 ∨ (x.toNat : Int) = 9)) : blanks.contains x = false := by
  cases hc : blanks.contains x with
  | false => rfl
  | true =>
    have hm : x ∈ blanks := by simpa using hc
    simp only [blanks, List.mem_cons, List.not_mem_nil, or_false] at hm
    exfalso; apply h
    rcases hm with rfl | rfl | rfl
    · left; rfl
    · right; right; rfl
    · right; left; rfl

/-- So far: pre has been told, and what is told of the rest comes behind. -/
def Sofar (l : By) (k : Nat) (pre : List By) : Prop := seqOf l = pre ++ seqOf (l.drop k) ∧ (∀ x ∈ pre, x ≠ []) ∧ pre.length ≤ k
theorem Sofar.start (l : By) : Sofar l 0 [] := ⟨by simp, by simp, Nat.le_refl _⟩
theorem Sofar.blank {s : ByteArray} {k : Nat} {pre : List By} (h : Sofar s.data.toList k pre) (hk : k < s.size) (hb : blanks.contains s[k] = true) : Sofar s.data.toList (k + 1) pre := by
  refine ⟨?_, h.2.1, by have := h.2.2; omega⟩
  rw [h.1, data_drop s k hk, seqOf_blank hb]
theorem take_ne {l : By} (h : wordLen l ≠ 0) : l.take (wordLen l) ≠ [] := by
  intro e
  have := congrArg List.length e
  have h1 := wordLen_le l
  rw [List.length_take, List.length_nil] at this
  omega
theorem headW_len (l : By) : (headW l).length = wordLen l := by
  have h1 := wordLen_le l
  rw [headW, List.length_take]; omega
theorem Sofar.word {s : ByteArray} {k : Nat} {pre : List By} (h : Sofar s.data.toList k pre) (hk : k < s.size) (hb : blanks.contains s[k] = false) (hw : wordLen (s.data.toList.drop k) ≠ 0) :
    Sofar s.data.toList (k + wordLen (s.data.toList.drop k)) (pre ++ [headW (s.data.toList.drop k)]) := by
  have ht : trimB (s.data.toList.drop k) = s.data.toList.drop k := by rw [data_drop s k hk, trimB_self hb]
  have hne : trimB (s.data.toList.drop k) ≠ [] := by rw [ht, data_drop s k hk]; simp
  refine ⟨?_, ?_, ?_⟩
  · rw [h.1, seqOf_word hne (by rw [ht]; exact hw), ht, List.drop_drop]
    simp [headW]
  · intro x hx
    rcases List.mem_append.1 hx with hx | hx
    · exact h.2.1 x hx
    · rw [List.mem_singleton.1 hx]; exact take_ne hw
  · have := h.2.2
    simp; omega
theorem Sofar.bad {s : ByteArray} {k : Nat} {pre : List By} (h : Sofar s.data.toList k pre) (hk : k < s.size) (hb : blanks.contains s[k] = false) (hw : wordLen (s.data.toList.drop k) = 0) :
    fine s.data.toList = false ∧ wordsOf s.data.toList = [] := by
  have ht : trimB (s.data.toList.drop k) = s.data.toList.drop k := by rw [data_drop s k hk, trimB_self hb]
  have hne : trimB (s.data.toList.drop k) ≠ [] := by rw [ht, data_drop s k hk]; simp
  have hf : fine s.data.toList = false := by
    unfold fine
    rw [h.1, seqOf_bad hne (by rw [ht]; exact hw)]
    simp
  exact ⟨hf, by unfold wordsOf; rw [hf]; rfl⟩
theorem Sofar.done {s : ByteArray} {k : Nat} {pre : List By} (h : Sofar s.data.toList k pre) (hk : s.size ≤ k) : fine s.data.toList = true ∧ wordsOf s.data.toList = pre := by
  have hd : s.data.toList.drop k = [] := List.drop_of_length_le (by rw [← Lib.size_eq]; exact hk)
  have hs : seqOf s.data.toList = pre := by rw [h.1, hd, seqOf_nil rfl, List.append_nil]
  have hf : fine s.data.toList = true := by
    unfold fine
    rw [hs, List.all_eq_true]
    intro x hx
    have := h.2.1 x hx
    cases x with
    | nil => exact absurd rfl this
    | cons => rfl
  exact ⟨hf, by unfold wordsOf; rw [hf, if_pos rfl, hs]⟩

set_option maxHeartbeats 4000000 in
theorem specWords_any (s : ByteArray) (w : World) (hs : s.size ≤ 1048576) :
    Calls Tryd.prog 6 #[.string s] w fun e w' => ∃ v, e = .returned (.tuple #[v, .bool (fine s.data.toList)]) ∧ OwnS w.heap.size w' v (wordsOf s.data.toList) ∧ Ext w w' := by
  obtain ⟨i0, hi, hz0, hz1, hz2⟩ := info_parts Tryd.infoS
  go_enter Tryd.func6, Tryd.ntmps6
  go_wp2
  generalize hW1 : w.alloc _ = W1
  have hE1 : Ext w W1 := by subst hW1; exact (Ext.refl _).alloc _
  have hown1 : OwnS w.heap.size W1 (.slice (some ⟨w.heap.size, 0, none⟩) 0 0) [] := by subst hW1; exact World.ownsRow_made w #[] 0 (Nat.le_refl _) (by unfold maxLen; omega) rfl
  clear hW1
  go_loopw [4, 5] (fun v i wr => ∃ (k : Nat) (pre : List By), k ≤ s.size ∧ i = .int .i64 k ∧ OwnS w.heap.size wr v pre ∧ Ext w wr ∧ Sofar s.data.toList k pre) (fun _ i _ => s.size - (intOf i).toNat)
  case atStart => exact ⟨0, [], Nat.zero_le _, rfl, hown1, hE1, Sofar.start _⟩
  case round =>
    obtain ⟨k, pre, hk, rfl, hown, hE, hso⟩ := hrel
    by_cases hlt : k < s.size
    · by_cases hb : (s[k].toNat : Int) = 32 ∨ (s[k].toNat : Int) = 10 ∨ (s[k].toNat : Int) = 9
      · have hso2 := hso.blank hlt (blank_of hb)
        clear hso
        have HS : Hid (Sofar s.data.toList (k + 1) pre) := hso2
        clear hso2
        rcases hb with hb | hb | hb
        all_goals
          go_wp2
          go_roundw
          case rel => exact ⟨k + 1, pre, by omega, by go_num, hown, hE, HS.out⟩
          case measure => simp [intOf]; omega
      · have hbn := blank_not hb
        have hb1 : ((s[k].toNat : Int) == 32) = false := by simpa using fun h => hb (.inl h)
        have hb2 : ((s[k].toNat : Int) == 10) = false := by simpa using fun h => hb (.inr (.inl h))
        have hb3 : ((s[k].toNat : Int) == 9) = false := by simpa using fun h => hb (.inr (.inr h))
        clear hb
        have hdat : (s.extract k s.size).data.toList = s.data.toList.drop k := Lib.extract_to_end s k
        have hw4 := l4Word_any (s.extract k s.size) wr (by rw [Lib.size_eq, hdat, List.length_drop, ← Lib.size_eq]; unfold maxLen; omega) (by rw [Lib.size_eq, hdat, List.length_drop, ← Lib.size_eq]; omega)
        rw [hdat] at hw4
        by_cases hw : wordLen (s.data.toList.drop k) = 0
        · have HB : Hid (fine s.data.toList = false ∧ wordsOf s.data.toList = []) := hso.bad hlt hbn hw
          have hx : headW (s.data.toList.drop k) = [] := by rw [headW, hw]; rfl
          rw [hx] at hw4
          clear hso hx hw hdat
          have hE0 : (bs []).toList.isEmpty = true := by rw [bs_toList]; rfl
          generalize bs [] = y at hw4 hE0
          go_wp2_with (go_at_call 12; refine hw4.mono ?_; rintro e w2 ⟨rfl, hE2⟩)
          go_ret2
          refine ⟨_, by rw [HB.out.1]; rfl, ?_, (hE.trans hE2).alloc _⟩
          rw [HB.out.2]
          exact World.ownsRow_made w2 #[] 0 (by have := hE.le; have := hE2.le; omega) (by unfold maxLen; omega) rfl
        · have HS : Hid (Sofar s.data.toList (k + wordLen (s.data.toList.drop k)) (pre ++ [headW (s.data.toList.drop k)])) := hso.word hlt hbn hw
          have hpl := hso.2.2
          have hle : k + wordLen (s.data.toList.drop k) ≤ s.size := by
            have := wordLen_le (s.data.toList.drop k)
            rw [List.length_drop, ← Lib.size_eq] at this
            omega
          have hpos : 0 < wordLen (s.data.toList.drop k) := by omega
          have hsz : (bs (headW (s.data.toList.drop k))).size = wordLen (s.data.toList.drop k) := by rw [bs_size, headW_len]
          have hE0 : (bs (headW (s.data.toList.drop k))).toList.isEmpty = false := by
            rw [bs_toList]
            cases h : headW (s.data.toList.drop k) with
            | nil => exact absurd h (take_ne hw)
            | cons => rfl
          clear hso hw hdat
          generalize headW (s.data.toList.drop k) = x at hw4 HS hsz hE0
          generalize wordLen (s.data.toList.drop k) = n at HS hle hpos hsz
          go_wp2_with fail
          refine hw4.mono ?_
          rintro e w2 ⟨rfl, hE2⟩
          have hown2 := hown.ext hE2
          go_wp2_with (at_builtin; refine wpList_append_own_at _ rfl _ _ 24 rfl w.heap.size 9 i0 (.string ⟨#[]⟩) 1 16 Tryd.underlying24 hi hz0 hz1 hz2 rfl (by decide) _ _ _ rfl (World.ownsRow.alloc hown2 _) ⟨w2.heap.size, 0, none⟩ 1 1 [.string (bs x)] rfl rfl (cell_one_new _ _ _) (by simp [Value.oneCell']) (by unfold maxLen; omega) (by omega) (by have := hE.le; have := hE2.le; simp; omega) ?_; intro v' w3 hown' hgrow hnil hloc)
          go_roundw
          case rel =>
            refine ⟨k + n, pre ++ [x], by omega, by go_num, ?_, ?_, HS.out⟩
            · unfold OwnS; simpa [encS] using hown'
            · exact Below.grown (Ext.alloc (hE.trans hE2) _) hgrow (by have := hE.le; have := hE2.le; simp; omega) (fun j hj => (World.ownsRow.lt hown j hj).1)
          case measure => simp [intOf]; omega
    · have HD : Hid (fine s.data.toList = true ∧ wordsOf s.data.toList = pre) := hso.done (by omega)
      clear hso
      go_wp2
      go_ret2
      exact ⟨_, by rw [HD.out.1]; rfl, by rw [HD.out.2]; exact hown, hE⟩
end Go.Proofs.YthalmejmehjdgaaDoor
