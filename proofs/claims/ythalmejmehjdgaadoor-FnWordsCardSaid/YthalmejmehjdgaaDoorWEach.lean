/- What impl.eachWord tells: the words of a text one by one, and last an empty one, if it cannot go on to the end. -/
import Derived.Test.YthalmejmehjdgaaDoorWWords
import Derived.RangeFuncBox
import Derived.RangeFuncLeaves
import Derived.Shelf.Abstract
import Derived.OwnWalkIn
import Derived.TacticsInMore
import Derived.LoopNIn
import Derived.LoopIn
namespace Go.Proofs.YthalmejmehjdgaaDoor
open Go.RowKit Go.Shelf

attribute [local go_sem] Oper.semAt_some

def strLen : Value → Nat
  | .string s => s.size
  | _ => 0

theorem seqOf_self {r : By} (hr : trimB r = r) (hne : r ≠ []) : (wordLen r = 0 → seqOf r = [[]]) ∧ (wordLen r ≠ 0 → seqOf r = headW r :: seqOf (trimB (r.drop (wordLen r)))) := by
  constructor
  · intro h; rw [seqOf_bad (by rw [hr]; exact hne) (by rw [hr]; exact h)]
  · intro h; rw [seqOf_word (by rw [hr]; exact hne) (by rw [hr]; exact h), hr, seqOf_trim]; rfl

set_option maxRecDepth 100000 in
set_option maxHeartbeats 2000000 in
theorem each1_in (n : Nat) (hn : 1 ≤ n) (l Bn n₀ B : Nat) (s : ByteArray) (hs : s.size ≤ 1048576) (J Jx : List By → World → Prop) (hJ : AbidesFrom B J)
    (hY : ∀ pre x W, J pre W → pre.length < (seqOf s.data.toList).length → YieldAt Fence.wide (n - 1) Tryd.prog l #[.string (bs x)] W fun e W' =>
      (e = .returned (.bool true) ∧ J (pre ++ [x]) W' ∧ Below n₀ W W') ∨ (e = .returned (.bool false) ∧ Jx (pre ++ [x]) W'))
    (W : World) (hBn : W.cell? ⟨Bn, 0, none⟩ = some (.string s)) (h0 : J [] W) :
    CallsIn Fence.wide n Tryd.prog 13 #[.func (.yield l) #[] #[], .pointer (some ⟨Bn, 0, none⟩)] W fun e W' => (∃ v, e = .returned v) ∧
      ((∃ ys, ys = seqOf s.data.toList ∧ J ys W') ∨ (∃ pre, pre <+: seqOf s.data.toList ∧ Jx pre W')) := by
  refine callsIn_of_wp Tryd.func13 rfl trivial ?_ rfl
  simp only [Tryd.ntmps13, List.size_toArray, List.length_cons, List.length_nil, Nat.reduceAdd, Nat.reduceSub, Array.replicate_succ, Array.replicate_zero, List.push_toArray, List.append_toArray, List.nil_append, List.cons_append]
  gi_wp2_with (refine ⟨trivial, ?_⟩; gi_at_call 14; refine (callsIn_wide.2 (trimLeft_at s W)).mono ?_; rintro e W1 ⟨rfl, hE1⟩)
  have hJ1 : J [] W1 := hJ _ _ _ none h0 hE1.grown (fun r e => by cases e)
  gi_loopw [3] (fun p wr => ∃ (pre : List By) (r : By), p = .string (bs r) ∧ trimB r = r ∧ r.length ≤ s.size ∧ seqOf s.data.toList = pre ++ seqOf r ∧ J pre wr) (fun p _ => strLen p)
  case atStart =>
    exact ⟨[], trimB s.data.toList, rfl, trimB_trimB _, by rw [Lib.size_eq]; exact trimB_le _, by rw [seqOf_trim]; rfl, hJ1⟩
  case round =>
    obtain ⟨pre, r, rfl, hr, hrl, hx, hJs⟩ := hrel
    by_cases hne : r = []
    · subst hne
      have hE0 : (bs []).toList.isEmpty = true := by rw [bs_toList]; rfl
      generalize bs [] = y at hE0
      gi_wp2
      go_end0
      exact ⟨⟨_, rfl⟩, .inl ⟨pre, by rw [hx, seqOf_nil rfl, List.append_nil], hJs⟩⟩
    · have hse := seqOf_self hr hne
      have hsz : (bs r).size = r.length := bs_size r
      have hp : 0 < (bs r).size := by rw [hsz]; cases r with | nil => exact absurd rfl hne | cons => simp
      have hE0 : (bs r).toList.isEmpty = false := by rw [bs_toList]; cases r with | nil => exact absurd rfl hne | cons => rfl
      have hmax : (bs r).size ≤ maxLen := by rw [hsz]; unfold maxLen; omega
      have hwl : wordLen r ≤ (bs r).size := by rw [hsz]; exact wordLen_le r
      have hsize := wordSize_any (bs r) wr hmax hp
      rw [data_bs] at hsize
      have hplt : pre.length < (seqOf s.data.toList).length := by
        rw [hx, List.length_append]
        by_cases hw : wordLen r = 0
        · rw [hse.1 hw]; simp
        · rw [hse.2 hw]; simp
      have hhead : bs (headW r) = (bs r).extract 0 (wordLen r) := by rw [extract_bs, data_bs]; simp [headW]
      have htail : (bs r).extract (wordLen r) (bs r).size = bs (r.drop (wordLen r)) := by rw [extract_end, data_bs]
      obtain ⟨fn, tmps, assign, body, hy, hR⟩ := hY pre (headW r) wr hJs hplt
      rw [hhead] at hy
      by_cases hw : wordLen r = 0
      · have HX : Hid (seqOf s.data.toList = pre ++ [headW r]) := by
          show _ = _
          rw [hx, hse.1 hw, headW, hw]; rfl
        have hnil : (bs r).extract 0 0 = ByteArray.empty := by simp
        rw [hw] at hy hsize
        rw [hnil] at hy
        clear hx hse hhead htail hwl
        gi_wp2_with (refine ⟨trivial, ?_⟩; gi_at_call 15; refine (callsIn_wide.2 hsize).mono ?_; rintro e W2 ⟨rfl, rfl⟩)
        refine hR.mono ?_
        rintro e W3 (⟨rfl, hJ3, hk3⟩ | ⟨rfl, hJx3⟩)
        · gi_wp2
          refine bodyPost_ret (results_none rfl _ _ _) rfl ?_
          exact ⟨⟨_, rfl⟩, .inl ⟨_, HX.out.symm, hJ3⟩⟩
        · gi_wp2
          refine bodyPost_ret (results_none rfl _ _ _) rfl ?_
          exact ⟨⟨_, rfl⟩, .inr ⟨_, by rw [HX.out]; exact List.prefix_refl _, hJx3⟩⟩
      · have HX : Hid (seqOf s.data.toList = (pre ++ [headW r]) ++ seqOf (trimB (r.drop (wordLen r)))) := by
          show _ = _
          rw [hx, hse.2 hw]; simp
        have hdl : (r.drop (wordLen r)).length < r.length := by
          rw [List.length_drop]; rw [hsz] at hp; omega
        have hw' : ((wordLen r : Int) == 0) = false := by simpa using hw
        have htl := fun W => trimLeft_at ((bs r).extract (wordLen r) (bs r).size) W
        rw [htail, data_bs] at htl
        rw [← htail] at htl
        clear hx hse hhead htail
        generalize wordLen r = k at *
        gi_wp2_with (refine ⟨trivial, ?_⟩; gi_at_call 15; refine (callsIn_wide.2 hsize).mono ?_; rintro e W2 ⟨rfl, rfl⟩)
        refine hR.mono ?_
        rintro e W3 (⟨rfl, hJ3, hk3⟩ | ⟨rfl, hJx3⟩)
        · gi_wp2_with (refine ⟨trivial, ?_⟩; gi_at_call 14; refine (callsIn_wide.2 (htl W3)).mono ?_; rintro e W4 ⟨rfl, hE4⟩)
          go_roundw
          case rel => exact ⟨_, _, rfl, trimB_trimB _, by have := trimB_le (r.drop k); omega, HX.out, hJ _ _ _ none hJ3 hE4.grown (fun r e => by cases e)⟩
          case measure => simp only [strLen, bs_size]; have := trimB_le (r.drop k); omega
        · gi_wp2
          refine bodyPost_ret (results_none rfl _ _ _) rfl ?_
          exact ⟨⟨_, rfl⟩, .inr ⟨_, by rw [HX.out]; exact List.prefix_append _ _, hJx3⟩⟩

set_option maxHeartbeats 1000000 in
theorem each_in (n : Nat) (s : ByteArray) (w : World) :
    CallsIn Fence.wide n Tryd.prog 11 #[.string s] w fun e w' => e = .returned (.func (.func 13) #[] #[.pointer (some ⟨w.heap.size, 0, none⟩)]) ∧ w' = w.alloc (.cells #[.string s] 9) := by
  refine callsIn_of_wp Tryd.func11 rfl trivial ?_ rfl
  simp only [Tryd.ntmps11, List.size_toArray, List.length_cons, List.length_nil, Nat.reduceAdd, Nat.reduceSub, Array.replicate_succ, Array.replicate_zero, List.push_toArray, List.append_toArray, List.nil_append, List.cons_append]
  gi_wp2
  go_ret
  exact ⟨rfl, rfl⟩

theorem each_stops (n : Nat) (hn : 1 ≤ n) (Bn n₀ : Nat) (s : ByteArray) (hs : s.size ≤ 1048576) (w : World) (hBn : Bn < w.heap.size) (hc : w.cell? ⟨Bn, 0, none⟩ = some (.string s)) :
    SeqStopsK Fence.wide n Tryd.prog 13 #[.pointer (some ⟨Bn, 0, none⟩)] (fun x : By => #[Value.string (bs x)]) (Below n₀) (fun ys => ys = seqOf s.data.toList) (fun pre => pre <+: seqOf s.data.toList) (seqOf s.data.toList).length w := fun l J Jx W hW hJ _ hY h0 =>
  each1_in n hn l Bn n₀ W.heap.size s hs J Jx hJ hY W ((hW.cell (p := ⟨Bn, 0, none⟩) hBn).trans hc) h0
end Go.Proofs.YthalmejmehjdgaaDoor
