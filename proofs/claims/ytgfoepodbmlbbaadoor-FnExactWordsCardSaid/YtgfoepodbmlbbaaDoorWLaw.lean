/- The walk of the law FnExactWords: it answers true at every text, and nothing that lay in memory has turned. -/
import Derived.Test.YtgfoepodbmlbbaaDoorWStrS
namespace Go.Proofs.YtgfoepodbmlbbaaDoor
open Go.RowKit

theorem wordsOf_len (l : By) : (wordsOf l).length ≤ l.length := by
  unfold wordsOf
  split
  · exact seqOf_len l
  · simp
theorem own_apart {b2 : Nat} {w : World} {v u : Value} {m : Nat} {ys : List Value} (hu : w.ownsRow b2 9 1 u m ys) {c : Nat} (hc : ∀ k, v.ownBlock = some k → k < c) (hb : c ≤ b2) : v.ownBlock = none ∨ v.ownBlock ≠ u.ownBlock := by
  cases h : v.ownBlock with
  | none => exact .inl rfl
  | some k =>
    right
    intro e
    have h1 := hc k h
    have h2 := (World.ownsRow.lt hu k e.symm).1
    omega

set_option maxHeartbeats 2000000 in
theorem wordsLaw (s : ByteArray) (w0 : s.size ≤ maxLen) (w : World) :
    Calls Tryd.prog 3 #[.string s] w fun e w' => e = .returned (.bool true) ∧ Ext w w' := by
  have hs := w0
  unfold maxLen at hs
  by_cases hbig : 1048576 < s.size
  · go_enter Tryd.func3, Tryd.ntmps3
    go_wp2
    go_ret
    exact ⟨rfl, Ext.refl _⟩
  · have hle : s.size ≤ 1048576 := by omega
    have hwl : (wordsOf s.data.toList).length ≤ 1048576 := by have := wordsOf_len s.data.toList; rw [← Lib.size_eq] at this; omega
    have hspec := fun W => specWords_any s W hle
    have himpl := fun W => implWords_any s W hle
    generalize wordsOf s.data.toList = ws at *
    generalize fine s.data.toList = fb at *
    cases fb
    all_goals
      go_enter Tryd.func3, Tryd.ntmps3
      go_wp2_with fail
      refine (hspec _).mono ?_
      rintro e w1 ⟨v0, rfl, ho0, hE1⟩
      have hlt0 := fun k hk => (World.ownsRow.lt ho0 k hk).2
      go_wp2_with fail
      refine (himpl _).mono ?_
      rintro e w2 ⟨v1, rfl, ho1, hE2⟩
      have hb0 := hE1.le
      go_wp2_with fail
      refine (eqStringS_same v1 v0 _ _ ws _ ho1 (ho0.ext hE2)).mono ?_
      rintro e w3 ⟨rfl, hE3⟩
      have ho0' := (ho0.ext hE2).ext hE3
      have ho1' := ho1.ext hE3
      go_wp2_with fail
      refine (markStringS_any v1 _ _ _ 1 _ ho1' hwl (by omega) (by omega)).mono ?_
      rintro e w4 ⟨rfl, hm4, hg4⟩
      have hE4 : Ext w w4 := Below.grown ((hE1.trans hE2).trans hE3) hg4 (by have := ((hE1.trans hE2).trans hE3).le; omega) (fun j hj => by have := (World.ownsRow.lt ho1' j hj).1; omega)
      have ho04 := World.ownsRow.kept ho0' hg4 (own_apart ho1' hlt0 (Nat.le_refl _))
      clear ho0 ho1 ho0' ho1'
      go_wp2_with fail
      refine (heldStringS_any v1 _ _ 1 _ hm4 hwl (by omega) (by omega)).mono ?_
      rintro e w5 ⟨rfl, hE5⟩
      go_wp2_with fail
      refine (himpl _).mono ?_
      rintro e w6 ⟨v2, rfl, ho2, hE6⟩
      go_wp2_with fail
      refine (eqStringS_same v2 v0 _ _ ws _ ho2 (OwnS.ext (OwnS.ext ho04 hE5) hE6)).mono ?_
      rintro e w7 ⟨rfl, hE7⟩
      have hm7 := ((hm4.kept hE5.grown (by cases h : v1.ownBlock <;> simp)).kept hE6.grown (by cases h : v1.ownBlock <;> simp)).kept hE7.grown (by cases h : v1.ownBlock <;> simp)
      go_wp2_with fail
      refine (heldStringS_any v1 _ _ 1 _ hm7 hwl (by omega) (by omega)).mono ?_
      rintro e w8 ⟨rfl, hE8⟩
      go_wp2
      go_ret
      exact ⟨rfl, (((hE4.trans hE5).trans hE6).trans hE7).trans hE8⟩
end Go.Proofs.YtgfoepodbmlbbaaDoor
