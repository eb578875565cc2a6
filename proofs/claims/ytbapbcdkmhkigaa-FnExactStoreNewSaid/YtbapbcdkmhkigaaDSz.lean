/- What the laws' functions sz.. answer: a number below nought, or nothing within is too long. -/
import Derived.Test.YtbapbcdkmhkigaaDat
namespace Go.Proofs.Ytbapbcdkmhkigaa
open Go.RowKit Go.Deep

def SzD (F : FuncId) (d : D) : Prop := ∀ (S : Nat → Prop) (v : Value) (w : World) (l : Int), DIn S w d v → 0 ≤ l → l ≤ 1048576 →
  Calls Try.prog F #[v, .int .i64 l] w fun e w' => ∃ q : Int, e = .returned (.int .i64 q) ∧ -1 ≤ q ∧ q ≤ l ∧ (0 ≤ q → SmallD d ∧ (lenD d : Int) ≤ l - q) ∧ Ext w w'

/-- What a loop over a list has summed up by its k-th round. -/
theorem sz_end {n len : Nat} {f : Nat → Nat → D} (hn : n ≤ 24) (hl : len ≤ 1048576) (h : ∀ i, i < len → SmallRow n (f i)) : SmallD (.list n len f) := ⟨hn, hl, fun i hi j hj => h i hi j hj⟩
theorem lenD_list (n len : Nat) (f : Nat → Nat → D) : lenD (.list n len f) = len + sumN (fun i => lenRow n (f i)) len := rfl

set_option maxHeartbeats 1000000 in
theorem szRule_any (_ : Nat → Prop) (x0 : ByteArray) (x1 : ByteArray) (w : World) (l : Int)  (z0 : x0.size ≤ maxLen) (z1 : x1.size ≤ maxLen) (l0 : 0 ≤ l) (l1 : l ≤ 1048576) :
    Calls Try.prog 13 #[.agg #[.string x0, .string x1], .int .i64 l] w fun e w' => ∃ q : Int, e = .returned (.int .i64 q) ∧ -1 ≤ q ∧ q ≤ l ∧ (0 ≤ q → x0.size ≤ 1048576 ∧ x1.size ≤ 1048576 ∧ (0 : Int) ≤ l - q) ∧ Ext w w' := by
  unfold maxLen at z0
  unfold maxLen at z1
  go_enter Try.func13, Try.ntmps13
  go_wp2
  all_goals go_ret
  all_goals first
    | exact ⟨_, rfl, by omega, by omega, fun h => by omega, ((Ext.refl w).alloc _)⟩
    | exact ⟨_, rfl, by omega, by omega, fun h => by exact ⟨by omega, by omega, by omega⟩, ((Ext.refl w).alloc _)⟩

set_option maxHeartbeats 1000000 in
theorem szRuleS_list (len : Nat) (f : Nat → Nat → D) (HRa : ∀ i, i < len → HasRow 7 (f i)) : SzD 4 (.list 2 len f) := by
  intro S v w l hv l0 l1
  obtain ⟨a, cap, rfl, hm⟩ := hv.list_eq
  unfold maxLen at hm
  by_cases hbig : l < len
  · go_enter Try.func4, Try.ntmps4
    go_wp2
    go_ret
    exact ⟨_, rfl, by omega, by omega, fun h => by omega, Ext.refl _⟩
  · go_enter Try.func4, Try.ntmps4
    go_wp2
    go_loopw [1, 5] (fun l' i wr => ∃ (k : Nat) (n : Int), k ≤ len ∧ i = .int .i64 k ∧ l' = .int .i64 n ∧ 0 ≤ n ∧ n + len + sumN (fun i => lenRow 2 (f i)) k ≤ l ∧ Ext w wr ∧ ∀ j, j < k → SmallRow 2 (f j)) (fun _ i _ => len - (intOf i).toNat)
    case atStart => exact ⟨0, _, Nat.zero_le _, rfl, rfl, by omega, by simp [sumN], Ext.refl _, fun j h => by omega⟩
    case round =>
      obtain ⟨k, n, hk, rfl, rfl, hn0, hn1, hE, hsm⟩ := hrel
      by_cases hlt : k < len
      · obtain ⟨cap2, b, off, C, hsl, hlo, hb, ec, hx⟩ := (hv.ext hE).at hlt
        cases hsl
        have HR := HRa k hlt
        obtain ⟨x0, hd0⟩ := (show Has (f k 0) .str from HR 0 (by decide)).str
        have h0 := hx 0 (by decide)
        have e0 := ec 0 (by decide)
        rw [hd0] at h0
        obtain ⟨y0, z0⟩ := h0.str_eq
        rw [y0] at e0
        clear y0
        obtain ⟨x1, hd1⟩ := (show Has (f k 1) .str from HR 1 (by decide)).str
        have h1 := hx 1 (by decide)
        have e1 := ec 1 (by decide)
        rw [hd1] at h1
        obtain ⟨y1, z1⟩ := h1.str_eq
        rw [y1] at e1
        clear y1
        simp only [Nat.add_zero] at e0
        clear hx ec
        have hcall := szRule_any S x0 x1 wr n z0 z1 hn0 (by omega)
        go_wp2_with (go_at_call 13; refine hcall.mono ?_; rintro e w' ⟨q, rfl, hr1, hr2, hr3, hE2⟩)
        · go_ret
          exact ⟨_, rfl, by omega, by omega, fun h => by omega, hE.trans hE2⟩
        · go_roundw
          case rel =>
            have hq := hr3 (by omega)
            have hql := hq.2.2
            have hrow : lenRow 2 (f k) = 0 := by simp [lenRow, sumN, lenD, hd0, hd1]
            refine ⟨k + 1, _, by omega, by go_num, rfl, by omega, ?_, hE.trans hE2, fun j h => ?_⟩
            · have : sumN (fun i => lenRow 2 (f i)) (k + 1) = sumN (fun i => lenRow 2 (f i)) k + lenRow 2 (f k) := rfl
              omega
            · rcases Nat.lt_succ_iff_lt_or_eq.1 h with h' | h'
              · exact hsm j h'
              · subst h'
                intro i hi
                match i, hi with
                | 0, _ => rw [hd0]; exact (show x0.size ≤ 1048576 from hq.1)
                | 1, _ => rw [hd1]; exact (show x1.size ≤ 1048576 from hq.2.1)
          case measure => simp [intOf]; omega
      · have hkx : k = len := by omega
        subst hkx
        go_wp2
        go_ret
        exact ⟨_, rfl, by omega, by omega, fun _ => ⟨sz_end (by omega) (by omega) hsm, by rw [lenD_list]; omega⟩, hE⟩

theorem szRuleS_any (d : D) (H : Has d (.list 7)) : SzD 4 d := by
  obtain ⟨len, f, rfl, HRa⟩ := H.list
  exact szRuleS_list len f HRa

end Go.Proofs.Ytbapbcdkmhkigaa
