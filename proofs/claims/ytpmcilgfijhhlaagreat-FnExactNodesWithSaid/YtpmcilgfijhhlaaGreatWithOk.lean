/- What impl.NodesWith answers. -/
import Derived.Test.YtpmcilgfijhhlaaGreatWithImpl
import Derived.Test.YtpmcilgfijhhlaaGreatNetOf
namespace Go.Proofs.YtpmcilgfijhhlaaGreat
open Go.RowKit Go.Deep

/-- The answer, as numbers. -/
def withAns (d0 d1 : D) (x2 x3 : Int) (s : ByteArray) : List Int := if graphB d0 d1 x2 x3 then withIds d0.at! s d0.len! else []
set_option maxRecDepth 100000 in
set_option maxHeartbeats 1000000 in
theorem implNodesWith_any (S : Nat → Prop) (d0 d1 : D) (c0 c1 : Value) (x2 x3 : Int) (s : ByteArray) (w : World) (H0 : Has d0 (.list 4)) (h0 : DIn S w d0 c0) (H1 : Has d1 (.list 5)) (h1 : DIn S w d1 c1) :
    Calls Tryz.prog 7 #[.agg #[c0, c1, .int .i64 x2, .int .i64 x3], .string s] w fun e w' => ∃ a l c, e = .returned (.slice a l c) ∧ DIn (New w.heap.size w'.heap.size) w' (intsD (withAns d0 d1 x2 x3 s)) (.slice a l c) ∧ Own w' (intsD (withAns d0 d1 x2 x3 s)) (New w.heap.size w'.heap.size) (.slice a l c) ∧ Ext w w' := by
  have hnet := fun (W : World) (hW : Ext w W) => netOf_any S d0 d1 c0 c1 x2 x3 W H0 (h0.ext hW) H1 (h1.ext hW)
  have hlim : graphB d0 d1 x2 x3 = true → d0.len! ≤ 12 := fun h => by
    simp only [graphB, Bool.and_eq_true, decide_eq_true_eq] at h
    exact h.2.1.1.1
  have hrows : ∀ i, i < d0.len! → HasRow 4 (d0.at! i) := by
    obtain ⟨len, f, rfl, HR⟩ := H0.list
    exact HR
  obtain ⟨a0, cap0, l0, f0, hD0, rfl, _, _⟩ := list_shape H0 h0
  obtain ⟨a1, cap1, l1, f1, hD1, rfl, _, _⟩ := list_shape H1 h1
  clear hD0 hD1
  have HA : Hid (withAns d0 d1 x2 x3 s = if graphB d0 d1 x2 x3 then withIds d0.at! s d0.len! else []) := rfl
  have HL : Hid _ := hlim
  clear hlim
  generalize withAns d0 d1 x2 x3 s = ans at *
  generalize graphB d0 d1 x2 x3 = gb at *
  go_enter Tryz.func7, Tryz.ntmps7
  go_wp2_with fail
  refine (hnet _ ((Ext.refl _).alloc _)).mono ?_
  rintro e w1 ⟨p, rfl, hN, hE1⟩
  have hE2 : Ext w w1 := ((Ext.refl _).alloc _).trans hE1
  cases gb
  · have hans : Hid (ans = []) := HA.out
    clear hN
    go_wp2
    go_ret
    exact ⟨_, _, _, rfl, by rw [hans.out]; exact ⟨⟨none, 0, 0, 0, rfl, Nat.zero_le _, fun h => by simp at h, fun i hi => by simp at hi⟩, ⟨none, 0, 0, 0, fun _ _ _ => False, rfl, fun h => by simp at h, fun i _ hi => by simp at hi, fun i _ _ _ hi => by simp at hi, fun i hi => by simp at hi⟩, hE2⟩⟩
  · have hans : Hid (ans = withIds d0.at! s d0.len!) := HA.out
    obtain ⟨N, rfl, hNI, hF⟩ := hN rfl
    clear hN
    have hwith := netNodesWith_any w1 _ N d0.at! d0.len! s hNI hrows hF.ln hF.kn hF.rn (by first | exact HL.out rfl | exact HL.out trivial)
    rw [← hans.out] at hwith
    go_wp2_with fail
    refine hwith.mono ?_
    rintro e w2 ⟨a, l, c, rfl, hD, hO, hE3⟩
    have hmono : ∀ x, New w1.heap.size w2.heap.size x → New w.heap.size w2.heap.size x := fun x hx => ⟨Nat.le_trans hE2.le hx.1, hx.2⟩
    have hD' : Hid _ := hD.mono hmono
    have hO' : Hid _ := hO.mono hmono
    clear hD hO
    go_wp2
    go_ret
    exact ⟨_, _, _, rfl, hD'.out, hO'.out, hE2.trans hE3⟩
end Go.Proofs.YtpmcilgfijhhlaaGreat
