/- What spec.l1Dec answers: a number's figures. -/
import Derived.Test.YtiofojdiijllaaaDoorBase
import Derived.Laws.IdiomStrings
import Derived.Lib.ItoaNum
import Derived.Lib.ItoaLen
import Derived.Deep.RegionHeld3
import Derived.Deep.DeepCutAuto
namespace Go.Proofs.YtiofojdiijllaaaDoor
open Go.RowKit

/-- The figures of a number. -/
def decB (n : Nat) : ByteArray := ⟨(Lib.decDigits n).toArray⟩
def figT (n : Nat) : ByteArray := ⟨#[UInt8.ofNat (48 + n % 10)]⟩
theorem decB_small {n : Nat} (h : n < 10) : decB n = figT n := by
  unfold decB figT
  rw [Lib.decDigits, dif_pos h, Nat.mod_eq_of_lt h]
theorem decB_big {n : Nat} (h : ¬ n < 10) : decB n = decB (n / 10) ++ figT n := by
  unfold decB figT
  rw [Lib.decDigits, dif_neg h]
  apply ByteArray.ext
  simp
theorem decB_size (n : Nat) : (decB n).size = Lib.nDigits n := by
  unfold decB
  rw [← Lib.decDigits_length]
  rfl

theorem figT_conv (n : Nat) (W : World) (b : Nat) (h : W.cell? ⟨b, 0, none⟩ = some (.int .u8 (48 + (n : Int) % 10))) : (convert 25 9 (.slice (some ⟨b, 0, none⟩) 1 1)).run Tryd.prog W = .ok (.string (figT n)) W := by
  have := run_convert_bytes_back (P := Tryd.prog) W 25 9 5 ⟨b, 0, none⟩ 1 [UInt8.ofNat (48 + n % 10)] Tryd.underlying25 Tryd.underlying5 Tryd.underlying9 (fun j hj => by
    have : j = 0 := by simpa using hj
    subst this
    have e : (⟨b, 0, none⟩ : Addr).add 0 = ⟨b, 0, none⟩ := rfl
    rw [e, h]
    simp
    omega)
  exact this
theorem figT_conv1 (n : Nat) (hn : n < 10) (W : World) (b : Nat) (h : W.cell? ⟨b, 0, none⟩ = some (.int .u8 (48 + (n : Int)))) : (convert 25 9 (.slice (some ⟨b, 0, none⟩) 1 1)).run Tryd.prog W = .ok (.string (figT n)) W :=
  figT_conv n W b (by rw [h]; have : (n : Int) % 10 = n := by omega
                      rw [this])

theorem wrapD {x : Int} (h0 : -9223372036854775808 ≤ x) (h1 : x ≤ 9223372036854775807) : IntKind.i64.wrap x = x := by
  simp [IntKind.wrap, IntKind.signed, IntKind.bits]
  omega
theorem wrapU {x : Int} (h0 : 0 ≤ x) (h1 : x ≤ 255) : IntKind.u8.wrap x = x := by
  simp [IntKind.wrap, IntKind.signed, IntKind.bits]
  omega

set_option maxHeartbeats 2000000 in
theorem l1Dec_any : ∀ (k n : Nat), n ≤ k → n ≤ 1000000000 → ∀ w : World, Calls Tryd.prog 6 #[.int .i64 n] w fun e w' => e = .returned (.string (decB n)) ∧ Ext w w' := by
  intro k
  induction k using Nat.strongRecOn with
  | ind k ih =>
  intro n hk hn w
  by_cases h10 : n < 10
  · have hfin : Hid (decB n = figT n) := decB_small h10
    have hcv := figT_conv1 n h10
    have h10i : (n : Int) < 10 := by omega
    clear ih
    go_enter Tryd.func6, Tryd.ntmps6
    generalize figT n = s1 at hcv hfin
    go_wp2
    go_ret
    exact ⟨ret_str hfin.out.symm, (Ext.refl _).alloc _⟩
  · have hfin : Hid (decB n = decB (n / 10) ++ figT n) := decB_big h10
    have hcv := figT_conv n
    have h10i : ¬ (n : Int) < 10 := by omega
    have hcall := fun W => ih (n / 10) (by omega) (n / 10) (Nat.le_refl _) (by omega) W
    have e10 : ((n / 10 : Nat) : Int) = (n : Int) / 10 := by omega
    rw [e10] at hcall
    have hs1 : (decB (n / 10)).size ≤ 21 := by
      rw [decB_size]
      have := Lib.nDigits_le20 (n / 10) (by omega)
      omega
    have hs2 : (figT n).size = 1 := rfl
    clear ih e10
    go_enter Tryd.func6, Tryd.ntmps6
    generalize figT n = s1 at hcv hfin hs2
    generalize decB (n / 10) = s2 at hcall hfin hs1
    go_wp2_with fail
    have e5 : ¬ 9223372036854775807 < s2.size + 1 := by omega
    have e1 : IntKind.i64.wrap ((n : Int) / 10) = (n : Int) / 10 := wrapD (by omega) (by omega)
    have e2 : (n : Int).tmod 10 = (n : Int) % 10 := Int.tmod_eq_emod_of_nonneg (by omega)
    have e3 : IntKind.i64.wrap (48 + (n : Int) % 10) = 48 + (n : Int) % 10 := wrapD (by omega) (by omega)
    have e4 : IntKind.u8.wrap (48 + (n : Int) % 10) = 48 + (n : Int) % 10 := wrapU (by omega) (by omega)
    refine wp_region_held_drew (S := (fun _ => True)) (by kernel_rfl) (trivial) (fun hHeld => ?_)
    refine wpAnyH_take (i := 0) (oi := ⟨some 18, .move (.tmp 0), 3, _, #[], none⟩) (v := ?_) rfl (by kernel_rfl) (by kernel_rfl) (by kernel_rfl) (fun _ _ _ h => h) (Or.inl ⟨by rfl, ?yyA0⟩) hHeld ?rrA0
    case yyA0 => (intro w hSw; (try dsimp only at hSw); go_simp; first | done | with_reducible rfl)
    try simp only [Act.put, putA, putB, putC]
    refine wpAnyH_take (i := 1) (oi := ⟨some 19, .binOp .quo 3 (.tmp 18) (.const (.int .i64 10)) 3, 3, _, #[⟨0, .data⟩], none⟩) (v := ?_) rfl (by kernel_rfl) (by kernel_rfl) (by kernel_rfl) (fun _ _ _ h => h) (Or.inl ⟨by rfl, ?yyA1⟩) hHeld ?rrA1
    case yyA1 => (intro w hSw; (try dsimp only at hSw); go_simp; first | done | with_reducible rfl)
    try simp only [Act.put, putA, putB, putC]
    refine wpAnyH_take (i := 3) (oi := ⟨some 21, .move (.tmp 0), 3, _, #[], none⟩) (v := ?_) rfl (by kernel_rfl) (by kernel_rfl) (by kernel_rfl) (fun _ _ _ h => h) (Or.inl ⟨by rfl, ?yyA3⟩) hHeld ?rrA3
    case yyA3 => (intro w hSw; (try dsimp only at hSw); go_simp; first | done | with_reducible rfl)
    try simp only [Act.put, putA, putB, putC]
    refine wpAnyH_take (i := 4) (oi := ⟨some 22, .binOp .rem 3 (.tmp 21) (.const (.int .i64 10)) 3, 3, _, #[⟨3, .data⟩], none⟩) (v := ?_) rfl (by kernel_rfl) (by kernel_rfl) (by kernel_rfl) (fun _ _ _ h => h) (Or.inl ⟨by rfl, ?yyA4⟩) hHeld ?rrA4
    case yyA4 => (intro w hSw; (try dsimp only at hSw); go_simp; first | done | with_reducible rfl)
    try simp only [Act.put, putA, putB, putC]
    refine wpAnyH_take (i := 5) (oi := ⟨some 23, .binOp .add 3 (.const (.int .i64 48)) (.tmp 22) 3, 3, _, #[⟨4, .data⟩], none⟩) (v := ?_) rfl (by kernel_rfl) (by kernel_rfl) (by kernel_rfl) (fun _ _ _ h => h) (Or.inl ⟨by rfl, ?yyA5⟩) hHeld ?rrA5
    case yyA5 => (intro w hSw; (try dsimp only at hSw); go_simp; first | done | with_reducible rfl)
    try simp only [Act.put, putA, putB, putC]
    refine wpAnyH_take (i := 6) (oi := ⟨some 24, .convert 3 5 (.tmp 23), 5, _, #[⟨5, .data⟩], none⟩) (v := ?_) rfl (by kernel_rfl) (by kernel_rfl) (by kernel_rfl) (fun _ _ _ h => h) (Or.inl ⟨by rfl, ?yyA6⟩) hHeld ?rrA6
    case yyA6 => (intro w hSw; (try dsimp only at hSw); go_simp; first | done | with_reducible rfl)
    try simp only [Act.put, putA, putB, putC]
    have hE0 : Ext w w.drew := (Ext.refl _).drew
    generalize w.drew = W0 at *
    refine wpAnyH_ready (rs := [2, 7]) (by kernel_rfl) (by simp) ?_
    refine AllReadyH.cons (o := ⟨some 20, .call { callee := .value (.func 6), args := #[.tmp 19], argTypes := #[3] }, 9, _, #[⟨1, .data⟩], none⟩) rfl (fun K hK => ?_) (AllReadyH.cons (o := ⟨some 25, .buildSlice 25 1 #[(0, .tmp 24)], 25, _, #[⟨6, .data⟩], none⟩) rfl (fun K hK => ?_) (AllReadyH.nil))
    · go_simp
      refine (hcall _).mono ?_
      rintro e w1 ⟨rfl, hE1⟩
      go_wp2_with fail
      refine hK.out _ _ trivial (fun hHeld => ?_)
      clear hK K
      try simp only [Act.put, putA, putB, putC]
      refine wpAnyH_ready (rs := [7]) (by kernel_rfl) (by simp) ?_
      refine AllReadyH.cons (o := ⟨some 25, .buildSlice 25 1 #[(0, .tmp 24)], 25, _, #[⟨6, .data⟩], none⟩) rfl (fun K hK => ?_) (AllReadyH.nil)
      go_simp
      refine hK.out _ _ trivial (fun hHeld => ?_)
      clear hK K
      try simp only [Act.put, putA, putB, putC]
      refine wpAnyH_ready (rs := [8]) (by kernel_rfl) (by simp) ?_
      refine AllReadyH.cons (o := ⟨some 26, .convert 25 9 (.tmp 25), 9, _, #[⟨7, .data⟩], none⟩) rfl (fun K hK => ?_) (AllReadyH.nil)
      have q := hcv (w1.alloc (.cells #[.int .u8 (48 + (n : Int) % 10)] 5)) w1.heap.size (by simp)
      go_simp
      refine hK.out _ _ trivial (fun hHeld => ?_)
      clear hK K
      try simp only [Act.put, putA, putB, putC]
      refine wpAnyH_ready (rs := [9]) (by kernel_rfl) (by simp) ?_
      refine AllReadyH.cons (o := ⟨some 27, .binOp .add 9 (.tmp 20) (.tmp 26) 9, 9, _, #[⟨2, .data⟩, ⟨8, .data⟩], none⟩) rfl (fun K hK => ?_) (AllReadyH.nil)
      go_simp
      refine hK.out _ _ trivial (fun hHeld => ?_)
      clear hK K
      try simp only [Act.put, putA, putB, putC]
      refine wpAnyH_ready (rs := [10]) (by kernel_rfl) (by simp) ?_
      refine AllReadyH.cons (o := ⟨some 2, .assign (.tmp 27), 9, _, #[⟨9, .data⟩, ⟨2, .chain⟩, ⟨0, .phase⟩, ⟨1, .phase⟩, ⟨2, .phase⟩, ⟨3, .phase⟩, ⟨4, .phase⟩, ⟨5, .phase⟩, ⟨6, .phase⟩, ⟨7, .phase⟩, ⟨8, .phase⟩, ⟨9, .phase⟩], none⟩) rfl (fun K hK => ?_) (AllReadyH.nil)
      go_simp
      refine hK.out _ _ trivial (fun hHeld => ?_)
      clear hK K
      try simp only [Act.put, putA, putB, putC]
      refine wpAnyH_done (by kernel_rfl) ?_ _
      go_wp2
      go_ret
      exact ⟨ret_str hfin.out.symm, (hE0.trans hE1).alloc _⟩
    · go_simp
      refine hK.out _ _ trivial (fun hHeld => ?_)
      clear hK K
      try simp only [Act.put, putA, putB, putC]
      refine wpAnyH_ready (rs := [2, 8]) (by kernel_rfl) (by simp) ?_
      refine AllReadyH.cons (o := ⟨some 20, .call { callee := .value (.func 6), args := #[.tmp 19], argTypes := #[3] }, 9, _, #[⟨1, .data⟩], none⟩) rfl (fun K hK => ?_) (AllReadyH.cons (o := ⟨some 26, .convert 25 9 (.tmp 25), 9, _, #[⟨7, .data⟩], none⟩) rfl (fun K hK => ?_) (AllReadyH.nil))
      · go_simp
        refine (hcall _).mono ?_
        rintro e w1 ⟨rfl, hE1⟩
        have q := hcv w1 W0.heap.size (by rw [hE1.cell (by simp)]; simp)
        go_wp2_with fail
        refine hK.out _ _ trivial (fun hHeld => ?_)
        clear hK K
        try simp only [Act.put, putA, putB, putC]
        refine wpAnyH_ready (rs := [8]) (by kernel_rfl) (by simp) ?_
        refine AllReadyH.cons (o := ⟨some 26, .convert 25 9 (.tmp 25), 9, _, #[⟨7, .data⟩], none⟩) rfl (fun K hK => ?_) (AllReadyH.nil)
        go_simp
        refine hK.out _ _ trivial (fun hHeld => ?_)
        clear hK K
        try simp only [Act.put, putA, putB, putC]
        refine wpAnyH_ready (rs := [9]) (by kernel_rfl) (by simp) ?_
        refine AllReadyH.cons (o := ⟨some 27, .binOp .add 9 (.tmp 20) (.tmp 26) 9, 9, _, #[⟨2, .data⟩, ⟨8, .data⟩], none⟩) rfl (fun K hK => ?_) (AllReadyH.nil)
        go_simp
        refine hK.out _ _ trivial (fun hHeld => ?_)
        clear hK K
        try simp only [Act.put, putA, putB, putC]
        refine wpAnyH_ready (rs := [10]) (by kernel_rfl) (by simp) ?_
        refine AllReadyH.cons (o := ⟨some 2, .assign (.tmp 27), 9, _, #[⟨9, .data⟩, ⟨2, .chain⟩, ⟨0, .phase⟩, ⟨1, .phase⟩, ⟨2, .phase⟩, ⟨3, .phase⟩, ⟨4, .phase⟩, ⟨5, .phase⟩, ⟨6, .phase⟩, ⟨7, .phase⟩, ⟨8, .phase⟩, ⟨9, .phase⟩], none⟩) rfl (fun K hK => ?_) (AllReadyH.nil)
        go_simp
        refine hK.out _ _ trivial (fun hHeld => ?_)
        clear hK K
        try simp only [Act.put, putA, putB, putC]
        refine wpAnyH_done (by kernel_rfl) ?_ _
        go_wp2
        go_ret
        exact ⟨ret_str hfin.out.symm, (hE0.alloc _).trans hE1⟩
      · have q := hcv (W0.alloc (.cells #[.int .u8 (48 + (n : Int) % 10)] 5)) W0.heap.size (by simp)
        go_simp
        refine hK.out _ _ trivial (fun hHeld => ?_)
        clear hK K
        try simp only [Act.put, putA, putB, putC]
        refine wpAnyH_ready (rs := [2]) (by kernel_rfl) (by simp) ?_
        refine AllReadyH.cons (o := ⟨some 20, .call { callee := .value (.func 6), args := #[.tmp 19], argTypes := #[3] }, 9, _, #[⟨1, .data⟩], none⟩) rfl (fun K hK => ?_) (AllReadyH.nil)
        go_simp
        refine (hcall _).mono ?_
        rintro e w1 ⟨rfl, hE1⟩
        go_wp2_with fail
        refine hK.out _ _ trivial (fun hHeld => ?_)
        clear hK K
        try simp only [Act.put, putA, putB, putC]
        refine wpAnyH_ready (rs := [9]) (by kernel_rfl) (by simp) ?_
        refine AllReadyH.cons (o := ⟨some 27, .binOp .add 9 (.tmp 20) (.tmp 26) 9, 9, _, #[⟨2, .data⟩, ⟨8, .data⟩], none⟩) rfl (fun K hK => ?_) (AllReadyH.nil)
        go_simp
        refine hK.out _ _ trivial (fun hHeld => ?_)
        clear hK K
        try simp only [Act.put, putA, putB, putC]
        refine wpAnyH_ready (rs := [10]) (by kernel_rfl) (by simp) ?_
        refine AllReadyH.cons (o := ⟨some 2, .assign (.tmp 27), 9, _, #[⟨9, .data⟩, ⟨2, .chain⟩, ⟨0, .phase⟩, ⟨1, .phase⟩, ⟨2, .phase⟩, ⟨3, .phase⟩, ⟨4, .phase⟩, ⟨5, .phase⟩, ⟨6, .phase⟩, ⟨7, .phase⟩, ⟨8, .phase⟩, ⟨9, .phase⟩], none⟩) rfl (fun K hK => ?_) (AllReadyH.nil)
        go_simp
        refine hK.out _ _ trivial (fun hHeld => ?_)
        clear hK K
        try simp only [Act.put, putA, putB, putC]
        refine wpAnyH_done (by kernel_rfl) ?_ _
        go_wp2
        go_ret
        exact ⟨ret_str hfin.out.symm, (hE0.alloc _).trans hE1⟩
end Go.Proofs.YtiofojdiijllaaaDoor
