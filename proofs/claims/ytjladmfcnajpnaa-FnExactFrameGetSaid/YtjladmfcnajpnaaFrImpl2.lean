/- What impl.FrameGet answers: byte by byte. -/
import Derived.Test.YtjladmfcnajpnaaFrImpl
namespace Go.Proofs.Ytjladmfcnajpnaa
open Go.RowKit Go.Deep

/-- Where the reader stands, at the byte j of the text. -/
inductive FrSt (s : ByteArray) (m B : Nat) (j : Nat) (rd : Value) (W : World) : Prop
  | first (hj : j = 0) (hr : rd = firstF B) (hF : FrAt W B 0 0 false)
  | more (h1 : 1 ≤ j) (h4 : j ≤ 4) (hm : j ≤ m) (h48 : chr s 0 ≠ 48) (hn : numV s j ≤ 6000) (hr : rd = moreF B) (hF : FrAt W B (numV s j) 0 false)
  | colon (hj : j = 1) (hm : 1 ≤ m) (h48 : chr s 0 = 48) (hr : rd = colonF B) (hF : FrAt W B 0 0 false)
  | body (q : Nat) (hq : headN s m = q) (h6 : q ≤ 6000) (hm : 0 < m) (hs : m < s.size) (hc : chr s m = 58) (h1 : m < j) (h2 : j ≤ m + q + 1) (hr : rd = bodyF B) (hF : FrAt W B q ((j : Int) - m - 1) false)

theorem head_plain {s : ByteArray} {m : Nat} (h0 : 0 < m) (h : ¬ (1 < m ∧ chr s 0 = 48)) : headN s m = numV s m := by unfold headN; rw [if_neg (by omega)]

theorem funcEq0 (W : World) : (binOp .eql 30 .nilFunc .nilFunc).run Try.prog W = .ok (.bool true) W := rfl
theorem funcEq1 (f : Fn) (a c : Array Value) (W : World) : (binOp .eql 30 (.func f a c) .nilFunc).run Try.prog W = .ok (.bool false) W := rfl

set_option maxHeartbeats 4000000 in
theorem implFrameGet_any (s : ByteArray) (m : Nat) (hm : IsK s m) (w : World) (hs : s.size ≤ 1048576) : Calls Try.prog 5 #[.string s] w fun e w' => e = .returned (.tuple #[.string (ansK s m).1, .int .i64 (ansK s m).2]) ∧ Ext w w' := by
  have hmf := hmf
  have hq0 := funcEq0
  have hq1 := funcEq1
  have hle := hm.le
  go_enter Try.func5, Try.ntmps5
  go_wp2
  go_loopw [5, 6] (fun rd at' wr => ∃ j : Nat, at' = .int .i64 j ∧ j ≤ s.size ∧ Ext w wr ∧ FrSt s m w.heap.size j rd wr) (fun _ at' _ => s.size - (intOf at').toNat)
  case atStart => exact ⟨0, rfl, Nat.zero_le _, (Ext.refl _).alloc _, .first rfl rfl (FrAt.new _ _)⟩
  case round =>
    obtain ⟨j, rfl, hj, hE, hst⟩ := hrel
    by_cases hlt : j < s.size
    · have hcj : chr s j = (s[j].toNat : Int) := chr_eq s j hlt
      cases hst with
      | first hj0 hr hF =>
        obtain rfl : _ = Value.func (.func 7) #[.pointer (some ⟨w.heap.size, 0, none⟩)] #[] := hr
        subst hj0
        have x2 := hF.h2
        cases hf : figB (s[0].toNat : Int)
        · have hm0 : m = 0 := isK_no hm (fun j h => by omega) (by omega) (by omega) (.inr (.inr (by rw [hcj]; exact hf)))
          have hfin : Hid (ansK s m = (ByteArray.empty, -1)) := ans_colon (by omega) (.inr hm0)
          clear hm0 hcj
          go_wp2_with (go_at_call 7; refine (figure_no _ _ hf _).mono ?_; rintro e w1 ⟨rfl, rfl⟩)
          go_ret2
          exact ⟨ret_strint hfin.out, hE⟩
        · have hm1 : 1 ≤ m := by
            rcases Nat.eq_zero_or_pos m with h | h
            · subst h
              rcases hm.no with h | h | h
              · cases h
              · omega
              · rw [hcj, hf] at h; cases h
            · exact h
          by_cases h48x : (s[0].toNat : Int) = 48
          · have hA : Hid (chr s 0 = 48) := by show _ = _; rw [hcj]; exact h48x
            have h48 : Hid ((s[0].toNat : Int) = 48) := h48x
            clear hcj h48x
            have hcall : Calls Try.prog 7 #[.pointer (some ⟨w.heap.size, 0, none⟩), .int .u8 (s[0].toNat : Int)] _ fun e w1 => e = .returned (Value.func (.func 9) #[.pointer (some ⟨w.heap.size, 0, none⟩)] #[]) ∧ FrAt w1 w.heap.size 0 0 false ∧ Ext w w1 := (figure_0 _ _ h48.out _ hF.h0 (hF.fz 0)).mono (by
              rintro e w1 ⟨rfl, hw1⟩
              refine ⟨rfl, ?_, ?_⟩
              · rw [hw1]; exact hF.set0 0
              · rw [hw1]; exact hE.setCell (Nat.le_refl _) _)
            go_wp2_with (go_at_call 7; refine hcall.mono ?_; rintro e w1 ⟨rfl, F1, E1⟩; have y2 := F1.h2)
            go_round
            case rel => exact ⟨1, by go_num, by omega, E1, .colon rfl hm1 hA.out rfl F1⟩
            case measure => simp [intOf]; omega
          · have hA : Hid (chr s 0 ≠ 48) := by show _ ≠ _; rw [hcj]; exact h48x
            have hB : Hid (numV s 1 = (s[0].toNat : Int) - 48) := by show _ = _; simp only [numV]; rw [hcj]; omega
            have hC := (figB_iff _).1 hf
            clear hcj
            have hcall : Calls Try.prog 7 #[.pointer (some ⟨w.heap.size, 0, none⟩), .int .u8 (s[0].toNat : Int)] _ fun e w1 => e = .returned (Value.func (.func 10) #[.pointer (some ⟨w.heap.size, 0, none⟩)] #[]) ∧ FrAt w1 w.heap.size ((s[0].toNat : Int) - 48) 0 false ∧ Ext w w1 := (figure_more _ _ hf h48x _ hF.h0 (hF.fz 0)).mono (by
              rintro e w1 ⟨rfl, hw1⟩
              refine ⟨rfl, ?_, ?_⟩
              · rw [hw1]; exact hF.set0 _
              · rw [hw1]; exact hE.setCell (Nat.le_refl _) _)
            go_wp2_with (go_at_call 7; refine hcall.mono ?_; rintro e w1 ⟨rfl, F1, E1⟩; have y2 := F1.h2)
            go_round
            case rel => exact ⟨1, by go_num, by omega, E1, .more (Nat.le_refl _) (by omega) hm1 hA.out (by rw [hB.out]; omega) rfl (by rw [hB.out]; exact F1)⟩
            case measure => simp [intOf]; omega
      | more h1 h4 hjm h48 hn hr hF =>
        obtain rfl : _ = Value.func (.func 10) #[.pointer (some ⟨w.heap.size, 0, none⟩)] #[] := hr
        have hfs : Figs s j := fun i hi => hm.fig i (by omega)
        have hnn : 0 ≤ numV s j := numV_nonneg hfs j (Nat.le_refl _)
        have hplain : ∀ k, 0 < k → k = m → headN s k = numV s k := fun k h0 _ => head_plain h0 fun h => h48 h.2
        cases hf : figB (s[j].toNat : Int)
        · have hmj : m = j := isK_no hm hfs (by omega) (by omega) (.inr (.inr (by rw [hcj]; exact hf)))
          have hhd : headN s m = numV s j := by rw [hplain m (by omega) rfl, hmj]
          by_cases hc : (s[j].toNat : Int) = 58
          · obtain ⟨q, hq⟩ : ∃ q : Nat, numV s j = q := ⟨(numV s j).toNat, by omega⟩
            have hA : Hid (colonR w.heap.size (s[j].toNat : Int) = Value.func (.func 11) #[.pointer (some ⟨w.heap.size, 0, none⟩)] #[]) := if_pos hc
            have hB : Hid (headN s m = q ∧ q ≤ 6000 ∧ 0 < m ∧ m < s.size ∧ chr s m = 58 ∧ m < j + 1 ∧ j + 1 ≤ m + q + 1 ∧ ((0 : Int) = ((j + 1 : Nat) : Int) - m - 1)) := ⟨by rw [hhd, hq], by omega, by omega, by omega, by rw [hmj, hcj]; exact hc, by omega, by omega, by omega⟩
            rw [hq] at hF
            clear hq hhd hplain hnn hn hc hcj hmj hjm
            have x2 := hF.h2
            go_wp2_with (go_at_call 10; refine (more_no _ _ hf _).mono ?_; rintro e w1 ⟨rfl, rfl⟩; rw [hA.out])
            go_round
            case rel =>
              obtain ⟨b1, b2, b3, b4, b5, b6, b7, b8⟩ := hB.out
              exact ⟨j + 1, by go_num, by omega, hE, .body q b1 b2 b3 b4 b5 b6 b7 rfl (by rw [← b8]; exact hF)⟩
            case measure => simp [intOf]; omega
          · have hA : Hid (colonR w.heap.size (s[j].toNat : Int) = .nilFunc) := if_neg hc
            have hfin : Hid (ansK s m = (ByteArray.empty, -1)) := ans_colon (by omega) (.inl (by rw [hmj, hcj]; exact hc))
            generalize numV s j = x0 at *
            clear hhd hplain hnn hn hc hcj hmj hjm
            have x2 := hF.h2
            go_wp2_with (go_at_call 10; refine (more_no _ _ hf _).mono ?_; rintro e w1 ⟨rfl, rfl⟩; rw [hA.out])
            go_ret2
            exact ⟨ret_strint hfin.out, hE⟩
        · have hjm1 : j + 1 ≤ m := by
            rcases Nat.lt_or_ge j m with h | h
            · exact h
            · exfalso
              have e : m = j := by omega
              rcases hm.no with h | h | h
              · omega
              · omega
              · rw [e, hcj, hf] at h; cases h
          have hfs1 : Figs s (j + 1) := fun i hi => hm.fig i (by omega)
          have hst : numV s (j + 1) = numV s j * 10 + ((s[j].toNat : Int) - 48) := by simp only [numV]; rw [hcj]
          by_cases hb : 6000 < numV s j * 10 + ((s[j].toNat : Int) - 48)
          · have hA : Hid (moreR w.heap.size (numV s j * 10 + ((s[j].toNat : Int) - 48)) = .nilFunc) := if_pos hb
            have hfin : Hid (ansK s m = (ByteArray.empty, -1)) := by
              refine ans_big (by omega) (.inr ?_)
              rw [hplain m (by omega) rfl]
              have := numV_mono (i := j + 1) (fun i hi => hm.fig i hi : Figs s m) m hjm1 (Nat.le_refl _)
              omega
            generalize numV s j = x0 at *
            clear hst hplain hb hcj hjm hfs1 hfs
            have hcall : Calls Try.prog 10 #[.pointer (some ⟨w.heap.size, 0, none⟩), .int .u8 (s[j].toNat : Int)] _ fun e w1 => e = .returned (Value.nilFunc) ∧ FrAt w1 w.heap.size (x0 * 10 + ((s[j].toNat : Int) - 48)) 0 false ∧ Ext w w1 := (more_yes _ _ hf _ _ ⟨hnn, hn⟩ hF.h0 (hF.fz 0)).mono (by
              rintro e w1 ⟨rfl, hw1⟩
              refine ⟨by rw [hA.out], ?_, ?_⟩
              · rw [hw1]; exact hF.set0 _
              · rw [hw1]; exact hE.setCell (Nat.le_refl _) _)
            go_wp2_with (go_at_call 10; refine hcall.mono ?_; rintro e w1 ⟨rfl, F1, E1⟩; have y2 := F1.h2)
            go_ret2
            exact ⟨ret_strint hfin.out, E1⟩
          · have hA : Hid (moreR w.heap.size (numV s j * 10 + ((s[j].toNat : Int) - 48)) = Value.func (.func 10) #[.pointer (some ⟨w.heap.size, 0, none⟩)] #[]) := if_neg hb
            have hj5 : j + 1 ≤ 4 := by
              rcases Nat.lt_or_ge j 4 with h | h
              · exact h
              · exfalso
                have e : j = 4 := by omega
                subst e
                have := numV_five hfs1 (Nat.le_refl _) h48
                rw [hst] at this
                omega
            have hB : Hid (numV s (j + 1) = numV s j * 10 + ((s[j].toNat : Int) - 48) ∧ numV s (j + 1) ≤ 6000) := ⟨hst, by omega⟩
            generalize numV s j = x0 at *
            clear hst hplain hb hcj hfs1 hfs
            have hcall : Calls Try.prog 10 #[.pointer (some ⟨w.heap.size, 0, none⟩), .int .u8 (s[j].toNat : Int)] _ fun e w1 => e = .returned (Value.func (.func 10) #[.pointer (some ⟨w.heap.size, 0, none⟩)] #[]) ∧ FrAt w1 w.heap.size (x0 * 10 + ((s[j].toNat : Int) - 48)) 0 false ∧ Ext w w1 := (more_yes _ _ hf _ _ ⟨hnn, hn⟩ hF.h0 (hF.fz 0)).mono (by
              rintro e w1 ⟨rfl, hw1⟩
              refine ⟨by rw [hA.out], ?_, ?_⟩
              · rw [hw1]; exact hF.set0 _
              · rw [hw1]; exact hE.setCell (Nat.le_refl _) _)
            go_wp2_with (go_at_call 10; refine hcall.mono ?_; rintro e w1 ⟨rfl, F1, E1⟩; have y2 := F1.h2)
            go_round
            case rel => exact ⟨j + 1, by go_num, by omega, E1, .more (by omega) hj5 hjm1 h48 hB.out.2 rfl (by rw [hB.out.1]; exact F1)⟩
            case measure => simp [intOf]; omega
      | colon hj1 hm1 h48 hr hF =>
        obtain rfl : _ = Value.func (.func 9) #[.pointer (some ⟨w.heap.size, 0, none⟩)] #[] := hr
        have x2 := hF.h2
        by_cases hc : (s[j].toNat : Int) = 58
        · have hmj : m = 1 := by
            refine isK_no hm (fun i hi => hm.fig i (by omega)) (by omega) (by omega) (.inr (.inr ?_))
            rw [← hj1, hcj, hc]; rfl
          have hhd : headN s m = (0 : Nat) := by rw [head_plain (by omega) (by omega), hmj]; simp only [numV]; rw [h48]; rfl
          have hA : Hid (colonR w.heap.size (s[j].toNat : Int) = Value.func (.func 11) #[.pointer (some ⟨w.heap.size, 0, none⟩)] #[]) := if_pos hc
          have hB : Hid (headN s m = (0 : Nat) ∧ (0 : Nat) ≤ 6000 ∧ 0 < m ∧ m < s.size ∧ chr s m = 58 ∧ m < j + 1 ∧ j + 1 ≤ m + 0 + 1 ∧ ((0 : Int) = ((j + 1 : Nat) : Int) - m - 1)) := ⟨hhd, by omega, by omega, by omega, by rw [hmj, ← hj1, hcj]; exact hc, by omega, by omega, by omega⟩
          clear hhd hmj hc hcj hj1
          go_wp2_with (go_at_call 9; refine (colon_any _ _ _).mono ?_; rintro e w1 ⟨rfl, rfl⟩; rw [hA.out])
          go_round
          case rel =>
            obtain ⟨b1, b2, b3, b4, b5, b6, b7, b8⟩ := hB.out
            exact ⟨j + 1, by go_num, by omega, hE, .body 0 b1 b2 b3 b4 b5 b6 b7 rfl (by rw [← b8]; exact hF)⟩
          case measure => simp [intOf]; omega
        · have hA : Hid (colonR w.heap.size (s[j].toNat : Int) = .nilFunc) := if_neg hc
          have hfin : Hid (ansK s m = (ByteArray.empty, -1)) := by
            by_cases h1 : m = 1
            · exact ans_colon (by omega) (.inl (by rw [h1, ← hj1, hcj]; exact hc))
            · refine ans_big (by omega) (.inl ?_)
              unfold headN; rw [if_pos (.inr ⟨by omega, h48⟩)]; decide
          clear hc hcj hj1
          go_wp2_with (go_at_call 9; refine (colon_any _ _ _).mono ?_; rintro e w1 ⟨rfl, rfl⟩; rw [hA.out])
          go_ret2
          exact ⟨ret_strint hfin.out, hE⟩
      | body q hq h6 hm0 hms hc h1 h2 hr hF =>
        obtain rfl : _ = Value.func (.func 11) #[.pointer (some ⟨w.heap.size, 0, none⟩)] #[] := hr
        have hcc : ¬ (chr s m ≠ 58 ∨ m = 0) := by omega
        have hbig : ¬ (headN s m < 0 ∨ 6000 < headN s m) := by omega
        by_cases hl : j < m + q + 1
        · have hx : 0 ≤ (j : Int) - m - 1 ∧ (j : Int) - m - 1 < q ∧ (q : Int) ≤ 6000 := by omega
          have hB : Hid (headN s m = q ∧ chr s m = 58) := ⟨hq, hc⟩
          clear hq hbig hcc hc hcj
          have hcall : Calls Try.prog 11 #[.pointer (some ⟨w.heap.size, 0, none⟩), .int .u8 (s[j].toNat : Int)] _ fun e w1 => e = .returned (Value.func (.func 11) #[.pointer (some ⟨w.heap.size, 0, none⟩)] #[]) ∧ FrAt w1 w.heap.size q ((j : Int) - m - 1 + 1) false ∧ Ext w w1 := (body_less _ _ _ _ _ hx hF.h0 hF.h1 (hF.fz 1)).mono (by
            rintro e w1 ⟨rfl, hw1⟩
            refine ⟨rfl, ?_, ?_⟩
            · rw [hw1]; exact hF.drew.set1 _
            · rw [hw1]; exact hE.drew.setCell (Nat.le_refl _) _)
          go_wp2_with (go_at_call 11; refine hcall.mono ?_; rintro e w1 ⟨rfl, F1, E1⟩; have y2 := F1.h2)
          go_round
          case rel => exact ⟨j + 1, by go_num, by omega, E1, .body q hB.out.1 h6 hm0 hms hB.out.2 (by omega) (by omega) rfl (by rw [show ((j + 1 : Nat) : Int) - m - 1 = (j : Int) - m - 1 + 1 by omega]; exact F1)⟩
          case measure => simp [intOf]; omega
        · have hj2 : j = m + q + 1 := by omega
          have hx : (j : Int) - m - 1 = q := by omega
          rw [hx] at hF
          by_cases hn : (s[j].toNat : Int) = 10
          · have hfin : Hid (ansK s m = (s.extract (m + 1) (m + q + 1), (j : Int) + 1)) := by
              show _ = _
              rw [ans_body hbig (by omega) hcc (by rw [hq]; show ¬ s.size < m + q + 2; omega) (by rw [hq]; show ¬ chr s (m + q + 1) ≠ 10; rw [← hj2, hcj]; omega), hq]
              simp only [Int.toNat_natCast, Prod.mk.injEq, true_and]
              omega
            have hsl : ∀ W : World, (Instr.slice 9 (.string s) (some (.int .i64 ((j : Int) - (q : Int)))) (some (.int .i64 (j : Int))) none).run Try.prog W = .ok (.string (s.extract (m + 1) (m + q + 1))) W := fun W => by
              rw [run_slice_string W 9 s .i64 .i64 _ _ Try.underlying9 (by omega) (by omega) (by omega)]
              congr 2
              congr 1 <;> omega
            have hn10 : ((s[j].toNat : Int) == 10) = true := by simp [hn]
            clear hq hbig hcc hc hcj hx hj2 hn h2 hl
            have hcall : Calls Try.prog 11 #[.pointer (some ⟨w.heap.size, 0, none⟩), .int .u8 (s[j].toNat : Int)] _ fun e w1 => e = .returned (Value.nilFunc) ∧ FrAt w1 w.heap.size q q true ∧ Ext w w1 := (body_end _ _ _ _ _ hF.h0 hF.h1 hF.h2 (hF.fz 2)).mono (by
              rintro e w1 ⟨rfl, hw1⟩
              rw [hn10] at hw1
              refine ⟨rfl, ?_, ?_⟩
              · rw [hw1]; exact hF.drew.set2 _
              · rw [hw1]; exact hE.drew.setCell (Nat.le_refl _) _)
            go_wp2_with (go_at_call 11; refine hcall.mono ?_; rintro e w1 ⟨rfl, F1, E1⟩; have y2 := F1.h2; have y0 := F1.h0)
            go_ret2
            exact ⟨ret_strint hfin.out, E1⟩
          · have hfin : Hid (ansK s m = (ByteArray.empty, -1)) := ans_end hbig (by omega) hcc (by rw [hq]; show ¬ s.size < m + q + 2; omega) (by rw [hq]; show chr s (m + q + 1) ≠ 10; rw [← hj2, hcj]; exact hn)
            have hn10 : ((s[j].toNat : Int) == 10) = false := by simp [hn]
            clear hq hbig hcc hc hcj hx hj2 hn h2 hl
            have hcall : Calls Try.prog 11 #[.pointer (some ⟨w.heap.size, 0, none⟩), .int .u8 (s[j].toNat : Int)] _ fun e w1 => e = .returned (Value.nilFunc) ∧ FrAt w1 w.heap.size q q false ∧ Ext w w1 := (body_end _ _ _ _ _ hF.h0 hF.h1 hF.h2 (hF.fz 2)).mono (by
              rintro e w1 ⟨rfl, hw1⟩
              rw [hn10] at hw1
              refine ⟨rfl, ?_, ?_⟩
              · rw [hw1]; exact hF.drew.set2 _
              · rw [hw1]; exact hE.drew.setCell (Nat.le_refl _) _)
            go_wp2_with (go_at_call 11; refine hcall.mono ?_; rintro e w1 ⟨rfl, F1, E1⟩; have y2 := F1.h2)
            go_ret2
            exact ⟨ret_strint hfin.out, E1⟩
    · have hfin : Hid (ansK s m = (ByteArray.empty, 0)) := by
        have hjs : j = s.size := by omega
        cases hst with
        | first hj0 hr hF => exact ans_all (by have := hm.le; omega) (by omega)
        | more h1 h4 hjm h48 hn hr hF =>
          have e : m = j := by omega
          refine ans_all (fun h => ?_) (by omega)
          have hnn := numV_nonneg (fun i hi => hm.fig i hi : Figs s m) m (Nat.le_refl _)
          rw [head_plain h.1 (fun q => h48 q.2)] at h
          rw [← e] at hn
          omega
        | colon hj1 hm1 h48 hr hF =>
          have e : m = 1 := by omega
          have hhd : headN s m = 0 := by rw [head_plain (by omega) (by omega), e]; simp only [numV]; rw [h48]; rfl
          exact ans_all (by omega) (by omega)
        | body q hq h6 hm0 hms hc h1 h2 hr hF => exact ans_less (by omega) (by omega) (by omega) (by rw [hq]; show s.size < m + q + 2; omega)
      clear hst
      go_wp2
      go_ret2
      exact ⟨ret_strint hfin.out, hE⟩
end Go.Proofs.Ytjladmfcnajpnaa
