/- What spec.l2With and spec.NodesWith answer. -/
import Derived.Test.YtpmcilgfijhhlaaGreatWithSpec
namespace Go.Proofs.YtpmcilgfijhhlaaGreat
open Go.RowKit Go.Deep

theorem Tryz.infoN : (Tryz.prog.info? 3).map (fun i => (i.zero, i.size, i.bytes)) = some (some (.int .i64 0), 1, 8) := by kernel_rfl

set_option maxRecDepth 100000 in
set_option maxHeartbeats 4000000 in
theorem l2With_any (S : Nat → Prop) (d0 : D) (c0 c1 : Value) (x2 x3 : Int) (s : ByteArray) (w : World) (H0 : Has d0 (.list 4)) (h0 : DIn S w d0 c0) (hc1 : ∃ a l c, c1 = .slice a l c) (hl : d0.len! ≤ 12) :
    Calls Tryz.prog 16 #[.agg #[c0, c1, .int .i64 x2, .int .i64 x3], .string s] w fun e w' => ∃ a l c, e = .returned (.slice a l c) ∧ DIn (New w.heap.size w'.heap.size) w' (intsD (withIds d0.at! s d0.len!)) (.slice a l c) ∧ Ext w w' := by
  obtain ⟨a1, l1, k1, rfl⟩ := hc1
  obtain ⟨len, f, rfl, HRa⟩ := H0.list
  change DIn S w (.list 3 len f) c0 at h0
  change len ≤ 12 at hl
  change Calls _ _ _ _ fun e w' => ∃ a l c, e = .returned (.slice a l c) ∧ DIn (New w.heap.size w'.heap.size) w' (intsD (withIds f s len)) (.slice a l c) ∧ Ext w w'
  obtain ⟨a, cap, rfl, hm⟩ := h0.list_eq
  clear hm
  obtain ⟨i0, hi, hz0, hz1, hz2⟩ := info_parts Tryz.infoN
  go_enter Tryz.func16, Tryz.ntmps16
  go_wp2
  generalize hW0 : (w.alloc _).alloc _ = W0
  have hE0 : Ext w W0 := by subst hW0; exact ((Ext.refl _).alloc _).alloc _
  have hbx : W0.cell? ⟨w.heap.size, 0, none⟩ = some (.slice a len cap) := by
    subst hW0; exact box_cell ((Ext.refl _).alloc _) 0 _ rfl
  have hG0 : GSt W0 (w.heap.size + 1) 3 1 (intsF []) 0 (.slice (some ⟨w.heap.size + 1, 0, none⟩) 0 0) [] := by
    subst hW0
    have := GSt.made (w.alloc (.cells #[.slice a len cap, .slice a1 l1 k1, .int .i64 x2, .int .i64 x3] 32)) (w.heap.size + 1) 3 1 (intsF []) (by simp)
    simpa using this
  have hz : w.heap.size + 2 ≤ W0.heap.size := by subst hW0; simp
  clear hW0
  go_loopw [5, 6] (fun u i wr => ∃ (k : Nat) (cs : List Value), k ≤ len ∧ i = .int .i64 k ∧ GSt wr (w.heap.size + 1) 3 1 (intsF (withIds f s k)) (withIds f s k).length u cs ∧ Below (w.heap.size + 1) W0 wr) (fun _ i _ => len - (intOf i).toNat)
  case atStart => exact ⟨0, [], Nat.zero_le _, rfl, hG0, Below.refl _ _⟩
  case round =>
    obtain ⟨k, cs, hk, rfl, hG, hB⟩ := hrel
    have hE : Ext w wr := Below.trans hE0 (Below.mono hB (by omega))
    have hszr := Below.size hB
    have p0 : wr.cell? ⟨w.heap.size, 0, none⟩ = some (.slice a len cap) := by rw [Below.cell hB (by simp)]; exact hbx
    obtain ⟨ua, ucap, rfl⟩ := hG.shape
    by_cases hlt : k < len
    · obtain ⟨cap2, b, off, C, hsl, _, hbl, ec, hx⟩ := (h0.ext hE).at hlt
      cases hsl
      have HR := HRa k hlt
      obtain ⟨id, hd⟩ := (show Has (f k 0) .int from HR 0 (by decide)).int
      have k0 := hx 0 (by decide)
      have e0 := ec 0 (by decide)
      have e1 := ec 1 (by decide)
      rw [hd] at k0
      obtain ⟨y0, zid⟩ := k0.int_eq
      rw [y0] at e0
      simp only [Nat.add_zero] at e0
      have HL : Has (f k 1) (.list 0) := HR 1 (by decide)
      have hL := hx 1 (by decide)
      have hcall := l2Has_any (f k 1) HL S (C 1) s wr hL
      obtain ⟨aL, capL, lL, fL, hDL, hCL, _, _⟩ := list_shape HL hL
      rw [hCL] at e1 hcall
      have hidv : (f k 0).int! = id := by rw [hd]; rfl
      clear ec hx k0 y0 hL hCL hDL
      have hw := with_len f s k
      have hsucc : Hid (withIds f s (k + 1) = withIds f s k ++ (if withB f s k then [id] else [])) := by rw [← hidv]; exact with_succ f s k
      have hwb : Hid (withB f s k = ((s.toList == []) || hasLab (f k 1) s)) := rfl
      have hnew : Hid (∀ {wx w3 : World} {v' : Value}, Ext wr wx → w3.ownsRow (w.heap.size + 1) 3 1 v' ((withIds f s k).length + 1) (cs ++ [.int .i64 id]) → (wx.alloc (.cells #[.int .i64 id] 3)).grownBy w3 (Value.slice ua (withIds f s k).length ucap).ownBlock → (v'.ownBlock = (Value.slice ua (withIds f s k).length ucap).ownBlock ∨ v'.ownBlock = some (wx.alloc (.cells #[.int .i64 id] 3)).heap.size) →
          GSt w3 (w.heap.size + 1) 3 1 (intsF (withIds f s k ++ [id])) (withIds f s k ++ [id]).length v' (cs ++ [.int .i64 id]) ∧ Below (w.heap.size + 1) W0 w3) := by
        intro wx w3 v' hEx hown hg hloc
        have hle := hEx.le
        exact ⟨hG.int_push (hEx.alloc _) (by omega) zid hown hg hloc rfl, Below.grown (Below.trans hB (Below.mono (hEx.alloc _) (by omega))) hg (by simp; omega) (fun j hj => (hG.row.lt j hj).1)⟩
      have hown0 := fun (wx : World) (hEx : Ext wr wx) => (hG.ext hEx).row
      generalize hln : (withIds f s k).length = ln at *
      cases hs0 : (s.toList == [])
      · cases hh : hasLab (f k 1) s
        · rw [hh] at hcall
          have hw1 : Hid (withIds f s (k + 1) = withIds f s k) := by show _ = _; rw [hsucc.out, hwb.out, hs0, hh]; simp
          go_wp2_with (go_at_call 32; refine hcall.mono ?_; rintro e wx ⟨rfl, hEx⟩)
          go_roundw
          case rel => exact ⟨k + 1, cs, by omega, by go_num, by rw [hw1.out, hln]; exact hG.ext hEx, Below.trans hB (Below.mono hEx (by omega))⟩
          case measure => simp [intOf]; omega
        · rw [hh] at hcall
          have hw1 : Hid (withIds f s (k + 1) = withIds f s k ++ [id]) := by show _ = _; rw [hsucc.out, hwb.out, hs0, hh]; simp
          have hcl := fun (wx : World) (hEx : Ext wr wx) => (show wx.cell? ⟨w.heap.size, 0, none⟩ = some (.slice (some ⟨b, off, none⟩) len cap) ∧ wx.cell? ⟨b, off + k * 3, none⟩ = some (.int .i64 id) from ⟨by rw [hEx.cell (by simp; omega)]; exact p0, by rw [hEx.cell hbl]; exact e0⟩)
          go_wp2_with (first | (go_at_call 32; refine hcall.mono ?_; rintro e wx ⟨rfl, hEx⟩; obtain ⟨p0', e0'⟩ := hcl wx hEx; have hro := hown0 wx hEx; have hlx := hEx.le) | (at_builtin; refine wpList_append_own_at _ rfl _ _ 27 rfl (w.heap.size + 1) 3 i0 _ 1 8 Tryz.underlying27 hi hz0 hz1 hz2 rfl (by decide) _ _ _ rfl (hro.alloc _) ⟨_, 0, none⟩ 1 1 [.int .i64 id] rfl rfl (cell_one_new _ _ _) (by simp [Value.oneCell']) (by unfold maxLen; omega) (by omega) (by simp; omega) ?_; intro v' w3 hown' hgrow hnil hloc))
          go_roundw
          case rel =>
            obtain ⟨s1, s2⟩ := hnew.out hEx hown' hgrow hloc
            exact ⟨k + 1, _, by omega, by go_num, by rw [hw1.out]; exact s1, s2⟩
          case measure => simp [intOf]; omega
      · have hw1 : Hid (withIds f s (k + 1) = withIds f s k ++ [id]) := by show _ = _; rw [hsucc.out, hwb.out, hs0]; simp
        have hro := hown0 wr (Ext.refl _)
        clear hcall
        go_wp2_with (at_builtin; refine wpList_append_own_at _ rfl _ _ 27 rfl (w.heap.size + 1) 3 i0 _ 1 8 Tryz.underlying27 hi hz0 hz1 hz2 rfl (by decide) _ _ _ rfl (hro.alloc _) ⟨_, 0, none⟩ 1 1 [.int .i64 id] rfl rfl (cell_one_new _ _ _) (by simp [Value.oneCell']) (by unfold maxLen; omega) (by omega) (by simp; omega) ?_; intro v' w3 hown' hgrow hnil hloc)
        go_roundw
        case rel =>
          obtain ⟨s1, s2⟩ := hnew.out (Ext.refl _) hown' hgrow hloc
          exact ⟨k + 1, _, by omega, by go_num, by rw [hw1.out]; exact s1, s2⟩
        case measure => simp [intOf]; omega
    · have hkx : k = len := by omega
      subst hkx
      have hw := with_len f s k
      obtain ⟨hD, _⟩ := hG.end (by unfold maxLen; omega)
      have hD' : Hid (DIn (New w.heap.size wr.heap.size) wr (intsD (withIds f s k)) (.slice ua (withIds f s k).length ucap)) := hD.mono (fun x hx => ⟨by have := hx.1; omega, hx.2⟩)
      clear hD
      go_wp2
      go_ret
      exact ⟨_, _, _, rfl, hD'.out, hE⟩

end Go.Proofs.YtpmcilgfijhhlaaGreat
