/- What the laws' functions mark.. do: a list is marked, and its own memory alone turns. -/
import Derived.Test.YtabomonpemkoaaaGreatDMarkText
import Derived.Test.YtabomonpemkoaaaGreatDAcc
namespace Go.Proofs.YtabomonpemkoaaaGreat
open Go.RowKit Go.Deep

/-- Marks a list from K on: its own memory alone turns. -/
def MkD (F : FuncId) (d : D) : Prop := ∀ (S : Nat → Prop) (v : Value) (w : World) (K : Nat) (k : Int), k = K → Own w d S v → d.len! ≤ maxLen → K + cntD d ≤ 1000000000 →
  Calls Tryz.prog F #[v, .int .i64 k] w fun e w' => e = .returned (.int .i64 (k + cntD d)) ∧ OnlyS S w w' ∧ DIn S w' (markD d K) v
/-- Reads the marks back. -/
def HlD (F : FuncId) (d : D) : Prop := ∀ (S : Nat → Prop) (v : Value) (w : World) (K : Nat) (k : Int), k = K → DIn S w (markD d K) v → K + cntD d ≤ 1000000000 →
  Calls Tryz.prog F #[v, .int .i64 k] w fun e w' => e = .returned (.int .i64 (k + cntD d)) ∧ Ext w w'
theorem own_len {w : World} {n len : Nat} {f : Nat → Nat → D} {S : Nat → Prop} {v : Value} (h : Own w (.list n len f) S v) : ∃ a cap, v = .slice a len cap := by
  obtain ⟨a, cap, _, _, _, hv, _⟩ := h
  exact ⟨a, cap, hv⟩
theorem own_shape {w : World} {r : Nat} {d : D} {S : Nat → Prop} {v : Value} (H : Has d (.list r)) (h : Own w d S v) : ∃ a cap, v = .slice a d.len! cap := by
  obtain ⟨len, f, rfl, _⟩ := H.list
  exact own_len h
theorem mkCell_list {d : D} {r : Nat} (H : Has d (.list r)) (k : Nat) (v : Value) : mkCell d k v = v := by
  obtain ⟨len, f, rfl, _⟩ := H.list
  rfl
/-- No list within is longer than lists may be. -/
def LenOk : D → Prop
  | .list n len f => len ≤ maxLen ∧ ∀ i, i < len → ∀ j, j < n → LenOk (f i j)
  | _ => True
theorem LenOk.len {d : D} (h : LenOk d) : d.len! ≤ maxLen := by
  cases d with
  | list n len f => exact h.1
  | _ => exact Nat.zero_le _

set_option maxRecDepth 100000 in
set_option maxHeartbeats 8000000 in
theorem markStringS_list (len : Nat) (f : Nat → Nat → D) (HRa : ∀ i, i < len → HasRow 0 (f i)) (hLO : LenOk (.list 1 len f)) : MkD 16 (.list 1 len f) := by
  intro S v w K k hK hown hlen hbd
  subst hK
  change len ≤ maxLen at hlen
  have hlen' := hlen
  unfold maxLen at hlen
  by_cases h0 : len = 0
  · have hnil := mark_nil hown h0 K
    obtain ⟨a, cap, rfl⟩ := own_len hown
    subst h0
    go_enter Tryz.func16, Tryz.ntmps16
    go_wp2
    go_loopw [1, 5] (fun q i wr => q = .int .i64 (K : Int) ∧ i = .int .i64 0 ∧ wr = w) (fun _ _ _ => 0)
    case atStart => exact ⟨rfl, rfl, rfl⟩
    case round =>
      obtain ⟨rfl, rfl, rfl⟩ := hrel
      go_wp2
      go_ret
      exact ⟨ret_int (by simp [cntD, sumN]), OnlyS.refl _ _, hnil⟩
  obtain ⟨cap, b, off, P, G, rfl, o, hM0⟩ := MSt.start hown (by omega) K
  go_enter Tryz.func16, Tryz.ntmps16
  go_wp2
  go_loopw [1, 5] (fun q i wr => ∃ (kk : Nat) (m : Int), kk ≤ len ∧ i = .int .i64 kk ∧ q = .int .i64 m ∧ Hid (m = (preK 1 f K kk 0 : Nat)) ∧ MSt S b off 1 len f P G K w wr kk 0) (fun _ i _ => len - (intOf i).toNat)
  case atStart => exact ⟨0, _, Nat.zero_le _, rfl, rfl, (rfl : (K : Int) = (preK 1 f K 0 0 : Nat)), hM0⟩
  case round =>
    obtain ⟨kk, m, hk, rfl, rfl, hm, hM⟩ := hrel
    by_cases hlt : kk < len
    · have HR := HRa kk hlt
      have hp_0 : preK 1 f K kk 0 ≤ 1000000000 := Nat.le_trans (preK_le hlt (by decide)) hbd
      have hm0 : 0 ≤ m := by have := hm.out; omega
      have hm1 : m ≤ 1000000000 := by have := hm.out; omega
      have q0 : Hid (m = (preK 1 f K kk 0 : Nat)) := hm
      have hM_0 := hM
      clear hM
      obtain ⟨x0, hd0⟩ := (show Has (f kk 0) .str from HR 0 (by decide)).str
      have hp_1 : preK 1 f K kk 1 = preK 1 f K kk 0 + 1 := by rw [preK_succ, hd0]; rfl
      have hb_1 : preK 1 f K kk 1 ≤ 1000000000 := Nat.le_trans (preK_le hlt (by decide)) hbd
      have q1 : Hid (m + 1 = (preK 1 f K kk 1 : Nat)) := by show _ = _; have := q0.out; omega
      go_wp2_with fail
      refine (markText_mark _ _ (by omega) (by have := q0.out; omega)).mono ?_
      rintro e v1 ⟨rfl, X1⟩
      have hM_0b := hM_0.ext X1
      have z0 : v1.cell? ⟨b, off + kk, none⟩ = some (G kk 0) := by have := hM_0b.row kk hlt 0 (by decide); rw [show bef kk 0 kk 0 = false by simp [bef]] at this; simpa using this
      have fz0 : v1.frozen? ⟨b, off + kk, none⟩ = false := hM_0b.frz _
      have hM_1 := hM_0b.scal o hlt (by decide) (fun W => by rw [hd0]; exact mk_str (by omega))
      rw [show mkCell (f kk 0) (preK 1 f K kk 0) (G kk 0) = .string (markM (m)) by rw [hd0, q0.out]; rfl] at hM_1
      have e1_ : off + kk * 1 + 0 = off + kk := by omega
      rw [e1_] at hM_1
      go_wp2
      go_roundw
      case rel => exact ⟨kk + 1, _, by omega, by go_num, rfl, by show _ = _; rw [preK_next]; exact q1.out, hM_1.next⟩
      case measure => simp [intOf]; omega
    · have hkx : kk = len := by omega
      subst hkx
      have hend := preK_end 1 kk f K
      go_wp2
      go_ret
      exact ⟨ret_int (by have := hm.out; omega), hM.only, hM.fin o hlen' _⟩

theorem markStringS_any (d : D) (H : Has d (.list 0)) (hL : LenOk d) : MkD 16 d := by
  obtain ⟨len, f, rfl, HRa⟩ := H.list
  exact markStringS_list len f HRa hL

end Go.Proofs.YtabomonpemkoaaaGreat
