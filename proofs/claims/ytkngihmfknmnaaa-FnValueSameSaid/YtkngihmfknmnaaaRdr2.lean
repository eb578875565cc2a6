/- The reader of a drawn code: what spec.l1Open, (*spec.l1Rd).of, (*spec.l1Rd).one and spec.l1Many answer. -/
import Derived.Test.YtkngihmfknmnaaaRdr
namespace Go.Proofs.Ytkngihmfknmnaaa
open Go.RowKit Go.Deep

/-- The slice v lies in w as bytes. -/
structure CodeIn (w : World) (a : Option Addr) (n cap : Nat) : Prop where
  len : n ≤ 1048576
  cap : n ≤ cap
  st : ∃ (b off : Nat) (c : Nat → Int), (0 < n → a = some ⟨b, off, none⟩ ∧ b < w.heap.size) ∧ ∀ i, i < n → w.cell? ⟨b, off + i, none⟩ = some (.int .u8 (c i)) ∧ 0 ≤ c i ∧ c i ≤ 255
theorem CodeIn.ext {w w' : World} {a : Option Addr} {n cap : Nat} (h : CodeIn w a n cap) (e : Ext w w') : CodeIn w' a n cap := by
  obtain ⟨h1, h2, b, off, c, ha, hc⟩ := h
  refine ⟨h1, h2, b, off, c, fun h0 => ⟨(ha h0).1, Nat.lt_of_lt_of_le (ha h0).2 e.le⟩, fun i hi => ?_⟩
  have hb := (ha (by omega)).2
  rw [e.cell (by dsimp only; omega)]; exact hc i hi

set_option maxRecDepth 100000 in
set_option maxHeartbeats 1000000 in
theorem l1Open_any (a : Option Addr) (n cap : Nat) (w : World) (h : CodeIn w a n cap) :
    Calls Try.prog 14 #[.slice a n cap] w fun e w' => e = .returned (.pointer (some ⟨w.heap.size, 0, none⟩)) ∧ RdAt w' w.heap.size 0 ∧ Ext w w' ∧ w'.heap.size = w.heap.size + 1 := by
  obtain ⟨hlen, hcap, b, off, c, ha, hc⟩ := h
  have key : ∀ (n' : Nat) (o : Obj), n' ≤ n → n' ≤ 2000 → o = .cells #[.slice a n' cap, .int .i64 0] 47 → RdAt (w.alloc o) w.heap.size 0 := by
    intro n' o h1 h2 ho
    subst ho
    refine ⟨by simp, ⟨a, n', cap, b, off, c, by simp, h2, fun h0 => ha (by omega), fun i hi => ?_⟩, by simp, by rw [frozen?_alloc_cells]; simp [World.frozen?]⟩
    have hb := (ha (by omega)).2
    rw [((Ext.refl w).alloc _).cell (by dsimp only; omega)]
    exact hc i (by omega)
  by_cases hbig : 2000 < n
  · obtain ⟨rfl, hb⟩ := ha (by omega)
    clear hc ha
    go_enter Try.func14, Try.ntmps14
    go_wp2
    go_ret
    exact ⟨rfl, key 2000 _ (by omega) (by omega) rfl, (Ext.refl _).alloc _, by simp⟩
  · clear hc ha
    go_enter Try.func14, Try.ntmps14
    go_wp2
    go_ret
    exact ⟨rfl, key n _ (by omega) (by omega) rfl, (Ext.refl _).alloc _, by simp⟩

set_option maxRecDepth 100000 in
set_option maxHeartbeats 1000000 in
theorem of_any (R p b off n cap : Nat) (f : Nat → ByteArray) (w : World) (h : RdAt w R p) (hp : p ≤ 1000000) (hn : 1 ≤ n) (hn2 : n ≤ 1000) (hb : b < w.heap.size) (hbR : b < R ∨ R + 1 ≤ b) (hc : ∀ i, i < n → w.cell? ⟨b, off + i, none⟩ = some (.string (f i))) :
    Calls Try.prog 26 #[.pointer (some ⟨R, 0, none⟩), .slice (some ⟨b, off, none⟩) n cap] w fun e w' => ∃ i, i < n ∧ e = .returned (.string (f i)) ∧ RdAt w' R (p + 1) ∧ Only R (R + 1) w w' := by
  have hcall := pick_any R p n w h hp hn hn2
  go_enter Try.func26, Try.ntmps26
  go_wp2_with fail
  refine hcall.mono ?_
  rintro e w' ⟨m, rfl, hm, hR, hO⟩
  have g : w'.cell? ⟨b, off + m, none⟩ = some (.string (f m)) := by rw [hO.cell hb hbR]; exact hc m hm
  clear hcall hc h
  go_wp2
  go_ret
  exact ⟨m, hm, rfl, hR, hO⟩

set_option maxRecDepth 100000 in
set_option maxHeartbeats 1000000 in
theorem one_any (R p b off n cap : Nat) (f : Nat → Int) (w : World) (h : RdAt w R p) (hp : p ≤ 1000000) (hn : 1 ≤ n) (hn2 : n ≤ 1000) (hb : b < w.heap.size) (hbR : b < R ∨ R + 1 ≤ b) (hc : ∀ i, i < n → w.cell? ⟨b, off + i, none⟩ = some (.int .i64 (f i))) :
    Calls Try.prog 25 #[.pointer (some ⟨R, 0, none⟩), .slice (some ⟨b, off, none⟩) n cap] w fun e w' => ∃ i, i < n ∧ e = .returned (.int .i64 (f i)) ∧ RdAt w' R (p + 1) ∧ Only R (R + 1) w w' := by
  have hcall := pick_any R p n w h hp hn hn2
  go_enter Try.func25, Try.ntmps25
  go_wp2_with fail
  refine hcall.mono ?_
  rintro e w' ⟨m, rfl, hm, hR, hO⟩
  have g : w'.cell? ⟨b, off + m, none⟩ = some (.int .i64 (f m)) := by rw [hO.cell hb hbR]; exact hc m hm
  clear hcall hc h
  go_wp2
  go_ret
  exact ⟨m, hm, rfl, hR, hO⟩

set_option maxRecDepth 100000 in
set_option maxHeartbeats 1000000 in
theorem l1Many_any (s : ByteArray) (n : Nat) (w : World) (hn : n ≤ 100) (hs : s.size = 1) :
    Calls Try.prog 27 #[.string s, .int .i64 n] w fun e w' => ∃ t : ByteArray, e = .returned (.string t) ∧ t.size ≤ 100 ∧ w' = w := by
  go_enter Try.func27, Try.ntmps27
  go_wp2
  go_loop [0, 1, 5] (fun sv nv o => ∃ (s t : ByteArray) (m : Nat), sv = .string s ∧ nv = .int .i64 m ∧ o = .string t ∧ m ≤ 100 ∧ t.size + s.size * m ≤ 100 ∧ s.size ≤ 200) (fun _ nv _ => (intOf nv).toNat)
  case atStart => exact ⟨s, _, n, rfl, rfl, rfl, hn, by rw [hs]; show 0 + 1 * n ≤ 100; omega, by omega⟩
  case round =>
    obtain ⟨s, t, m, rfl, rfl, rfl, hm, hk, hs2⟩ := hrel
    have HK : Hid (t.size + s.size * m ≤ 100) := hk
    clear hk
    by_cases h0 : 0 < m
    · have hsm : s.size ≤ 100 := by
        have := HK.out
        have : s.size * 1 ≤ s.size * m := Nat.mul_le_mul_left _ h0
        omega
      have htm : t.size ≤ 100 := by
        have := HK.out
        omega
      have hmm : Hid (s.size * m = s.size * (m % 2) + (s.size + s.size) * (m / 2)) := by
        show _ = _
        conv => lhs; rw [← Nat.mod_add_div m 2]
        rw [Nat.mul_add, ← Nat.mul_assoc, Nat.mul_two]
      by_cases ho : m % 2 = 1
      · have e1' : ((m : Int) % 2 == 1) = true := by simp; omega
        have HO : Hid (m % 2 = 1) := ho
        clear ho
        go_wp2
        go_round
        case rel =>
          have h1 := HK.out
          have h2 := hmm.out
          rw [HO.out] at h2
          exact ⟨s ++ s, t ++ s, m / 2, rfl, by first | rfl | go_num, rfl, by omega, by rw [ByteArray.size_append, ByteArray.size_append]; omega, by rw [ByteArray.size_append]; omega⟩
        case measure => simp [intOf]; omega
      · have e1' : ((m : Int) % 2 == 1) = false := by simp; omega
        have HO : Hid (m % 2 = 0) := by show _ = _; omega
        clear ho
        go_wp2
        go_round
        case rel =>
          have h1 := HK.out
          have h2 := hmm.out
          rw [HO.out] at h2
          exact ⟨s ++ s, t, m / 2, rfl, by first | rfl | go_num, rfl, by omega, by rw [ByteArray.size_append]; omega, by rw [ByteArray.size_append]; omega⟩
        case measure => simp [intOf]; omega
    · have htm : t.size ≤ 100 := by
        have := HK.out
        omega
      go_wp2
      go_ret
      exact ⟨t, rfl, htm, rfl⟩
end Go.Proofs.Ytkngihmfknmnaaa
