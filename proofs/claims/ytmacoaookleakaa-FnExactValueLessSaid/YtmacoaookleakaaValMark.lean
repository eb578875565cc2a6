/- What laws.markText and laws.markValueS do: marks turn the list's own blocks alone. -/
import Derived.Test.YtmacoaookleakaaValSkel
import Derived.Laws.BytesArg
namespace Go.Proofs.Ytmacoaookleakaa
open Go.RowKit Go.Deep

set_option maxRecDepth 100000 in
set_option maxHeartbeats 1000000 in
theorem markText_any (k : Int) (w : World) (h0 : 0 ≤ k) (h1 : k ≤ 1000000000) :
    Calls Try.prog 26 #[.int .i64 k] w fun e w' => ∃ s : ByteArray, e = .returned (.string s) ∧ Ext w w' := by
  by_cases hk : k ≤ 0
  · go_enter Try.func26, Try.ntmps26
    go_wp2
    go_ret
    exact ⟨_, rfl, Ext.refl _⟩
  · go_enter Try.func26, Try.ntmps26
    go_wp2
    go_loopw [0, 3] (fun n o wr => ∃ (m : Int) (s : ByteArray), n = .int .i64 m ∧ o = .string s ∧ 0 ≤ m ∧ m ≤ 1000000000 ∧ (s.size : Int) + m ≤ 1000000000 ∧ Ext w wr) (fun n _ _ => (intOf n).toNat)
    case atStart => exact ⟨k, _, rfl, rfl, h0, h1, by show ((0 : Nat) : Int) + k ≤ _; omega, Ext.refl _⟩
    case round =>
      obtain ⟨m, s, rfl, rfl, hm0, hm1, hsz, hE⟩ := hrel
      by_cases hm : 0 < m
      · have hcv := run_convert_bytes_arg (P := Try.prog) (wr.alloc (.cells #[.int .u8 (48 + m % 10)] 5)) 65 5 Try.underlying65 Try.underlying5 wr.heap.size 0 1 1 [48 + m % 10] rfl (fun i hi => by
          have : i = 0 := by omega
          subst this
          simp) 9 Try.underlying9
        have hs1 : (strOfNums [48 + m % 10]).size = 1 := rfl
        generalize strOfNums [48 + m % 10] = s1 at hcv hs1
        go_wp2
        go_roundw
        case rel => exact ⟨m / 10, s1 ++ s, rfl, rfl, by omega, by omega, by rw [ByteArray.size_append]; omega, hE.alloc _⟩
        case measure => simp [intOf]; omega
      · go_wp2
        go_ret
        exact ⟨⟨_, rfl⟩, hE⟩

/-- Block b of w has n values whose lists are c. -/
structure RowSt (w : World) (b n : Nat) (c : Nat → Value) : Prop where
  lt : 0 < n → b < w.heap.size
  cells : ∀ o, o < n * 4 → ∃ u, w.cell? ⟨b, o, none⟩ = some u
  frozen : 0 < n → ∀ o, w.frozen? ⟨b, o, none⟩ = false
  last : ∀ i, i < n → w.cell? ⟨b, i * 4 + 3, none⟩ = some (c i)
theorem RowSt.set {w : World} {b n : Nat} {c : Nat → Value} (h : RowSt w b n c) (o : Nat) (ho : ∀ i, i < n → ¬ o = i * 4 + 3) (u : Value) : RowSt (w.setCell ⟨b, o, none⟩ u) b n c :=
  ⟨fun h0 => by simpa using h.lt h0, fun o' ho' => by obtain ⟨x, hx⟩ := h.cells o' ho'; exact cell?_setCell_some hx, fun h0 o' => by rw [World.frozen?_setCell]; exact h.frozen h0 o', fun i hi => by rw [World.cell?_setCell_other w (a := ⟨b, o, none⟩) (b := ⟨b, i * 4 + 3, none⟩) (v := u) (by simp; exact ho i hi)]; exact h.last i hi⟩
theorem RowSt.block {w w' : World} {b n : Nat} {c : Nat → Value} (h : RowSt w b n c) (hz : w.heap.size ≤ w'.heap.size) (e : 0 < n → w'.heap[b]? = w.heap[b]?) : RowSt w' b n c := by
  by_cases h0 : 0 < n
  · have e' := e h0
    have hc : ∀ o, w'.cell? ⟨b, o, none⟩ = w.cell? ⟨b, o, none⟩ := fun o => World.cell?_of_block e'
    exact ⟨fun h0 => by have := h.lt h0; omega, fun o ho => by rw [hc]; exact h.cells o ho, fun h0 o => by rw [World.frozen?_of_block e']; exact h.frozen h0 o, fun i hi => by rw [hc]; exact h.last i hi⟩
  · exact ⟨fun h => absurd h h0, fun o ho => by omega, fun h => absurd h h0, fun i hi => by omega⟩

theorem Skel.set2 {w : World} {lo hi : Nat} {l : List V} {v : Value} (h : Skel w lo hi l v) {p : Addr} (hp : p.block < lo) (u : Value) : Skel (w.setCell p u) lo hi l v :=
  h.carry (by simp) (fun b h1 h2 _ => Below.heap_setCell _ _ _ _ (by omega))
theorem Skel.shape {w : World} {lo hi : Nat} {l : List V} {v : Value} (h : Skel w lo hi l v) : ∃ a cap, v = .slice a l.length cap := by
  cases h; exact ⟨_, _, rfl⟩

def MK (l : List V) : Prop := ∀ (lo hi : Nat) (v : Value) (w : World) (k : Int), Skel w lo hi l v → hi ≤ w.heap.size → 0 ≤ k → k + 3 * cntL l ≤ 1000000000 →
  Calls Try.prog 18 #[v, .int .i64 k] w fun e w' => ∃ r : Int, e = .returned (.int .i64 r) ∧ k ≤ r ∧ r ≤ k + 3 * cntL l ∧ Only lo hi w w'

set_option maxRecDepth 100000 in
set_option maxHeartbeats 2000000 in
theorem markS_of (l : List V) (ih : ∀ i (hi : i < l.length), MK l[i].list) : MK l := by
  intro lo hi v w k hsk hhi hk0 hk1
  cases hsk with
  | mk _ _ _ a cap b c s hl ha hs he hx hf hc hv =>
  go_enter Try.func18, Try.ntmps18
  go_wp2
  go_loopw [1, 5] (fun kk i wr => ∃ (j : Nat) (m : Int), j ≤ l.length ∧ i = .int .i64 j ∧ kk = .int .i64 m ∧ k ≤ m ∧ m ≤ k + 3 * cntL (l.take j) ∧ Only lo hi w wr ∧ RowSt wr b l.length c ∧ ∀ i (hi : i < l.length), j ≤ i → Skel wr (s i) (s (i + 1)) l[i].list (c i)) (fun _ i _ => l.length - (intOf i).toNat)
  case atStart => exact ⟨0, k, Nat.zero_le _, rfl, rfl, by omega, by simp [cntL], Only.refl _ _ _, ⟨fun h => (ha h).2.2.2, hx, hf, hc⟩, fun i hi _ => hv i hi⟩
  case round =>
    obtain ⟨j, m, hj, rfl, rfl, hm0, hm1, hO, hR, hv2⟩ := hrel
    have hct2 := cntL_le l j
    by_cases hlt : j < l.length
    · obtain ⟨rfl, a2, a3, a4⟩ := ha (by omega)
      have he' := he (by omega)
      have hct := cntL_take l j hlt
      have hct3 := cntL_le l (j + 1)
      have hcv := cntV_eq l[j]
      have hsj : b < s j := Nat.lt_of_lt_of_le a3 (steps_le hs 0 j (Nat.zero_le _) (by omega))
      have hsj1 := hs j hlt
      have hsl := steps_le hs (j + 1) l.length (by omega) (Nat.le_refl _)
      have hbhi : b < hi := by omega
      obtain ⟨u0, z0⟩ := hR.cells (j * 4) (by omega)
      obtain ⟨u1, z1⟩ := hR.cells (j * 4 + 1) (by omega)
      have f0 := hR.frozen (by omega) (j * 4)
      have f1 := hR.frozen (by omega) (j * 4 + 1)
      obtain ⟨a', cap', hcj⟩ := (hv2 j hlt (Nat.le_refl _)).shape
      have hmt : m + 1 + 1 ≤ 1000000000 := by omega
      have HC : Hid (c j = .slice a' l[j].list.length cap') := hcj
      clear hcj
      go_wp2_with fail
      refine (markText_any _ _ (by omega) hmt).mono ?_
      rintro e w3 ⟨st, rfl, hE3⟩
      have hR2 := (hR.set (j * 4) (fun i _ => by omega) (.int .i64 m)).set (j * 4 + 1) (fun i _ => by omega) (.int .i64 (m + 1))
      have hR3 := hR2.block hE3.le (fun h0 => Below.block hE3 b (hR2.lt h0))
      have hO3 := ((hO.setCell (p := ⟨b, j * 4, none⟩) a2 hbhi (.int .i64 m)).setCell (p := ⟨b, j * 4 + 1, none⟩) a2 hbhi (.int .i64 (m + 1))).trans (Only.of_ext hE3)
      have hv3 : ∀ i (hi : i < l.length), j ≤ i → Skel w3 (s i) (s (i + 1)) l[i].list (c i) := by
        intro i hi hji
        have hbi : b < s i := Nat.lt_of_lt_of_le a3 (steps_le hs 0 i (Nat.zero_le _) (by omega))
        exact (((hv2 i hi hji).set2 (p := ⟨b, j * 4, none⟩) hbi _).set2 (p := ⟨b, j * 4 + 1, none⟩) hbi _).ext hE3
      obtain ⟨u2, z2⟩ := hR3.cells (j * 4 + 2) (by omega)
      have f2 := hR3.frozen (by omega) (j * 4 + 2)
      have hR4 := hR3.set (j * 4 + 2) (fun i _ => by omega) (.string st)
      have z3 := hR4.last j hlt
      rw [HC.out] at z3
      have hO4 := hO3.setCell (p := ⟨b, j * 4 + 2, none⟩) a2 hbhi (.string st)
      have hv4 : ∀ i (hi : i < l.length), j ≤ i → Skel (w3.setCell ⟨b, j * 4 + 2, none⟩ (.string st)) (s i) (s (i + 1)) l[i].list (c i) := by
        intro i hi hji
        have hbi : b < s i := Nat.lt_of_lt_of_le a3 (steps_le hs 0 i (Nat.zero_le _) (by omega))
        exact (hv3 i hi hji).set2 (p := ⟨b, j * 4 + 2, none⟩) hbi _
      have hsz4 : hi ≤ (w3.setCell ⟨b, j * 4 + 2, none⟩ (.string st)).heap.size := Nat.le_trans hhi hO4.size
      have hsk := hv4 j hlt (Nat.le_refl _)
      rw [HC.out] at hsk
      have hcall := ih j hlt (s j) (s (j + 1)) _ _ (m + 1 + 1 + 1) hsk (by omega) (by omega) (by omega)
      clear ih hsk z0 z1 f0 f1 hR hR2 hO hO3 hv2 hv3 hx hf hc hv ha
      go_wp2_with fail
      refine hcall.mono ?_
      rintro e w5 ⟨r, rfl, hr0, hr1, hO5⟩
      clear hcall
      have hR5 := hR4.block hO5.size (fun h0 => hO5.block b (hR4.lt h0) (.inl hsj))
      have hv5 : ∀ i (hi : i < l.length), j + 1 ≤ i → Skel w5 (s i) (s (i + 1)) l[i].list (c i) := by
        intro i hi hji
        refine (hv4 i hi (by omega)).carry hO5.size (fun bb h1 h2 h3 => hO5.block bb h3 (.inr ?_))
        have := steps_le hs (j + 1) i hji (by omega)
        omega
      have hO6 := hO4.trans (hO5.mono (lo' := lo) (hi' := hi) (by omega) (by omega))
      clear hR3 hR4 hO4 hv4 z2 z3 f2 hO5
      go_wp2
      go_roundw
      case rel => exact ⟨j + 1, r, by omega, by go_num, rfl, by omega, by omega, hO6, hR5, hv5⟩
      case measure => simp [intOf]; omega
    · have hjl : j = l.length := by omega
      have hct : Hid (l.take j = l) := by rw [hjl]; exact List.take_length
      clear ih
      go_wp2
      go_ret
      rw [hct.out] at hm1
      exact ⟨m, rfl, by omega, by omega, hO⟩

theorem markS_any : ∀ x : V, MK x.list := by
  refine V.ind fun k n t l ih => ?_
  exact markS_of l ih

set_option maxHeartbeats 400000 in
theorem mark_any (x : V) (kk nn : Int) (tt : ByteArray) (u3 : Value) (lo hi : Nat) (w : World) (k : Int) (hsk : Skel w lo hi x.list u3) (hhi : hi ≤ w.heap.size) (hk0 : 0 ≤ k) (hk1 : k + 3 * cntV x ≤ 1000000000) :
    Calls Try.prog 9 #[.agg #[.int .i64 kk, .int .i64 nn, .string tt, u3], .int .i64 k] w fun e w' => ∃ r : Int, e = .returned (.int .i64 r) ∧ k ≤ r ∧ r ≤ k + 3 * cntV x ∧ Only lo hi w w' := by
  have hc := cntV_eq x
  rw [hc] at hk1 ⊢
  clear hc
  obtain ⟨a, cap, rfl⟩ := hsk.shape
  have hcall := markS_any x lo hi _ _ k (hsk.ext ((Ext.refl w).alloc (.cells #[.int .i64 kk, .int .i64 nn, .string tt, .slice a x.list.length cap] 28))) (by simp; omega) hk0 hk1
  go_enter Try.func9, Try.ntmps9
  go_wp2_with (go_at_call 18; refine hcall.mono ?_; rintro e w' ⟨r, rfl, hr0, hr1, hO⟩)
  go_ret
  exact ⟨r, rfl, hr0, hr1, (Only.of_ext ((Ext.refl _).alloc _)).trans hO⟩
end Go.Proofs.Ytmacoaookleakaa
