/- What laws.toValue hands back: a copy in new memory. -/
import Derived.Test.YtdplieoilfhddaaValMem
namespace Go.Proofs.Ytdplieoilfhddaa
open Go.RowKit Go.Deep

def ToOk (x : V) : Prop := ∀ (lo : Nat) (v : Value) (w : World), ValIn lo w x v → Small x →
  Calls Try.prog 6 #[v] w fun e w' => ∃ u, e = .returned u ∧ ValIn w.heap.size w' x u ∧ Ext w w'
def ToSOk (xs : List V) : Prop := ∀ (lo : Nat) (v : Value) (w : World), ListIn lo w xs v → xs.length ≤ 1048576 → (∀ i (hi : i < xs.length), Small xs[i]) →
  Calls Try.prog 11 #[v] w fun e w' => ∃ u, e = .returned u ∧ ListIn w.heap.size w' xs u ∧ Ext w w'

theorem ValIn.setCell {lo : Nat} {w : World} {x : V} {v : Value} (h : ValIn lo w x v) {p : Addr} (hp : p.block < lo) (u : Value) : ValIn lo (w.setCell p u) x v :=
  h.carry (by simp) (fun b h1 _ => Below.heap_setCell _ _ _ _ (by omega))

theorem ListIn.setCell {lo : Nat} {w : World} {x : List V} {v : Value} (h : ListIn lo w x v) {p : Addr} (hp : p.block < lo) (u : Value) : ListIn lo (w.setCell p u) x v :=
  h.carry (by simp) (fun b h1 _ => Below.heap_setCell _ _ _ _ (by omega))

theorem Try.infoV : (Try.prog.info? 29).map (fun i => (i.zero, i.size, i.bytes)) = some (some (.agg #[.int .i64 0, .int .i64 0, .string ⟨#[]⟩, .slice none 0 0]), 4, 56) := by kernel_rfl

theorem make_values (n : Nat) (hn : n ≤ 1048576) (w : World) :
    (Instr.makeSlice 27 (.int .i64 (n : Int)) (.int .i64 (n : Int))).run Try.prog w = .ok (.slice (some ⟨w.heap.size, 0, none⟩) n n) (w.alloc (.cells (madeCells #[.int .i64 0, .int .i64 0, .string ⟨#[]⟩, .slice none 0 0] (n * 4)) 29)) := by
  obtain ⟨i, hi, hzz⟩ := Option.map_eq_some_iff.1 Try.infoV
  simp only [Prod.mk.injEq] at hzz
  obtain ⟨hz, hs, hb⟩ := hzz
  have hr := run_make (P := Try.prog) w 27 29 i _ Try.underlying27 hi hz .i64 .i64 n n (by omega) (Int.le_refl _) (by rw [hb]; omega) (by omega)
  simp only [Int.toNat_natCast, hs] at hr
  exact hr

/-- The first k values of the row at block B are laid. -/
def Laid (w : World) (B : Nat) (xs : List V) (k : Nat) (F : Nat → Value) : Prop :=
  w.rowIs B 29 (xs.length * 4) F ∧ ∀ i (hi : i < xs.length), i < k → ValIn (B + 1) w xs[i] (.agg #[F (i * 4), F (i * 4 + 1), F (i * 4 + 2), F (i * 4 + 3)])

theorem Laid.step {w : World} {B : Nat} {xs : List V} {k : Nat} {F : Nat → Value} (h : Laid w B xs k F) (hk : k < xs.length) (u0 u1 u2 u3 : Value) (hu : ValIn (B + 1) w xs[k] (.agg #[u0, u1, u2, u3])) :
    ∃ F', Laid ((((w.setCell ⟨B, k * 4, none⟩ u0).setCell ⟨B, k * 4 + 1, none⟩ u1).setCell ⟨B, k * 4 + 2, none⟩ u2).setCell ⟨B, k * 4 + 3, none⟩ u3) B xs (k + 1) F' := by
  obtain ⟨hr, hv⟩ := h
  refine ⟨_, (((hr.set _ _).set _ _).set _ _).set _ _, fun i hi hik => ?_⟩
  have hcar : ∀ {x : V} {v : Value}, ValIn (B + 1) w x v → ValIn (B + 1) ((((w.setCell ⟨B, k * 4, none⟩ u0).setCell ⟨B, k * 4 + 1, none⟩ u1).setCell ⟨B, k * 4 + 2, none⟩ u2).setCell ⟨B, k * 4 + 3, none⟩ u3) x v :=
    fun h => (((h.setCell (Nat.lt_succ_self _) _).setCell (Nat.lt_succ_self _) _).setCell (Nat.lt_succ_self _) _).setCell (Nat.lt_succ_self _) _
  rcases Nat.lt_succ_iff_lt_or_eq.1 hik with h' | h'
  · have := hcar (hv i hi h')
    have n0 : ∀ d e, d < 4 → e < 4 → ¬ (i * 4 + d = k * 4 + e) := fun d e hd he => by omega
    have n1 := n0 0 0; have n2 := n0 0 1; have n3 := n0 0 2; have n4 := n0 0 3
    have m1 := n0 1 0; have m2 := n0 1 1; have m3 := n0 1 2; have m4 := n0 1 3
    have p1 := n0 2 0; have p2 := n0 2 1; have p3 := n0 2 2; have p4 := n0 2 3
    have q1 := n0 3 0; have q2 := n0 3 1; have q3 := n0 3 2; have q4 := n0 3 3
    simp only [Nat.add_zero] at n1 n2 n3 n4 m1 m2 m3 m4 p1 p2 p3 p4 q1 q2 q3 q4
    rw [if_neg (by omega), if_neg (by omega), if_neg (by omega), if_neg (by omega), if_neg (by omega), if_neg (by omega), if_neg (by omega), if_neg (by omega), if_neg (by omega), if_neg (by omega), if_neg (by omega), if_neg (by omega), if_neg (by omega), if_neg (by omega), if_neg (by omega), if_neg (by omega)]
    exact this
  · subst h'
    have := hcar hu
    simp
    exact this

set_option maxHeartbeats 1000000 in
theorem toValueS_of (xs : List V) (ih : ∀ i (hi : i < xs.length), ToOk xs[i]) : ToSOk xs := by
  intro lo v w hv hn hsm
  obtain ⟨a, cap, _, _, _, _, _, _, rfl, _⟩ := id hv
  have hmk := make_values xs.length hn
  go_enter Try.func11, Try.ntmps11
  go_wp2
  clear hmk
  generalize hW1 : w.alloc _ = W1
  have hrow : ∃ F, Laid W1 w.heap.size xs 0 F := by
    subst hW1
    have := World.rowIs_alloc w (madeCells #[.int .i64 0, .int .i64 0, .string ⟨#[]⟩, .slice none 0 0] (xs.length * 4)) 29 (fun i => (madeCells #[.int .i64 0, .int .i64 0, .string ⟨#[]⟩, .slice none 0 0] (xs.length * 4))[i]?.getD undef) (fun i hi => by simp [hi])
    rw [size_madeCells] at this
    exact ⟨_, this, fun i hi h => by omega⟩
  have hg : Ext w W1 := by subst hW1; exact (Ext.refl _).alloc _
  clear hW1
  go_loopw [4] (fun i wr => ∃ k : Nat, k ≤ xs.length ∧ i = .int .i64 k ∧ Ext w wr ∧ ∃ F, Laid wr w.heap.size xs k F) (fun i _ => xs.length - (intOf i).toNat)
  case atStart => exact ⟨0, Nat.zero_le _, rfl, hg, hrow⟩
  case round =>
    obtain ⟨k, hk, rfl, hE, F, hr⟩ := hrel
    by_cases hlt : k < xs.length
    · obtain ⟨cap2, b, off, hsl, _, _, hcs⟩ := (hv.ext hE).at (by omega)
      cases hsl
      obtain ⟨d0, d1, d2, d3, e0, e1, e2, e3, hx⟩ := hcs k hlt
      clear hcs
      have hsz := hr.1.lt
      have hcall := ih k hlt lo _ _ hx (hsm k hlt)
      clear ih
      go_wp2_with fail
      refine hcall.mono ?_
      rintro e w' ⟨u, rfl, hu, hE2⟩
      have hr2 : Laid w' w.heap.size xs k F := ⟨hr.1.of_block (Below.block hE2 _ hsz), fun i hi h => (hr.2 i hi h).ext hE2⟩
      have hu2 := hu.mono (lo' := w.heap.size + 1) (by omega)
      obtain ⟨kk, nn, tt, aa, ll, cc, rfl⟩ := hu.shape
      have f0 := hr2.1.frozen (k * 4)
      have f1 := hr2.1.frozen (k * 4 + 1)
      have f2 := hr2.1.frozen (k * 4 + 2)
      have f3 := hr2.1.frozen (k * 4 + 3)
      have z0 := hr2.1.cell (i := k * 4) (by omega)
      have z1 := hr2.1.cell (i := k * 4 + 1) (by omega)
      have z2 := hr2.1.cell (i := k * 4 + 2) (by omega)
      have z3 := hr2.1.cell (i := k * 4 + 3) (by omega)
      clear hcall
      go_wp2
      go_roundw
      case rel => exact ⟨k + 1, by omega, by go_num, Ext.setCell (Ext.setCell (Ext.setCell (Ext.setCell (hE.trans hE2) (Nat.le_refl _) _) (Nat.le_refl _) _) (Nat.le_refl _) _) (Nat.le_refl _) _, hr2.step hlt _ _ _ _ hu2⟩
      case measure => simp [intOf]; omega
    · go_wp2
      go_ret
      refine ⟨_, rfl, ?_, hE⟩
      refine ⟨_, _, w.heap.size, 0, fun i => F (i * 4), fun i => F (i * 4 + 1), fun i => F (i * 4 + 2), fun i => F (i * 4 + 3), rfl, by unfold maxLen; omega, fun _ => ⟨rfl, Nat.le_refl _, hr.1.lt⟩, fun i hi => ?_, fun i hi => (hr.2 i hi (by omega)).mono (by omega)⟩
      have := fun j (hj : j < xs.length * 4) => hr.1.cell (i := j) hj
      rw [Nat.zero_add]
      exact ⟨this _ (by omega), this _ (by omega), this _ (by omega), this _ (by omega)⟩

set_option maxHeartbeats 1000000 in
theorem toValue_any : ∀ x, ToOk x := by
  refine V.ind fun k n t xs ih => ?_
  have hS := toValueS_of xs ih
  clear ih
  intro lo v w hv hsm
  obtain ⟨a, cap, rfl, hk, hn, ht, hl, hL⟩ := hv.open
  have hsm2 : xs.length ≤ 1048576 ∧ ∀ i (hi : i < xs.length), Small xs[i] := by cases hsm with | mk _ _ _ _ h1 h2 => exact ⟨h1, h2⟩
  have hcall := fun W (hW : Ext w W) => hS lo _ W (hL.ext hW) hsm2.1 hsm2.2
  clear hS
  go_enter Try.func6, Try.ntmps6
  go_wp2_with fail
  refine (hcall _ ((((Ext.refl _).alloc _).alloc _).alloc _)).mono ?_
  rintro e w' ⟨u, rfl, hu, hE2⟩
  clear hcall
  obtain ⟨hc, hf⟩ := bcell hE2
  have hz : w.heap.size + 1 + 1 < w'.heap.size := by have := hE2.le; simp at this; omega
  simp only [World.size_alloc] at hc hf hu
  obtain ⟨a2, cap2, hu2⟩ : ∃ a2 cap2, u = .slice a2 xs.length cap2 := by obtain ⟨a2, cap2, _, _, _, _, _, _, h, _⟩ := id hu; exact ⟨a2, cap2, h⟩
  subst hu2
  go_wp2
  have hE3 : Ext w w' := ((((Ext.refl _).alloc _).alloc _).alloc _).trans hE2
  refine bodyPost_ret (v := .agg #[.int .i64 k, .int .i64 n, .string t, .slice a2 xs.length cap2]) (by simp [results, Try.results6, go_sem, hc]) rfl ⟨_, rfl, ?_, ?_⟩
  · refine (ValIn.of_list hk hn ht ?_).mono (lo' := w.heap.size) (lo := w.heap.size + 1 + 1 + 1) (by omega)
    exact ((((hu.setCell (by dsimp only; omega) _).setCell (by dsimp only; omega) _).setCell (by dsimp only; omega) _).setCell (by dsimp only; omega) _).setCell (by dsimp only; omega) _
  · exact ((((hE3.setCell (by dsimp only; omega) _).setCell (by dsimp only; omega) _).setCell (by dsimp only; omega) _).setCell (by dsimp only; omega) _).setCell (by dsimp only; omega) _
end Go.Proofs.Ytdplieoilfhddaa
