/- What laws.toValue hands back: a copy in new memory, its lists in blocks of its own. -/
import Derived.Test.YtdplieoilfhddaaValSkel
import Derived.Test.YtdplieoilfhddaaValTo
namespace Go.Proofs.Ytdplieoilfhddaa
open Go.RowKit Go.Deep

def lastOf : Value → Value
  | .agg cs => cs.getD 3 undef
  | _ => undef
def To2 (x : V) : Prop := ∀ (lo : Nat) (v : Value) (w : World), ValIn lo w x v → Small x →
  Calls Try.prog 6 #[v] w fun e w' => ∃ u, e = .returned u ∧ ValIn w.heap.size w' x u ∧ Skel w' w.heap.size w'.heap.size x.list (lastOf u) ∧ Ext w w'
def ToS2 (xs : List V) : Prop := ∀ (lo : Nat) (v : Value) (w : World), ListIn lo w xs v → xs.length ≤ 1048576 → (∀ i (hi : i < xs.length), Small xs[i]) →
  Calls Try.prog 11 #[v] w fun e w' => ∃ u, e = .returned u ∧ ListIn w.heap.size w' xs u ∧ Skel w' w.heap.size w'.heap.size xs u ∧ Ext w w'

theorem Skel.setCell {w : World} {lo hi : Nat} {l : List V} {v : Value} (h : Skel w lo hi l v) {p : Addr} (hp : p.block < lo ∨ hi ≤ p.block) (u : Value) : Skel (w.setCell p u) lo hi l v :=
  h.carry (by simp) (fun b h1 h2 _ => Below.heap_setCell _ _ _ _ (by omega))

/-- The lists of the first k values of the row at block B are laid, behind it. -/
def Laid2 (w : World) (B : Nat) (xs : List V) (k : Nat) (F : Nat → Value) : Prop :=
  ∃ s : Nat → Nat, B < s 0 ∧ (∀ i, i < k → s i ≤ s (i + 1)) ∧ s k ≤ w.heap.size ∧ ∀ i (hi : i < xs.length), i < k → Skel w (s i) (s (i + 1)) xs[i].list (F (i * 4 + 3))

theorem Laid.step2 {w : World} {B : Nat} {xs : List V} {k : Nat} {F : Nat → Value} (h : Laid w B xs k F) (hk : k < xs.length) (u0 u1 u2 u3 : Value) (hu : ValIn (B + 1) w xs[k] (.agg #[u0, u1, u2, u3])) (lo : Nat) (hloz : lo ≤ w.heap.size) (hsk : Skel w lo w.heap.size xs[k].list u3)
    (h2 : ∃ s : Nat → Nat, B < s 0 ∧ (∀ i, i < k → s i ≤ s (i + 1)) ∧ s k ≤ lo ∧ ∀ i (hi : i < xs.length), i < k → Skel w (s i) (s (i + 1)) xs[i].list (F (i * 4 + 3))) :
    ∃ F', Laid ((((w.setCell ⟨B, k * 4, none⟩ u0).setCell ⟨B, k * 4 + 1, none⟩ u1).setCell ⟨B, k * 4 + 2, none⟩ u2).setCell ⟨B, k * 4 + 3, none⟩ u3) B xs (k + 1) F' ∧
      Laid2 ((((w.setCell ⟨B, k * 4, none⟩ u0).setCell ⟨B, k * 4 + 1, none⟩ u1).setCell ⟨B, k * 4 + 2, none⟩ u2).setCell ⟨B, k * 4 + 3, none⟩ u3) B xs (k + 1) F' := by
  obtain ⟨hr, hv⟩ := h
  have hcar : ∀ {x : V} {v : Value}, ValIn (B + 1) w x v → ValIn (B + 1) ((((w.setCell ⟨B, k * 4, none⟩ u0).setCell ⟨B, k * 4 + 1, none⟩ u1).setCell ⟨B, k * 4 + 2, none⟩ u2).setCell ⟨B, k * 4 + 3, none⟩ u3) x v :=
    fun h => (((h.setCell (Nat.lt_succ_self _) _).setCell (Nat.lt_succ_self _) _).setCell (Nat.lt_succ_self _) _).setCell (Nat.lt_succ_self _) _
  have hcs : ∀ {lo' hi' : Nat} {l : List V} {v : Value}, B < lo' → Skel w lo' hi' l v → Skel ((((w.setCell ⟨B, k * 4, none⟩ u0).setCell ⟨B, k * 4 + 1, none⟩ u1).setCell ⟨B, k * 4 + 2, none⟩ u2).setCell ⟨B, k * 4 + 3, none⟩ u3) lo' hi' l v :=
    fun hb h => (((h.setCell (.inl hb) _).setCell (.inl hb) _).setCell (.inl hb) _).setCell (.inl hb) _
  have hsz : ((((w.setCell ⟨B, k * 4, none⟩ u0).setCell ⟨B, k * 4 + 1, none⟩ u1).setCell ⟨B, k * 4 + 2, none⟩ u2).setCell ⟨B, k * 4 + 3, none⟩ u3).heap.size = w.heap.size := by simp
  obtain ⟨s, s0, s1, s2, s3⟩ := h2
  refine ⟨_, ⟨(((hr.set _ _).set _ _).set _ _).set _ _, fun i hi hik => ?_⟩, ⟨fun j => if j ≤ k then s j else w.heap.size, by simpa using s0, fun i hi => ?_, ?_, fun i hi hik => ?_⟩⟩
  · rcases Nat.lt_succ_iff_lt_or_eq.1 hik with h' | h'
    · have := hcar (hv i hi h')
      rw [if_neg (by omega), if_neg (by omega), if_neg (by omega), if_neg (by omega), if_neg (by omega), if_neg (by omega), if_neg (by omega), if_neg (by omega), if_neg (by omega), if_neg (by omega), if_neg (by omega), if_neg (by omega), if_neg (by omega), if_neg (by omega), if_neg (by omega), if_neg (by omega)]
      exact this
    · subst h'
      have := hcar hu
      simp
      exact this
  · dsimp only
    by_cases h' : i + 1 ≤ k
    · rw [if_pos (by omega), if_pos h']; exact s1 i (by omega)
    · have : i = k := by omega
      subst this
      rw [if_pos (Nat.le_refl _), if_neg (by omega)]
      omega
  · dsimp only
    rw [if_neg (by omega), hsz]
    exact Nat.le_refl _
  · dsimp only
    rcases Nat.lt_succ_iff_lt_or_eq.1 hik with h' | h'
    · have := hcs (Nat.lt_of_lt_of_le s0 (steps_le s1 0 i (Nat.zero_le _) (by omega))) (s3 i hi h')
      rw [if_pos (by omega), if_pos (by omega), if_neg (by omega), if_neg (by omega), if_neg (by omega), if_neg (by omega)]
      exact this
    · subst h'
      have := hcs (Nat.lt_of_lt_of_le s0 (steps_le s1 0 i (Nat.zero_le _) (by omega))) (hsk.mono s2 (Nat.le_refl _))
      rw [if_pos (Nat.le_refl _), if_neg (by omega), if_pos rfl]
      exact this

theorem Laid2.ext {w w' : World} {B : Nat} {xs : List V} {k : Nat} {F : Nat → Value} (h : Laid2 w B xs k F) (e : Ext w w') :
    ∃ s : Nat → Nat, B < s 0 ∧ (∀ i, i < k → s i ≤ s (i + 1)) ∧ s k ≤ w.heap.size ∧ ∀ i (hi : i < xs.length), i < k → Skel w' (s i) (s (i + 1)) xs[i].list (F (i * 4 + 3)) := by
  obtain ⟨s, h0, h1, h2, h3⟩ := h
  exact ⟨s, h0, h1, h2, fun i hi hk => (h3 i hi hk).ext e⟩

/-- A row that is laid whole is one of its own. -/
theorem skel_row {w : World} {B : Nat} {xs : List V} {F : Nat → Value} (hr : Laid w B xs xs.length F) (h2 : Laid2 w B xs xs.length F) (hl : xs.length ≤ 1048576) (c : Nat) : Skel w B w.heap.size xs (.slice (some ⟨B, 0, none⟩) xs.length c) := by
  obtain ⟨s, s0, s1, s2, s3⟩ := h2
  exact .mk B w.heap.size xs (some ⟨B, 0, none⟩) c B (fun i => F (i * 4 + 3)) s hl (fun _ => ⟨rfl, Nat.le_refl _, s0, hr.1.lt⟩) s1 (fun _ => s2) (fun j hj => ⟨_, hr.1.cell hj⟩) (fun _ o => hr.1.frozen o) (fun i hi => hr.1.cell (by omega)) (fun i hi => s3 i hi hi)

set_option maxHeartbeats 1000000 in
theorem toS2_of (xs : List V) (ih : ∀ i (hi : i < xs.length), To2 xs[i]) : ToS2 xs := by
  intro lo v w hv hn hsm
  obtain ⟨a, cap, _, _, _, _, _, _, rfl, _⟩ := id hv
  have hmk := make_values xs.length hn
  go_enter Try.func11, Try.ntmps11
  go_wp2
  clear hmk
  generalize hW1 : w.alloc _ = W1
  have hrow : ∃ F, Laid W1 w.heap.size xs 0 F ∧ Laid2 W1 w.heap.size xs 0 F := by
    subst hW1
    have := World.rowIs_alloc w (madeCells #[.int .i64 0, .int .i64 0, .string ⟨#[]⟩, .slice none 0 0] (xs.length * 4)) 29 (fun i => (madeCells #[.int .i64 0, .int .i64 0, .string ⟨#[]⟩, .slice none 0 0] (xs.length * 4))[i]?.getD undef) (fun i hi => by simp [hi])
    rw [size_madeCells] at this
    exact ⟨_, ⟨this, fun i hi h => by omega⟩, ⟨fun _ => w.heap.size + 1, by simp, fun i hi => by omega, by simp, fun i hi h => by omega⟩⟩
  have hg : Ext w W1 := by subst hW1; exact (Ext.refl _).alloc _
  clear hW1
  go_loopw [4] (fun i wr => ∃ k : Nat, k ≤ xs.length ∧ i = .int .i64 k ∧ Ext w wr ∧ ∃ F, Laid wr w.heap.size xs k F ∧ Laid2 wr w.heap.size xs k F) (fun i _ => xs.length - (intOf i).toNat)
  case atStart => exact ⟨0, Nat.zero_le _, rfl, hg, hrow⟩
  case round =>
    obtain ⟨k, hk, rfl, hE, F, hr, hl2⟩ := hrel
    by_cases hlt : k < xs.length
    · obtain ⟨cap2, b, off, hsl, _, _, hcs⟩ := (hv.ext hE).at (by omega)
      cases hsl
      obtain ⟨d0, d1, d2, d3, e0, e1, e2, e3, hx⟩ := hcs k hlt
      clear hcs
      have hsz := hr.1.lt
      have hcall := ih k hlt lo _ _ hx (hsm k hlt)
      clear ih
      go_wp2_with fail
      refine hcall.mono ?_
      rintro e w' ⟨u, rfl, hu, hsk, hE2⟩
      have hr2 : Laid w' w.heap.size xs k F := ⟨hr.1.of_block (Below.block hE2 _ hsz), fun i hi h => (hr.2 i hi h).ext hE2⟩
      have hu2 := hu.mono (lo' := w.heap.size + 1) (by omega)
      obtain ⟨kk, nn, tt, aa, ll, cc, rfl⟩ := hu.shape
      have hstep := hr2.step2 hlt _ _ _ _ hu2 wr.heap.size hE2.le hsk (hl2.ext hE2)
      have f0 := hr2.1.frozen (k * 4)
      have f1 := hr2.1.frozen (k * 4 + 1)
      have f2 := hr2.1.frozen (k * 4 + 2)
      have f3 := hr2.1.frozen (k * 4 + 3)
      have z0 := hr2.1.cell (i := k * 4) (by omega)
      have z1 := hr2.1.cell (i := k * 4 + 1) (by omega)
      have z2 := hr2.1.cell (i := k * 4 + 2) (by omega)
      have z3 := hr2.1.cell (i := k * 4 + 3) (by omega)
      clear hcall
      go_wp2
      go_roundw
      case rel => exact ⟨k + 1, by omega, by go_num, Ext.setCell (Ext.setCell (Ext.setCell (Ext.setCell (hE.trans hE2) (Nat.le_refl _) _) (Nat.le_refl _) _) (Nat.le_refl _) _) (Nat.le_refl _) _, hstep⟩
      case measure => simp [intOf]; omega
    · have hkx : k = xs.length := by omega
      subst hkx
      go_wp2
      go_ret
      refine ⟨_, rfl, ?_, skel_row hr hl2 hn _, hE⟩
      refine ⟨_, _, w.heap.size, 0, fun i => F (i * 4), fun i => F (i * 4 + 1), fun i => F (i * 4 + 2), fun i => F (i * 4 + 3), rfl, by unfold maxLen; omega, fun _ => ⟨rfl, Nat.le_refl _, hr.1.lt⟩, fun i hi => ?_, fun i hi => (hr.2 i hi (by omega)).mono (by omega)⟩
      have := fun j (hj : j < xs.length * 4) => hr.1.cell (i := j) hj
      rw [Nat.zero_add]
      exact ⟨this _ (by omega), this _ (by omega), this _ (by omega), this _ (by omega)⟩

set_option maxHeartbeats 1000000 in
theorem to2_any : ∀ x, To2 x := by
  refine V.ind fun k n t xs ih => ?_
  have hS := toS2_of xs ih
  clear ih
  intro lo v w hv hsm
  obtain ⟨a, cap, rfl, hk, hn, ht, hl, hL⟩ := hv.open
  have hsm2 : xs.length ≤ 1048576 ∧ ∀ i (hi : i < xs.length), Small xs[i] := by cases hsm with | mk _ _ _ _ h1 h2 => exact ⟨h1, h2⟩
  have hcall := fun W (hW : Ext w W) => hS lo _ W (hL.ext hW) hsm2.1 hsm2.2
  clear hS
  go_enter Try.func6, Try.ntmps6
  go_wp2_with fail
  refine (hcall _ ((((Ext.refl _).alloc _).alloc _).alloc _)).mono ?_
  rintro e w' ⟨u, rfl, hu, hsk, hE2⟩
  clear hcall
  obtain ⟨hc, hf⟩ := bcell hE2
  have hz : w.heap.size + 1 + 1 < w'.heap.size := by have := hE2.le; simp at this; omega
  simp only [World.size_alloc] at hc hf hu hsk
  obtain ⟨a2, cap2, hu2⟩ : ∃ a2 cap2, u = .slice a2 xs.length cap2 := by obtain ⟨a2, cap2, _, _, _, _, _, _, h, _⟩ := id hu; exact ⟨a2, cap2, h⟩
  subst hu2
  go_wp2
  have hE3 : Ext w w' := ((((Ext.refl _).alloc _).alloc _).alloc _).trans hE2
  refine bodyPost_ret (v := .agg #[.int .i64 k, .int .i64 n, .string t, .slice a2 xs.length cap2]) (by simp [results, Try.results6, go_sem, hc]) rfl ⟨_, rfl, ?_, ?_, ?_⟩
  · refine (ValIn.of_list hk hn ht ?_).mono (lo' := w.heap.size) (lo := w.heap.size + 1 + 1 + 1) (by omega)
    exact ((((hu.setCell (by dsimp only; omega) _).setCell (by dsimp only; omega) _).setCell (by dsimp only; omega) _).setCell (by dsimp only; omega) _).setCell (by dsimp only; omega) _
  · refine Skel.mono (lo := w.heap.size + 1 + 1 + 1) (hi := w'.heap.size) ?_ (by omega) (by simp)
    exact ((((hsk.setCell (.inl (by dsimp only; omega)) _).setCell (.inl (by dsimp only; omega)) _).setCell (.inl (by dsimp only; omega)) _).setCell (.inl (by dsimp only; omega)) _).setCell (.inl (by dsimp only; omega)) _
  · exact ((((hE3.setCell (by dsimp only; omega) _).setCell (by dsimp only; omega) _).setCell (by dsimp only; omega) _).setCell (by dsimp only; omega) _).setCell (by dsimp only; omega) _
end Go.Proofs.Ytdplieoilfhddaa
