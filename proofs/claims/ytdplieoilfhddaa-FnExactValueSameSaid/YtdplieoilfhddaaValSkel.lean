/- How many values are within a value; lists that lie in memory of their own, each list in blocks behind those of its values ahead. -/
import Derived.Test.YtdplieoilfhddaaOnlys
namespace Go.Proofs.Ytdplieoilfhddaa
open Go.RowKit Go.Deep

mutual
def cntV : V → Nat
  | .mk _ _ _ l => cntL l
def cntL : List V → Nat
  | [] => 0
  | x :: r => 1 + cntV x + cntL r
end
theorem cntV_eq (x : V) : cntV x = cntL x.list := by obtain ⟨k, n, t, l⟩ := x; rw [cntV]; rfl
theorem cntL_take : ∀ (l : List V) (i : Nat) (hi : i < l.length), cntL (l.take (i + 1)) = cntL (l.take i) + 1 + cntV l[i]
  | [], i, hi => by simp at hi
  | x :: r, 0, _ => by simp [cntL]
  | x :: r, i + 1, hi => by
    have := cntL_take r i (by simpa using hi)
    simp only [List.take_succ_cons, cntL, List.getElem_cons_succ, this]
    omega
theorem cntL_le : ∀ (l : List V) (i : Nat), cntL (l.take i) ≤ cntL l
  | [], i => by simp
  | x :: r, 0 => by simp [cntL]
  | x :: r, i + 1 => by simp only [List.take_succ_cons, cntL]; have := cntL_le r i; omega
theorem cntL_len : ∀ (l : List V), l.length ≤ cntL l
  | [] => by simp [cntL]
  | x :: r => by simp only [List.length_cons, cntL]; have := cntL_len r; omega

/-- The slice v has lists as l has, in blocks lo to hi of its own, none of them frozen. -/
inductive Skel (w : World) : Nat → Nat → List V → Value → Prop
  | mk (lo hi : Nat) (l : List V) (a : Option Addr) (cap b : Nat) (c : Nat → Value) (s : Nat → Nat) (hl : l.length ≤ 1048576)
    (ha : 0 < l.length → a = some ⟨b, 0, none⟩ ∧ lo ≤ b ∧ b < s 0 ∧ b < w.heap.size) (hs : ∀ i, i < l.length → s i ≤ s (i + 1)) (he : 0 < l.length → s l.length ≤ hi)
    (hx : ∀ j, j < l.length * 4 → ∃ u, w.cell? ⟨b, j, none⟩ = some u) (hf : 0 < l.length → ∀ o, w.frozen? ⟨b, o, none⟩ = false)
    (hc : ∀ i, i < l.length → w.cell? ⟨b, i * 4 + 3, none⟩ = some (c i)) (hv : ∀ i (hi : i < l.length), Skel w (s i) (s (i + 1)) l[i].list (c i)) :
    Skel w lo hi l (.slice a l.length cap)

theorem steps_le {s : Nat → Nat} {n : Nat} (hs : ∀ i, i < n → s i ≤ s (i + 1)) : ∀ i j, i ≤ j → j ≤ n → s i ≤ s j := by
  intro i j hij
  induction j with
  | zero => intro _; have : i = 0 := by omega
            rw [this]; exact Nat.le_refl _
  | succ j ih =>
    intro hj
    by_cases h : i = j + 1
    · rw [h]; exact Nat.le_refl _
    · exact Nat.le_trans (ih (by omega) (by omega)) (hs j (by omega))

theorem Skel.carry {w w' : World} {lo hi : Nat} {l : List V} {v : Value} (h : Skel w lo hi l v) (hz : w.heap.size ≤ w'.heap.size) (hb : ∀ b, lo ≤ b → b < hi → b < w.heap.size → w'.heap[b]? = w.heap[b]?) : Skel w' lo hi l v := by
  induction h with
  | mk lo hi l a cap b c s hl ha hs he hx hf hc hv ih =>
    by_cases h0 : 0 < l.length
    · obtain ⟨a1, a2, a3, a4⟩ := ha h0
      have hbe : b < hi := Nat.lt_of_lt_of_le a3 (Nat.le_trans (steps_le hs 0 l.length (Nat.zero_le _) (Nat.le_refl _)) (he h0))
      have eb := hb b a2 hbe a4
      have e : ∀ o, w'.cell? ⟨b, o, none⟩ = w.cell? ⟨b, o, none⟩ := fun o => World.cell?_of_block eb
      refine .mk lo hi l a cap b c s hl (fun _ => ⟨a1, a2, a3, by omega⟩) hs he (fun j hj => by rw [e]; exact hx j hj) (fun _ o => by rw [World.frozen?_of_block eb]; exact hf h0 o) (fun i hi => by rw [e]; exact hc i hi) (fun i hi => ?_)
      refine ih i hi (fun bb h1 h2 h3 => hb bb ?_ ?_ h3)
      · have := steps_le hs 0 i (Nat.zero_le _) (by omega); omega
      · have := steps_le hs (i + 1) l.length (by omega) (Nat.le_refl _); have := he h0; omega
    · exact .mk lo hi l a cap b c s hl (fun h => absurd h h0) hs (fun h => absurd h h0) (fun j hj => by omega) (fun h => absurd h h0) (fun i hi => by omega) (fun i hi => by omega)
theorem Skel.mono {w : World} {lo hi lo' hi' : Nat} {l : List V} {v : Value} (h : Skel w lo hi l v) (h1 : lo' ≤ lo) (h2 : hi ≤ hi') : Skel w lo' hi' l v := by
  cases h with
  | mk _ _ _ a cap b c s hl ha hs he hx hf hc hv =>
    exact .mk lo' hi' l a cap b c s hl (fun h => ⟨(ha h).1, Nat.le_trans h1 (ha h).2.1, (ha h).2.2⟩) hs (fun h => Nat.le_trans (he h) h2) hx hf hc hv
theorem Skel.ext {w w' : World} {lo hi : Nat} {l : List V} {v : Value} (h : Skel w lo hi l v) (e : Ext w w') : Skel w' lo hi l v := h.carry e.le (fun b _ _ h3 => Below.block e b h3)

def Sz2 (x : V) : Prop := ∀ (lo : Nat) (v : Value) (w : World) (l : Int), ValIn lo w x v → 0 ≤ l → l ≤ 1048576 →
  Calls Try.prog 4 #[v, .int .i64 l] w fun e w' => ∃ r : Int, e = .returned (.int .i64 r) ∧ -1 ≤ r ∧ r ≤ l ∧ (0 ≤ r → Small x ∧ (cntV x : Int) ≤ l - r) ∧ Ext w w'
def SzS2 (xs : List V) : Prop := ∀ (lo : Nat) (v : Value) (w : World) (l : Int), ListIn lo w xs v → 0 ≤ l → l ≤ 1048576 →
  Calls Try.prog 9 #[v, .int .i64 l] w fun e w' => ∃ r : Int, e = .returned (.int .i64 r) ∧ -1 ≤ r ∧ r ≤ l ∧ (0 ≤ r → (xs.length ≤ 1048576 ∧ ∀ i (hi : i < xs.length), Small xs[i]) ∧ (cntL xs : Int) ≤ l - r) ∧ Ext w w'

set_option maxHeartbeats 400000 in
theorem szS2_of (xs : List V) (ih : ∀ i (hi : i < xs.length), Sz2 xs[i]) : SzS2 xs := by
  intro lo v w l hv h0 h1
  obtain ⟨a, cap, b0, off0, c0, c1, c2, c3, rfl, hm, _⟩ := id hv
  unfold maxLen at hm
  by_cases hbig : l < xs.length
  · go_enter Try.func9, Try.ntmps9
    go_wp2
    go_ret
    exact ⟨_, rfl, by omega, by omega, fun h => by omega, Ext.refl _⟩
  · go_enter Try.func9, Try.ntmps9
    go_wp2
    go_loopw [1, 5] (fun l' i wr => ∃ (k : Nat) (n : Int), k ≤ xs.length ∧ i = .int .i64 k ∧ l' = .int .i64 n ∧ 0 ≤ n ∧ n + xs.length + (cntL (xs.take k) - k) ≤ l ∧ (k : Int) ≤ cntL (xs.take k) ∧ Ext w wr ∧ ∀ j (hj : j < xs.length), j < k → Small xs[j]) (fun _ i _ => xs.length - (intOf i).toNat)
    case atStart => exact ⟨0, _, Nat.zero_le _, rfl, rfl, by omega, by simp [cntL], by simp, Ext.refl _, fun j _ h => by omega⟩
    case round =>
      obtain ⟨k, n, hk, rfl, rfl, hn0, hn1, hck, hE, hsm⟩ := hrel
      by_cases hlt : k < xs.length
      · obtain ⟨cap2, b, off, hsl, hlo, hb, hcs⟩ := (hv.ext hE).at (by omega)
        cases hsl
        obtain ⟨d0, d1, d2, d3, e0, e1, e2, e3, hx⟩ := hcs k hlt
        clear hcs
        have hct : Hid (cntL (xs.take (k + 1)) = cntL (xs.take k) + 1 + cntV xs[k]) := cntL_take xs k hlt
        have hnl : n ≤ l := by omega
        go_wp2_with (go_at_call 4; refine (ih k hlt lo _ _ _ hx hn0 (by omega)).mono ?_; rintro e w' ⟨r, rfl, hr1, hr2, hr3, hE2⟩)
        · go_ret
          exact ⟨_, rfl, by omega, by omega, fun h => by omega, hE.trans hE2⟩
        · go_roundw
          case rel =>
            have hr4 := hr3 (by omega)
            have hct2 := hct.out
            refine ⟨k + 1, _, by omega, by go_num, rfl, by omega, by omega, by omega, hE.trans hE2, fun j hj h => ?_⟩
            rcases Nat.lt_succ_iff_lt_or_eq.1 h with h' | h'
            · exact hsm j hj h'
            · subst h'; exact hr4.1
          case measure => simp [intOf]; omega
      · have hkx : k = xs.length := by omega
        have hct : Hid (xs.take k = xs) := by rw [hkx]; exact List.take_length
        go_wp2
        go_ret
        rw [hct.out] at hn1 hck
        exact ⟨_, rfl, by omega, by omega, fun _ => ⟨⟨by omega, fun i hi => hsm i hi (by omega)⟩, by omega⟩, hE⟩

set_option maxHeartbeats 400000 in
theorem sz2_any : ∀ x, Sz2 x := by
  refine V.ind fun k n t xs ih => ?_
  have hS := szS2_of xs ih
  clear ih
  intro lo v w l hv h0 h1
  obtain ⟨a, cap, rfl, hk, hn, ht, hl, hL⟩ := hv.open
  unfold maxLen at ht hl
  clear hk hn
  have hcv : Hid (cntV (.mk k n t xs) = cntL xs) := cntV_eq _
  by_cases hbig : l < t.size
  · go_enter Try.func4, Try.ntmps4
    go_wp2
    go_ret
    exact ⟨_, rfl, by omega, by omega, fun h => by omega, (Ext.refl _).alloc _⟩
  · go_enter Try.func4, Try.ntmps4
    go_wp2_with (go_at_call 9; refine (hS lo _ _ _ (hL.ext ((Ext.refl _).alloc _)) (by omega) (by omega)).mono ?_; rintro e w' ⟨r, rfl, hr1, hr2, hr3, hE2⟩)
    all_goals go_ret
    · exact ⟨_, rfl, by omega, by omega, fun h => by omega, ((Ext.refl _).alloc _).trans hE2⟩
    · exact ⟨_, rfl, by omega, by omega, fun h => ⟨.mk _ _ _ _ (hr3 h).1.1 (hr3 h).1.2, by rw [hcv.out]; have := (hr3 h).2; omega⟩, ((Ext.refl _).alloc _).trans hE2⟩
end Go.Proofs.Ytdplieoilfhddaa
