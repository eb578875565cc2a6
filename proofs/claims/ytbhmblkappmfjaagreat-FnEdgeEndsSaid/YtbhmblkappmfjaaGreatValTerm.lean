/- What impl.termWithin and impl.listWithin answer: whether a value is ok down to a depth, and then its term, in new memory. -/
import Derived.Test.YtbhmblkappmfjaaGreatTermMem
namespace Go.Proofs.YtbhmblkappmfjaaGreat
open Go.RowKit Go.Deep

def Face (t : Value) : Prop := t = .nilIface ∨ ∃ ty y, t = .iface ty y
def TW (d : Nat) : Prop := ∀ (x : V) (lo : Nat) (v : Value) (w : World), ValIn lo w x v →
  Calls Tryz.prog 82 #[v, .int .i64 (d : Int)] w fun e w' => ∃ t, e = .returned (.tuple #[t, .bool (okI d x)]) ∧ Face t ∧ (okI d x = true → TermIn (fun b => w.heap.size ≤ b) w' x t) ∧ Ext w w'
def allI (d : Nat) (l : List V) : Bool := decide (l.length ≤ 6) && l.all (okI d)
def TL (d : Nat) : Prop := ∀ (l : List V) (lo : Nat) (v : Value) (w : World), ListIn lo w l v →
  Calls Tryz.prog 88 #[v, .int .i64 ((d : Int) + 1)] w fun e w' => ∃ t, e = .returned (.tuple #[t, .bool (allI d l)]) ∧ Face t ∧ (allI d l = true → ∃ u, t = .iface 138 u ∧ TermsIn (fun b => w.heap.size ≤ b) w' l u) ∧ Ext w w'

theorem Tryz.infoT : (Tryz.prog.info? 121).map (fun i => (i.zero, i.size, i.bytes)) = some (some .nilIface, 1, 16) := by kernel_rfl

/-- What the append of one more term leaves of the terms that are there. -/
theorem terms_step {w wr w' w3 : World} {u v' : Value} {d : Nat} {l : List V} {k : Nat} {cs : List Value} {t : Value} {ob o2 : Obj} (hlt : k < l.length)
    (hown : wr.ownsRow w.heap.size 121 1 u k cs) (hE : Ext w wr) (hE2 : Ext (wr.alloc ob) w')
    (hgrow : (w'.alloc o2).grownBy w3 u.ownBlock) (hloc : v'.ownBlock = u.ownBlock ∨ v'.ownBlock = some (w'.alloc o2).heap.size)
    (hall : ∀ j (hj : j < l.length), j < k → okI d l[j] = true ∧ ∃ c, cs[j]? = some c ∧ TermIn (fun b => w.heap.size ≤ b ∧ u.ownBlock ≠ some b) wr l[j] c)
    (hok : okI d l[k] = true) (hT : TermIn (fun b => (wr.alloc ob).heap.size ≤ b) w' l[k] t) :
    ∀ j (hj : j < l.length), j < k + 1 → okI d l[j] = true ∧ ∃ c, (cs ++ [t])[j]? = some c ∧ TermIn (fun b => w.heap.size ≤ b ∧ v'.ownBlock ≠ some b) w3 l[j] c := by
  have hz1 : wr.heap.size + 1 ≤ w'.heap.size := by have := hE2.le; simpa using this
  have hz2 : w'.heap.size + 1 ≤ w3.heap.size := by have := hgrow.size; simpa using this
  have hz0 := hE.le
  have hlen : cs.length = k := by have := hown.1; simpa using this
  intro j hj h
  rcases Nat.lt_succ_iff_lt_or_eq.1 h with h' | h'
  · obtain ⟨h1, c, h2, h3⟩ := hall j hj h'
    refine ⟨h1, c, by rw [List.getElem?_append_left (by omega)]; exact h2, h3.carry (by omega) (fun b hb hlt2 => ⟨hb.1, ?own⟩) (fun b hb hlt2 => ?blk)⟩
    case own =>
      rcases hloc with e | e
      · rw [e]; exact hb.2
      · rw [e]; simp; omega
    case blk =>
      rw [hgrow.block b (by simp; omega) (fun e => hb.2 e.symm), Below.heap_alloc _ _ _ (by omega), Below.block hE2 b (by simp; omega), Below.heap_alloc _ _ _ hlt2]
  · subst h'
    refine ⟨hok, t, by rw [List.getElem?_append_right (by omega)]; simp [hlen], hT.carry (by omega) (fun b hb hlt2 => ⟨by simp at hb; omega, ?own⟩) (fun b hb hlt2 => ?blk)⟩
    case own =>
      rcases hloc with e | e
      · rw [e]; intro e2
        have := (hown.lt b e2).2
        simp at hb
        omega
      · rw [e]; simp; omega
    case blk =>
      rw [hgrow.block b (by simp; omega) (fun e2 => by have := (hown.lt b e2.symm).2; simp at hb; omega), Below.heap_alloc _ _ _ hlt2]

set_option maxRecDepth 4000 in
set_option maxHeartbeats 1000000 in
theorem listWithin_of (d : Nat) (hd : d ≤ 3) (ih : TW d) : TL d := by
  intro l lo v w hv
  obtain ⟨a, cap, _, _, _, _, _, _, rfl, hm, _⟩ := id hv
  unfold maxLen at hm
  by_cases h6 : 6 < l.length
  · have hfin : Hid (allI d l = false) := by
      have : decide (l.length ≤ 6) = false := decide_eq_false (by omega)
      show _ = _
      simp [allI, this]
    go_enter Tryz.func88, Tryz.ntmps88
    go_wp2
    go_ret2
    exact ⟨_, by rw [hfin.out]; rfl, .inl rfl, fun h => (by rw [hfin.out] at h; cases h), Ext.refl _⟩
  · obtain ⟨i0, hi, hz0, hz1, hz2⟩ := info_parts Tryz.infoT
    go_enter Tryz.func88, Tryz.ntmps88
    go_wp2
    generalize hW1 : w.alloc _ = W1
    have hE1 : Ext w W1 := by subst hW1; exact (Ext.refl _).alloc _
    have hown1 : W1.ownsRow w.heap.size 121 1 (.slice (some ⟨w.heap.size, 0, none⟩) 0 0) 0 [] := by subst hW1; exact World.ownsRow_made w #[] 0 (Nat.le_refl _) (by unfold maxLen; omega) rfl
    clear hW1
    go_loopw [6, 17] (fun u i wr => ∃ (k : Nat) (cs : List Value), k ≤ l.length ∧ i = .int .i64 k ∧ wr.ownsRow w.heap.size 121 1 u k cs ∧ Ext w wr ∧ u ≠ .slice none 0 0 ∧
      ∀ j (hj : j < l.length), j < k → okI d l[j] = true ∧ ∃ c, cs[j]? = some c ∧ TermIn (fun b => w.heap.size ≤ b ∧ u.ownBlock ≠ some b) wr l[j] c) (fun _ i _ => l.length - (intOf i).toNat)
    case atStart => exact ⟨0, [], Nat.zero_le _, rfl, hown1, hE1, by simp, fun j _ h => by omega⟩
    case round =>
      obtain ⟨k, cs, hk, rfl, hown, hE, hne, hall⟩ := hrel
      by_cases hlt : k < l.length
      · obtain ⟨cap2, b, off, hsl, _, _, hcs⟩ := (hv.ext hE).at (by omega)
        cases hsl
        obtain ⟨d0, d1, d2, d3, g0, g1, g2, g3, hx⟩ := hcs k hlt
        clear hcs
        obtain ⟨kk, nn, tt, aa, ll, cc, hsh⟩ := hx.shape
        simp only [Value.agg.injEq, Array.mk.injEq, List.cons.injEq] at hsh
        obtain ⟨rfl, rfl, rfl, rfl, _⟩ := hsh
        have hcall := fun W (hW : Ext wr W) => ih l[k] lo _ W (hx.ext hW)
        clear ih
        go_wp2_with fail
        refine (hcall _ ((Ext.refl _).alloc _)).mono ?_
        rintro e w' ⟨t, rfl, hF, hT, hE2⟩
        clear hcall
        have hE3 : Ext w w' := (hE.alloc _).trans hE2
        cases hok : okI d l[k]
        · have hfin : Hid (allI d l = false) := by
            have h1 : l.all (okI d) = false := by
              rw [List.all_eq_false]
              exact ⟨l[k], List.getElem_mem _, by simp [hok]⟩
            show _ = _
            simp [allI, h1]
          clear hT hall
          go_wp2
          go_ret2
          exact ⟨_, by rw [hfin.out]; rfl, .inl rfl, fun h => (by rw [hfin.out] at h; cases h), hE3⟩
        · have hT2 := hT hok
          obtain ⟨ty, y, rfl⟩ := hT2.shape
          have hown2 := (hown.alloc (.cells #[.int .i64 kk, .int .i64 nn, .string tt, .slice aa ll cc] 73)).kept hE2.grown (by cases h : u6.ownBlock <;> simp)
          have HA : Hid (∀ j (hj : j < l.length), j < k → okI d l[j] = true ∧ ∃ c, cs[j]? = some c ∧ TermIn (fun b => w.heap.size ≤ b ∧ u6.ownBlock ≠ some b) wr l[j] c) := hall
          have HO : Hid (okI d l[k] = true) := hok
          clear hT hall
          go_wp2_with (at_builtin; refine wpList_append_own_at _ rfl _ _ 138 rfl w.heap.size 121 i0 .nilIface 1 16 Tryz.underlying138 hi hz0 hz1 hz2 rfl (by decide) _ _ _ rfl (hown2.alloc _) ⟨w'.heap.size, 0, none⟩ 1 1 [.iface ty y] rfl rfl (cell_one_new _ _ _) (by simp [Value.oneCell']) (by unfold maxLen; omega) (by omega) (by have := hE3.le; simp; omega) ?_; intro v' w3 hown' hgrow hnil hloc)
          go_roundw
          case rel =>
            refine ⟨k + 1, _, by omega, by go_num, hown', ?_, fun h => hne (hnil.1 h).1, terms_step hlt hown hE hE2 hgrow hloc HA.out HO.out hT2⟩
            exact Below.grown (Ext.alloc hE3 _) hgrow (by have := hE3.le; simp; omega) (fun j hj => (hown.lt j hj).1)
          case measure => simp [intOf]; omega
      · have hkl : k = l.length := by omega
        have hfin : Hid (allI d l = true) := by
          have h1 : l.all (okI d) = true := by
            rw [List.all_eq_true]
            intro y hy
            obtain ⟨j, hj, rfl⟩ := List.getElem_of_mem hy
            exact (hall j hj (by omega)).1
          have h2 : decide (l.length ≤ 6) = true := decide_eq_true (by omega)
          show _ = _
          simp [allI, h1, h2]
        have HA : Hid (∀ j (hj : j < l.length), j < k → okI d l[j] = true ∧ ∃ c, cs[j]? = some c ∧ TermIn (fun b => w.heap.size ≤ b ∧ u6.ownBlock ≠ some b) wr l[j] c) := hall
        clear hall ih
        rcases hown.2 with ⟨h0, _⟩ | ⟨g, cap3, cur, rfl, hgb, hgh, _⟩
        · exact absurd h0 hne
        go_wp2
        go_ret2
        refine ⟨_, by rw [hfin.out]; rfl, .inr ⟨_, _, rfl⟩, fun _ => ⟨_, rfl, ?_⟩, hE⟩
        refine ⟨_, cap3, g, 0, fun i => cs[i]?.getD undef, by rw [← hkl], by omega, fun _ => ⟨rfl, hgb, lt_of_block hgh⟩, fun i hi => ?_, fun i hi => ?_⟩
        · obtain ⟨_, c, h2, _⟩ := HA.out i hi (by omega)
          have := hown.cells (g := g) rfl i c h2
          rw [Go.WideShapes.add_plain] at this
          rw [this]; show some c = some (cs[i]?.getD undef); rw [h2]; rfl
        · obtain ⟨_, c, h2, h3⟩ := HA.out i hi (by omega)
          show TermIn _ _ _ (cs[i]?.getD undef)
          rw [h2]
          exact h3.mono (fun b hb _ => hb.1)

theorem okI_succ (d : Nat) (k n : Int) (t : ByteArray) (l : List V) : okI (d + 1) (.mk k n t l) = (restB (.mk k n t l) && (if k = 0 then true else if k = 1 then n == 0 || n == 1 else if k = 2 then inB n (-1000000000) 1000000000 else if k = 3 then textB t
      else if k = 4 then allI d l else if k = 5 then inB n 0 1000000000 else if k = 6 then inB n 0 1000000000 else false)) := rfl

set_option maxHeartbeats 1000000 in
theorem termWithin_zero : TW 0 := by
  intro x lo v w hv
  obtain ⟨kk, nn, tt, aa, ll, cc, rfl⟩ := hv.shape
  go_enter Tryz.func82, Tryz.ntmps82
  go_wp2
  go_ret2
  exact ⟨_, rfl, .inl rfl, fun h => (by cases h), (Ext.refl _).alloc _⟩

set_option maxHeartbeats 1000000 in
theorem termWithin_of (d : Nat) (ih : TL d) : TW (d + 1) := by
  intro x lo v w hv
  have hrest := fun W (hW : Ext w W) => rest_any x lo v W (hv.ext hW)
  obtain ⟨k, n, t, l⟩ := x
  obtain ⟨a, cap, rfl, wk, wn, ht, hl, hL⟩ := hv.open
  have hd1 : ((d + 1 : Nat) : Int) = (d : Int) + 1 := by omega
  have hd0 : ((d : Int) + 1 == 0) = false := by simp; omega
  rw [hd1]
  clear wk wn hd1
  cases hr : restB (.mk k n t l)
  · have hfin : Hid (okI (d + 1) (.mk k n t l) = false) := by show _ = _; rw [okI_succ, hr]; rfl
    clear ih
    go_enter Tryz.func82, Tryz.ntmps82
    go_wp2_with (go_at_call 86; refine (hrest _ ((Ext.refl _).alloc _)).mono ?_; rintro e w' ⟨rfl, hE2⟩)
    go_ret2
    exact ⟨_, by rw [hfin.out]; rfl, .inl rfl, fun h => (by rw [hfin.out] at h; cases h), ((Ext.refl _).alloc _).trans hE2⟩
  · by_cases h0 : k = 0
    · subst h0
      have hfin : Hid (okI (d + 1) (.mk 0 n t l) = true) := by show _ = _; rw [okI_succ, hr]; rfl
      clear ih
      go_enter Tryz.func82, Tryz.ntmps82
      go_wp2_with fail
      refine (hrest _ ((Ext.refl _).alloc _)).mono ?_; rintro e w' ⟨rfl, hE2⟩
      obtain ⟨hc, hf⟩ := bcell hE2
      simp only [World.size_alloc] at hc hf
      go_wp2
      go_ret2
      exact ⟨_, by rw [hfin.out]; rfl, .inr ⟨_, _, rfl⟩, fun _ => .null _ _ _, ((Ext.refl _).alloc _).trans hE2⟩
    by_cases h1 : k = 1
    · subst h1
      have hfin : Hid (okI (d + 1) (.mk 1 n t l) = (n == 0 || n == 1)) := by show _ = _; rw [okI_succ, hr]; rfl
      clear ih
      go_enter Tryz.func82, Tryz.ntmps82
      go_wp2_with fail
      refine (hrest _ ((Ext.refl _).alloc _)).mono ?_; rintro e w' ⟨rfl, hE2⟩
      obtain ⟨hc, hf⟩ := bcell hE2
      simp only [World.size_alloc] at hc hf
      have hE3 : Ext w w' := ((Ext.refl _).alloc _).trans hE2
      go_wp2_with fail
      cases hn : (n == 0)
      · go_quiet (fail)
        go_wp2
        go_ret2
        refine ⟨_, ?_, .inr ⟨_, _, rfl⟩, fun _ => .bool _ _ _, hE3.drewN _⟩
        rw [hfin.out, hn]; rfl
      · go_quiet (fail)
        go_wp2
        go_ret2
        refine ⟨_, ?_, .inr ⟨_, _, rfl⟩, fun _ => .bool _ _ _, hE3.drewN _⟩
        rw [hfin.out, hn]; rfl
    by_cases h2 : k = 2
    · subst h2
      have hfin : Hid (okI (d + 1) (.mk 2 n t l) = inB n (-1000000000) 1000000000) := by show _ = _; rw [okI_succ, hr]; rfl
      clear ih
      go_enter Tryz.func82, Tryz.ntmps82
      go_wp2_with fail
      refine (hrest _ ((Ext.refl _).alloc _)).mono ?_; rintro e w' ⟨rfl, hE2⟩
      obtain ⟨hc, hf⟩ := bcell hE2
      simp only [World.size_alloc] at hc hf
      have hE3 : Ext w w' := ((Ext.refl _).alloc _).trans hE2
      go_wp2_with fail
      by_cases hlow : -1000000000 ≤ n
      · have hd : decide (-1000000000 ≤ n) = true := decide_eq_true hlow
        go_quiet (fail)
        go_wp2
        go_ret2
        refine ⟨_, ?_, .inr ⟨_, _, rfl⟩, fun _ => .num _ _ _, hE3.drewN _⟩
        rw [hfin.out]
        by_cases hhi : n ≤ 1000000000 <;> simp [inB, hlow, hhi]
      · have hd : decide (-1000000000 ≤ n) = false := decide_eq_false hlow
        have hno : Hid (inB n (-1000000000) 1000000000 = false) := decide_eq_false (by omega)
        go_quiet (fail)
        go_wp2
        go_ret2
        refine ⟨_, ?_, .inr ⟨_, _, rfl⟩, fun _ => .num _ _ _, hE3.drewN _⟩
        rw [hfin.out, hno.out]; rfl
    by_cases h3 : k = 3
    · subst h3
      have hfin : Hid (okI (d + 1) (.mk 3 n t l) = textB t) := by show _ = _; rw [okI_succ, hr]; rfl
      clear ih
      go_enter Tryz.func82, Tryz.ntmps82
      go_wp2_with fail
      refine (hrest _ ((Ext.refl _).alloc _)).mono ?_; rintro e w' ⟨rfl, hE2⟩
      obtain ⟨hc, hf⟩ := bcell hE2
      simp only [World.size_alloc] at hc hf
      have hE3 : Ext w w' := ((Ext.refl _).alloc _).trans hE2
      go_wp2_with fail
      go_quiet ((go_at_call 87; exact Calls.quiet_of_same (textOk_any _ _ ht)))
      go_wp2
      go_ret2
      refine ⟨_, ?_, .inr ⟨_, _, rfl⟩, fun _ => .text _ _ _, hE3.drewN _⟩
      rw [hfin.out]; rfl
    by_cases h4 : k = 4
    · subst h4
      have hfin : Hid (okI (d + 1) (.mk 4 n t l) = allI d l) := by show _ = _; rw [okI_succ, hr]; rfl
      have hcall := fun W (hW : Ext w W) => ih l lo _ W (hL.ext hW)
      clear ih
      go_enter Tryz.func82, Tryz.ntmps82
      go_wp2_with fail
      refine (hrest _ ((Ext.refl _).alloc _)).mono ?_; rintro e w' ⟨rfl, hE2⟩
      obtain ⟨hc, hf⟩ := bcell hE2
      simp only [World.size_alloc] at hc hf
      have hE3 : Ext w w' := ((Ext.refl _).alloc _).trans hE2
      go_wp2_with fail
      refine (hcall _ hE3).mono ?_; rintro e w2 ⟨u, rfl, hF, hT, hE4⟩
      clear hcall
      have HT : Hid (allI d l = true → ∃ s, u = .iface 138 s ∧ TermsIn (fun b => w'.heap.size ≤ b) w2 l s) := hT
      clear hT
      rcases hF with rfl | ⟨ty, y, rfl⟩
      all_goals
        go_wp2
        go_ret2
        refine ⟨_, by rw [hfin.out]; rfl, by first | exact .inl rfl | exact .inr ⟨_, _, rfl⟩, fun h => ?_, hE3.trans hE4⟩
        rw [hfin.out] at h
        obtain ⟨s, hs, hT⟩ := HT.out h
        first
          | (cases hs; done)
          | (cases hs
             exact (TermIn.of_list hT).mono (fun b hb _ => Nat.le_trans hE3.le hb))
    by_cases h5 : k = 5
    · subst h5
      have hfin : Hid (okI (d + 1) (.mk 5 n t l) = inB n 0 1000000000) := by show _ = _; rw [okI_succ, hr]; rfl
      clear ih
      go_enter Tryz.func82, Tryz.ntmps82
      go_wp2_with fail
      refine (hrest _ ((Ext.refl _).alloc _)).mono ?_; rintro e w' ⟨rfl, hE2⟩
      obtain ⟨hc, hf⟩ := bcell hE2
      simp only [World.size_alloc] at hc hf
      have hE3 : Ext w w' := ((Ext.refl _).alloc _).trans hE2
      go_wp2_with fail
      by_cases hlow : 0 ≤ n
      · have hd : decide (0 ≤ n) = true := decide_eq_true hlow
        go_quiet (fail)
        go_wp2
        go_ret2
        refine ⟨_, ?_, .inr ⟨_, _, rfl⟩, fun _ => .node _ _ _, hE3.drewN _⟩
        rw [hfin.out]
        by_cases hhi : n ≤ 1000000000 <;> simp [inB, hlow, hhi]
      · have hd : decide (0 ≤ n) = false := decide_eq_false hlow
        have hno : Hid (inB n 0 1000000000 = false) := decide_eq_false (by omega)
        go_quiet (fail)
        go_wp2
        go_ret2
        refine ⟨_, ?_, .inr ⟨_, _, rfl⟩, fun _ => .node _ _ _, hE3.drewN _⟩
        rw [hfin.out, hno.out]; rfl
    by_cases h6 : k = 6
    · subst h6
      have hfin : Hid (okI (d + 1) (.mk 6 n t l) = inB n 0 1000000000) := by show _ = _; rw [okI_succ, hr]; rfl
      clear ih
      go_enter Tryz.func82, Tryz.ntmps82
      go_wp2_with fail
      refine (hrest _ ((Ext.refl _).alloc _)).mono ?_; rintro e w' ⟨rfl, hE2⟩
      obtain ⟨hc, hf⟩ := bcell hE2
      simp only [World.size_alloc] at hc hf
      have hE3 : Ext w w' := ((Ext.refl _).alloc _).trans hE2
      go_wp2_with fail
      by_cases hlow : 0 ≤ n
      · have hd : decide (0 ≤ n) = true := decide_eq_true hlow
        go_quiet (fail)
        go_wp2
        go_ret2
        refine ⟨_, ?_, .inr ⟨_, _, rfl⟩, fun _ => .edge _ _ _, hE3.drewN _⟩
        rw [hfin.out]
        by_cases hhi : n ≤ 1000000000 <;> simp [inB, hlow, hhi]
      · have hd : decide (0 ≤ n) = false := decide_eq_false hlow
        have hno : Hid (inB n 0 1000000000 = false) := decide_eq_false (by omega)
        go_quiet (fail)
        go_wp2
        go_ret2
        refine ⟨_, ?_, .inr ⟨_, _, rfl⟩, fun _ => .edge _ _ _, hE3.drewN _⟩
        rw [hfin.out, hno.out]; rfl
    have hfin : Hid (okI (d + 1) (.mk k n t l) = false) := by show _ = _; rw [okI_succ, hr]; simp [h0, h1, h2, h3, h4, h5, h6]
    have e0 : (k == 0) = false := by simp [h0]
    have e1 : (k == 1) = false := by simp [h1]
    have e2 : (k == 2) = false := by simp [h2]
    have e3 : (k == 3) = false := by simp [h3]
    have e4 : (k == 4) = false := by simp [h4]
    have e5 : (k == 5) = false := by simp [h5]
    have e6 : (k == 6) = false := by simp [h6]
    clear h0 h1 h2 h3 h4 h5 h6 ih
    go_enter Tryz.func82, Tryz.ntmps82
    go_wp2_with fail
    refine (hrest _ ((Ext.refl _).alloc _)).mono ?_; rintro e w' ⟨rfl, hE2⟩
    obtain ⟨hc, hf⟩ := bcell hE2
    simp only [World.size_alloc] at hc hf
    go_wp2
    go_ret2
    exact ⟨_, by rw [hfin.out]; rfl, .inl rfl, fun h => (by rw [hfin.out] at h; cases h), ((Ext.refl _).alloc _).trans hE2⟩

theorem termWithin_any : ∀ d, d ≤ 3 → TW d := by
  intro d
  induction d with
  | zero => intro _; exact termWithin_zero
  | succ d ih => intro hd; exact termWithin_of d (listWithin_of d (by omega) (ih (by omega)))

set_option maxHeartbeats 400000 in
theorem termOf_any (x : V) (lo : Nat) (v : Value) (w : World) (hv : ValIn lo w x v) :
    Calls Tryz.prog 74 #[v] w fun e w' => ∃ t, e = .returned (.tuple #[t, .bool (okN 3 x)]) ∧ Face t ∧ (okN 3 x = true → TermIn (fun b => w.heap.size ≤ b) w' x t) ∧ Ext w w' := by
  have hcall := fun W (hW : Ext w W) => termWithin_any 3 (by omega) x lo v W (hv.ext hW)
  rw [← okI_eq 2 x]
  obtain ⟨kk, nn, tt, aa, ll, cc, rfl⟩ := hv.shape
  go_enter Tryz.func74, Tryz.ntmps74
  go_wp2_with fail
  refine (hcall _ ((Ext.refl _).alloc _)).mono ?_
  rintro e w' ⟨t, rfl, hF, hT, hE2⟩
  clear hcall
  have HT : Hid (okI 3 x = true → TermIn (fun b => w.heap.size ≤ b) w' x t) := fun h => (hT h).mono (fun b hb _ => by simp at hb; omega)
  clear hT
  rcases hF with rfl | ⟨ty, y, rfl⟩
  all_goals
    go_wp2
    go_ret2
    exact ⟨_, rfl, by first | exact .inl rfl | exact .inr ⟨_, _, rfl⟩, HT.out, ((Ext.refl _).alloc _).trans hE2⟩

end Go.Proofs.YtbhmblkappmfjaaGreat
