/- A drawn region whose last operation turns what the others read: the facts on the world are asked for until that one comes up. -/
import Derived.Test.YtbhmblkappmfjaaGreatBase
import Derived.Deep.RegionHeld3
namespace Go.Proofs.YtbhmblkappmfjaaGreat
open Go.RowKit Go.Deep

section
variable {P : Program} {ops : Array Oper} {Q : Exit → Act → World → Prop} {md : Region.Mode} {S : World → Prop} {l : Nat}

/-- In whatever order: behind each operation but the last one S holds. -/
def lateW (P : Program) (md : Region.Mode) (ops : Array Oper) (Q : Exit → Act → World → Prop) (S : World → Prop) (l : Nat) : Nat → Array Bool → Act → World → Prop
  | 0, listed, a, w => Region.ready md ops listed = [] ∧ Q .normal a w
  | n + 1, listed, a, w => (Region.ready md ops listed = [] → Q .normal a w) ∧ ∀ i ∈ Region.ready md ops listed, wpOp P ops Q i (fun a' w' => ((listed.setIfInBounds i true).getD l false = false → S w') ∧ lateW P md ops Q S l n (listed.setIfInBounds i true) a' w') a w
theorem lateW.any : ∀ (n : Nat) (listed : Array Bool) (a : Act) (w : World), lateW P md ops Q S l n listed a w → wpAny P md ops Q n listed a w
  | 0, _, _, _, h => h
  | n + 1, _, _, _, h => ⟨h.1, fun i hi => wpOp_mono (fun a' w' h' => lateW.any n _ a' w' h'.2) (h.2 i hi)⟩
/-- What the last operation waits for. -/
def waits (md : Region.Mode) (ops : Array Oper) (l i : Nat) : Bool := match ops[l]? with
  | some o => o.after.any fun e => Region.binds md e && e.on == i
  | none => false
theorem lateW.first {i : Nat} {oi : Oper} {v : Value} (hi : ops[i]? = some oi) (hil : i ≠ l) (hwt : waits md ops l i = true) (hsel : ∀ (j : Nat) (o : Oper) cs b, ops[j]? = some o → o.op ≠ .select cs b)
    (hQ : ∀ c a w, Q (.panic c) (a.put oi.dst v) w → Q (.panic c) a w) : ∀ (n : Nat) (listed : Array Bool) (a : Act) (w : World),
      (∀ j oj, ops[j]? = some oj → j ≠ i → listed.getD j true = false → (∀ e ∈ oj.after, Region.binds md e = true → e.on ≠ i) → oi.apart ops oj = true) →
      i ∈ Region.ready md ops listed → YieldsIf P ops S oi v a → listed.getD l false = false → S w → lateW P md ops Q S l n (listed.setIfInBounds i true) (a.put oi.dst v) w → lateW P md ops Q S l (n + 1) listed a w := by
  intro n
  induction n with
  | zero =>
    intro listed a w _ hr hy hl hS H
    refine ⟨fun h => (by rw [h] at hr; cases hr), fun j hj => ?_⟩
    by_cases e : j = i
    · rw [e]; exact hy.wpOp hi hS ⟨fun _ => hS, H⟩
    · have := ready_mono hj e
      rw [H.1] at this
      cases this
  | succ n ih =>
    intro listed a w hf hr hy hl hS H
    refine ⟨fun h => (by rw [h] at hr; cases hr), fun j hj => ?_⟩
    by_cases e : j = i
    · rw [e]; exact hy.wpOp hi hS ⟨fun _ => hS, H⟩
    · obtain ⟨hu, oj, hoj, hall⟩ := mem_ready.1 hj
      have hno : ∀ x ∈ oj.after, Region.binds md x = true → x.on ≠ i := fun x hx hb he => by
        have k1 := hall x hx hb
        have k0 := (mem_ready.1 hr).1
        rw [he] at k1
        rcases Nat.lt_or_ge i listed.size with hz | hz
        · simp [hz] at k0 k1; rw [k0] at k1; cases k1
        · simp [Array.getElem?_eq_none hz] at k1
      have hjl : j ≠ l := fun h => by
        subst h
        unfold waits at hwt
        rw [hoj] at hwt
        obtain ⟨x, hx, hb⟩ := Array.any_eq_true'.1 hwt
        simp only [Bool.and_eq_true, beq_iff_eq] at hb
        exact hno x hx hb.1 hb.2
      have hl' : (listed.setIfInBounds j true).getD l false = false := by rw [getD_set_ne false hjl]; exact hl
      have h2 := wpOp_putIf hoj (hf j oj hoj e hu hno) (fun cs b => hsel i oi cs b hi) (fun cs b => hsel j oj cs b hoj) hQ hy (H.2 j (ready_mono hj e))
      have hf' : ∀ k ok, ops[k]? = some ok → k ≠ i → (listed.setIfInBounds j true).getD k true = false → (∀ x ∈ ok.after, Region.binds md x = true → x.on ≠ i) → oi.apart ops ok = true := fun k ok hk hki hun hn => by
        refine hf k ok hk hki ?_ hn
        by_cases hjk : j = k
        · rw [← hjk]; exact hu
        · rw [getD_set_ne true hjk] at hun; exact hun
      have hcm : ((listed.setIfInBounds i true).setIfInBounds j true).getD l false = (listed.setIfInBounds j true).getD l false := by rw [Array.setIfInBounds_comm _ _ (Ne.symm e), getD_set_ne false hil]
      refine wpOp_mono (fun a' w' h3 => ?_) h2
      obtain ⟨h4, h5, h6⟩ := h3
      rw [hcm] at h5
      refine ⟨h5, ih (listed.setIfInBounds j true) a' w' hf' (ready_mono hr (Ne.symm e)) h4 hl' (h5 hl') ?_⟩
      rw [Array.setIfInBounds_comm _ _ e]
      exact h6
theorem lateW.firstP {i : Nat} {oi : Oper} {v : Value} (hi : ops[i]? = some oi) (hil : i ≠ l) (hsel : ∀ (j : Nat) (o : Oper) cs b, ops[j]? = some o → o.op ≠ .select cs b)
    (hQ : ∀ c a w, Q (.panic c) (a.put oi.dst v) w → Q (.panic c) a w) : ∀ (n : Nat) (listed : Array Bool) (a : Act) (w : World),
      (∀ j oj, ops[j]? = some oj → j ≠ i → listed.getD j true = false → (∀ e ∈ oj.after, Region.binds md e = true → e.on ≠ i) → oi.apart ops oj = true) →
      i ∈ Region.ready md ops listed → YieldsIf P ops (fun _ => True) oi v a → (listed.getD l false = false → S w) → lateW P md ops Q S l n (listed.setIfInBounds i true) (a.put oi.dst v) w → lateW P md ops Q S l (n + 1) listed a w := by
  intro n
  induction n with
  | zero =>
    intro listed a w _ hr hy hS H
    refine ⟨fun h => (by rw [h] at hr; cases hr), fun j hj => ?_⟩
    by_cases e : j = i
    · rw [e]; exact hy.wpOp hi trivial ⟨fun h => hS (by rwa [getD_set_ne false hil] at h), H⟩
    · have := ready_mono hj e
      rw [H.1] at this
      cases this
  | succ n ih =>
    intro listed a w hf hr hy hS H
    refine ⟨fun h => (by rw [h] at hr; cases hr), fun j hj => ?_⟩
    by_cases e : j = i
    · rw [e]; exact hy.wpOp hi trivial ⟨fun h => hS (by rwa [getD_set_ne false hil] at h), H⟩
    · obtain ⟨hu, oj, hoj, hall⟩ := mem_ready.1 hj
      have hno : ∀ x ∈ oj.after, Region.binds md x = true → x.on ≠ i := fun x hx hb he => by
        have k1 := hall x hx hb
        have k0 := (mem_ready.1 hr).1
        rw [he] at k1
        rcases Nat.lt_or_ge i listed.size with hz | hz
        · simp [hz] at k0 k1; rw [k0] at k1; cases k1
        · simp [Array.getElem?_eq_none hz] at k1
      have h2 := wpOp_putIf hoj (hf j oj hoj e hu hno) (fun cs b => hsel i oi cs b hi) (fun cs b => hsel j oj cs b hoj) hQ hy (H.2 j (ready_mono hj e))
      have hf' : ∀ k ok, ops[k]? = some ok → k ≠ i → (listed.setIfInBounds j true).getD k true = false → (∀ x ∈ ok.after, Region.binds md x = true → x.on ≠ i) → oi.apart ops ok = true := fun k ok hk hki hun hn => by
        refine hf k ok hk hki ?_ hn
        by_cases hjk : j = k
        · rw [← hjk]; exact hu
        · rw [getD_set_ne true hjk] at hun; exact hun
      have hcm : ((listed.setIfInBounds i true).setIfInBounds j true).getD l false = (listed.setIfInBounds j true).getD l false := by rw [Array.setIfInBounds_comm _ _ (Ne.symm e), getD_set_ne false hil]
      refine wpOp_mono (fun a' w' h3 => ?_) h2
      obtain ⟨h4, h5, h6⟩ := h3
      rw [hcm] at h5
      refine ⟨h5, ih (listed.setIfInBounds j true) a' w' hf' (ready_mono hr (Ne.symm e)) h4 h5 ?_⟩
      rw [Array.setIfInBounds_comm _ _ e]
      exact h6

/-- One is taken that is wanted: it reads what S holds. -/
theorem tkE (i : Nat) (oi : Oper) (v : Value) {fuel : Nat} {listed : Array Bool} {a : Act} {w : World} (hS : S w) (hy : ∀ w, S w → (execOp a.eval oi).run P w = .ok (.value v) w) (h : lateW P md ops Q S l fuel (listed.setIfInBounds i true) (a.put oi.dst v) w)
    (hi : ops[i]? = some oi := by rfl) (hs : Region.noSelect ops = true := by kernel_rfl) (hf : Region.free md ops listed i = true := by kernel_rfl) (hr : (Region.ready md ops listed).contains i = true := by kernel_rfl)
    (hQ : ∀ c a w, Q (.panic c) (a.put oi.dst v) w → Q (.panic c) a w := by exact fun _ _ _ h => h) (hw : Region.wanted oi (yielded ops a.tmps) = true := by rfl) (hil : i ≠ l := by decide) (hwt : waits md ops l i = true := by kernel_rfl) (hl : listed.getD l false = false := by kernel_rfl) : lateW P md ops Q S l (fuel + 1) listed a w :=
  lateW.first hi hil hwt (Region.noSelect_spec hs) hQ fuel listed a w (Region.free_spec hi hf) (by simpa using hr) (.inl ⟨hw, hy⟩) hl hS h
/-- One that reads nothing of the world. -/
theorem tkP (i : Nat) (oi : Oper) (v : Value) {fuel : Nat} {listed : Array Bool} {a : Act} {w : World} (hS : S w) (hy : ∀ w, True → (execOp a.eval oi).run P w = .ok (.value v) w) (h : lateW P md ops Q S l fuel (listed.setIfInBounds i true) (a.put oi.dst v) w)
    (hi : ops[i]? = some oi := by rfl) (hs : Region.noSelect ops = true := by kernel_rfl) (hf : Region.free md ops listed i = true := by kernel_rfl) (hr : (Region.ready md ops listed).contains i = true := by kernel_rfl)
    (hQ : ∀ c a w, Q (.panic c) (a.put oi.dst v) w → Q (.panic c) a w := by exact fun _ _ _ h => h) (hw : Region.wanted oi (yielded ops a.tmps) = true := by rfl) (hil : i ≠ l := by decide) : lateW P md ops Q S l (fuel + 1) listed a w :=
  lateW.firstP hi hil (Region.noSelect_spec hs) hQ fuel listed a w (Region.free_spec hi hf) (by simpa using hr) (.inl ⟨hw, hy⟩) (fun _ => hS) h
def LateAll (P : Program) (md : Region.Mode) (ops : Array Oper) (Q : Exit → Act → World → Prop) (S : World → Prop) (l fuel : Nat) (listed : Array Bool) (a : Act) (w : World) (rs : List Nat) : Prop :=
  ∀ i ∈ rs, wpOp P ops Q i (fun a' w' => ((listed.setIfInBounds i true).getD l false = false → S w') ∧ lateW P md ops Q S l fuel (listed.setIfInBounds i true) a' w') a w
theorem LateAll.nil {fuel : Nat} {listed : Array Bool} {a : Act} {w : World} : LateAll P md ops Q S l fuel listed a w [] := fun _ h => by cases h
theorem LateAll.cons {fuel : Nat} {listed : Array Bool} {a : Act} {w : World} {i : Nat} {o : Oper} {rs : List Nat} (ho : ops[i]? = some o)
    (h : ∀ K : Act → World → Prop, Shut (∀ a w, S w → (S w → lateW P md ops Q S l fuel (listed.setIfInBounds i true) a w) → K a w) → if Region.wanted o (yielded ops a.tmps) = true then Oper.wp P o a w K Q else K (a.put o.dst undef) w)
    (hs : LateAll P md ops Q S l fuel listed a w rs) : LateAll P md ops Q S l fuel listed a w (i :: rs) := fun j hj => by
  rcases List.mem_cons.1 hj with rfl | hj
  · exact wpOp_step ho (fun K hK => h K (fun a w hS hW => hK a w ⟨fun _ => hS, hW hS⟩))
  · exact hs j hj
/-- The last one comes up. -/
theorem LateAll.last {fuel : Nat} {listed : Array Bool} {a : Act} {w : World} {o : Oper} (ho : ops[l]? = some o)
    (h : ∀ K : Act → World → Prop, Shut (∀ a w, lateW P md ops Q S l fuel (listed.setIfInBounds l true) a w → K a w) → if Region.wanted o (yielded ops a.tmps) = true then Oper.wp P o a w K Q else K (a.put o.dst undef) w) (hb : (listed.setIfInBounds l true).getD l false = true := by kernel_rfl) :
    LateAll P md ops Q S l fuel listed a w [l] := fun j hj => by
  rcases List.mem_cons.1 hj with rfl | hj
  · exact wpOp_step ho (fun K hK => h K (fun a w hW => hK a w ⟨fun hh => (by rw [hb] at hh; cases hh), hW⟩))
  · cases hj
theorem late_ready {rs : List Nat} {fuel : Nat} {listed : Array Bool} {a : Act} {w : World} (hr : Region.ready md ops listed = rs) (hne : rs ≠ []) (h : LateAll P md ops Q S l fuel listed a w rs) : lateW P md ops Q S l (fuel + 1) listed a w :=
  ⟨fun h0 => absurd (hr ▸ h0) hne, hr ▸ h⟩
theorem late_done {listed : Array Bool} {a : Act} {w : World} (hr : Region.ready md ops listed = []) (h : Q .normal a w) : ∀ fuel, lateW P md ops Q S l fuel listed a w
  | 0 => ⟨hr, h⟩
  | _ + 1 => ⟨fun _ => h, by rw [hr]; simp⟩
theorem late_start {id : Nat} {a : Act} {w : World} (l : Nat) (hm : P.follows .mixedOrders = true) (hS : S w.drew) (h : S w.drew → lateW P .any ops Q S l ops.size (Array.replicate ops.size false) a w.drew) : (Code.region id ops true).wp P Q a w :=
  wp_region_any hm (lateW.any _ _ _ _ (h hS))
end
end Go.Proofs.YtbhmblkappmfjaaGreat
