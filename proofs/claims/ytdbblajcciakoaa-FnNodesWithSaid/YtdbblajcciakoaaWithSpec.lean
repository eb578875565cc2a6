/- What spec.l2Has and spec.l2With answer. -/
import Derived.Test.YtdbblajcciakoaaDGrow
import Derived.Test.YtdbblajcciakoaaDa
namespace Go.Proofs.Ytdbblajcciakoaa
open Go.RowKit Go.Deep

/-- A text is in a list. -/
def hasLab (d : D) (s : ByteArray) : Bool := (List.range d.len!).any fun i => (d.at! i 0).str!.toList == s.toList
/-- A node has a label; each has the empty one. -/
def withB (f : Nat → Nat → D) (s : ByteArray) (i : Nat) : Bool := (s.toList == []) || hasLab (f i 1) s
/-- The numbers of the first k nodes with a label. -/
def withIds (f : Nat → Nat → D) (s : ByteArray) (k : Nat) : List Int := ((List.range k).filter (withB f s)).map fun i => (f i 0).int!
theorem with_succ (f : Nat → Nat → D) (s : ByteArray) (k : Nat) : withIds f s (k + 1) = withIds f s k ++ (if withB f s k then [(f k 0).int!] else []) := by
  simp only [withIds, List.range_succ, List.filter_append, List.map_append]
  congr 1
  cases h : withB f s k <;> simp [h]
theorem with_len (f : Nat → Nat → D) (s : ByteArray) (k : Nat) : (withIds f s k).length ≤ k := by
  have := List.length_filter_le (withB f s) (List.range k)
  simpa [withIds] using this
/-- Numbers, as data. -/
def intsF (l : List Int) : Nat → Nat → D := fun i _ => .int (l.getD i 0)
def intsD (l : List Int) : D := .list 1 l.length (intsF l)
theorem intsF_push (l : List Int) (x : Int) : ∀ i, i < l.length → ∀ j, intsF (l ++ [x]) i j = intsF l i j := by
  intro i hi j
  simp [intsF, List.getD_eq_getElem?_getD, List.getElem?_append_left hi]
theorem intsF_last (l : List Int) (x : Int) (j : Nat) : intsF (l ++ [x]) l.length j = .int x := by
  simp [intsF, List.getD_eq_getElem?_getD]
theorem GSt.congr {w : World} {base : Nat} {T : TypeId} {n : Nat} {f g : Nat → Nat → D} {k : Nat} {u : Value} {cs : List Value} (h : GSt w base T n f k u cs) (e : ∀ i, i < k → ∀ j, g i j = f i j) : GSt w base T n g k u cs := by
  obtain ⟨hr, P, hl, hd⟩ := h
  exact ⟨hr, P, fun i hi j hj => by rw [e i hi j]; exact hl i hi j hj, hd⟩
theorem GSt.made (w : World) (base : Nat) (T : TypeId) (n : Nat) (f : Nat → Nat → D) (hb : base ≤ w.heap.size) : GSt (w.alloc (.cells #[] T)) base T n f 0 (.slice (some ⟨w.heap.size, 0, none⟩) 0 0) [] :=
  ⟨World.ownsRow_made w #[] 0 hb (Nat.zero_le _) (by simp), fun _ _ _ => False, fun i hi => by omega, fun i _ _ _ hi => by omega⟩
/-- One number more. -/
theorem GSt.int_push {w w0 w1 w3 : World} {base : Nat} {T : TypeId} {l : List Int} {u v' : Value} {cs : List Value} {x : Int} (h : GSt w0 base T 1 (intsF l) l.length u cs) (e : Ext w0 w1) (hb : base ≤ w0.heap.size) (hx : (Lit.int .i64 x).wf = true) (hown : w3.ownsRow base T 1 v' (l.length + 1) (cs ++ [.int .i64 x])) (hg : w1.grownBy w3 u.ownBlock) (hloc : v'.ownBlock = u.ownBlock ∨ v'.ownBlock = some w1.heap.size) (hw : w = w0) :
    GSt w3 base T 1 (intsF (l ++ [x])) (l ++ [x]).length v' (cs ++ [.int .i64 x]) := by
  subst hw
  have h' : GSt w base T 1 (intsF (l ++ [x])) l.length u cs := h.congr (fun i hi j => intsF_push l x i hi j)
  rw [List.length_append, List.length_singleton]
  refine h'.push e hb [.int .i64 x] rfl (fun _ _ => False) (fun j hj => ?_) (fun j j' _ _ _ y hy => hy.elim) hown hg hloc
  obtain rfl : j = 0 := by omega
  rw [intsF_last]
  exact ⟨⟨rfl, hx⟩, trivial, fun y hy => hy.elim⟩

theorem has_yes {d : D} {s : ByteArray} {k : Nat} (hk : k < d.len!) (h : ((d.at! k 0).str!.toList == s.toList) = true) : hasLab d s = true := by
  rw [hasLab, List.any_eq_true]
  exact ⟨k, List.mem_range.2 hk, h⟩
theorem has_no {d : D} {s : ByteArray} (h : ∀ k, k < d.len! → ((d.at! k 0).str!.toList == s.toList) = false) : hasLab d s = false := by
  rw [hasLab, List.any_eq_false]
  intro k hk
  rw [h k (List.mem_range.1 hk)]
  exact Bool.false_ne_true

set_option maxHeartbeats 1000000 in
theorem l2Has_any (d : D) (H : Has d (.list 0)) (S : Nat → Prop) (v : Value) (s : ByteArray) (w : World) (hv : DIn S w d v) :
    Calls Try.prog 33 #[v, .string s] w fun e w' => e = .returned (.bool (hasLab d s)) ∧ Ext w w' := by
  obtain ⟨len, f, rfl, HRa⟩ := H.list
  change DIn S w (.list 1 len f) v at hv
  obtain ⟨a, cap, rfl, hm⟩ := hv.list_eq
  unfold maxLen at hm
  have hyes := fun k (hk : k < len) (h : ((f k 0).str!.toList == s.toList) = true) => has_yes (d := .list (rowsOf 0).length len f) hk h
  have hno' := fun (h : ∀ k, k < len → ((f k 0).str!.toList == s.toList) = false) => has_no (d := .list (rowsOf 0).length len f) h
  have HY : Hid _ := hyes
  have HN : Hid _ := hno'
  clear hyes hno'
  generalize hasLab (.list (rowsOf 0).length len f) s = hb at *
  go_enter Try.func33, Try.ntmps33
  go_wp2
  go_loopw [5] (fun i wr => ∃ k : Nat, k ≤ len ∧ i = .int .i64 k ∧ Ext w wr ∧ ∀ j, j < k → ((f j 0).str!.toList == s.toList) = false) (fun i _ => len - (intOf i).toNat)
  case atStart => exact ⟨0, Nat.zero_le _, rfl, Ext.refl _, fun j h => by omega⟩
  case round =>
    obtain ⟨k, hk, rfl, hE, hno⟩ := hrel
    by_cases hlt : k < len
    · obtain ⟨cap2, b, off, C, hsl, _, hbl, ec, hx⟩ := (hv.ext hE).at hlt
      cases hsl
      obtain ⟨x0, hd0⟩ := (show Has (f k 0) .str from HRa k hlt 0 (by decide)).str
      have h0 := hx 0 (by decide)
      have e0 := ec 0 (by decide)
      rw [hd0] at h0
      rw [h0.str_eq.1] at e0
      simp only [Nat.add_zero, Nat.mul_one] at e0
      clear hx ec h0
      cases hq : (x0.toList == s.toList)
      · have hq' : Hid (((f k 0).str!.toList == s.toList) = false) := by show _ = _; rw [hd0]; exact hq
        go_wp2
        go_roundw
        case rel => exact ⟨k + 1, by omega, by go_num, hE, fun j hj => by
          rcases Nat.lt_succ_iff_lt_or_eq.1 hj with h' | h'
          · exact hno j h'
          · subst h'; exact hq'.out⟩
        case measure => simp [intOf]; omega
      · have hf : Hid (hb = true) := HY.out k hlt (by rw [hd0]; exact hq)
        go_wp2
        go_ret
        exact ⟨ret_bool hf.out.symm, hE⟩
    · have hf : Hid (hb = false) := HN.out (fun j hj => hno j (by omega))
      go_wp2
      go_ret
      exact ⟨ret_bool hf.out.symm, hE⟩
end Go.Proofs.Ytdbblajcciakoaa
