/- What spec.l2Add answers. -/
import Derived.Test.YtjbppmclhdaaoaaGreatTk
import Derived.Test.YtjbppmclhdaaoaaGreatLsX
import Derived.Deep.DeepCutAuto
namespace Go.Proofs.YtjbppmclhdaaoaaGreat
open Go.RowKit Go.Deep

theorem step_append_ranS {ops : Array Oper} {o : Oper} {A : Act} {K : Act → World → Prop} {Q : Exit → Act → World → Prop} {E : Prop} (hgd : o.guard = none) (s x : Operand) (ho : o.op = .call { callee := .builtin .append, args := #[s, x], argTypes := #[42, 42] }) (w : World) {v u r : Value} {w' : World}
    (hr : (Builtin.append_ #[42, 42] o.type #[v, u]).run Tryz.prog w = .ok r w') (hs : A.eval s = v) (hx : A.eval x = u) (hk : K (A.put o.dst r) w') : if Region.wanted o (yielded ops A.tmps) = true then Oper.wp Tryz.prog o A w K Q else E := by
  have hw : Region.wanted o (yielded ops A.tmps) = true := by simp [Region.wanted, hgd]
  rw [if_pos hw]
  unfold Oper.wp execOp
  simp only [ho, resolve, invoke, builtin, Sem.run_bind, Sem.run_pure, Result.andThen_ok, List.map_toArray, List.map_cons, List.map_nil, hs, hx, hr]
  exact hk
theorem own_src {w : World} {base : Nat} {v : Value} {l : List ByteArray} (h : w.ownsRow base 9 1 v l.length (l.map Value.string)) : SrcS w v l := by
  rcases h.2 with ⟨rfl, h0⟩ | ⟨g, cap, cur, rfl, _, hg, _⟩
  · exact ⟨none, 0, by rw [h0], .inl (List.length_eq_zero_iff.1 h0)⟩
  · exact ⟨_, cap, rfl, .inr ⟨g, 0, rfl, lt_of_block hg, fun j u hu => by have := h.cells (g := g) rfl j u hu; rwa [Go.WideShapes.add_plain] at this⟩⟩
set_option maxRecDepth 100000 in
set_option maxHeartbeats 8000000 in
theorem l2Add_any (w : World) (B0 : Nat) (l : List ByteArray) (v : Value) (s : ByteArray) (hv : w.ownsRow B0 9 1 v l.length (l.map Value.string)) (hasc : AscS l) (hne : ∀ x ∈ l, x ≠ s) (hl : l.length ≤ 100) :
    Calls Tryz.prog 17 #[v, .string s] w fun e w' => ∃ a c, e = .returned (.slice a (setL l s true).length c) ∧ w'.ownsRow w.heap.size 9 1 (.slice a (setL l s true).length c) (setL l s true).length ((setL l s true).map Value.string) ∧ Ext w w' := by
  have hsrc := own_src hv
  obtain ⟨a, c, rfl, hc⟩ := own9_shape hv
  have hcell : Hid (∀ j (hj : j < l.length), ∃ b, a = some ⟨b, 0, none⟩ ∧ w.cell? ⟨b, j, none⟩ = some (.string l[j])) := fun j hj => by
    rcases hv.2 with ⟨e, e2⟩ | ⟨g, cap', cur, e, _⟩
    · omega
    · injection e with e1 _ _
      have := hv.cells (g := g) (by rw [e1]; rfl) j (.string l[j]) (by rw [List.getElem?_map, List.getElem?_eq_getElem hj]; rfl)
      rw [Go.WideShapes.add_plain] at this
      exact ⟨g, e1, by simpa using this⟩
  have hsp : Hid (∀ t (ht : t < l.length), Op.bytesLess l[t].toList s.toList = decide (t < atL l s)) := fun t ht => by
    have := (asc_split hasc s).2 t ht
    rw [List.getD_eq_getElem?_getD, List.getElem?_eq_getElem ht] at this
    exact this
  have hat := atL_le l s
  have hset : Hid (setL l s true = l.take (atL l s) ++ ([s] ++ l.drop (atL l s))) := by
    have := setL_eq hasc s true
    rw [show (if l.getD (atL l s) ⟨#[]⟩ = s ∧ atL l s < l.length then 1 else 0) = 0 by
      rw [if_neg]
      rintro ⟨h1, h2⟩
      rw [List.getD_eq_getElem?_getD, List.getElem?_eq_getElem h2] at h1
      exact hne _ (List.getElem_mem h2) h1] at this
    exact this
  have hneq : Hid (∀ t (ht : t < l.length), (l[t].toList == s.toList) = false) := fun t ht => by
    rw [beq_eq_false_iff_ne]
    exact fun e => hne _ (List.getElem_mem ht) (ba_ext e)
  have hs0 : SrcS w (.slice a (atL l s) c) (l.take (atL l s)) := src_take hsrc hat
  have hs2' := fun c' => src_drop (k := atL l s) (c' := c') hsrc hc
  clear hne hasc
  generalize setL l s true = R at *
  generalize atL l s = k at *
  go_enter Tryz.func17, Tryz.ntmps17
  go_wp2
  go_loopw [5] (fun i wr => ∃ j : Nat, j ≤ k ∧ i = .int .i64 j ∧ wr = w) (fun i _ => l.length - (intOf i).toNat)
  case atStart => exact ⟨0, Nat.zero_le _, rfl, rfl⟩
  case round =>
    obtain ⟨j, hj, rfl, hwr⟩ := hrel
    have hwr' := hwr.symm
    subst hwr'
    by_cases hlt : j < k
    · have hll : j < l.length := by omega
      obtain ⟨b, rfl, e0⟩ := hcell.out j hll
      have hb := hsp.out j hll
      rw [decide_eq_true hlt] at hb
      generalize l[j] = X at *
      clear hs0 hs2' hsrc hwr
      go_wp2
      go_roundw
      case rel => exact ⟨j + 1, by omega, by go_num, by first | rfl | trivial⟩
      case measure => simp [intOf]; omega
    · have hjk : j = k := by omega
      subst hjk
      clear hwr
      have hs2'' := (show Hid _ from hs2')
      have hTl : (l.take j).length ≤ 100 := by rw [List.length_take]; omega
      have hDl : (l.drop j).length ≤ 100 := by rw [List.length_drop]; omega
      by_cases hjl : j < l.length
      · obtain ⟨b, rfl, e0⟩ := hcell.out j hjl
        have hq := hneq.out j hjl
        have hb := hsp.out j hjl
        rw [decide_eq_false (Nat.lt_irrefl _)] at hb
        have hs2 : SrcS w (.slice (some ⟨b, j, none⟩) (l.length - j) (c - j)) (l.drop j) := by
          have := hs2''.out (c - j)
          rw [if_neg (by omega)] at this
          simpa [Go.WideShapes.add_plain] using this
        have hck : ¬ c = j := by omega
        have hjc : j ≤ c := by omega
        clear hs2' hcell hsp hneq hsrc
        generalize l.take j = T at *
        generalize l.drop j = Dr at *
        generalize l[j] = X at *
        go_upto_region 6 with fail
        have HK : Hid (∀ W : World, True → True) := fun _ _ => trivial
        have hE0 : Ext w w.drew := (Ext.refl _).drew
        have hR : Hid (R = T ++ [s] ++ Dr) := by show _ = _; rw [hset.out, List.append_assoc]
        refine wp_region_held_drew (S := (fun _ => True)) (by kernel_rfl) (trivial) (fun hHeld => ?_)
        refine tkL 1 ⟨some 34, .move (.tmp 0), 42, _, #[], none⟩ ?_ hHeld ?yyT1011 ?rrT1011
        case yyT1011 => (intro w hSw; (try dsimp only at hSw); go_simp; first | done | with_reducible rfl)
        try simp only [Act.put, putA, putB, putC]
        refine tkL 2 ⟨some 35, .move (.tmp 5), 3, _, #[], none⟩ ?_ hHeld ?yyT1012 ?rrT1012
        case yyT1012 => (intro w hSw; (try dsimp only at hSw); go_simp; first | done | with_reducible rfl)
        try simp only [Act.put, putA, putB, putC]
        refine tkL 3 ⟨some 36, .slice 42 (.tmp 34) none (some (.tmp 35)) none, 42, _, #[⟨1, .data⟩, ⟨2, .data⟩], none⟩ ?_ hHeld ?yyT1013 ?rrT1013
        case yyT1013 => (intro w hSw; (try dsimp only at hSw); go_simp; first | done | with_reducible rfl)
        try simp only [Act.put, putA, putB, putC]
        refine tkL 5 ⟨some 38, .move (.tmp 1), 9, _, #[], none⟩ ?_ hHeld ?yyT1015 ?rrT1015
        case yyT1015 => (intro w hSw; (try dsimp only at hSw); go_simp; first | done | with_reducible rfl)
        try simp only [Act.put, putA, putB, putC]
        refine tkL 8 ⟨some 41, .move (.tmp 0), 42, _, #[], none⟩ ?_ hHeld ?yyT1018 ?rrT1018
        case yyT1018 => (intro w hSw; (try dsimp only at hSw); go_simp; first | done | with_reducible rfl)
        try simp only [Act.put, putA, putB, putC]
        refine tkL 9 ⟨some 42, .move (.tmp 5), 3, _, #[], none⟩ ?_ hHeld ?yyT1019 ?rrT1019
        case yyT1019 => (intro w hSw; (try dsimp only at hSw); go_simp; first | done | with_reducible rfl)
        try simp only [Act.put, putA, putB, putC]
        refine tkL 10 ⟨some 43, .slice 42 (.tmp 41) (some (.tmp 42)) none none, 42, _, #[⟨8, .data⟩, ⟨9, .data⟩], none⟩ ?_ hHeld ?yyT10110 ?rrT10110
        case yyT10110 => (intro w hSw; (try dsimp only at hSw); go_simp; first | done | with_reducible rfl)
        try simp only [Act.put, putA, putB, putC]
        obtain ⟨W0, hW0⟩ : ∃ W, W = w.drew := ⟨_, rfl⟩
        rw [← hW0] at hE0 ⊢
        clear hW0
        refine wpAnyH_ready (rs := [0, 6]) (by kernel_rfl) (by simp) ?_
        refine AllReadyH.cons (o := ⟨some 33, .buildSlice 42 0 #[], 42, _, #[], none⟩) rfl (fun K hK => ?_) (AllReadyH.cons (o := ⟨some 39, .buildSlice 42 1 #[(0, .tmp 38)], 42, _, #[⟨5, .data⟩], none⟩) rfl (fun K hK => ?_) (AllReadyH.nil))
        · go_simp
          obtain ⟨W70, hW70⟩ : ∃ X, X = W0.alloc (.cells #[] 9) := ⟨_, rfl⟩
          have eW70 : Ext W0 W70 := by rw [hW70]; exact (Ext.refl _).alloc _
          have oW70 : W70.ownsRow w.heap.size 9 1 (.slice (some ⟨W0.heap.size, 0, none⟩) 0 0) ([] : List ByteArray).length (([] : List ByteArray).map Value.string) := by
            rw [hW70]
            have := World.ownsRow_made (e := 9) (size := 1) (base := w.heap.size) W0 #[] 0 (hE0).le (Nat.zero_le _) (by simp)
            simpa using this
          rw [← hW70]
          obtain ⟨nW70, hnW70⟩ : ∃ m, m = W0.heap.size := ⟨_, rfl⟩
          have geW70 := Nat.le_of_eq hnW70.symm
          have ltW70 : nW70 < W70.heap.size := by rw [hW70, hnW70]; simp
          rw [← hnW70] at oW70 ⊢
          clear hnW70 hW70
          refine hK.out _ _ trivial (fun hHeld => ?_)
          clear hK K
          try simp only [Act.put, putA, putB, putC]
          refine wpAnyH_ready (rs := [4, 6]) (by kernel_rfl) (by simp) ?_
          refine AllReadyH.cons (o := ⟨some 37, .call { callee := .builtin .append, args := #[.tmp 33, .tmp 36], argTypes := #[42, 42] }, 42, _, #[⟨0, .data⟩, ⟨3, .data⟩], none⟩) rfl (fun K hK => ?_) (AllReadyH.cons (o := ⟨some 39, .buildSlice 42 1 #[(0, .tmp 38)], 42, _, #[⟨5, .data⟩], none⟩) rfl (fun K hK => ?_) (AllReadyH.nil))
          · obtain ⟨aW84, cW84, W84, rW84, oW84, gW84⟩ := run_append_src W70 (hs0.ext (hE0.trans eW70)) oW70 (by first | omega | (simp; done) | (simp; omega)) (by first | omega | (simp; done) | (simp; omega)) ((hE0.trans eW70)).le 42
            have eW84 : Ext w W84 := Below.grown (hE0.trans eW70) gW84 ((hE0.trans eW70)).le (fun j hj => (oW70.lt j hj).1)
            have fW84 := gW84
            rw [List.nil_append] at rW84 oW84
            refine step_append_ranS (by rfl) _ _ (by rfl) W70 rW84 (by rfl) (by rfl) ?_
            refine hK.out _ _ trivial (fun hHeld => ?_)
            clear hK K
            try simp only [Act.put, putA, putB, putC]
            refine wpAnyH_ready (rs := [6]) (by kernel_rfl) (by simp) ?_
            refine AllReadyH.cons (o := ⟨some 39, .buildSlice 42 1 #[(0, .tmp 38)], 42, _, #[⟨5, .data⟩], none⟩) rfl (fun K hK => ?_) (AllReadyH.nil)
            go_simp
            obtain ⟨W96, hW96⟩ : ∃ X, X = W84.alloc (.cells #[.string s] 9) := ⟨_, rfl⟩
            have eW96 : Ext W84 W96 := by rw [hW96]; exact (Ext.refl _).alloc _
            have cW96 : SrcS W96 (.slice (some ⟨W84.heap.size, 0, none⟩) 1 1) [s] := ⟨_, 1, rfl, .inr ⟨W84.heap.size, 0, rfl, by rw [hW96]; simp, fun j u hu => by
              have hj : j < 1 := by
                have := (List.getElem?_eq_some_iff.1 hu).1
                simpa using this
              obtain rfl : j = 0 := by omega
              have : u = .string s := by simpa using hu.symm
              rw [this, hW96]
              exact box_cell (Ext.refl _) 0 _ rfl⟩⟩
            rw [← hW96]
            obtain ⟨nW96, hnW96⟩ : ∃ m, m = W84.heap.size := ⟨_, rfl⟩
            have geW96 := Nat.le_of_eq hnW96.symm
            have ltW96 : nW96 < W96.heap.size := by rw [hW96, hnW96]; simp
            rw [← hnW96] at cW96 ⊢
            clear hnW96 hW96
            refine hK.out _ _ trivial (fun hHeld => ?_)
            clear hK K
            try simp only [Act.put, putA, putB, putC]
            refine wpAnyH_ready (rs := [7]) (by kernel_rfl) (by simp) ?_
            refine AllReadyH.cons (o := ⟨some 40, .call { callee := .builtin .append, args := #[.tmp 37, .tmp 39], argTypes := #[42, 42] }, 42, _, #[⟨4, .data⟩, ⟨6, .data⟩, ⟨4, .chain⟩], none⟩) rfl (fun K hK => ?_) (AllReadyH.nil)
            obtain ⟨aW107, cW107, W107, rW107, oW107, gW107⟩ := run_append_src W96 cW96 (oW84.kept eW96.grown (Classical.em _)) (by first | omega | (simp; done) | (simp; omega)) (by first | omega | (simp; done) | (simp; omega)) ((eW84.trans eW96)).le 42
            have eW107 : Ext w W107 := Below.grown (eW84.trans eW96) gW107 ((eW84.trans eW96)).le (fun j hj => ((oW84.kept eW96.grown (Classical.em _)).lt j hj).1)
            have fW107 := gW107
            refine step_append_ranS (by rfl) _ _ (by rfl) W96 rW107 (by rfl) (by rfl) ?_
            refine hK.out _ _ trivial (fun hHeld => ?_)
            clear hK K
            try simp only [Act.put, putA, putB, putC]
            refine wpAnyH_ready (rs := [11]) (by kernel_rfl) (by simp) ?_
            refine AllReadyH.cons (o := ⟨some 44, .call { callee := .builtin .append, args := #[.tmp 40, .tmp 43], argTypes := #[42, 42] }, 42, _, #[⟨7, .data⟩, ⟨10, .data⟩, ⟨7, .chain⟩], none⟩) rfl (fun K hK => ?_) (AllReadyH.nil)
            obtain ⟨aW1111, cW1111, W1111, rW1111, oW1111, gW1111⟩ := run_append_src W107 (hs2.ext eW107) oW107 (by first | omega | (simp; done) | (simp; omega)) (by first | omega | (simp; done) | (simp; omega)) (eW107).le 42
            have eW1111 : Ext w W1111 := Below.grown eW107 gW1111 (eW107).le (fun j hj => (oW107.lt j hj).1)
            have fW1111 := gW1111
            rw [← hR.out] at rW1111 oW1111
            refine step_append_ranS (by rfl) _ _ (by rfl) W107 rW1111 (by rfl) (by rfl) ?_
            refine hK.out _ _ trivial (fun hHeld => ?_)
            clear hK K
            try simp only [Act.put, putA, putB, putC]
            refine tkL 12 ⟨some 4, .assign (.tmp 44), 42, _, #[⟨11, .data⟩, ⟨11, .chain⟩, ⟨0, .phase⟩, ⟨1, .phase⟩, ⟨2, .phase⟩, ⟨3, .phase⟩, ⟨4, .phase⟩, ⟨5, .phase⟩, ⟨6, .phase⟩, ⟨7, .phase⟩, ⟨8, .phase⟩, ⟨9, .phase⟩, ⟨10, .phase⟩, ⟨11, .phase⟩], none⟩ ?_ hHeld ?yyT10612 ?rrT10612
            case yyT10612 => (intro w hSw; (try dsimp only at hSw); go_simp; first | done | with_reducible rfl)
            try simp only [Act.put, putA, putB, putC]
            refine wpAnyH_done (by kernel_rfl) ?_ _
            have hfin := (show Hid _ from And.intro oW1111 eW1111)
            clear HK hHeld
            go_wp2
            go_ret
            exact ⟨_, _, rfl, hfin.out.1, hfin.out.2⟩
          · go_simp
            obtain ⟨W86, hW86⟩ : ∃ X, X = W70.alloc (.cells #[.string s] 9) := ⟨_, rfl⟩
            have eW86 : Ext W70 W86 := by rw [hW86]; exact (Ext.refl _).alloc _
            have cW86 : SrcS W86 (.slice (some ⟨W70.heap.size, 0, none⟩) 1 1) [s] := ⟨_, 1, rfl, .inr ⟨W70.heap.size, 0, rfl, by rw [hW86]; simp, fun j u hu => by
              have hj : j < 1 := by
                have := (List.getElem?_eq_some_iff.1 hu).1
                simpa using this
              obtain rfl : j = 0 := by omega
              have : u = .string s := by simpa using hu.symm
              rw [this, hW86]
              exact box_cell (Ext.refl _) 0 _ rfl⟩⟩
            rw [← hW86]
            obtain ⟨nW86, hnW86⟩ : ∃ m, m = W70.heap.size := ⟨_, rfl⟩
            have geW86 := Nat.le_of_eq hnW86.symm
            have ltW86 : nW86 < W86.heap.size := by rw [hW86, hnW86]; simp
            rw [← hnW86] at cW86 ⊢
            clear hnW86 hW86
            refine hK.out _ _ trivial (fun hHeld => ?_)
            clear hK K
            try simp only [Act.put, putA, putB, putC]
            refine wpAnyH_ready (rs := [4]) (by kernel_rfl) (by simp) ?_
            refine AllReadyH.cons (o := ⟨some 37, .call { callee := .builtin .append, args := #[.tmp 33, .tmp 36], argTypes := #[42, 42] }, 42, _, #[⟨0, .data⟩, ⟨3, .data⟩], none⟩) rfl (fun K hK => ?_) (AllReadyH.nil)
            obtain ⟨aW94, cW94, W94, rW94, oW94, gW94⟩ := run_append_src W86 (hs0.ext ((hE0.trans eW70).trans eW86)) (oW70.kept eW86.grown (Classical.em _)) (by first | omega | (simp; done) | (simp; omega)) (by first | omega | (simp; done) | (simp; omega)) (((hE0.trans eW70).trans eW86)).le 42
            have eW94 : Ext w W94 := Below.grown ((hE0.trans eW70).trans eW86) gW94 (((hE0.trans eW70).trans eW86)).le (fun j hj => ((oW70.kept eW86.grown (Classical.em _)).lt j hj).1)
            have fW94 := gW94
            rw [List.nil_append] at rW94 oW94
            refine step_append_ranS (by rfl) _ _ (by rfl) W86 rW94 (by rfl) (by rfl) ?_
            have sW94 : SrcS W94 (.slice (some ⟨nW86, 0, none⟩) 1 1) [s] := by
              obtain ⟨p, cc, hh, hor⟩ := cW86
              injection hh with h1 _ h3
              rcases hor with h0 | ⟨b, off, hp, hb, hcs⟩
              · cases h0
              · have hbn : nW86 = b := by rw [hp] at h1; injection h1 with h1; injection h1
                refine ⟨p, cc, by rw [← h1, ← h3]; rfl, .inr ⟨b, off, hp, Nat.lt_of_lt_of_le hb fW94.size, fun j u hu => ?_⟩⟩
                rw [World.cell?_of_block (fW94.block b hb (fun e2 => by have e3 : b = nW70 := Option.some.inj e2; omega))]
                exact hcs j u hu
            refine hK.out _ _ trivial (fun hHeld => ?_)
            clear hK K
            try simp only [Act.put, putA, putB, putC]
            refine wpAnyH_ready (rs := [7]) (by kernel_rfl) (by simp) ?_
            refine AllReadyH.cons (o := ⟨some 40, .call { callee := .builtin .append, args := #[.tmp 37, .tmp 39], argTypes := #[42, 42] }, 42, _, #[⟨4, .data⟩, ⟨6, .data⟩, ⟨4, .chain⟩], none⟩) rfl (fun K hK => ?_) (AllReadyH.nil)
            obtain ⟨aW107, cW107, W107, rW107, oW107, gW107⟩ := run_append_src W94 sW94 oW94 (by first | omega | (simp; done) | (simp; omega)) (by first | omega | (simp; done) | (simp; omega)) (eW94).le 42
            have eW107 : Ext w W107 := Below.grown eW94 gW107 (eW94).le (fun j hj => (oW94.lt j hj).1)
            have fW107 := gW107
            refine step_append_ranS (by rfl) _ _ (by rfl) W94 rW107 (by rfl) (by rfl) ?_
            refine hK.out _ _ trivial (fun hHeld => ?_)
            clear hK K
            try simp only [Act.put, putA, putB, putC]
            refine wpAnyH_ready (rs := [11]) (by kernel_rfl) (by simp) ?_
            refine AllReadyH.cons (o := ⟨some 44, .call { callee := .builtin .append, args := #[.tmp 40, .tmp 43], argTypes := #[42, 42] }, 42, _, #[⟨7, .data⟩, ⟨10, .data⟩, ⟨7, .chain⟩], none⟩) rfl (fun K hK => ?_) (AllReadyH.nil)
            obtain ⟨aW1111, cW1111, W1111, rW1111, oW1111, gW1111⟩ := run_append_src W107 (hs2.ext eW107) oW107 (by first | omega | (simp; done) | (simp; omega)) (by first | omega | (simp; done) | (simp; omega)) (eW107).le 42
            have eW1111 : Ext w W1111 := Below.grown eW107 gW1111 (eW107).le (fun j hj => (oW107.lt j hj).1)
            have fW1111 := gW1111
            rw [← hR.out] at rW1111 oW1111
            refine step_append_ranS (by rfl) _ _ (by rfl) W107 rW1111 (by rfl) (by rfl) ?_
            refine hK.out _ _ trivial (fun hHeld => ?_)
            clear hK K
            try simp only [Act.put, putA, putB, putC]
            refine tkL 12 ⟨some 4, .assign (.tmp 44), 42, _, #[⟨11, .data⟩, ⟨11, .chain⟩, ⟨0, .phase⟩, ⟨1, .phase⟩, ⟨2, .phase⟩, ⟨3, .phase⟩, ⟨4, .phase⟩, ⟨5, .phase⟩, ⟨6, .phase⟩, ⟨7, .phase⟩, ⟨8, .phase⟩, ⟨9, .phase⟩, ⟨10, .phase⟩, ⟨11, .phase⟩], none⟩ ?_ hHeld ?yyT10912 ?rrT10912
            case yyT10912 => (intro w hSw; (try dsimp only at hSw); go_simp; first | done | with_reducible rfl)
            try simp only [Act.put, putA, putB, putC]
            refine wpAnyH_done (by kernel_rfl) ?_ _
            have hfin := (show Hid _ from And.intro oW1111 eW1111)
            clear HK hHeld
            go_wp2
            go_ret
            exact ⟨_, _, rfl, hfin.out.1, hfin.out.2⟩
        · go_simp
          obtain ⟨W76, hW76⟩ : ∃ X, X = W0.alloc (.cells #[.string s] 9) := ⟨_, rfl⟩
          have eW76 : Ext W0 W76 := by rw [hW76]; exact (Ext.refl _).alloc _
          have cW76 : SrcS W76 (.slice (some ⟨W0.heap.size, 0, none⟩) 1 1) [s] := ⟨_, 1, rfl, .inr ⟨W0.heap.size, 0, rfl, by rw [hW76]; simp, fun j u hu => by
            have hj : j < 1 := by
              have := (List.getElem?_eq_some_iff.1 hu).1
              simpa using this
            obtain rfl : j = 0 := by omega
            have : u = .string s := by simpa using hu.symm
            rw [this, hW76]
            exact box_cell (Ext.refl _) 0 _ rfl⟩⟩
          rw [← hW76]
          obtain ⟨nW76, hnW76⟩ : ∃ m, m = W0.heap.size := ⟨_, rfl⟩
          have geW76 := Nat.le_of_eq hnW76.symm
          have ltW76 : nW76 < W76.heap.size := by rw [hW76, hnW76]; simp
          rw [← hnW76] at cW76 ⊢
          clear hnW76 hW76
          refine hK.out _ _ trivial (fun hHeld => ?_)
          clear hK K
          try simp only [Act.put, putA, putB, putC]
          refine wpAnyH_ready (rs := [0]) (by kernel_rfl) (by simp) ?_
          refine AllReadyH.cons (o := ⟨some 33, .buildSlice 42 0 #[], 42, _, #[], none⟩) rfl (fun K hK => ?_) (AllReadyH.nil)
          go_simp
          obtain ⟨W80, hW80⟩ : ∃ X, X = W76.alloc (.cells #[] 9) := ⟨_, rfl⟩
          have eW80 : Ext W76 W80 := by rw [hW80]; exact (Ext.refl _).alloc _
          have oW80 : W80.ownsRow w.heap.size 9 1 (.slice (some ⟨W76.heap.size, 0, none⟩) 0 0) ([] : List ByteArray).length (([] : List ByteArray).map Value.string) := by
            rw [hW80]
            have := World.ownsRow_made (e := 9) (size := 1) (base := w.heap.size) W76 #[] 0 ((hE0.trans eW76)).le (Nat.zero_le _) (by simp)
            simpa using this
          rw [← hW80]
          obtain ⟨nW80, hnW80⟩ : ∃ m, m = W76.heap.size := ⟨_, rfl⟩
          have geW80 := Nat.le_of_eq hnW80.symm
          have ltW80 : nW80 < W80.heap.size := by rw [hW80, hnW80]; simp
          rw [← hnW80] at oW80 ⊢
          clear hnW80 hW80
          refine hK.out _ _ trivial (fun hHeld => ?_)
          clear hK K
          try simp only [Act.put, putA, putB, putC]
          refine wpAnyH_ready (rs := [4]) (by kernel_rfl) (by simp) ?_
          refine AllReadyH.cons (o := ⟨some 37, .call { callee := .builtin .append, args := #[.tmp 33, .tmp 36], argTypes := #[42, 42] }, 42, _, #[⟨0, .data⟩, ⟨3, .data⟩], none⟩) rfl (fun K hK => ?_) (AllReadyH.nil)
          obtain ⟨aW94, cW94, W94, rW94, oW94, gW94⟩ := run_append_src W80 (hs0.ext ((hE0.trans eW76).trans eW80)) oW80 (by first | omega | (simp; done) | (simp; omega)) (by first | omega | (simp; done) | (simp; omega)) (((hE0.trans eW76).trans eW80)).le 42
          have eW94 : Ext w W94 := Below.grown ((hE0.trans eW76).trans eW80) gW94 (((hE0.trans eW76).trans eW80)).le (fun j hj => (oW80.lt j hj).1)
          have fW94 := gW94
          rw [List.nil_append] at rW94 oW94
          refine step_append_ranS (by rfl) _ _ (by rfl) W80 rW94 (by rfl) (by rfl) ?_
          have sW94 : SrcS W94 (.slice (some ⟨nW76, 0, none⟩) 1 1) [s] := by
            obtain ⟨p, cc, hh, hor⟩ := (cW76.ext eW80)
            injection hh with h1 _ h3
            rcases hor with h0 | ⟨b, off, hp, hb, hcs⟩
            · cases h0
            · have hbn : nW76 = b := by rw [hp] at h1; injection h1 with h1; injection h1
              refine ⟨p, cc, by rw [← h1, ← h3]; rfl, .inr ⟨b, off, hp, Nat.lt_of_lt_of_le hb fW94.size, fun j u hu => ?_⟩⟩
              rw [World.cell?_of_block (fW94.block b hb (fun e2 => by have e3 : b = nW80 := Option.some.inj e2; omega))]
              exact hcs j u hu
          refine hK.out _ _ trivial (fun hHeld => ?_)
          clear hK K
          try simp only [Act.put, putA, putB, putC]
          refine wpAnyH_ready (rs := [7]) (by kernel_rfl) (by simp) ?_
          refine AllReadyH.cons (o := ⟨some 40, .call { callee := .builtin .append, args := #[.tmp 37, .tmp 39], argTypes := #[42, 42] }, 42, _, #[⟨4, .data⟩, ⟨6, .data⟩, ⟨4, .chain⟩], none⟩) rfl (fun K hK => ?_) (AllReadyH.nil)
          obtain ⟨aW107, cW107, W107, rW107, oW107, gW107⟩ := run_append_src W94 sW94 oW94 (by first | omega | (simp; done) | (simp; omega)) (by first | omega | (simp; done) | (simp; omega)) (eW94).le 42
          have eW107 : Ext w W107 := Below.grown eW94 gW107 (eW94).le (fun j hj => (oW94.lt j hj).1)
          have fW107 := gW107
          refine step_append_ranS (by rfl) _ _ (by rfl) W94 rW107 (by rfl) (by rfl) ?_
          refine hK.out _ _ trivial (fun hHeld => ?_)
          clear hK K
          try simp only [Act.put, putA, putB, putC]
          refine wpAnyH_ready (rs := [11]) (by kernel_rfl) (by simp) ?_
          refine AllReadyH.cons (o := ⟨some 44, .call { callee := .builtin .append, args := #[.tmp 40, .tmp 43], argTypes := #[42, 42] }, 42, _, #[⟨7, .data⟩, ⟨10, .data⟩, ⟨7, .chain⟩], none⟩) rfl (fun K hK => ?_) (AllReadyH.nil)
          obtain ⟨aW1111, cW1111, W1111, rW1111, oW1111, gW1111⟩ := run_append_src W107 (hs2.ext eW107) oW107 (by first | omega | (simp; done) | (simp; omega)) (by first | omega | (simp; done) | (simp; omega)) (eW107).le 42
          have eW1111 : Ext w W1111 := Below.grown eW107 gW1111 (eW107).le (fun j hj => (oW107.lt j hj).1)
          have fW1111 := gW1111
          rw [← hR.out] at rW1111 oW1111
          refine step_append_ranS (by rfl) _ _ (by rfl) W107 rW1111 (by rfl) (by rfl) ?_
          refine hK.out _ _ trivial (fun hHeld => ?_)
          clear hK K
          try simp only [Act.put, putA, putB, putC]
          refine tkL 12 ⟨some 4, .assign (.tmp 44), 42, _, #[⟨11, .data⟩, ⟨11, .chain⟩, ⟨0, .phase⟩, ⟨1, .phase⟩, ⟨2, .phase⟩, ⟨3, .phase⟩, ⟨4, .phase⟩, ⟨5, .phase⟩, ⟨6, .phase⟩, ⟨7, .phase⟩, ⟨8, .phase⟩, ⟨9, .phase⟩, ⟨10, .phase⟩, ⟨11, .phase⟩], none⟩ ?_ hHeld ?yyT11312 ?rrT11312
          case yyT11312 => (intro w hSw; (try dsimp only at hSw); go_simp; first | done | with_reducible rfl)
          try simp only [Act.put, putA, putB, putC]
          refine wpAnyH_done (by kernel_rfl) ?_ _
          have hfin := (show Hid _ from And.intro oW1111 eW1111)
          clear HK hHeld
          go_wp2
          go_ret
          exact ⟨_, _, rfl, hfin.out.1, hfin.out.2⟩
      · have hje : j = l.length := by omega
        subst hje
        by_cases hck : c = l.length
        · have hs2 : SrcS w (.slice a 0 0) (l.drop l.length) := ⟨a, 0, by rw [List.drop_length]; rfl, .inl List.drop_length⟩
          have hck2 := hck.symm
          subst hck2
          clear hs2' hcell hsp hneq hsrc hs2'' hck
          generalize l.take l.length = T at *
          generalize l.drop l.length = Dr at *
          go_upto_region 6 with fail
          have HK : Hid (∀ W : World, True → True) := fun _ _ => trivial
          have hE0 : Ext w w.drew := (Ext.refl _).drew
          have hR : Hid (R = T ++ [s] ++ Dr) := by show _ = _; rw [hset.out, List.append_assoc]
          refine wp_region_held_drew (S := (fun _ => True)) (by kernel_rfl) (trivial) (fun hHeld => ?_)
          refine tkL 1 ⟨some 34, .move (.tmp 0), 42, _, #[], none⟩ ?_ hHeld ?yyT2011 ?rrT2011
          case yyT2011 => (intro w hSw; (try dsimp only at hSw); go_simp; first | done | with_reducible rfl)
          try simp only [Act.put, putA, putB, putC]
          refine tkL 2 ⟨some 35, .move (.tmp 5), 3, _, #[], none⟩ ?_ hHeld ?yyT2012 ?rrT2012
          case yyT2012 => (intro w hSw; (try dsimp only at hSw); go_simp; first | done | with_reducible rfl)
          try simp only [Act.put, putA, putB, putC]
          refine tkL 3 ⟨some 36, .slice 42 (.tmp 34) none (some (.tmp 35)) none, 42, _, #[⟨1, .data⟩, ⟨2, .data⟩], none⟩ ?_ hHeld ?yyT2013 ?rrT2013
          case yyT2013 => (intro w hSw; (try dsimp only at hSw); go_simp; first | done | with_reducible rfl)
          try simp only [Act.put, putA, putB, putC]
          refine tkL 5 ⟨some 38, .move (.tmp 1), 9, _, #[], none⟩ ?_ hHeld ?yyT2015 ?rrT2015
          case yyT2015 => (intro w hSw; (try dsimp only at hSw); go_simp; first | done | with_reducible rfl)
          try simp only [Act.put, putA, putB, putC]
          refine tkL 8 ⟨some 41, .move (.tmp 0), 42, _, #[], none⟩ ?_ hHeld ?yyT2018 ?rrT2018
          case yyT2018 => (intro w hSw; (try dsimp only at hSw); go_simp; first | done | with_reducible rfl)
          try simp only [Act.put, putA, putB, putC]
          refine tkL 9 ⟨some 42, .move (.tmp 5), 3, _, #[], none⟩ ?_ hHeld ?yyT2019 ?rrT2019
          case yyT2019 => (intro w hSw; (try dsimp only at hSw); go_simp; first | done | with_reducible rfl)
          try simp only [Act.put, putA, putB, putC]
          refine tkL 10 ⟨some 43, .slice 42 (.tmp 41) (some (.tmp 42)) none none, 42, _, #[⟨8, .data⟩, ⟨9, .data⟩], none⟩ ?_ hHeld ?yyT20110 ?rrT20110
          case yyT20110 => (intro w hSw; (try dsimp only at hSw); go_simp; first | done | with_reducible rfl)
          try simp only [Act.put, putA, putB, putC]
          obtain ⟨W0, hW0⟩ : ∃ W, W = w.drew := ⟨_, rfl⟩
          rw [← hW0] at hE0 ⊢
          clear hW0
          refine wpAnyH_ready (rs := [0, 6]) (by kernel_rfl) (by simp) ?_
          refine AllReadyH.cons (o := ⟨some 33, .buildSlice 42 0 #[], 42, _, #[], none⟩) rfl (fun K hK => ?_) (AllReadyH.cons (o := ⟨some 39, .buildSlice 42 1 #[(0, .tmp 38)], 42, _, #[⟨5, .data⟩], none⟩) rfl (fun K hK => ?_) (AllReadyH.nil))
          · go_simp
            obtain ⟨W70, hW70⟩ : ∃ X, X = W0.alloc (.cells #[] 9) := ⟨_, rfl⟩
            have eW70 : Ext W0 W70 := by rw [hW70]; exact (Ext.refl _).alloc _
            have oW70 : W70.ownsRow w.heap.size 9 1 (.slice (some ⟨W0.heap.size, 0, none⟩) 0 0) ([] : List ByteArray).length (([] : List ByteArray).map Value.string) := by
              rw [hW70]
              have := World.ownsRow_made (e := 9) (size := 1) (base := w.heap.size) W0 #[] 0 (hE0).le (Nat.zero_le _) (by simp)
              simpa using this
            rw [← hW70]
            obtain ⟨nW70, hnW70⟩ : ∃ m, m = W0.heap.size := ⟨_, rfl⟩
            have geW70 := Nat.le_of_eq hnW70.symm
            have ltW70 : nW70 < W70.heap.size := by rw [hW70, hnW70]; simp
            rw [← hnW70] at oW70 ⊢
            clear hnW70 hW70
            refine hK.out _ _ trivial (fun hHeld => ?_)
            clear hK K
            try simp only [Act.put, putA, putB, putC]
            refine wpAnyH_ready (rs := [4, 6]) (by kernel_rfl) (by simp) ?_
            refine AllReadyH.cons (o := ⟨some 37, .call { callee := .builtin .append, args := #[.tmp 33, .tmp 36], argTypes := #[42, 42] }, 42, _, #[⟨0, .data⟩, ⟨3, .data⟩], none⟩) rfl (fun K hK => ?_) (AllReadyH.cons (o := ⟨some 39, .buildSlice 42 1 #[(0, .tmp 38)], 42, _, #[⟨5, .data⟩], none⟩) rfl (fun K hK => ?_) (AllReadyH.nil))
            · obtain ⟨aW84, cW84, W84, rW84, oW84, gW84⟩ := run_append_src W70 (hs0.ext (hE0.trans eW70)) oW70 (by first | omega | (simp; done) | (simp; omega)) (by first | omega | (simp; done) | (simp; omega)) ((hE0.trans eW70)).le 42
              have eW84 : Ext w W84 := Below.grown (hE0.trans eW70) gW84 ((hE0.trans eW70)).le (fun j hj => (oW70.lt j hj).1)
              have fW84 := gW84
              rw [List.nil_append] at rW84 oW84
              refine step_append_ranS (by rfl) _ _ (by rfl) W70 rW84 (by rfl) (by rfl) ?_
              refine hK.out _ _ trivial (fun hHeld => ?_)
              clear hK K
              try simp only [Act.put, putA, putB, putC]
              refine wpAnyH_ready (rs := [6]) (by kernel_rfl) (by simp) ?_
              refine AllReadyH.cons (o := ⟨some 39, .buildSlice 42 1 #[(0, .tmp 38)], 42, _, #[⟨5, .data⟩], none⟩) rfl (fun K hK => ?_) (AllReadyH.nil)
              go_simp
              obtain ⟨W96, hW96⟩ : ∃ X, X = W84.alloc (.cells #[.string s] 9) := ⟨_, rfl⟩
              have eW96 : Ext W84 W96 := by rw [hW96]; exact (Ext.refl _).alloc _
              have cW96 : SrcS W96 (.slice (some ⟨W84.heap.size, 0, none⟩) 1 1) [s] := ⟨_, 1, rfl, .inr ⟨W84.heap.size, 0, rfl, by rw [hW96]; simp, fun j u hu => by
                have hj : j < 1 := by
                  have := (List.getElem?_eq_some_iff.1 hu).1
                  simpa using this
                obtain rfl : j = 0 := by omega
                have : u = .string s := by simpa using hu.symm
                rw [this, hW96]
                exact box_cell (Ext.refl _) 0 _ rfl⟩⟩
              rw [← hW96]
              obtain ⟨nW96, hnW96⟩ : ∃ m, m = W84.heap.size := ⟨_, rfl⟩
              have geW96 := Nat.le_of_eq hnW96.symm
              have ltW96 : nW96 < W96.heap.size := by rw [hW96, hnW96]; simp
              rw [← hnW96] at cW96 ⊢
              clear hnW96 hW96
              refine hK.out _ _ trivial (fun hHeld => ?_)
              clear hK K
              try simp only [Act.put, putA, putB, putC]
              refine wpAnyH_ready (rs := [7]) (by kernel_rfl) (by simp) ?_
              refine AllReadyH.cons (o := ⟨some 40, .call { callee := .builtin .append, args := #[.tmp 37, .tmp 39], argTypes := #[42, 42] }, 42, _, #[⟨4, .data⟩, ⟨6, .data⟩, ⟨4, .chain⟩], none⟩) rfl (fun K hK => ?_) (AllReadyH.nil)
              obtain ⟨aW107, cW107, W107, rW107, oW107, gW107⟩ := run_append_src W96 cW96 (oW84.kept eW96.grown (Classical.em _)) (by first | omega | (simp; done) | (simp; omega)) (by first | omega | (simp; done) | (simp; omega)) ((eW84.trans eW96)).le 42
              have eW107 : Ext w W107 := Below.grown (eW84.trans eW96) gW107 ((eW84.trans eW96)).le (fun j hj => ((oW84.kept eW96.grown (Classical.em _)).lt j hj).1)
              have fW107 := gW107
              refine step_append_ranS (by rfl) _ _ (by rfl) W96 rW107 (by rfl) (by rfl) ?_
              refine hK.out _ _ trivial (fun hHeld => ?_)
              clear hK K
              try simp only [Act.put, putA, putB, putC]
              refine wpAnyH_ready (rs := [11]) (by kernel_rfl) (by simp) ?_
              refine AllReadyH.cons (o := ⟨some 44, .call { callee := .builtin .append, args := #[.tmp 40, .tmp 43], argTypes := #[42, 42] }, 42, _, #[⟨7, .data⟩, ⟨10, .data⟩, ⟨7, .chain⟩], none⟩) rfl (fun K hK => ?_) (AllReadyH.nil)
              obtain ⟨aW1111, cW1111, W1111, rW1111, oW1111, gW1111⟩ := run_append_src W107 (hs2.ext eW107) oW107 (by first | omega | (simp; done) | (simp; omega)) (by first | omega | (simp; done) | (simp; omega)) (eW107).le 42
              have eW1111 : Ext w W1111 := Below.grown eW107 gW1111 (eW107).le (fun j hj => (oW107.lt j hj).1)
              have fW1111 := gW1111
              rw [← hR.out] at rW1111 oW1111
              refine step_append_ranS (by rfl) _ _ (by rfl) W107 rW1111 (by rfl) (by rfl) ?_
              refine hK.out _ _ trivial (fun hHeld => ?_)
              clear hK K
              try simp only [Act.put, putA, putB, putC]
              refine tkL 12 ⟨some 4, .assign (.tmp 44), 42, _, #[⟨11, .data⟩, ⟨11, .chain⟩, ⟨0, .phase⟩, ⟨1, .phase⟩, ⟨2, .phase⟩, ⟨3, .phase⟩, ⟨4, .phase⟩, ⟨5, .phase⟩, ⟨6, .phase⟩, ⟨7, .phase⟩, ⟨8, .phase⟩, ⟨9, .phase⟩, ⟨10, .phase⟩, ⟨11, .phase⟩], none⟩ ?_ hHeld ?yyT20612 ?rrT20612
              case yyT20612 => (intro w hSw; (try dsimp only at hSw); go_simp; first | done | with_reducible rfl)
              try simp only [Act.put, putA, putB, putC]
              refine wpAnyH_done (by kernel_rfl) ?_ _
              have hfin := (show Hid _ from And.intro oW1111 eW1111)
              clear HK hHeld
              go_wp2
              go_ret
              exact ⟨_, _, rfl, hfin.out.1, hfin.out.2⟩
            · go_simp
              obtain ⟨W86, hW86⟩ : ∃ X, X = W70.alloc (.cells #[.string s] 9) := ⟨_, rfl⟩
              have eW86 : Ext W70 W86 := by rw [hW86]; exact (Ext.refl _).alloc _
              have cW86 : SrcS W86 (.slice (some ⟨W70.heap.size, 0, none⟩) 1 1) [s] := ⟨_, 1, rfl, .inr ⟨W70.heap.size, 0, rfl, by rw [hW86]; simp, fun j u hu => by
                have hj : j < 1 := by
                  have := (List.getElem?_eq_some_iff.1 hu).1
                  simpa using this
                obtain rfl : j = 0 := by omega
                have : u = .string s := by simpa using hu.symm
                rw [this, hW86]
                exact box_cell (Ext.refl _) 0 _ rfl⟩⟩
              rw [← hW86]
              obtain ⟨nW86, hnW86⟩ : ∃ m, m = W70.heap.size := ⟨_, rfl⟩
              have geW86 := Nat.le_of_eq hnW86.symm
              have ltW86 : nW86 < W86.heap.size := by rw [hW86, hnW86]; simp
              rw [← hnW86] at cW86 ⊢
              clear hnW86 hW86
              refine hK.out _ _ trivial (fun hHeld => ?_)
              clear hK K
              try simp only [Act.put, putA, putB, putC]
              refine wpAnyH_ready (rs := [4]) (by kernel_rfl) (by simp) ?_
              refine AllReadyH.cons (o := ⟨some 37, .call { callee := .builtin .append, args := #[.tmp 33, .tmp 36], argTypes := #[42, 42] }, 42, _, #[⟨0, .data⟩, ⟨3, .data⟩], none⟩) rfl (fun K hK => ?_) (AllReadyH.nil)
              obtain ⟨aW94, cW94, W94, rW94, oW94, gW94⟩ := run_append_src W86 (hs0.ext ((hE0.trans eW70).trans eW86)) (oW70.kept eW86.grown (Classical.em _)) (by first | omega | (simp; done) | (simp; omega)) (by first | omega | (simp; done) | (simp; omega)) (((hE0.trans eW70).trans eW86)).le 42
              have eW94 : Ext w W94 := Below.grown ((hE0.trans eW70).trans eW86) gW94 (((hE0.trans eW70).trans eW86)).le (fun j hj => ((oW70.kept eW86.grown (Classical.em _)).lt j hj).1)
              have fW94 := gW94
              rw [List.nil_append] at rW94 oW94
              refine step_append_ranS (by rfl) _ _ (by rfl) W86 rW94 (by rfl) (by rfl) ?_
              have sW94 : SrcS W94 (.slice (some ⟨nW86, 0, none⟩) 1 1) [s] := by
                obtain ⟨p, cc, hh, hor⟩ := cW86
                injection hh with h1 _ h3
                rcases hor with h0 | ⟨b, off, hp, hb, hcs⟩
                · cases h0
                · have hbn : nW86 = b := by rw [hp] at h1; injection h1 with h1; injection h1
                  refine ⟨p, cc, by rw [← h1, ← h3]; rfl, .inr ⟨b, off, hp, Nat.lt_of_lt_of_le hb fW94.size, fun j u hu => ?_⟩⟩
                  rw [World.cell?_of_block (fW94.block b hb (fun e2 => by have e3 : b = nW70 := Option.some.inj e2; omega))]
                  exact hcs j u hu
              refine hK.out _ _ trivial (fun hHeld => ?_)
              clear hK K
              try simp only [Act.put, putA, putB, putC]
              refine wpAnyH_ready (rs := [7]) (by kernel_rfl) (by simp) ?_
              refine AllReadyH.cons (o := ⟨some 40, .call { callee := .builtin .append, args := #[.tmp 37, .tmp 39], argTypes := #[42, 42] }, 42, _, #[⟨4, .data⟩, ⟨6, .data⟩, ⟨4, .chain⟩], none⟩) rfl (fun K hK => ?_) (AllReadyH.nil)
              obtain ⟨aW107, cW107, W107, rW107, oW107, gW107⟩ := run_append_src W94 sW94 oW94 (by first | omega | (simp; done) | (simp; omega)) (by first | omega | (simp; done) | (simp; omega)) (eW94).le 42
              have eW107 : Ext w W107 := Below.grown eW94 gW107 (eW94).le (fun j hj => (oW94.lt j hj).1)
              have fW107 := gW107
              refine step_append_ranS (by rfl) _ _ (by rfl) W94 rW107 (by rfl) (by rfl) ?_
              refine hK.out _ _ trivial (fun hHeld => ?_)
              clear hK K
              try simp only [Act.put, putA, putB, putC]
              refine wpAnyH_ready (rs := [11]) (by kernel_rfl) (by simp) ?_
              refine AllReadyH.cons (o := ⟨some 44, .call { callee := .builtin .append, args := #[.tmp 40, .tmp 43], argTypes := #[42, 42] }, 42, _, #[⟨7, .data⟩, ⟨10, .data⟩, ⟨7, .chain⟩], none⟩) rfl (fun K hK => ?_) (AllReadyH.nil)
              obtain ⟨aW1111, cW1111, W1111, rW1111, oW1111, gW1111⟩ := run_append_src W107 (hs2.ext eW107) oW107 (by first | omega | (simp; done) | (simp; omega)) (by first | omega | (simp; done) | (simp; omega)) (eW107).le 42
              have eW1111 : Ext w W1111 := Below.grown eW107 gW1111 (eW107).le (fun j hj => (oW107.lt j hj).1)
              have fW1111 := gW1111
              rw [← hR.out] at rW1111 oW1111
              refine step_append_ranS (by rfl) _ _ (by rfl) W107 rW1111 (by rfl) (by rfl) ?_
              refine hK.out _ _ trivial (fun hHeld => ?_)
              clear hK K
              try simp only [Act.put, putA, putB, putC]
              refine tkL 12 ⟨some 4, .assign (.tmp 44), 42, _, #[⟨11, .data⟩, ⟨11, .chain⟩, ⟨0, .phase⟩, ⟨1, .phase⟩, ⟨2, .phase⟩, ⟨3, .phase⟩, ⟨4, .phase⟩, ⟨5, .phase⟩, ⟨6, .phase⟩, ⟨7, .phase⟩, ⟨8, .phase⟩, ⟨9, .phase⟩, ⟨10, .phase⟩, ⟨11, .phase⟩], none⟩ ?_ hHeld ?yyT20912 ?rrT20912
              case yyT20912 => (intro w hSw; (try dsimp only at hSw); go_simp; first | done | with_reducible rfl)
              try simp only [Act.put, putA, putB, putC]
              refine wpAnyH_done (by kernel_rfl) ?_ _
              have hfin := (show Hid _ from And.intro oW1111 eW1111)
              clear HK hHeld
              go_wp2
              go_ret
              exact ⟨_, _, rfl, hfin.out.1, hfin.out.2⟩
          · go_simp
            obtain ⟨W76, hW76⟩ : ∃ X, X = W0.alloc (.cells #[.string s] 9) := ⟨_, rfl⟩
            have eW76 : Ext W0 W76 := by rw [hW76]; exact (Ext.refl _).alloc _
            have cW76 : SrcS W76 (.slice (some ⟨W0.heap.size, 0, none⟩) 1 1) [s] := ⟨_, 1, rfl, .inr ⟨W0.heap.size, 0, rfl, by rw [hW76]; simp, fun j u hu => by
              have hj : j < 1 := by
                have := (List.getElem?_eq_some_iff.1 hu).1
                simpa using this
              obtain rfl : j = 0 := by omega
              have : u = .string s := by simpa using hu.symm
              rw [this, hW76]
              exact box_cell (Ext.refl _) 0 _ rfl⟩⟩
            rw [← hW76]
            obtain ⟨nW76, hnW76⟩ : ∃ m, m = W0.heap.size := ⟨_, rfl⟩
            have geW76 := Nat.le_of_eq hnW76.symm
            have ltW76 : nW76 < W76.heap.size := by rw [hW76, hnW76]; simp
            rw [← hnW76] at cW76 ⊢
            clear hnW76 hW76
            refine hK.out _ _ trivial (fun hHeld => ?_)
            clear hK K
            try simp only [Act.put, putA, putB, putC]
            refine wpAnyH_ready (rs := [0]) (by kernel_rfl) (by simp) ?_
            refine AllReadyH.cons (o := ⟨some 33, .buildSlice 42 0 #[], 42, _, #[], none⟩) rfl (fun K hK => ?_) (AllReadyH.nil)
            go_simp
            obtain ⟨W80, hW80⟩ : ∃ X, X = W76.alloc (.cells #[] 9) := ⟨_, rfl⟩
            have eW80 : Ext W76 W80 := by rw [hW80]; exact (Ext.refl _).alloc _
            have oW80 : W80.ownsRow w.heap.size 9 1 (.slice (some ⟨W76.heap.size, 0, none⟩) 0 0) ([] : List ByteArray).length (([] : List ByteArray).map Value.string) := by
              rw [hW80]
              have := World.ownsRow_made (e := 9) (size := 1) (base := w.heap.size) W76 #[] 0 ((hE0.trans eW76)).le (Nat.zero_le _) (by simp)
              simpa using this
            rw [← hW80]
            obtain ⟨nW80, hnW80⟩ : ∃ m, m = W76.heap.size := ⟨_, rfl⟩
            have geW80 := Nat.le_of_eq hnW80.symm
            have ltW80 : nW80 < W80.heap.size := by rw [hW80, hnW80]; simp
            rw [← hnW80] at oW80 ⊢
            clear hnW80 hW80
            refine hK.out _ _ trivial (fun hHeld => ?_)
            clear hK K
            try simp only [Act.put, putA, putB, putC]
            refine wpAnyH_ready (rs := [4]) (by kernel_rfl) (by simp) ?_
            refine AllReadyH.cons (o := ⟨some 37, .call { callee := .builtin .append, args := #[.tmp 33, .tmp 36], argTypes := #[42, 42] }, 42, _, #[⟨0, .data⟩, ⟨3, .data⟩], none⟩) rfl (fun K hK => ?_) (AllReadyH.nil)
            obtain ⟨aW94, cW94, W94, rW94, oW94, gW94⟩ := run_append_src W80 (hs0.ext ((hE0.trans eW76).trans eW80)) oW80 (by first | omega | (simp; done) | (simp; omega)) (by first | omega | (simp; done) | (simp; omega)) (((hE0.trans eW76).trans eW80)).le 42
            have eW94 : Ext w W94 := Below.grown ((hE0.trans eW76).trans eW80) gW94 (((hE0.trans eW76).trans eW80)).le (fun j hj => (oW80.lt j hj).1)
            have fW94 := gW94
            rw [List.nil_append] at rW94 oW94
            refine step_append_ranS (by rfl) _ _ (by rfl) W80 rW94 (by rfl) (by rfl) ?_
            have sW94 : SrcS W94 (.slice (some ⟨nW76, 0, none⟩) 1 1) [s] := by
              obtain ⟨p, cc, hh, hor⟩ := (cW76.ext eW80)
              injection hh with h1 _ h3
              rcases hor with h0 | ⟨b, off, hp, hb, hcs⟩
              · cases h0
              · have hbn : nW76 = b := by rw [hp] at h1; injection h1 with h1; injection h1
                refine ⟨p, cc, by rw [← h1, ← h3]; rfl, .inr ⟨b, off, hp, Nat.lt_of_lt_of_le hb fW94.size, fun j u hu => ?_⟩⟩
                rw [World.cell?_of_block (fW94.block b hb (fun e2 => by have e3 : b = nW80 := Option.some.inj e2; omega))]
                exact hcs j u hu
            refine hK.out _ _ trivial (fun hHeld => ?_)
            clear hK K
            try simp only [Act.put, putA, putB, putC]
            refine wpAnyH_ready (rs := [7]) (by kernel_rfl) (by simp) ?_
            refine AllReadyH.cons (o := ⟨some 40, .call { callee := .builtin .append, args := #[.tmp 37, .tmp 39], argTypes := #[42, 42] }, 42, _, #[⟨4, .data⟩, ⟨6, .data⟩, ⟨4, .chain⟩], none⟩) rfl (fun K hK => ?_) (AllReadyH.nil)
            obtain ⟨aW107, cW107, W107, rW107, oW107, gW107⟩ := run_append_src W94 sW94 oW94 (by first | omega | (simp; done) | (simp; omega)) (by first | omega | (simp; done) | (simp; omega)) (eW94).le 42
            have eW107 : Ext w W107 := Below.grown eW94 gW107 (eW94).le (fun j hj => (oW94.lt j hj).1)
            have fW107 := gW107
            refine step_append_ranS (by rfl) _ _ (by rfl) W94 rW107 (by rfl) (by rfl) ?_
            refine hK.out _ _ trivial (fun hHeld => ?_)
            clear hK K
            try simp only [Act.put, putA, putB, putC]
            refine wpAnyH_ready (rs := [11]) (by kernel_rfl) (by simp) ?_
            refine AllReadyH.cons (o := ⟨some 44, .call { callee := .builtin .append, args := #[.tmp 40, .tmp 43], argTypes := #[42, 42] }, 42, _, #[⟨7, .data⟩, ⟨10, .data⟩, ⟨7, .chain⟩], none⟩) rfl (fun K hK => ?_) (AllReadyH.nil)
            obtain ⟨aW1111, cW1111, W1111, rW1111, oW1111, gW1111⟩ := run_append_src W107 (hs2.ext eW107) oW107 (by first | omega | (simp; done) | (simp; omega)) (by first | omega | (simp; done) | (simp; omega)) (eW107).le 42
            have eW1111 : Ext w W1111 := Below.grown eW107 gW1111 (eW107).le (fun j hj => (oW107.lt j hj).1)
            have fW1111 := gW1111
            rw [← hR.out] at rW1111 oW1111
            refine step_append_ranS (by rfl) _ _ (by rfl) W107 rW1111 (by rfl) (by rfl) ?_
            refine hK.out _ _ trivial (fun hHeld => ?_)
            clear hK K
            try simp only [Act.put, putA, putB, putC]
            refine tkL 12 ⟨some 4, .assign (.tmp 44), 42, _, #[⟨11, .data⟩, ⟨11, .chain⟩, ⟨0, .phase⟩, ⟨1, .phase⟩, ⟨2, .phase⟩, ⟨3, .phase⟩, ⟨4, .phase⟩, ⟨5, .phase⟩, ⟨6, .phase⟩, ⟨7, .phase⟩, ⟨8, .phase⟩, ⟨9, .phase⟩, ⟨10, .phase⟩, ⟨11, .phase⟩], none⟩ ?_ hHeld ?yyT21312 ?rrT21312
            case yyT21312 => (intro w hSw; (try dsimp only at hSw); go_simp; first | done | with_reducible rfl)
            try simp only [Act.put, putA, putB, putC]
            refine wpAnyH_done (by kernel_rfl) ?_ _
            have hfin := (show Hid _ from And.intro oW1111 eW1111)
            clear HK hHeld
            go_wp2
            go_ret
            exact ⟨_, _, rfl, hfin.out.1, hfin.out.2⟩
        · have hs2 : SrcS w (.slice (Option.map (fun x => x.add l.length) a) 0 (c - l.length)) (l.drop l.length) := ⟨_, c - l.length, by rw [List.drop_length]; rfl, .inl List.drop_length⟩
          clear hs2' hcell hsp hneq hsrc hs2''
          generalize l.take l.length = T at *
          generalize l.drop l.length = Dr at *
          go_upto_region 6 with fail
          have HK : Hid (∀ W : World, True → True) := fun _ _ => trivial
          have hE0 : Ext w w.drew := (Ext.refl _).drew
          have hR : Hid (R = T ++ [s] ++ Dr) := by show _ = _; rw [hset.out, List.append_assoc]
          refine wp_region_held_drew (S := (fun _ => True)) (by kernel_rfl) (trivial) (fun hHeld => ?_)
          refine tkL 1 ⟨some 34, .move (.tmp 0), 42, _, #[], none⟩ ?_ hHeld ?yyT3011 ?rrT3011
          case yyT3011 => (intro w hSw; (try dsimp only at hSw); go_simp; first | done | with_reducible rfl)
          try simp only [Act.put, putA, putB, putC]
          refine tkL 2 ⟨some 35, .move (.tmp 5), 3, _, #[], none⟩ ?_ hHeld ?yyT3012 ?rrT3012
          case yyT3012 => (intro w hSw; (try dsimp only at hSw); go_simp; first | done | with_reducible rfl)
          try simp only [Act.put, putA, putB, putC]
          refine tkL 3 ⟨some 36, .slice 42 (.tmp 34) none (some (.tmp 35)) none, 42, _, #[⟨1, .data⟩, ⟨2, .data⟩], none⟩ ?_ hHeld ?yyT3013 ?rrT3013
          case yyT3013 => (intro w hSw; (try dsimp only at hSw); go_simp; first | done | with_reducible rfl)
          try simp only [Act.put, putA, putB, putC]
          refine tkL 5 ⟨some 38, .move (.tmp 1), 9, _, #[], none⟩ ?_ hHeld ?yyT3015 ?rrT3015
          case yyT3015 => (intro w hSw; (try dsimp only at hSw); go_simp; first | done | with_reducible rfl)
          try simp only [Act.put, putA, putB, putC]
          refine tkL 8 ⟨some 41, .move (.tmp 0), 42, _, #[], none⟩ ?_ hHeld ?yyT3018 ?rrT3018
          case yyT3018 => (intro w hSw; (try dsimp only at hSw); go_simp; first | done | with_reducible rfl)
          try simp only [Act.put, putA, putB, putC]
          refine tkL 9 ⟨some 42, .move (.tmp 5), 3, _, #[], none⟩ ?_ hHeld ?yyT3019 ?rrT3019
          case yyT3019 => (intro w hSw; (try dsimp only at hSw); go_simp; first | done | with_reducible rfl)
          try simp only [Act.put, putA, putB, putC]
          refine tkL 10 ⟨some 43, .slice 42 (.tmp 41) (some (.tmp 42)) none none, 42, _, #[⟨8, .data⟩, ⟨9, .data⟩], none⟩ ?_ hHeld ?yyT30110 ?rrT30110
          case yyT30110 => (intro w hSw; (try dsimp only at hSw); go_simp; first | done | with_reducible rfl)
          try simp only [Act.put, putA, putB, putC]
          obtain ⟨W0, hW0⟩ : ∃ W, W = w.drew := ⟨_, rfl⟩
          rw [← hW0] at hE0 ⊢
          clear hW0
          refine wpAnyH_ready (rs := [0, 6]) (by kernel_rfl) (by simp) ?_
          refine AllReadyH.cons (o := ⟨some 33, .buildSlice 42 0 #[], 42, _, #[], none⟩) rfl (fun K hK => ?_) (AllReadyH.cons (o := ⟨some 39, .buildSlice 42 1 #[(0, .tmp 38)], 42, _, #[⟨5, .data⟩], none⟩) rfl (fun K hK => ?_) (AllReadyH.nil))
          · go_simp
            obtain ⟨W70, hW70⟩ : ∃ X, X = W0.alloc (.cells #[] 9) := ⟨_, rfl⟩
            have eW70 : Ext W0 W70 := by rw [hW70]; exact (Ext.refl _).alloc _
            have oW70 : W70.ownsRow w.heap.size 9 1 (.slice (some ⟨W0.heap.size, 0, none⟩) 0 0) ([] : List ByteArray).length (([] : List ByteArray).map Value.string) := by
              rw [hW70]
              have := World.ownsRow_made (e := 9) (size := 1) (base := w.heap.size) W0 #[] 0 (hE0).le (Nat.zero_le _) (by simp)
              simpa using this
            rw [← hW70]
            obtain ⟨nW70, hnW70⟩ : ∃ m, m = W0.heap.size := ⟨_, rfl⟩
            have geW70 := Nat.le_of_eq hnW70.symm
            have ltW70 : nW70 < W70.heap.size := by rw [hW70, hnW70]; simp
            rw [← hnW70] at oW70 ⊢
            clear hnW70 hW70
            refine hK.out _ _ trivial (fun hHeld => ?_)
            clear hK K
            try simp only [Act.put, putA, putB, putC]
            refine wpAnyH_ready (rs := [4, 6]) (by kernel_rfl) (by simp) ?_
            refine AllReadyH.cons (o := ⟨some 37, .call { callee := .builtin .append, args := #[.tmp 33, .tmp 36], argTypes := #[42, 42] }, 42, _, #[⟨0, .data⟩, ⟨3, .data⟩], none⟩) rfl (fun K hK => ?_) (AllReadyH.cons (o := ⟨some 39, .buildSlice 42 1 #[(0, .tmp 38)], 42, _, #[⟨5, .data⟩], none⟩) rfl (fun K hK => ?_) (AllReadyH.nil))
            · obtain ⟨aW84, cW84, W84, rW84, oW84, gW84⟩ := run_append_src W70 (hs0.ext (hE0.trans eW70)) oW70 (by first | omega | (simp; done) | (simp; omega)) (by first | omega | (simp; done) | (simp; omega)) ((hE0.trans eW70)).le 42
              have eW84 : Ext w W84 := Below.grown (hE0.trans eW70) gW84 ((hE0.trans eW70)).le (fun j hj => (oW70.lt j hj).1)
              have fW84 := gW84
              rw [List.nil_append] at rW84 oW84
              refine step_append_ranS (by rfl) _ _ (by rfl) W70 rW84 (by rfl) (by rfl) ?_
              refine hK.out _ _ trivial (fun hHeld => ?_)
              clear hK K
              try simp only [Act.put, putA, putB, putC]
              refine wpAnyH_ready (rs := [6]) (by kernel_rfl) (by simp) ?_
              refine AllReadyH.cons (o := ⟨some 39, .buildSlice 42 1 #[(0, .tmp 38)], 42, _, #[⟨5, .data⟩], none⟩) rfl (fun K hK => ?_) (AllReadyH.nil)
              go_simp
              obtain ⟨W96, hW96⟩ : ∃ X, X = W84.alloc (.cells #[.string s] 9) := ⟨_, rfl⟩
              have eW96 : Ext W84 W96 := by rw [hW96]; exact (Ext.refl _).alloc _
              have cW96 : SrcS W96 (.slice (some ⟨W84.heap.size, 0, none⟩) 1 1) [s] := ⟨_, 1, rfl, .inr ⟨W84.heap.size, 0, rfl, by rw [hW96]; simp, fun j u hu => by
                have hj : j < 1 := by
                  have := (List.getElem?_eq_some_iff.1 hu).1
                  simpa using this
                obtain rfl : j = 0 := by omega
                have : u = .string s := by simpa using hu.symm
                rw [this, hW96]
                exact box_cell (Ext.refl _) 0 _ rfl⟩⟩
              rw [← hW96]
              obtain ⟨nW96, hnW96⟩ : ∃ m, m = W84.heap.size := ⟨_, rfl⟩
              have geW96 := Nat.le_of_eq hnW96.symm
              have ltW96 : nW96 < W96.heap.size := by rw [hW96, hnW96]; simp
              rw [← hnW96] at cW96 ⊢
              clear hnW96 hW96
              refine hK.out _ _ trivial (fun hHeld => ?_)
              clear hK K
              try simp only [Act.put, putA, putB, putC]
              refine wpAnyH_ready (rs := [7]) (by kernel_rfl) (by simp) ?_
              refine AllReadyH.cons (o := ⟨some 40, .call { callee := .builtin .append, args := #[.tmp 37, .tmp 39], argTypes := #[42, 42] }, 42, _, #[⟨4, .data⟩, ⟨6, .data⟩, ⟨4, .chain⟩], none⟩) rfl (fun K hK => ?_) (AllReadyH.nil)
              obtain ⟨aW107, cW107, W107, rW107, oW107, gW107⟩ := run_append_src W96 cW96 (oW84.kept eW96.grown (Classical.em _)) (by first | omega | (simp; done) | (simp; omega)) (by first | omega | (simp; done) | (simp; omega)) ((eW84.trans eW96)).le 42
              have eW107 : Ext w W107 := Below.grown (eW84.trans eW96) gW107 ((eW84.trans eW96)).le (fun j hj => ((oW84.kept eW96.grown (Classical.em _)).lt j hj).1)
              have fW107 := gW107
              refine step_append_ranS (by rfl) _ _ (by rfl) W96 rW107 (by rfl) (by rfl) ?_
              refine hK.out _ _ trivial (fun hHeld => ?_)
              clear hK K
              try simp only [Act.put, putA, putB, putC]
              refine wpAnyH_ready (rs := [11]) (by kernel_rfl) (by simp) ?_
              refine AllReadyH.cons (o := ⟨some 44, .call { callee := .builtin .append, args := #[.tmp 40, .tmp 43], argTypes := #[42, 42] }, 42, _, #[⟨7, .data⟩, ⟨10, .data⟩, ⟨7, .chain⟩], none⟩) rfl (fun K hK => ?_) (AllReadyH.nil)
              obtain ⟨aW1111, cW1111, W1111, rW1111, oW1111, gW1111⟩ := run_append_src W107 (hs2.ext eW107) oW107 (by first | omega | (simp; done) | (simp; omega)) (by first | omega | (simp; done) | (simp; omega)) (eW107).le 42
              have eW1111 : Ext w W1111 := Below.grown eW107 gW1111 (eW107).le (fun j hj => (oW107.lt j hj).1)
              have fW1111 := gW1111
              rw [← hR.out] at rW1111 oW1111
              refine step_append_ranS (by rfl) _ _ (by rfl) W107 rW1111 (by rfl) (by rfl) ?_
              refine hK.out _ _ trivial (fun hHeld => ?_)
              clear hK K
              try simp only [Act.put, putA, putB, putC]
              refine tkL 12 ⟨some 4, .assign (.tmp 44), 42, _, #[⟨11, .data⟩, ⟨11, .chain⟩, ⟨0, .phase⟩, ⟨1, .phase⟩, ⟨2, .phase⟩, ⟨3, .phase⟩, ⟨4, .phase⟩, ⟨5, .phase⟩, ⟨6, .phase⟩, ⟨7, .phase⟩, ⟨8, .phase⟩, ⟨9, .phase⟩, ⟨10, .phase⟩, ⟨11, .phase⟩], none⟩ ?_ hHeld ?yyT30612 ?rrT30612
              case yyT30612 => (intro w hSw; (try dsimp only at hSw); go_simp; first | done | with_reducible rfl)
              try simp only [Act.put, putA, putB, putC]
              refine wpAnyH_done (by kernel_rfl) ?_ _
              have hfin := (show Hid _ from And.intro oW1111 eW1111)
              clear HK hHeld
              go_wp2
              go_ret
              exact ⟨_, _, rfl, hfin.out.1, hfin.out.2⟩
            · go_simp
              obtain ⟨W86, hW86⟩ : ∃ X, X = W70.alloc (.cells #[.string s] 9) := ⟨_, rfl⟩
              have eW86 : Ext W70 W86 := by rw [hW86]; exact (Ext.refl _).alloc _
              have cW86 : SrcS W86 (.slice (some ⟨W70.heap.size, 0, none⟩) 1 1) [s] := ⟨_, 1, rfl, .inr ⟨W70.heap.size, 0, rfl, by rw [hW86]; simp, fun j u hu => by
                have hj : j < 1 := by
                  have := (List.getElem?_eq_some_iff.1 hu).1
                  simpa using this
                obtain rfl : j = 0 := by omega
                have : u = .string s := by simpa using hu.symm
                rw [this, hW86]
                exact box_cell (Ext.refl _) 0 _ rfl⟩⟩
              rw [← hW86]
              obtain ⟨nW86, hnW86⟩ : ∃ m, m = W70.heap.size := ⟨_, rfl⟩
              have geW86 := Nat.le_of_eq hnW86.symm
              have ltW86 : nW86 < W86.heap.size := by rw [hW86, hnW86]; simp
              rw [← hnW86] at cW86 ⊢
              clear hnW86 hW86
              refine hK.out _ _ trivial (fun hHeld => ?_)
              clear hK K
              try simp only [Act.put, putA, putB, putC]
              refine wpAnyH_ready (rs := [4]) (by kernel_rfl) (by simp) ?_
              refine AllReadyH.cons (o := ⟨some 37, .call { callee := .builtin .append, args := #[.tmp 33, .tmp 36], argTypes := #[42, 42] }, 42, _, #[⟨0, .data⟩, ⟨3, .data⟩], none⟩) rfl (fun K hK => ?_) (AllReadyH.nil)
              obtain ⟨aW94, cW94, W94, rW94, oW94, gW94⟩ := run_append_src W86 (hs0.ext ((hE0.trans eW70).trans eW86)) (oW70.kept eW86.grown (Classical.em _)) (by first | omega | (simp; done) | (simp; omega)) (by first | omega | (simp; done) | (simp; omega)) (((hE0.trans eW70).trans eW86)).le 42
              have eW94 : Ext w W94 := Below.grown ((hE0.trans eW70).trans eW86) gW94 (((hE0.trans eW70).trans eW86)).le (fun j hj => ((oW70.kept eW86.grown (Classical.em _)).lt j hj).1)
              have fW94 := gW94
              rw [List.nil_append] at rW94 oW94
              refine step_append_ranS (by rfl) _ _ (by rfl) W86 rW94 (by rfl) (by rfl) ?_
              have sW94 : SrcS W94 (.slice (some ⟨nW86, 0, none⟩) 1 1) [s] := by
                obtain ⟨p, cc, hh, hor⟩ := cW86
                injection hh with h1 _ h3
                rcases hor with h0 | ⟨b, off, hp, hb, hcs⟩
                · cases h0
                · have hbn : nW86 = b := by rw [hp] at h1; injection h1 with h1; injection h1
                  refine ⟨p, cc, by rw [← h1, ← h3]; rfl, .inr ⟨b, off, hp, Nat.lt_of_lt_of_le hb fW94.size, fun j u hu => ?_⟩⟩
                  rw [World.cell?_of_block (fW94.block b hb (fun e2 => by have e3 : b = nW70 := Option.some.inj e2; omega))]
                  exact hcs j u hu
              refine hK.out _ _ trivial (fun hHeld => ?_)
              clear hK K
              try simp only [Act.put, putA, putB, putC]
              refine wpAnyH_ready (rs := [7]) (by kernel_rfl) (by simp) ?_
              refine AllReadyH.cons (o := ⟨some 40, .call { callee := .builtin .append, args := #[.tmp 37, .tmp 39], argTypes := #[42, 42] }, 42, _, #[⟨4, .data⟩, ⟨6, .data⟩, ⟨4, .chain⟩], none⟩) rfl (fun K hK => ?_) (AllReadyH.nil)
              obtain ⟨aW107, cW107, W107, rW107, oW107, gW107⟩ := run_append_src W94 sW94 oW94 (by first | omega | (simp; done) | (simp; omega)) (by first | omega | (simp; done) | (simp; omega)) (eW94).le 42
              have eW107 : Ext w W107 := Below.grown eW94 gW107 (eW94).le (fun j hj => (oW94.lt j hj).1)
              have fW107 := gW107
              refine step_append_ranS (by rfl) _ _ (by rfl) W94 rW107 (by rfl) (by rfl) ?_
              refine hK.out _ _ trivial (fun hHeld => ?_)
              clear hK K
              try simp only [Act.put, putA, putB, putC]
              refine wpAnyH_ready (rs := [11]) (by kernel_rfl) (by simp) ?_
              refine AllReadyH.cons (o := ⟨some 44, .call { callee := .builtin .append, args := #[.tmp 40, .tmp 43], argTypes := #[42, 42] }, 42, _, #[⟨7, .data⟩, ⟨10, .data⟩, ⟨7, .chain⟩], none⟩) rfl (fun K hK => ?_) (AllReadyH.nil)
              obtain ⟨aW1111, cW1111, W1111, rW1111, oW1111, gW1111⟩ := run_append_src W107 (hs2.ext eW107) oW107 (by first | omega | (simp; done) | (simp; omega)) (by first | omega | (simp; done) | (simp; omega)) (eW107).le 42
              have eW1111 : Ext w W1111 := Below.grown eW107 gW1111 (eW107).le (fun j hj => (oW107.lt j hj).1)
              have fW1111 := gW1111
              rw [← hR.out] at rW1111 oW1111
              refine step_append_ranS (by rfl) _ _ (by rfl) W107 rW1111 (by rfl) (by rfl) ?_
              refine hK.out _ _ trivial (fun hHeld => ?_)
              clear hK K
              try simp only [Act.put, putA, putB, putC]
              refine tkL 12 ⟨some 4, .assign (.tmp 44), 42, _, #[⟨11, .data⟩, ⟨11, .chain⟩, ⟨0, .phase⟩, ⟨1, .phase⟩, ⟨2, .phase⟩, ⟨3, .phase⟩, ⟨4, .phase⟩, ⟨5, .phase⟩, ⟨6, .phase⟩, ⟨7, .phase⟩, ⟨8, .phase⟩, ⟨9, .phase⟩, ⟨10, .phase⟩, ⟨11, .phase⟩], none⟩ ?_ hHeld ?yyT30912 ?rrT30912
              case yyT30912 => (intro w hSw; (try dsimp only at hSw); go_simp; first | done | with_reducible rfl)
              try simp only [Act.put, putA, putB, putC]
              refine wpAnyH_done (by kernel_rfl) ?_ _
              have hfin := (show Hid _ from And.intro oW1111 eW1111)
              clear HK hHeld
              go_wp2
              go_ret
              exact ⟨_, _, rfl, hfin.out.1, hfin.out.2⟩
          · go_simp
            obtain ⟨W76, hW76⟩ : ∃ X, X = W0.alloc (.cells #[.string s] 9) := ⟨_, rfl⟩
            have eW76 : Ext W0 W76 := by rw [hW76]; exact (Ext.refl _).alloc _
            have cW76 : SrcS W76 (.slice (some ⟨W0.heap.size, 0, none⟩) 1 1) [s] := ⟨_, 1, rfl, .inr ⟨W0.heap.size, 0, rfl, by rw [hW76]; simp, fun j u hu => by
              have hj : j < 1 := by
                have := (List.getElem?_eq_some_iff.1 hu).1
                simpa using this
              obtain rfl : j = 0 := by omega
              have : u = .string s := by simpa using hu.symm
              rw [this, hW76]
              exact box_cell (Ext.refl _) 0 _ rfl⟩⟩
            rw [← hW76]
            obtain ⟨nW76, hnW76⟩ : ∃ m, m = W0.heap.size := ⟨_, rfl⟩
            have geW76 := Nat.le_of_eq hnW76.symm
            have ltW76 : nW76 < W76.heap.size := by rw [hW76, hnW76]; simp
            rw [← hnW76] at cW76 ⊢
            clear hnW76 hW76
            refine hK.out _ _ trivial (fun hHeld => ?_)
            clear hK K
            try simp only [Act.put, putA, putB, putC]
            refine wpAnyH_ready (rs := [0]) (by kernel_rfl) (by simp) ?_
            refine AllReadyH.cons (o := ⟨some 33, .buildSlice 42 0 #[], 42, _, #[], none⟩) rfl (fun K hK => ?_) (AllReadyH.nil)
            go_simp
            obtain ⟨W80, hW80⟩ : ∃ X, X = W76.alloc (.cells #[] 9) := ⟨_, rfl⟩
            have eW80 : Ext W76 W80 := by rw [hW80]; exact (Ext.refl _).alloc _
            have oW80 : W80.ownsRow w.heap.size 9 1 (.slice (some ⟨W76.heap.size, 0, none⟩) 0 0) ([] : List ByteArray).length (([] : List ByteArray).map Value.string) := by
              rw [hW80]
              have := World.ownsRow_made (e := 9) (size := 1) (base := w.heap.size) W76 #[] 0 ((hE0.trans eW76)).le (Nat.zero_le _) (by simp)
              simpa using this
            rw [← hW80]
            obtain ⟨nW80, hnW80⟩ : ∃ m, m = W76.heap.size := ⟨_, rfl⟩
            have geW80 := Nat.le_of_eq hnW80.symm
            have ltW80 : nW80 < W80.heap.size := by rw [hW80, hnW80]; simp
            rw [← hnW80] at oW80 ⊢
            clear hnW80 hW80
            refine hK.out _ _ trivial (fun hHeld => ?_)
            clear hK K
            try simp only [Act.put, putA, putB, putC]
            refine wpAnyH_ready (rs := [4]) (by kernel_rfl) (by simp) ?_
            refine AllReadyH.cons (o := ⟨some 37, .call { callee := .builtin .append, args := #[.tmp 33, .tmp 36], argTypes := #[42, 42] }, 42, _, #[⟨0, .data⟩, ⟨3, .data⟩], none⟩) rfl (fun K hK => ?_) (AllReadyH.nil)
            obtain ⟨aW94, cW94, W94, rW94, oW94, gW94⟩ := run_append_src W80 (hs0.ext ((hE0.trans eW76).trans eW80)) oW80 (by first | omega | (simp; done) | (simp; omega)) (by first | omega | (simp; done) | (simp; omega)) (((hE0.trans eW76).trans eW80)).le 42
            have eW94 : Ext w W94 := Below.grown ((hE0.trans eW76).trans eW80) gW94 (((hE0.trans eW76).trans eW80)).le (fun j hj => (oW80.lt j hj).1)
            have fW94 := gW94
            rw [List.nil_append] at rW94 oW94
            refine step_append_ranS (by rfl) _ _ (by rfl) W80 rW94 (by rfl) (by rfl) ?_
            have sW94 : SrcS W94 (.slice (some ⟨nW76, 0, none⟩) 1 1) [s] := by
              obtain ⟨p, cc, hh, hor⟩ := (cW76.ext eW80)
              injection hh with h1 _ h3
              rcases hor with h0 | ⟨b, off, hp, hb, hcs⟩
              · cases h0
              · have hbn : nW76 = b := by rw [hp] at h1; injection h1 with h1; injection h1
                refine ⟨p, cc, by rw [← h1, ← h3]; rfl, .inr ⟨b, off, hp, Nat.lt_of_lt_of_le hb fW94.size, fun j u hu => ?_⟩⟩
                rw [World.cell?_of_block (fW94.block b hb (fun e2 => by have e3 : b = nW80 := Option.some.inj e2; omega))]
                exact hcs j u hu
            refine hK.out _ _ trivial (fun hHeld => ?_)
            clear hK K
            try simp only [Act.put, putA, putB, putC]
            refine wpAnyH_ready (rs := [7]) (by kernel_rfl) (by simp) ?_
            refine AllReadyH.cons (o := ⟨some 40, .call { callee := .builtin .append, args := #[.tmp 37, .tmp 39], argTypes := #[42, 42] }, 42, _, #[⟨4, .data⟩, ⟨6, .data⟩, ⟨4, .chain⟩], none⟩) rfl (fun K hK => ?_) (AllReadyH.nil)
            obtain ⟨aW107, cW107, W107, rW107, oW107, gW107⟩ := run_append_src W94 sW94 oW94 (by first | omega | (simp; done) | (simp; omega)) (by first | omega | (simp; done) | (simp; omega)) (eW94).le 42
            have eW107 : Ext w W107 := Below.grown eW94 gW107 (eW94).le (fun j hj => (oW94.lt j hj).1)
            have fW107 := gW107
            refine step_append_ranS (by rfl) _ _ (by rfl) W94 rW107 (by rfl) (by rfl) ?_
            refine hK.out _ _ trivial (fun hHeld => ?_)
            clear hK K
            try simp only [Act.put, putA, putB, putC]
            refine wpAnyH_ready (rs := [11]) (by kernel_rfl) (by simp) ?_
            refine AllReadyH.cons (o := ⟨some 44, .call { callee := .builtin .append, args := #[.tmp 40, .tmp 43], argTypes := #[42, 42] }, 42, _, #[⟨7, .data⟩, ⟨10, .data⟩, ⟨7, .chain⟩], none⟩) rfl (fun K hK => ?_) (AllReadyH.nil)
            obtain ⟨aW1111, cW1111, W1111, rW1111, oW1111, gW1111⟩ := run_append_src W107 (hs2.ext eW107) oW107 (by first | omega | (simp; done) | (simp; omega)) (by first | omega | (simp; done) | (simp; omega)) (eW107).le 42
            have eW1111 : Ext w W1111 := Below.grown eW107 gW1111 (eW107).le (fun j hj => (oW107.lt j hj).1)
            have fW1111 := gW1111
            rw [← hR.out] at rW1111 oW1111
            refine step_append_ranS (by rfl) _ _ (by rfl) W107 rW1111 (by rfl) (by rfl) ?_
            refine hK.out _ _ trivial (fun hHeld => ?_)
            clear hK K
            try simp only [Act.put, putA, putB, putC]
            refine tkL 12 ⟨some 4, .assign (.tmp 44), 42, _, #[⟨11, .data⟩, ⟨11, .chain⟩, ⟨0, .phase⟩, ⟨1, .phase⟩, ⟨2, .phase⟩, ⟨3, .phase⟩, ⟨4, .phase⟩, ⟨5, .phase⟩, ⟨6, .phase⟩, ⟨7, .phase⟩, ⟨8, .phase⟩, ⟨9, .phase⟩, ⟨10, .phase⟩, ⟨11, .phase⟩], none⟩ ?_ hHeld ?yyT31312 ?rrT31312
            case yyT31312 => (intro w hSw; (try dsimp only at hSw); go_simp; first | done | with_reducible rfl)
            try simp only [Act.put, putA, putB, putC]
            refine wpAnyH_done (by kernel_rfl) ?_ _
            have hfin := (show Hid _ from And.intro oW1111 eW1111)
            clear HK hHeld
            go_wp2
            go_ret
            exact ⟨_, _, rfl, hfin.out.1, hfin.out.2⟩
end Go.Proofs.YtjbppmclhdaaoaaGreat
