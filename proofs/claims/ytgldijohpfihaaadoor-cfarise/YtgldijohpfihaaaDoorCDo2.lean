/- Every op: may it be, and what does it. -/
import Derived.Test.YtgldijohpfihaaaDoorCDo
namespace Go.Proofs.YtgldijohpfihaaaDoor
open Go.ChangeShapes Go.WideShapes Go.ChangeAt Go.RowKit
set_option linter.unusedVariables false
set_option linter.unusedSimpArgs false

theorem oneM_d {bg : Bool} {t : Tb} {o : Oq} (h : mayB o = true) : oneM (!bg) t o = dM bg t o := by
  unfold oneM dM
  cases bg <;> simp [h]
theorem exec_nop {o : Oper} {a : Act} {w : World} {v1 v2 : Value} (ho : o.op = .call { callee := .value (.tmp 10), args := #[.tmp 11, .tmp 12], argTypes := #[76, 75] }) (h10 : a.eval (.tmp 10) = fv 92) (h11 : a.eval (.tmp 11) = v1) (h12 : a.eval (.tmp 12) = v2) :
    (execOp a.eval o).run Tryd.prog w = .ok (.enter 92 #[v1, v2]) w := by
  unfold execOp
  simp only [ho, resolve, List.map_toArray, List.map_cons, List.map_nil, h10, h11, h12]
  kernel_rfl
theorem exec_advance {o : Oper} {a : Act} {w : World} {v1 v2 : Value} (ho : o.op = .call { callee := .value (.tmp 10), args := #[.tmp 11, .tmp 12], argTypes := #[76, 75] }) (h10 : a.eval (.tmp 10) = fv 93) (h11 : a.eval (.tmp 11) = v1) (h12 : a.eval (.tmp 12) = v2) :
    (execOp a.eval o).run Tryd.prog w = .ok (.enter 93 #[v1, v2]) w := by
  unfold execOp
  simp only [ho, resolve, List.map_toArray, List.map_cons, List.map_nil, h10, h11, h12]
  kernel_rfl
theorem exec_defCfa {o : Oper} {a : Act} {w : World} {v1 v2 : Value} (ho : o.op = .call { callee := .value (.tmp 10), args := #[.tmp 11, .tmp 12], argTypes := #[76, 75] }) (h10 : a.eval (.tmp 10) = fv 94) (h11 : a.eval (.tmp 11) = v1) (h12 : a.eval (.tmp 12) = v2) :
    (execOp a.eval o).run Tryd.prog w = .ok (.enter 94 #[v1, v2]) w := by
  unfold execOp
  simp only [ho, resolve, List.map_toArray, List.map_cons, List.map_nil, h10, h11, h12]
  kernel_rfl
theorem exec_defOffset {o : Oper} {a : Act} {w : World} {v1 v2 : Value} (ho : o.op = .call { callee := .value (.tmp 10), args := #[.tmp 11, .tmp 12], argTypes := #[76, 75] }) (h10 : a.eval (.tmp 10) = fv 95) (h11 : a.eval (.tmp 11) = v1) (h12 : a.eval (.tmp 12) = v2) :
    (execOp a.eval o).run Tryd.prog w = .ok (.enter 95 #[v1, v2]) w := by
  unfold execOp
  simp only [ho, resolve, List.map_toArray, List.map_cons, List.map_nil, h10, h11, h12]
  kernel_rfl
theorem exec_defRegister {o : Oper} {a : Act} {w : World} {v1 v2 : Value} (ho : o.op = .call { callee := .value (.tmp 10), args := #[.tmp 11, .tmp 12], argTypes := #[76, 75] }) (h10 : a.eval (.tmp 10) = fv 96) (h11 : a.eval (.tmp 11) = v1) (h12 : a.eval (.tmp 12) = v2) :
    (execOp a.eval o).run Tryd.prog w = .ok (.enter 96 #[v1, v2]) w := by
  unfold execOp
  simp only [ho, resolve, List.map_toArray, List.map_cons, List.map_nil, h10, h11, h12]
  kernel_rfl
theorem exec_offset {o : Oper} {a : Act} {w : World} {v1 v2 : Value} (ho : o.op = .call { callee := .value (.tmp 10), args := #[.tmp 11, .tmp 12], argTypes := #[76, 75] }) (h10 : a.eval (.tmp 10) = fv 97) (h11 : a.eval (.tmp 11) = v1) (h12 : a.eval (.tmp 12) = v2) :
    (execOp a.eval o).run Tryd.prog w = .ok (.enter 97 #[v1, v2]) w := by
  unfold execOp
  simp only [ho, resolve, List.map_toArray, List.map_cons, List.map_nil, h10, h11, h12]
  kernel_rfl
theorem exec_restore {o : Oper} {a : Act} {w : World} {v1 v2 : Value} (ho : o.op = .call { callee := .value (.tmp 10), args := #[.tmp 11, .tmp 12], argTypes := #[76, 75] }) (h10 : a.eval (.tmp 10) = fv 98) (h11 : a.eval (.tmp 11) = v1) (h12 : a.eval (.tmp 12) = v2) :
    (execOp a.eval o).run Tryd.prog w = .ok (.enter 98 #[v1, v2]) w := by
  unfold execOp
  simp only [ho, resolve, List.map_toArray, List.map_cons, List.map_nil, h10, h11, h12]
  kernel_rfl
theorem exec_undefined {o : Oper} {a : Act} {w : World} {v1 v2 : Value} (ho : o.op = .call { callee := .value (.tmp 10), args := #[.tmp 11, .tmp 12], argTypes := #[76, 75] }) (h10 : a.eval (.tmp 10) = fv 99) (h11 : a.eval (.tmp 11) = v1) (h12 : a.eval (.tmp 12) = v2) :
    (execOp a.eval o).run Tryd.prog w = .ok (.enter 99 #[v1, v2]) w := by
  unfold execOp
  simp only [ho, resolve, List.map_toArray, List.map_cons, List.map_nil, h10, h11, h12]
  kernel_rfl
theorem exec_sameValue {o : Oper} {a : Act} {w : World} {v1 v2 : Value} (ho : o.op = .call { callee := .value (.tmp 10), args := #[.tmp 11, .tmp 12], argTypes := #[76, 75] }) (h10 : a.eval (.tmp 10) = fv 100) (h11 : a.eval (.tmp 11) = v1) (h12 : a.eval (.tmp 12) = v2) :
    (execOp a.eval o).run Tryd.prog w = .ok (.enter 100 #[v1, v2]) w := by
  unfold execOp
  simp only [ho, resolve, List.map_toArray, List.map_cons, List.map_nil, h10, h11, h12]
  kernel_rfl
theorem exec_remember {o : Oper} {a : Act} {w : World} {v1 v2 : Value} (ho : o.op = .call { callee := .value (.tmp 10), args := #[.tmp 11, .tmp 12], argTypes := #[76, 75] }) (h10 : a.eval (.tmp 10) = fv 101) (h11 : a.eval (.tmp 11) = v1) (h12 : a.eval (.tmp 12) = v2) :
    (execOp a.eval o).run Tryd.prog w = .ok (.enter 101 #[v1, v2]) w := by
  unfold execOp
  simp only [ho, resolve, List.map_toArray, List.map_cons, List.map_nil, h10, h11, h12]
  kernel_rfl
theorem exec_recall {o : Oper} {a : Act} {w : World} {v1 v2 : Value} (ho : o.op = .call { callee := .value (.tmp 10), args := #[.tmp 11, .tmp 12], argTypes := #[76, 75] }) (h10 : a.eval (.tmp 10) = fv 102) (h11 : a.eval (.tmp 11) = v1) (h12 : a.eval (.tmp 12) = v2) :
    (execOp a.eval o).run Tryd.prog w = .ok (.enter 102 #[v1, v2]) w := by
  unfold execOp
  simp only [ho, resolve, List.map_toArray, List.map_cons, List.map_nil, h10, h11, h12]
  kernel_rfl
theorem exec_fv (k : Nat) (hk : k < 11) {o : Oper} {a : Act} {w : World} {v1 v2 : Value} (ho : o.op = .call { callee := .value (.tmp 10), args := #[.tmp 11, .tmp 12], argTypes := #[76, 75] }) (h10 : a.eval (.tmp 10) = fv (fidL.getD k 0)) (h11 : a.eval (.tmp 11) = v1) (h12 : a.eval (.tmp 12) = v2) :
    (execOp a.eval o).run Tryd.prog w = .ok (.enter (fidL.getD k 0) #[v1, v2]) w := by
  have : k = 0 ∨ k = 1 ∨ k = 2 ∨ k = 3 ∨ k = 4 ∨ k = 5 ∨ k = 6 ∨ k = 7 ∨ k = 8 ∨ k = 9 ∨ k = 10 := by omega
  rcases this with rfl | rfl | rfl | rfl | rfl | rfl | rfl | rfl | rfl | rfl | rfl
  · exact exec_nop ho h10 h11 h12
  · exact exec_advance ho h10 h11 h12
  · exact exec_defCfa ho h10 h11 h12
  · exact exec_defOffset ho h10 h11 h12
  · exact exec_defRegister ho h10 h11 h12
  · exact exec_offset ho h10 h11 h12
  · exact exec_restore ho h10 h11 h12
  · exact exec_undefined ho h10 h11 h12
  · exact exec_sameValue ho h10 h11 h12
  · exact exec_remember ho h10 h11 h12
  · exact exec_recall ho h10 h11 h12
theorem oneM_n {bg : Bool} {t : Tb} {o : Oq} (h : mayB o = false) : oneM bg t o = none := by
  unfold oneM
  simp [h]

set_option maxRecDepth 10000 in
set_option maxHeartbeats 1000000 in
theorem do_tb {base tb : Nat} {w : World} {bg : Bool} {t : Tb} {vr vk : Value} (h : TA base w tb bg t vr vk) (o : Oq) {m : Nat} (hp : Pl m bg t) (hm : m ≤ 90000) (hf : Fz w) (hb0 : 0 < base) :
    Calls Tryd.prog 61 #[.pointer (some ⟨tb, 0, none⟩), o.val] w fun e w' => e = .returned (.bool (oneM (!bg) t o).isSome) ∧ TEnd base tb bg w w' (oneM (!bg) t o) := by
  have HB : Below w.heap.size w (w.alloc (.cells #[.int .i64 o.k, .int .i64 o.r, .int .i64 o.n] 75)) := (Below.refl _ _).alloc (Nat.le_refl _) _
  have HT := h.bel HB
  have HTd := h.bel HB.drew
  have HO : Bk (w.alloc (.cells #[.int .i64 o.k, .int .i64 o.r, .int .i64 o.n] 75)).drew w.heap.size 75 #[.int .i64 o.k, .int .i64 o.r, .int .i64 o.n] := (Bk.new w _ _).of rfl
  have hne : w.heap.size ≠ tb := by have := h.bk.lt; omega
  have hbs : base ≤ w.heap.size := Nat.le_trans h.lo (Nat.le_of_lt h.bk.lt)
  have HBb := HB.mono hbs
  have HBd := HB.drew.mono hbs
  have hfd : Fz (w.alloc (.cells #[.int .i64 o.k, .int .i64 o.r, .int .i64 o.n] 75)).drew := hf.bel HB.drew hf.z
  cases hmay : mayB o with
  | false =>
    rw [oneM_n hmay]
    have HM := mayBe_any o _ hfd
    rw [hmay] at HM
    go_enter Tryd.func61, Tryd.ntmps61
    go_upto_region 1 with fail
    refine wp_region_held_drew (S := fun u => True) (by kernel_rfl) trivial (fun hS => ?_)
    generalize (w.alloc (.cells #[.int .i64 o.k, .int .i64 o.r, .int .i64 o.n] 75)).drew = W at *
    refine wpAnyH_ready (rs := [0]) (by kernel_rfl) (by simp) ?_
    refine AllReadyH.cons rfl (fun K hK => ?_) AllReadyH.nil
    simp only [List.getElem_toArray, List.getElem_cons_succ, List.getElem_cons_zero]
    refine wp_if (by kernel_rfl) ?_
    refine wp_val (v := o.val) (w' := W) (exec_loadV (t := 75) (p := ⟨w.heap.size, 0, none⟩) rfl (by kernel_rfl) (load_op HO)) ?_
    refine hK.out _ _ trivial (fun hS => ?_)
    clear hK
    simp only [Act.put, List.getElem_toArray, List.getElem_cons_succ, List.getElem_cons_zero, List.setIfInBounds_toArray, List.set_cons_zero, List.set_cons_succ]
    refine wpAnyH_ready (rs := [1]) (by kernel_rfl) (by simp) ?_
    refine AllReadyH.cons rfl (fun K hK => ?_) AllReadyH.nil
    simp only [List.getElem_toArray, List.getElem_cons_succ, List.getElem_cons_zero]
    refine wp_if (by kernel_rfl) ?_
    refine wp_enter (f := 35) (args := #[o.val]) (by kernel_rfl) HM ?_
    rintro e w2 ⟨rfl, hb2⟩
    refine ⟨_, rfl, ?_⟩
    refine hK.out _ _ trivial (fun hS => ?_)
    clear hK
    simp only [Act.put, List.getElem_toArray, List.getElem_cons_succ, List.getElem_cons_zero, List.setIfInBounds_toArray, List.set_cons_zero, List.set_cons_succ]
    refine wpAnyH_take (i := 2) (v := .bool false) rfl (by kernel_rfl) (by kernel_rfl) (by kernel_rfl) (fun _ _ _ h => h) (Or.inl ⟨by kernel_rfl, fun u hu => by kernel_rfl⟩) hS ?_
    simp only [Act.put, List.getElem_toArray, List.getElem_cons_succ, List.getElem_cons_zero, List.setIfInBounds_toArray, List.set_cons_zero, List.set_cons_succ]
    refine wpAnyH_take (i := 3) (v := undef) rfl (by kernel_rfl) (by kernel_rfl) (by kernel_rfl) (fun _ _ _ h => h) (Or.inr ⟨by kernel_rfl, rfl⟩) hS ?_
    simp only [Act.put, List.getElem_toArray, List.getElem_cons_succ, List.getElem_cons_zero, List.setIfInBounds_toArray, List.set_cons_zero, List.set_cons_succ]
    refine wpAnyH_take (i := 4) (v := undef) rfl (by kernel_rfl) (by kernel_rfl) (by kernel_rfl) (fun _ _ _ h => h) (Or.inr ⟨by kernel_rfl, rfl⟩) hS ?_
    simp only [Act.put, List.getElem_toArray, List.getElem_cons_succ, List.getElem_cons_zero, List.setIfInBounds_toArray, List.set_cons_zero, List.set_cons_succ]
    refine wpAnyH_take (i := 5) (v := undef) rfl (by kernel_rfl) (by kernel_rfl) (by kernel_rfl) (fun _ _ _ h => h) (Or.inr ⟨by kernel_rfl, rfl⟩) hS ?_
    simp only [Act.put, List.getElem_toArray, List.getElem_cons_succ, List.getElem_cons_zero, List.setIfInBounds_toArray, List.set_cons_zero, List.set_cons_succ]
    refine wpAnyH_take (i := 6) (v := undef) rfl (by kernel_rfl) (by kernel_rfl) (by kernel_rfl) (fun _ _ _ h => h) (Or.inr ⟨by kernel_rfl, rfl⟩) hS ?_
    simp only [Act.put, List.getElem_toArray, List.getElem_cons_succ, List.getElem_cons_zero, List.setIfInBounds_toArray, List.set_cons_zero, List.set_cons_succ]
    refine wpAnyH_take (i := 7) (v := undef) rfl (by kernel_rfl) (by kernel_rfl) (by kernel_rfl) (fun _ _ _ h => h) (Or.inr ⟨by kernel_rfl, rfl⟩) hS ?_
    simp only [Act.put, List.getElem_toArray, List.getElem_cons_succ, List.getElem_cons_zero, List.setIfInBounds_toArray, List.set_cons_zero, List.set_cons_succ]
    refine wpAnyH_take (i := 8) (v := undef) rfl (by kernel_rfl) (by kernel_rfl) (by kernel_rfl) (fun _ _ _ h => h) (Or.inr ⟨by kernel_rfl, rfl⟩) hS ?_
    simp only [Act.put, List.getElem_toArray, List.getElem_cons_succ, List.getElem_cons_zero, List.setIfInBounds_toArray, List.set_cons_zero, List.set_cons_succ]
    refine wpAnyH_take (i := 9) (v := .bool false) rfl (by kernel_rfl) (by kernel_rfl) (by kernel_rfl) (fun _ _ _ h => h) (Or.inl ⟨by kernel_rfl, fun u hu => by kernel_rfl⟩) hS ?_
    simp only [Act.put, List.getElem_toArray, List.getElem_cons_succ, List.getElem_cons_zero, List.setIfInBounds_toArray, List.set_cons_zero, List.set_cons_succ]
    refine wpAnyH_take (i := 10) (v := .bool false) rfl (by kernel_rfl) (by kernel_rfl) (by kernel_rfl) (fun _ _ _ h => h) (Or.inl ⟨by kernel_rfl, fun u hu => by kernel_rfl⟩) hS ?_
    simp only [Act.put, List.getElem_toArray, List.getElem_cons_succ, List.getElem_cons_zero, List.setIfInBounds_toArray, List.set_cons_zero, List.set_cons_succ]
    refine wpAnyH_done (by kernel_rfl) ?_ _
    go_wp2_with fail
    go_ret
    exact ⟨rfl, HBd.trans (hb2.mono (Nat.le_trans h.lo (Nat.le_of_lt HTd.bk.lt))), fun t' ht => by cases ht⟩
  | true =>
    rw [oneM_d hmay]
    have HM := mayBe_any o _ hfd
    rw [hmay] at HM
    generalize hR : dM bg t o = R
    obtain ⟨b, hbb⟩ : ∃ b, R.isSome = b := ⟨_, rfl⟩
    rw [hbb]
    go_enter Tryd.func61, Tryd.ntmps61
    go_upto_region 1 with fail
    refine wp_region_held_drew (S := fun u => True) (by kernel_rfl) trivial (fun hS => ?_)
    generalize (w.alloc (.cells #[.int .i64 o.k, .int .i64 o.r, .int .i64 o.n] 75)).drew = W at *
    refine wpAnyH_ready (rs := [0]) (by kernel_rfl) (by simp) ?_
    refine AllReadyH.cons rfl (fun K hK => ?_) AllReadyH.nil
    simp only [List.getElem_toArray, List.getElem_cons_succ, List.getElem_cons_zero]
    refine wp_if (by kernel_rfl) ?_
    refine wp_val (v := o.val) (w' := W) (exec_loadV (t := 75) (p := ⟨w.heap.size, 0, none⟩) rfl (by kernel_rfl) (load_op HO)) ?_
    refine hK.out _ _ trivial (fun hS => ?_)
    clear hK
    simp only [Act.put, List.getElem_toArray, List.getElem_cons_succ, List.getElem_cons_zero, List.setIfInBounds_toArray, List.set_cons_zero, List.set_cons_succ]
    refine wpAnyH_ready (rs := [1]) (by kernel_rfl) (by simp) ?_
    refine AllReadyH.cons rfl (fun K hK => ?_) AllReadyH.nil
    simp only [List.getElem_toArray, List.getElem_cons_succ, List.getElem_cons_zero]
    refine wp_if (by kernel_rfl) ?_
    refine wp_enter (f := 35) (args := #[o.val]) (by kernel_rfl) HM ?_
    rintro e w2 ⟨rfl, hb2⟩
    refine ⟨_, rfl, ?_⟩
    refine hK.out _ _ trivial (fun hS => ?_)
    clear hK
    simp only [Act.put, List.getElem_toArray, List.getElem_cons_succ, List.getElem_cons_zero, List.setIfInBounds_toArray, List.set_cons_zero, List.set_cons_succ]
    have H2 := HTd.bel hb2
    have O2 := HO.bel hb2 HO.lt
    have B2 := HBd.trans (hb2.mono (Nat.le_trans h.lo (Nat.le_of_lt HTd.bk.lt)))
    obtain ⟨k, hk, ek, HC⟩ := meth_any H2 hp hm o hmay
    have HD := doer_any k hk w2
    rw [hR, hbb] at HC

    refine wpAnyH_take (i := 2) (v := .bool true) rfl (by kernel_rfl) (by kernel_rfl) (by kernel_rfl) (fun _ _ _ h => h) (Or.inl ⟨by kernel_rfl, fun u hu => by kernel_rfl⟩) hS ?_
    simp only [Act.put, List.getElem_toArray, List.getElem_cons_succ, List.getElem_cons_zero, List.setIfInBounds_toArray, List.set_cons_zero, List.set_cons_succ]
    refine wpAnyH_take (i := 3) (v := .pointer (some ⟨w.heap.size, 0, none⟩)) rfl (by kernel_rfl) (by kernel_rfl) (by kernel_rfl) (fun _ _ _ h => h) (Or.inl ⟨by kernel_rfl, fun u hu => by kernel_rfl⟩) hS ?_
    simp only [Act.put, List.getElem_toArray, List.getElem_cons_succ, List.getElem_cons_zero, List.setIfInBounds_toArray, List.set_cons_zero, List.set_cons_succ]
    refine wpAnyH_take (i := 6) (v := .pointer (some ⟨tb, 0, none⟩)) rfl (by kernel_rfl) (by kernel_rfl) (by kernel_rfl) (fun _ _ _ h => h) (Or.inl ⟨by kernel_rfl, fun u hu => by kernel_rfl⟩) hS ?_
    simp only [Act.put, List.getElem_toArray, List.getElem_cons_succ, List.getElem_cons_zero, List.setIfInBounds_toArray, List.set_cons_zero, List.set_cons_succ]
    refine wpAnyH_ready (rs := [4, 7]) (by kernel_rfl) (by simp) ?_
    refine AllReadyH.cons rfl (fun K hK => ?_) (AllReadyH.cons rfl (fun K hK => ?_) AllReadyH.nil)
    · simp only [List.getElem_toArray, List.getElem_cons_succ, List.getElem_cons_zero]
      refine wp_if (by kernel_rfl) ?_
      refine wp_val (v := .int .i64 (k : Int)) (w' := w2) (exec_loadV (t := 3) (p := ⟨w.heap.size, 0, none⟩) rfl (by kernel_rfl) (load_i64 (by rw [← ek]; exact O2.cell 0 rfl))) ?_
      refine hK.out _ _ trivial (fun hS => ?_)
      clear hK
      simp only [Act.put, List.getElem_toArray, List.getElem_cons_succ, List.getElem_cons_zero, List.setIfInBounds_toArray, List.set_cons_zero, List.set_cons_succ]
      refine wpAnyH_ready (rs := [5, 7]) (by kernel_rfl) (by simp) ?_
      refine AllReadyH.cons rfl (fun K hK => ?_) (AllReadyH.cons rfl (fun K hK => ?_) AllReadyH.nil)
      · simp only [List.getElem_toArray, List.getElem_cons_succ, List.getElem_cons_zero]
        refine wp_if (by kernel_rfl) ?_
        refine wp_enter (f := 80) (args := #[.int .i64 (k : Int)]) (by kernel_rfl) HD ?_
        rintro e w3 ⟨rfl, e3⟩
        rw [e3]
        clear e3 w3
        refine ⟨_, rfl, ?_⟩
        refine hK.out _ _ trivial (fun hS => ?_)
        clear hK
        simp only [Act.put, List.getElem_toArray, List.getElem_cons_succ, List.getElem_cons_zero, List.setIfInBounds_toArray, List.set_cons_zero, List.set_cons_succ]
        refine wpAnyH_ready (rs := [7]) (by kernel_rfl) (by simp) ?_
        refine AllReadyH.cons rfl (fun K hK => ?_) AllReadyH.nil
        simp only [List.getElem_toArray, List.getElem_cons_succ, List.getElem_cons_zero]
        refine wp_if (by kernel_rfl) ?_
        refine wp_val (v := o.val) (w' := w2) (exec_loadV (t := 75) (p := ⟨w.heap.size, 0, none⟩) rfl (by kernel_rfl) (load_op O2)) ?_
        refine hK.out _ _ trivial (fun hS => ?_)
        clear hK
        simp only [Act.put, List.getElem_toArray, List.getElem_cons_succ, List.getElem_cons_zero, List.setIfInBounds_toArray, List.set_cons_zero, List.set_cons_succ]
        refine wpAnyH_ready (rs := [8]) (by kernel_rfl) (by simp) ?_
        refine AllReadyH.cons rfl (fun K hK => ?_) AllReadyH.nil
        simp only [List.getElem_toArray, List.getElem_cons_succ, List.getElem_cons_zero]
        refine wp_if (by kernel_rfl) ?_
        refine wp_enter (f := fidL.getD k 0) (args := #[.pointer (some ⟨tb, 0, none⟩), o.val]) (exec_fv k hk rfl (by kernel_rfl) (by kernel_rfl) (by kernel_rfl)) HC ?_
        rintro e w4 ⟨rfl, hb4, ht4⟩
        refine ⟨_, rfl, ?_⟩
        refine hK.out _ _ trivial (fun hS => ?_)
        clear hK
        simp only [Act.put, List.getElem_toArray, List.getElem_cons_succ, List.getElem_cons_zero, List.setIfInBounds_toArray, List.set_cons_zero, List.set_cons_succ]
        refine wpAnyH_take (i := 9) (v := .bool b) rfl (by kernel_rfl) (by kernel_rfl) (by kernel_rfl) (fun _ _ _ h => h) (Or.inl ⟨by kernel_rfl, fun u hu => by kernel_rfl⟩) hS ?_
        simp only [Act.put, List.getElem_toArray, List.getElem_cons_succ, List.getElem_cons_zero, List.setIfInBounds_toArray, List.set_cons_zero, List.set_cons_succ]
        refine wpAnyH_take (i := 10) (v := .bool b) rfl (by kernel_rfl) (by kernel_rfl) (by kernel_rfl) (fun _ _ _ h => h) (Or.inl ⟨by kernel_rfl, fun u hu => by kernel_rfl⟩) hS ?_
        simp only [Act.put, List.getElem_toArray, List.getElem_cons_succ, List.getElem_cons_zero, List.setIfInBounds_toArray, List.set_cons_zero, List.set_cons_succ]
        refine wpAnyH_done (by kernel_rfl) ?_ _
        go_wp2_with fail
        go_ret
        exact ⟨rfl, B2.trans hb4, ht4⟩
      · simp only [List.getElem_toArray, List.getElem_cons_succ, List.getElem_cons_zero]
        refine wp_if (by kernel_rfl) ?_
        refine wp_val (v := o.val) (w' := w2) (exec_loadV (t := 75) (p := ⟨w.heap.size, 0, none⟩) rfl (by kernel_rfl) (load_op O2)) ?_
        refine hK.out _ _ trivial (fun hS => ?_)
        clear hK
        simp only [Act.put, List.getElem_toArray, List.getElem_cons_succ, List.getElem_cons_zero, List.setIfInBounds_toArray, List.set_cons_zero, List.set_cons_succ]
        refine wpAnyH_ready (rs := [5]) (by kernel_rfl) (by simp) ?_
        refine AllReadyH.cons rfl (fun K hK => ?_) AllReadyH.nil
        simp only [List.getElem_toArray, List.getElem_cons_succ, List.getElem_cons_zero]
        refine wp_if (by kernel_rfl) ?_
        refine wp_enter (f := 80) (args := #[.int .i64 (k : Int)]) (by kernel_rfl) HD ?_
        rintro e w3 ⟨rfl, e3⟩
        rw [e3]
        clear e3 w3
        refine ⟨_, rfl, ?_⟩
        refine hK.out _ _ trivial (fun hS => ?_)
        clear hK
        simp only [Act.put, List.getElem_toArray, List.getElem_cons_succ, List.getElem_cons_zero, List.setIfInBounds_toArray, List.set_cons_zero, List.set_cons_succ]
        refine wpAnyH_ready (rs := [8]) (by kernel_rfl) (by simp) ?_
        refine AllReadyH.cons rfl (fun K hK => ?_) AllReadyH.nil
        simp only [List.getElem_toArray, List.getElem_cons_succ, List.getElem_cons_zero]
        refine wp_if (by kernel_rfl) ?_
        refine wp_enter (f := fidL.getD k 0) (args := #[.pointer (some ⟨tb, 0, none⟩), o.val]) (exec_fv k hk rfl (by kernel_rfl) (by kernel_rfl) (by kernel_rfl)) HC ?_
        rintro e w4 ⟨rfl, hb4, ht4⟩
        refine ⟨_, rfl, ?_⟩
        refine hK.out _ _ trivial (fun hS => ?_)
        clear hK
        simp only [Act.put, List.getElem_toArray, List.getElem_cons_succ, List.getElem_cons_zero, List.setIfInBounds_toArray, List.set_cons_zero, List.set_cons_succ]
        refine wpAnyH_take (i := 9) (v := .bool b) rfl (by kernel_rfl) (by kernel_rfl) (by kernel_rfl) (fun _ _ _ h => h) (Or.inl ⟨by kernel_rfl, fun u hu => by kernel_rfl⟩) hS ?_
        simp only [Act.put, List.getElem_toArray, List.getElem_cons_succ, List.getElem_cons_zero, List.setIfInBounds_toArray, List.set_cons_zero, List.set_cons_succ]
        refine wpAnyH_take (i := 10) (v := .bool b) rfl (by kernel_rfl) (by kernel_rfl) (by kernel_rfl) (fun _ _ _ h => h) (Or.inl ⟨by kernel_rfl, fun u hu => by kernel_rfl⟩) hS ?_
        simp only [Act.put, List.getElem_toArray, List.getElem_cons_succ, List.getElem_cons_zero, List.setIfInBounds_toArray, List.set_cons_zero, List.set_cons_succ]
        refine wpAnyH_done (by kernel_rfl) ?_ _
        go_wp2_with fail
        go_ret
        exact ⟨rfl, B2.trans hb4, ht4⟩
    · simp only [List.getElem_toArray, List.getElem_cons_succ, List.getElem_cons_zero]
      refine wp_if (by kernel_rfl) ?_
      refine wp_val (v := o.val) (w' := w2) (exec_loadV (t := 75) (p := ⟨w.heap.size, 0, none⟩) rfl (by kernel_rfl) (load_op O2)) ?_
      refine hK.out _ _ trivial (fun hS => ?_)
      clear hK
      simp only [Act.put, List.getElem_toArray, List.getElem_cons_succ, List.getElem_cons_zero, List.setIfInBounds_toArray, List.set_cons_zero, List.set_cons_succ]
      refine wpAnyH_ready (rs := [4]) (by kernel_rfl) (by simp) ?_
      refine AllReadyH.cons rfl (fun K hK => ?_) AllReadyH.nil
      simp only [List.getElem_toArray, List.getElem_cons_succ, List.getElem_cons_zero]
      refine wp_if (by kernel_rfl) ?_
      refine wp_val (v := .int .i64 (k : Int)) (w' := w2) (exec_loadV (t := 3) (p := ⟨w.heap.size, 0, none⟩) rfl (by kernel_rfl) (load_i64 (by rw [← ek]; exact O2.cell 0 rfl))) ?_
      refine hK.out _ _ trivial (fun hS => ?_)
      clear hK
      simp only [Act.put, List.getElem_toArray, List.getElem_cons_succ, List.getElem_cons_zero, List.setIfInBounds_toArray, List.set_cons_zero, List.set_cons_succ]
      refine wpAnyH_ready (rs := [5]) (by kernel_rfl) (by simp) ?_
      refine AllReadyH.cons rfl (fun K hK => ?_) AllReadyH.nil
      simp only [List.getElem_toArray, List.getElem_cons_succ, List.getElem_cons_zero]
      refine wp_if (by kernel_rfl) ?_
      refine wp_enter (f := 80) (args := #[.int .i64 (k : Int)]) (by kernel_rfl) HD ?_
      rintro e w3 ⟨rfl, e3⟩
      rw [e3]
      clear e3 w3
      refine ⟨_, rfl, ?_⟩
      refine hK.out _ _ trivial (fun hS => ?_)
      clear hK
      simp only [Act.put, List.getElem_toArray, List.getElem_cons_succ, List.getElem_cons_zero, List.setIfInBounds_toArray, List.set_cons_zero, List.set_cons_succ]
      refine wpAnyH_ready (rs := [8]) (by kernel_rfl) (by simp) ?_
      refine AllReadyH.cons rfl (fun K hK => ?_) AllReadyH.nil
      simp only [List.getElem_toArray, List.getElem_cons_succ, List.getElem_cons_zero]
      refine wp_if (by kernel_rfl) ?_
      refine wp_enter (f := fidL.getD k 0) (args := #[.pointer (some ⟨tb, 0, none⟩), o.val]) (exec_fv k hk rfl (by kernel_rfl) (by kernel_rfl) (by kernel_rfl)) HC ?_
      rintro e w4 ⟨rfl, hb4, ht4⟩
      refine ⟨_, rfl, ?_⟩
      refine hK.out _ _ trivial (fun hS => ?_)
      clear hK
      simp only [Act.put, List.getElem_toArray, List.getElem_cons_succ, List.getElem_cons_zero, List.setIfInBounds_toArray, List.set_cons_zero, List.set_cons_succ]
      refine wpAnyH_take (i := 9) (v := .bool b) rfl (by kernel_rfl) (by kernel_rfl) (by kernel_rfl) (fun _ _ _ h => h) (Or.inl ⟨by kernel_rfl, fun u hu => by kernel_rfl⟩) hS ?_
      simp only [Act.put, List.getElem_toArray, List.getElem_cons_succ, List.getElem_cons_zero, List.setIfInBounds_toArray, List.set_cons_zero, List.set_cons_succ]
      refine wpAnyH_take (i := 10) (v := .bool b) rfl (by kernel_rfl) (by kernel_rfl) (by kernel_rfl) (fun _ _ _ h => h) (Or.inl ⟨by kernel_rfl, fun u hu => by kernel_rfl⟩) hS ?_
      simp only [Act.put, List.getElem_toArray, List.getElem_cons_succ, List.getElem_cons_zero, List.setIfInBounds_toArray, List.set_cons_zero, List.set_cons_succ]
      refine wpAnyH_done (by kernel_rfl) ?_ _
      go_wp2_with fail
      go_ret
      exact ⟨rfl, B2.trans hb4, ht4⟩
end Go.Proofs.YtgldijohpfihaaaDoor
