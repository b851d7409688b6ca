/- An op that the compiler does: it is kept, and done to the table. -/
import Derived.Test.YtpbnldfekadalaaDoorCEvK
import Derived.BigQuiet
namespace Go.Proofs.YtpbnldfekadalaaDoor
open Go.ChangeShapes Go.WideShapes Go.ChangeAt Go.RowKit
set_option linter.unusedVariables false
set_option linter.unusedSimpArgs false

theorem load_opsv {w : World} {p : Addr} {ao : Option Addr} {n c : Nat} (hc : w.cell? p = some (.slice ao n c)) : (loadVar 28 p).run Tryd.prog w = .ok (.slice ao n c) w := by
  simp [loadVar, isAgg, run_underlying Tryd.underlying28, go_sem, hc]
theorem load_ptrT {w : World} {p : Addr} {a : Option Addr} (hc : w.cell? p = some (.pointer a)) : (loadVar 45 p).run Tryd.prog w = .ok (.pointer a) w := by
  simp [loadVar, isAgg, run_underlying Tryd.underlying45, go_sem, hc]
theorem sizeOps : (Tryd.prog.info? 28).map (·.size) = some 1 := by kernel_rfl
theorem opp_cells {w : World} {base : Nat} {v : Value} {l : List Oq} (h : OwnP w base v l) : v.cells.toList = [v] ∧ ∀ u ∈ v.cells.toList, u.oneCell' = true := by
  obtain ⟨ao, cap, rfl, _⟩ := h.any
  exact ⟨rfl, slice_one _ _ _⟩
theorem exec_build_op {o : Oper} {a : Act} {x : Operand} (w : World) (y : Oq) (ho : o.op = .buildSlice 28 1 #[(0, x)]) (hx : a.eval x = y.val) :
    (execOp a.eval o).run Tryd.prog w = .ok (.value (.slice (some ⟨w.heap.size, 0, none⟩) 1 1)) (w.alloc (.cells #[.int .i64 y.k, .int .i64 y.r, .int .i64 y.n] 64)) := by
  obtain ⟨i0, hi, hz0, hz1, hz2⟩ := info_parts infoP
  have hr := run_buildSlice (P := Tryd.prog) w 28 64 1 #[(0, y.val)] #[.int .i64 y.k, .int .i64 y.r, .int .i64 y.n] i0 _ Tryd.underlying28 hi hz0 (by rw [hz1]; decide) (by rw [hz1]; decide) (by
    rw [hz1]
    exact fill_one _ [.int .i64 y.k, .int .i64 y.r, .int .i64 y.n] 3 rfl (by simp))
  unfold execOp
  simp only [ho, List.map_toArray, List.map_cons, List.map_nil, hx, Sem.run_bind]
  rw [hr]
  rfl
theorem wp_append_opP {o : Oper} {a : Act} {w : World} {K : Act → World → Prop} {Q : Exit → Act → World → Prop} {s x : Operand} (ho : o.op = .call { callee := .builtin .append, args := #[s, x], argTypes := #[28, 28] })
    {base : Nat} {v : Value} {l : List Oq} {y : Oq} {q : Nat} (hown : OwnP w base v l) (hs : a.eval s = v) (hx : a.eval x = .slice (some ⟨q, 0, none⟩) 1 1) (hq : Bk w q 64 #[.int .i64 y.k, .int .i64 y.r, .int .i64 y.n]) (hn : l.length ≤ 100000) (hbase : base ≤ w.heap.size)
    (h : ∀ v' w', OwnP w' base v' (l ++ [y]) → w.grownBy w' v.ownBlock → (v'.ownBlock = v.ownBlock ∨ v'.ownBlock = some w.heap.size) → K (a.put o.dst v') w') : o.wp Tryd.prog a w K Q := by
  obtain ⟨i0, hi, hz0, hz1, hz2⟩ := info_parts infoP
  obtain ⟨v', w', hr, h2, h3, h4, h5⟩ := run_append_own_at (P := Tryd.prog) w base 28 o.type 64 i0 _ 3 24 Tryd.underlying28 hi hz0 hz1 hz2 rfl (by decide) v l.length _ hown ⟨q, 0, none⟩ 1 1 (Oq.cells y) rfl (fun j u hj => by rw [caddr_add]; exact hq.cell _ (by simpa [Oq.cells] using hj)) (by
    have := oqCells_one [y]
    simpa [oqCells] using this) (by unfold maxLen; omega) (by omega) hbase
  unfold Oper.wp execOp
  simp only [ho, resolve, invoke, builtin, Sem.run_bind, Sem.run_pure, Result.andThen_ok, List.map_toArray, List.map_cons, List.map_nil, hs, hx, hr]
  refine h v' w' ?_ h3 h5
  unfold OwnP
  rw [oqCells_append, List.length_append]
  simpa [oqCells] using h2
set_option maxRecDepth 20000 in
set_option maxHeartbeats 4000000 in
/-- What op leaves. -/
theorem kop_any {Y : Nat → Option Obj} {base : Nat} {w : World} {cb tb m : Nat} {s : Es} {vr vk vo : Value} (h : KA Y base w cb tb s vr vk vo) (o : Oq) (hpl : Pl m true s.t) (hm : m ≤ 90000) (hL : s.L.length ≤ 100000) (hf : Fz w) (hb0 : 0 < base) :
    Calls Tryd.prog 25 #[.pointer (some ⟨cb, 0, none⟩), o.val] w fun e w' => e = .returned (.bool (oneM false s.t o).isSome) ∧ Below base w w' ∧ ∀ t', oneM false s.t o = some t' → ∃ vr' vk' vo', KA Y base w' cb tb ⟨t', s.p, s.L ++ [o]⟩ vr' vk' vo' := by
  have hbw : base ≤ w.heap.size := Nat.le_trans h.lo (Nat.le_of_lt h.bk.lt)
  have HB : Below w.heap.size w (w.alloc (.cells #[.int .i64 o.k, .int .i64 o.r, .int .i64 o.n] 64)) := bel_new _ _ _
  have H4 := h.bel HB.drew
  have O4 : Bk (w.alloc (.cells #[.int .i64 o.k, .int .i64 o.r, .int .i64 o.n] 64)).drew w.heap.size 64 #[.int .i64 o.k, .int .i64 o.r, .int .i64 o.n] := (Bk.new w _ _).of rfl
  have HBd : Below base w (w.alloc (.cells #[.int .i64 o.k, .int .i64 o.r, .int .i64 o.n] 64)).drew := HB.drew.mono hbw
  have hqc : w.heap.size ≠ cb := by have := h.bk.lt; omega
  have hoq : vo.ownBlock ≠ some w.heap.size := fun e => by have := (h.op.lt _ e).2; omega
  obtain ⟨ao, ca, hvo, _⟩ := h.op.any
  clear HB h
  go_enter Tryd.func25, Tryd.ntmps25
  go_upto_region 1 with (fail)
  refine wp_region_held_drew (S := fun u => Bk u w.heap.size 64 #[.int .i64 o.k, .int .i64 o.r, .int .i64 o.n]) (by kernel_rfl) O4 (fun hS => ?_)
  generalize (w.alloc (.cells #[.int .i64 o.k, .int .i64 o.r, .int .i64 o.n] 64)).drew = W at *
  have hq0 : w.heap.size < W.heap.size := O4.lt
  have hb4 : base ≤ W.heap.size := Nat.le_trans hbw (Nat.le_of_lt hq0)
  generalize hqq : w.heap.size = q at *
  subst hvo
  have B5 : Below W.heap.size W (W.alloc (.cells #[.int .i64 o.k, .int .i64 o.r, .int .i64 o.n] 64)) := bel_new _ _ _
  have H5 := H4.bel B5
  have N5 : Bk (W.alloc (.cells #[.int .i64 o.k, .int .i64 o.r, .int .i64 o.n] 64)) W.heap.size 64 #[.int .i64 o.k, .int .i64 o.r, .int .i64 o.n] := Bk.new _ _ _
  have hb5 : base ≤ (W.alloc (.cells #[.int .i64 o.k, .int .i64 o.r, .int .i64 o.n] 64)).heap.size := Nat.le_trans hb4 B5.size
  refine wpAnyH_take (i := 0) (v := .pointer (some ⟨cb, 0, none⟩)) rfl (by kernel_rfl) (by kernel_rfl) (by kernel_rfl) (fun _ _ _ h => h) (Or.inl ⟨by kernel_rfl, fun u hu => by kernel_rfl⟩) hS ?_
  simp only [Act.put, List.getElem_toArray, List.getElem_cons_succ, List.getElem_cons_zero, List.setIfInBounds_toArray, List.set_cons_zero, List.set_cons_succ]
  refine wpAnyH_take (i := 1) (v := .pointer (some ⟨cb, 0, none⟩)) rfl (by kernel_rfl) (by kernel_rfl) (by kernel_rfl) (fun _ _ _ h => h) (Or.inl ⟨by kernel_rfl, fun u hu => by kernel_rfl⟩) hS ?_
  simp only [Act.put, List.getElem_toArray, List.getElem_cons_succ, List.getElem_cons_zero, List.setIfInBounds_toArray, List.set_cons_zero, List.set_cons_succ]
  refine wpAnyH_take (i := 2) (v := .pointer (some ⟨cb, 0, none⟩)) rfl (by kernel_rfl) (by kernel_rfl) (by kernel_rfl) (fun _ _ _ h => h) (Or.inl ⟨by kernel_rfl, fun u hu => by kernel_rfl⟩) hS ?_
  simp only [Act.put, List.getElem_toArray, List.getElem_cons_succ, List.getElem_cons_zero, List.setIfInBounds_toArray, List.set_cons_zero, List.set_cons_succ]
  refine wpAnyH_take (i := 3) (v := .pointer (some ⟨cb, 2, none⟩)) rfl (by kernel_rfl) (by kernel_rfl) (by kernel_rfl) (fun _ _ _ h => h) (Or.inl ⟨by kernel_rfl, fun u hu => by kernel_rfl⟩) hS ?_
  simp only [Act.put, List.getElem_toArray, List.getElem_cons_succ, List.getElem_cons_zero, List.setIfInBounds_toArray, List.set_cons_zero, List.set_cons_succ]
  refine wpAnyH_take (i := 5) (v := o.val) rfl (by kernel_rfl) (by kernel_rfl) (by kernel_rfl) (fun _ _ _ h => h) (Or.inl ⟨by kernel_rfl, fun u hu => exec_loadV (t := 64) (p := ⟨q, 0, none⟩) rfl (by kernel_rfl) (load_op hu)⟩) hS ?_
  simp only [Act.put, List.getElem_toArray, List.getElem_cons_succ, List.getElem_cons_zero, List.setIfInBounds_toArray, List.set_cons_zero, List.set_cons_succ]
  refine wpAnyH_ready (rs := [4, 6]) (by kernel_rfl) (by simp) ?_
  refine AllReadyH.cons rfl (fun K hK => ?_) (AllReadyH.cons rfl (fun K hK => ?_) AllReadyH.nil)
  · simp only [List.getElem_toArray, List.getElem_cons_succ, List.getElem_cons_zero]
    refine wp_if (by kernel_rfl) ?_
    refine wp_val (v := .slice ao s.L.length ca) (exec_loadV (t := 28) (p := ⟨cb, 2, none⟩) rfl (by kernel_rfl) (load_opsv (H4.bk.cell 2 rfl))) ?_
    refine hK.out _ _ O4 (fun hS => ?_)
    clear hK
    simp only [Act.put, List.getElem_toArray, List.getElem_cons_succ, List.getElem_cons_zero, List.setIfInBounds_toArray, List.set_cons_zero, List.set_cons_succ]
    refine wpAnyH_ready (rs := [6]) (by kernel_rfl) (by simp) ?_
    refine AllReadyH.cons rfl (fun K hK => ?_) AllReadyH.nil
    simp only [List.getElem_toArray, List.getElem_cons_succ, List.getElem_cons_zero]
    refine wp_if (by kernel_rfl) ?_
    refine wp_val (v := .slice (some ⟨W.heap.size, 0, none⟩) 1 1) (exec_build_op W o rfl (by kernel_rfl)) ?_
    refine hK.out _ _ (O4.bel B5 O4.lt) (fun hS => ?_)
    clear hK
    simp only [Act.put, List.getElem_toArray, List.getElem_cons_succ, List.getElem_cons_zero, List.setIfInBounds_toArray, List.set_cons_zero, List.set_cons_succ]
    refine wpAnyH_ready (rs := [7]) (by kernel_rfl) (by simp) ?_
    refine AllReadyH.cons rfl (fun K hK => ?_) AllReadyH.nil
    simp only [List.getElem_toArray, List.getElem_cons_succ, List.getElem_cons_zero]
    refine wp_if (by kernel_rfl) ?_
    refine wp_append_opP rfl H5.op (by rfl) (by kernel_rfl) N5 hL hb5 (fun v6 w6 ho6 hg hbk => ?_)
    obtain ⟨bk6, H7⟩ := H5.append hg ho6 hbk
    have B7 : Below base w (w6.setRow cb #[.pointer (some ⟨tb, 0, none⟩), .int .i64 s.p, v6]) := HBd.trans ((B5.mono hb4).trans ((bel_grown hg (fun k hk => (H5.op.lt k hk).1) hb5).trans (below_set _ cb _ H5.lo)))
    have O6 : Bk w6 q 64 #[.int .i64 o.k, .int .i64 o.r, .int .i64 o.n] := (O4.bel B5 O4.lt).of (hg.block _ (Nat.lt_of_lt_of_le O4.lt B5.size) (Ne.symm hoq))
    have O7 : Bk (w6.setRow cb #[.pointer (some ⟨tb, 0, none⟩), .int .i64 s.p, v6]) q 64 #[.int .i64 o.k, .int .i64 o.r, .int .i64 o.n] := O6.setO hqc _
    refine hK.out _ _ O6 (fun hS => ?_)
    clear hK
    simp only [Act.put, List.getElem_toArray, List.getElem_cons_succ, List.getElem_cons_zero, List.setIfInBounds_toArray, List.set_cons_zero, List.set_cons_succ]
    refine wpAnyH_take (i := 8) (v := .pointer (some ⟨cb, 0, none⟩)) rfl (by kernel_rfl) (by kernel_rfl) (by kernel_rfl) (fun _ _ _ h => h) (Or.inl ⟨by kernel_rfl, fun u hu => by kernel_rfl⟩) hS ?_
    simp only [Act.put, List.getElem_toArray, List.getElem_cons_succ, List.getElem_cons_zero, List.setIfInBounds_toArray, List.set_cons_zero, List.set_cons_succ]
    refine wpAnyH_take (i := 9) (v := .pointer (some ⟨cb, 2, none⟩)) rfl (by kernel_rfl) (by kernel_rfl) (by kernel_rfl) (fun _ _ _ h => h) (Or.inl ⟨by kernel_rfl, fun u hu => by kernel_rfl⟩) hS ?_
    simp only [Act.put, List.getElem_toArray, List.getElem_cons_succ, List.getElem_cons_zero, List.setIfInBounds_toArray, List.set_cons_zero, List.set_cons_succ]
    refine wpAnyH_ready (rs := [10]) (by kernel_rfl) (by simp) ?_
    refine AllReadyH.cons rfl (fun K hK => ?_) AllReadyH.nil
    simp only [List.getElem_toArray, List.getElem_cons_succ, List.getElem_cons_zero]
    refine wp_if (by kernel_rfl) ?_
    refine wp_part (g := cb) (off := 2) (val := v6) (new := #[.pointer (some ⟨tb, 0, none⟩), .int .i64 s.p, v6]) rfl (by kernel_rfl) (by kernel_rfl) bk6 (by rw [(opp_cells ho6).1, sizeOps]; rfl) (by rw [(opp_cells ho6).1]; show 2 + 1 ≤ 3; omega) (opp_cells ho6).2 (by rw [(opp_cells ho6).1]; rfl) ?_
    refine hK.out _ _ O7 (fun _ => ?_)
    clear hK
    simp only [Act.put, List.getElem_toArray, List.getElem_cons_succ, List.getElem_cons_zero, List.setIfInBounds_toArray, List.set_cons_zero, List.set_cons_succ]
    refine wpAnyH_done (by kernel_rfl) ?_ _
    clear hS O6 bk6 hg hbk ho6
    generalize (w6.setRow cb #[.pointer (some ⟨tb, 0, none⟩), .int .i64 s.p, v6]) = W7 at *
    go_upto_region 2 with (fail)
    have H7d := H7.bel ((Below.refl _ W7).drew)
    have O7d := O7.bel ((Below.refl _ W7).drew) O7.lt
    have B7d : Below base w W7.drew := B7.trans (((Below.refl _ W7).drew).mono (by have := B7.size; omega))
    have HDo : Hid (Calls Tryd.prog 28 #[.pointer (some ⟨tb, 0, none⟩), o.val] W7.drew fun e w' => e = .returned (.bool (oneM false s.t o).isSome) ∧ TEnd (kX W7.drew cb v6 Y) base tb true W7.drew w' (oneM false s.t o)) := ⟨do_tb H7d.x o hpl hm (hf.bel B7d hb0) hb0⟩
    have HH7 : Hid _ := ⟨H7d⟩
    have HB7 : Hid _ := ⟨B7d⟩
    have H7c := H7d.bk
    have c0 := H7d.bk.cell 0 rfl
    have q0 := O7d.cell 0 rfl
    have q1 := O7d.cell 1 rfl
    have q2 := O7d.cell 2 rfl
    clear H7 O7 B7 H7d B7d O7d H7c H5 B5 N5 hb5 H4 O4 HBd hb4 hpl hf hoq hqc hS
    go_region_with (go_at_call 28; (with_reducible refine HDo.out.mono ?_); rintro e u ⟨he, hT⟩; subst he; have HT : Hid _ := ⟨hT⟩; clear hT)
    all_goals go_wp2_with fail
    all_goals go_ret
    all_goals (refine ⟨rfl, HB7.out.trans HT.out.1, fun t' ht => ?_⟩; obtain ⟨vr2, vk2, hT2⟩ := HT.out.2 t' ht; exact ⟨vr2, vk2, v6, HH7.out.after hT2⟩)
  · simp only [List.getElem_toArray, List.getElem_cons_succ, List.getElem_cons_zero]
    refine wp_if (by kernel_rfl) ?_
    refine wp_val (v := .slice (some ⟨W.heap.size, 0, none⟩) 1 1) (exec_build_op W o rfl (by kernel_rfl)) ?_
    refine hK.out _ _ (O4.bel B5 O4.lt) (fun hS => ?_)
    clear hK
    simp only [Act.put, List.getElem_toArray, List.getElem_cons_succ, List.getElem_cons_zero, List.setIfInBounds_toArray, List.set_cons_zero, List.set_cons_succ]
    refine wpAnyH_ready (rs := [4]) (by kernel_rfl) (by simp) ?_
    refine AllReadyH.cons rfl (fun K hK => ?_) AllReadyH.nil
    simp only [List.getElem_toArray, List.getElem_cons_succ, List.getElem_cons_zero]
    refine wp_if (by kernel_rfl) ?_
    refine wp_val (v := .slice ao s.L.length ca) (exec_loadV (t := 28) (p := ⟨cb, 2, none⟩) rfl (by kernel_rfl) (load_opsv (H5.bk.cell 2 rfl))) ?_
    refine hK.out _ _ (O4.bel B5 O4.lt) (fun hS => ?_)
    clear hK
    simp only [Act.put, List.getElem_toArray, List.getElem_cons_succ, List.getElem_cons_zero, List.setIfInBounds_toArray, List.set_cons_zero, List.set_cons_succ]
    refine wpAnyH_ready (rs := [7]) (by kernel_rfl) (by simp) ?_
    refine AllReadyH.cons rfl (fun K hK => ?_) AllReadyH.nil
    simp only [List.getElem_toArray, List.getElem_cons_succ, List.getElem_cons_zero]
    refine wp_if (by kernel_rfl) ?_
    refine wp_append_opP rfl H5.op (by rfl) (by kernel_rfl) N5 hL hb5 (fun v6 w6 ho6 hg hbk => ?_)
    obtain ⟨bk6, H7⟩ := H5.append hg ho6 hbk
    have B7 : Below base w (w6.setRow cb #[.pointer (some ⟨tb, 0, none⟩), .int .i64 s.p, v6]) := HBd.trans ((B5.mono hb4).trans ((bel_grown hg (fun k hk => (H5.op.lt k hk).1) hb5).trans (below_set _ cb _ H5.lo)))
    have O6 : Bk w6 q 64 #[.int .i64 o.k, .int .i64 o.r, .int .i64 o.n] := (O4.bel B5 O4.lt).of (hg.block _ (Nat.lt_of_lt_of_le O4.lt B5.size) (Ne.symm hoq))
    have O7 : Bk (w6.setRow cb #[.pointer (some ⟨tb, 0, none⟩), .int .i64 s.p, v6]) q 64 #[.int .i64 o.k, .int .i64 o.r, .int .i64 o.n] := O6.setO hqc _
    refine hK.out _ _ O6 (fun hS => ?_)
    clear hK
    simp only [Act.put, List.getElem_toArray, List.getElem_cons_succ, List.getElem_cons_zero, List.setIfInBounds_toArray, List.set_cons_zero, List.set_cons_succ]
    refine wpAnyH_take (i := 8) (v := .pointer (some ⟨cb, 0, none⟩)) rfl (by kernel_rfl) (by kernel_rfl) (by kernel_rfl) (fun _ _ _ h => h) (Or.inl ⟨by kernel_rfl, fun u hu => by kernel_rfl⟩) hS ?_
    simp only [Act.put, List.getElem_toArray, List.getElem_cons_succ, List.getElem_cons_zero, List.setIfInBounds_toArray, List.set_cons_zero, List.set_cons_succ]
    refine wpAnyH_take (i := 9) (v := .pointer (some ⟨cb, 2, none⟩)) rfl (by kernel_rfl) (by kernel_rfl) (by kernel_rfl) (fun _ _ _ h => h) (Or.inl ⟨by kernel_rfl, fun u hu => by kernel_rfl⟩) hS ?_
    simp only [Act.put, List.getElem_toArray, List.getElem_cons_succ, List.getElem_cons_zero, List.setIfInBounds_toArray, List.set_cons_zero, List.set_cons_succ]
    refine wpAnyH_ready (rs := [10]) (by kernel_rfl) (by simp) ?_
    refine AllReadyH.cons rfl (fun K hK => ?_) AllReadyH.nil
    simp only [List.getElem_toArray, List.getElem_cons_succ, List.getElem_cons_zero]
    refine wp_if (by kernel_rfl) ?_
    refine wp_part (g := cb) (off := 2) (val := v6) (new := #[.pointer (some ⟨tb, 0, none⟩), .int .i64 s.p, v6]) rfl (by kernel_rfl) (by kernel_rfl) bk6 (by rw [(opp_cells ho6).1, sizeOps]; rfl) (by rw [(opp_cells ho6).1]; show 2 + 1 ≤ 3; omega) (opp_cells ho6).2 (by rw [(opp_cells ho6).1]; rfl) ?_
    refine hK.out _ _ O7 (fun _ => ?_)
    clear hK
    simp only [Act.put, List.getElem_toArray, List.getElem_cons_succ, List.getElem_cons_zero, List.setIfInBounds_toArray, List.set_cons_zero, List.set_cons_succ]
    refine wpAnyH_done (by kernel_rfl) ?_ _
    clear hS O6 bk6 hg hbk ho6
    generalize (w6.setRow cb #[.pointer (some ⟨tb, 0, none⟩), .int .i64 s.p, v6]) = W7 at *
    go_upto_region 2 with (fail)
    have H7d := H7.bel ((Below.refl _ W7).drew)
    have O7d := O7.bel ((Below.refl _ W7).drew) O7.lt
    have B7d : Below base w W7.drew := B7.trans (((Below.refl _ W7).drew).mono (by have := B7.size; omega))
    have HDo : Hid (Calls Tryd.prog 28 #[.pointer (some ⟨tb, 0, none⟩), o.val] W7.drew fun e w' => e = .returned (.bool (oneM false s.t o).isSome) ∧ TEnd (kX W7.drew cb v6 Y) base tb true W7.drew w' (oneM false s.t o)) := ⟨do_tb H7d.x o hpl hm (hf.bel B7d hb0) hb0⟩
    have HH7 : Hid _ := ⟨H7d⟩
    have HB7 : Hid _ := ⟨B7d⟩
    have H7c := H7d.bk
    have c0 := H7d.bk.cell 0 rfl
    have q0 := O7d.cell 0 rfl
    have q1 := O7d.cell 1 rfl
    have q2 := O7d.cell 2 rfl
    clear H7 O7 B7 H7d B7d O7d H7c H5 B5 N5 hb5 H4 O4 HBd hb4 hpl hf hoq hqc hS
    go_region_with (go_at_call 28; (with_reducible refine HDo.out.mono ?_); rintro e u ⟨he, hT⟩; subst he; have HT : Hid _ := ⟨hT⟩; clear hT)
    all_goals go_wp2_with fail
    all_goals go_ret
    all_goals (refine ⟨rfl, HB7.out.trans HT.out.1, fun t' ht => ?_⟩; obtain ⟨vr2, vk2, hT2⟩ := HT.out.2 t' ht; exact ⟨vr2, vk2, v6, HH7.out.after hT2⟩)
end Go.Proofs.YtpbnldfekadalaaDoor
