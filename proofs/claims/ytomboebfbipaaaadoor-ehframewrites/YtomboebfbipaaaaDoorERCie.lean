/- The document's common entry. -/
import Derived.Test.YtomboebfbipaaaaDoorERRec
import Derived.Test.YtomboebfbipaaaaDoorEFde
namespace Go.Proofs.YtomboebfbipaaaaDoor
open Go.ChangeShapes Go.WideShapes Go.ChangeAt Go.RowKit Go.Maps
set_option linter.unusedVariables false
set_option linter.unusedSimpArgs false

theorem exec_byte {w : World} {a : Act} {o : Oper} {x : Operand} {n : Int} (ho : o.op = .convert 3 5 x) (hx : a.eval x = .int .i64 n) (h0 : 0 ≤ n) (h1 : n ≤ 255) : (execOp a.eval o).run Tryd.prog w = .ok (.value (.int .u8 n)) w := by
  unfold execOp
  simp only [ho, hx]
  have : IntKind.u8.wrap n = n := by rw [IntKind.wrap_u8]; omega
  simp [go_sem, convert, run_underlying Tryd.underlying3, run_underlying Tryd.underlying5, this]
theorem build_9 {o : Oper} {a : Act} {x : Operand} (w : World) (e : Int) (ho : o.op = .buildSlice 24 9 #[(0, .const (.int .u8 1)), (1, .const (.int .u8 122)), (2, .const (.int .u8 82)), (3, .const (.int .u8 0)), (4, .const (.int .u8 1)), (5, .const (.int .u8 120)), (6, .const (.int .u8 16)), (7, .const (.int .u8 1)), (8, x)]) (hx : a.eval x = .int .u8 e) :
    (execOp a.eval o).run Tryd.prog w = .ok (.value (.slice (some ⟨w.heap.size, 0, none⟩) 9 9)) (w.alloc (.cells #[.int .u8 1, .int .u8 122, .int .u8 82, .int .u8 0, .int .u8 1, .int .u8 120, .int .u8 16, .int .u8 1, .int .u8 e] 5)) := by
  unfold execOp
  simp only [ho, List.map_toArray, List.map_cons, List.map_nil, hx]
  kernel_rfl
theorem own_lit9 (w : World) (e : Int) : Own (w.alloc (.cells #[.int .u8 1, .int .u8 122, .int .u8 82, .int .u8 0, .int .u8 1, .int .u8 120, .int .u8 16, .int .u8 1, .int .u8 e] 5)) w.heap.size (.slice (some ⟨w.heap.size, 0, none⟩) 9 9) (cieB e) :=
  ⟨rfl, .inr ⟨w.heap.size, 9, #[.int .u8 1, .int .u8 122, .int .u8 82, .int .u8 0, .int .u8 1, .int .u8 120, .int .u8 16, .int .u8 1, .int .u8 e], rfl, Nat.le_refl _, heap_alloc_new w _, Nat.le_refl _, by unfold maxLen; omega, rfl, rfl⟩⟩

set_option maxHeartbeats 4000000 in
set_option maxRecDepth 10000 in
theorem rcie_any (x : Ce) (a : Option Addr) (cp : Nat) (w : World) (he0 : 0 ≤ x.enc) (he1 : x.enc ≤ 255) (hl : x.ini.length ≤ 3992) (hI : IsOq w a cp x.ini) :
    Calls Tryd.prog 43 #[.agg #[.int .i64 x.enc, .slice a x.ini.length cp]] w fun e w' => ∃ v, e = .returned v ∧ Own w' w.heap.size v (recB 0 (cieB x.enc) x.ini) ∧ Below w.heap.size w w' := by
  have HK0 : Hid _ := ⟨Bk.new w #[.int .i64 x.enc, .slice a x.ini.length cp] 54⟩
  have HB0 : Hid (Below w.heap.size w (w.alloc (.cells #[.int .i64 x.enc, .slice a x.ini.length cp] 54))) := ⟨(Below.refl _ _).alloc (Nat.le_refl _) _⟩
  have HE : Hid (0 ≤ x.enc ∧ x.enc ≤ 255) := ⟨he0, he1⟩
  have HWr : Hid _ := ⟨rwrite_any a cp x.ini (w.alloc (.cells #[.int .i64 x.enc, .slice a x.ini.length cp] 54)) (by omega) (hI.ops.bel HB0.out)⟩
  have hwl := writB_len x.ini
  have HRc : Hid (∀ b v w4, Own w4 b v (pl 0 4 ++ cieB x.enc ++ writB x.ini) → b ≤ w4.heap.size → Calls Tryd.prog 65 #[v] w4 fun e w' => ∃ u, e = .returned u ∧ Own w' b u (recB 0 (cieB x.enc) x.ini) ∧ Below b w4 w') := ⟨fun b v w4 ho hs => by
    have := rrec_any ho hs (by simp only [List.length_append, pl_len, cieB, List.length_cons, List.length_nil]; omega)
    rw [rec_both] at this
    exact this⟩
  clear he0 he1 hl hI
  generalize recB 0 (cieB x.enc) x.ini = RB at *
  generalize writB x.ini = WB at *
  have a1 := HK0.out.cell 1 rfl
  go_enter Tryd.func43, Tryd.ntmps43
  go_upto_region 2 with (go_at_call 63; (with_reducible refine HWr.out.mono ?_); rintro e w1 ⟨u1, he, ho1, hb1⟩; subst he; have H1 : Hid _ := ⟨ho1⟩; have B1 : Hid _ := ⟨hb1⟩; clear ho1 hb1)
  have HK1 : Hid _ := ⟨HK0.out.bel B1.out HK0.out.lt⟩
  have B1w : Hid (Below w.heap.size w w1) := ⟨HB0.out.trans (B1.out.mono HB0.out.size)⟩
  have HKd : Hid _ := ⟨HK1.out.bel ((Below.refl _ w1).drew) HK1.out.lt⟩
  have H1d : Hid _ := ⟨H1.out.bel ((Below.refl _ w1).drew)⟩
  have BBd : Hid (Below w.heap.size w w1.drew) := ⟨B1w.out.trans ((Below.refl _ w1).drew.mono B1w.out.size)⟩
  clear a1 HWr
  refine wp_region_held_drew (S := fun u => Bk u w.heap.size 54 #[.int .i64 x.enc, .slice a x.ini.length cp]) (by kernel_rfl) HKd.out (fun hS => ?_)
  generalize w1.drew = W at *
  refine wpAnyH_take (i := 1) (v := .pointer (some ⟨w.heap.size, 0, none⟩)) rfl (by kernel_rfl) (by kernel_rfl) (by kernel_rfl) (fun _ _ _ h => h) (Or.inl ⟨by kernel_rfl, fun u hu => by kernel_rfl⟩) hS ?_
  simp only [Act.put, List.getElem_toArray, List.getElem_cons_succ, List.getElem_cons_zero, List.setIfInBounds_toArray, List.set_cons_zero, List.set_cons_succ]
  refine wpAnyH_take (i := 2) (v := .int .i64 x.enc) rfl (by kernel_rfl) (by kernel_rfl) (by kernel_rfl) (fun _ _ _ h => h) (Or.inl ⟨by kernel_rfl, fun u hu => exec_loadV (t := 3) (p := ⟨w.heap.size, 0, none⟩) rfl (by kernel_rfl) (load_i64 (hu.cell 0 rfl))⟩) hS ?_
  simp only [Act.put, List.getElem_toArray, List.getElem_cons_succ, List.getElem_cons_zero, List.setIfInBounds_toArray, List.set_cons_zero, List.set_cons_succ]
  refine wpAnyH_take (i := 3) (v := .int .u8 x.enc) rfl (by kernel_rfl) (by kernel_rfl) (by kernel_rfl) (fun _ _ _ h => h) (Or.inl ⟨by kernel_rfl, fun u hu => exec_byte rfl (by kernel_rfl) HE.out.1 HE.out.2⟩) hS ?_
  simp only [Act.put, List.getElem_toArray, List.getElem_cons_succ, List.getElem_cons_zero, List.setIfInBounds_toArray, List.set_cons_zero, List.set_cons_succ]
  refine wpAnyH_ready (rs := [0, 4]) (by kernel_rfl) (by simp) ?_
  refine AllReadyH.cons rfl (fun K hK => ?_) (AllReadyH.cons rfl (fun K hK => ?_) AllReadyH.nil)
  · simp only [List.getElem_toArray, List.getElem_cons_succ, List.getElem_cons_zero]
    refine wp_if (by kernel_rfl) ?_
    refine wp_enter (f := 64) (args := #[.int .i64 0]) (by kernel_rfl) (four_any 0 (by omega) (by omega) W) ?_
    rintro e w2 ⟨v2, he, ho2, hb2⟩
    subst he
    refine ⟨_, rfl, ?_⟩
    have J2 : Hid (Own w2 W.heap.size v2 (pl 0 4) ∧ Below W.heap.size W w2 ∧ Bk w2 w.heap.size 54 #[.int .i64 x.enc, .slice a x.ini.length cp]) := ⟨ho2, hb2, HKd.out.bel hb2 HKd.out.lt⟩
    clear ho2 hb2
    refine hK.out _ _ J2.out.2.2 (fun hS => ?_)
    clear hK
    simp only [Act.put, List.getElem_toArray, List.getElem_cons_succ, List.getElem_cons_zero, List.setIfInBounds_toArray, List.set_cons_zero, List.set_cons_succ]
    refine wpAnyH_ready (rs := [4]) (by kernel_rfl) (by simp) ?_
    refine AllReadyH.cons rfl (fun K hK => ?_) AllReadyH.nil
    simp only [List.getElem_toArray, List.getElem_cons_succ, List.getElem_cons_zero]
    refine wp_if (by kernel_rfl) ?_
    refine wp_val (v := .slice (some ⟨w2.heap.size, 0, none⟩) 9 9) (w' := w2.alloc (.cells #[.int .u8 1, .int .u8 122, .int .u8 82, .int .u8 0, .int .u8 1, .int .u8 120, .int .u8 16, .int .u8 1, .int .u8 x.enc] 5)) (build_9 w2 x.enc rfl (by kernel_rfl)) ?_
    have J3 : Hid (Own (w2.alloc (.cells #[.int .u8 1, .int .u8 122, .int .u8 82, .int .u8 0, .int .u8 1, .int .u8 120, .int .u8 16, .int .u8 1, .int .u8 x.enc] 5)) W.heap.size v2 (pl 0 4) ∧ Below W.heap.size W (w2.alloc (.cells #[.int .u8 1, .int .u8 122, .int .u8 82, .int .u8 0, .int .u8 1, .int .u8 120, .int .u8 16, .int .u8 1, .int .u8 x.enc] 5)) ∧ Bk (w2.alloc (.cells #[.int .u8 1, .int .u8 122, .int .u8 82, .int .u8 0, .int .u8 1, .int .u8 120, .int .u8 16, .int .u8 1, .int .u8 x.enc] 5)) w.heap.size 54 #[.int .i64 x.enc, .slice a x.ini.length cp]) := ⟨J2.out.1.bel ((Below.refl _ _).alloc (Nat.le_refl _) _), J2.out.2.1.trans (((Below.refl _ _).alloc (Nat.le_refl _) _).mono J2.out.2.1.size), J2.out.2.2.bel ((Below.refl _ _).alloc (Nat.le_refl _) _) J2.out.2.2.lt⟩
    refine hK.out _ _ J3.out.2.2 (fun hS => ?_)
    clear hK
    simp only [Act.put, List.getElem_toArray, List.getElem_cons_succ, List.getElem_cons_zero, List.setIfInBounds_toArray, List.set_cons_zero, List.set_cons_succ]
    refine wpAnyH_ready (rs := [5]) (by kernel_rfl) (by simp) ?_
    refine AllReadyH.cons rfl (fun K hK => ?_) AllReadyH.nil
    simp only [List.getElem_toArray, List.getElem_cons_succ, List.getElem_cons_zero]
    refine wp_if (by kernel_rfl) ?_
    refine wp_app rfl (base := W.heap.size) (v := v2) (u := .slice (some ⟨w2.heap.size, 0, none⟩) 9 9) (l := pl 0 4) (m := cieB x.enc) (by kernel_rfl) (by kernel_rfl) J3.out.1 (own_lit9 w2 x.enc).bt (by simp [cieB]) (by rw [pl_len]; simp [cieB]) J3.out.2.1.size ?_
    intro v4 w4 hA4
    have J4 : Hid (Own w4 W.heap.size v4 (pl 0 4 ++ cieB x.enc) ∧ Below W.heap.size W w4 ∧ Bk w4 w.heap.size 54 #[.int .i64 x.enc, .slice a x.ini.length cp]) := ⟨hA4.own, J3.out.2.1.trans (hA4.bel J3.out.1 J3.out.2.1.size), HKd.out.bel (J3.out.2.1.trans (hA4.bel J3.out.1 J3.out.2.1.size)) HKd.out.lt⟩
    refine hK.out _ _ J4.out.2.2 (fun hS => ?_)
    clear hK
    simp only [Act.put, List.getElem_toArray, List.getElem_cons_succ, List.getElem_cons_zero, List.setIfInBounds_toArray, List.set_cons_zero, List.set_cons_succ]
    refine wpAnyH_take (i := 6) (v := v4) rfl (by kernel_rfl) (by kernel_rfl) (by kernel_rfl) (fun _ _ _ h => h) (Or.inl ⟨by kernel_rfl, fun u hu => by kernel_rfl⟩) hS ?_
    simp only [Act.put, List.getElem_toArray, List.getElem_cons_succ, List.getElem_cons_zero, List.setIfInBounds_toArray, List.set_cons_zero, List.set_cons_succ]
    refine wpAnyH_done (by kernel_rfl) ?_ _
    clear hS
    go_wp2_with (first
      | (at_builtin; refine append_bt w4 rfl _ _ rfl W.heap.size _ _ rfl J4.out.1 _ WB rfl (H1d.out.bel J4.out.2.1).bt (by rw [List.length_append, pl_len]; simp [cieB]; omega) J4.out.2.1.size ?_; intro v5 w5 ho hb; have H5 : Hid (Own w5 W.heap.size v5 (pl 0 4 ++ cieB x.enc ++ WB) ∧ Below W.heap.size W w5) := ⟨ho, J4.out.2.1.trans hb⟩; clear ho hb)
      | (go_at_call 65; (with_reducible refine (HRc.out _ _ _ H5.out.1 H5.out.2.size).mono ?_); rintro e w9 ⟨u9, he, ho, hb⟩; subst he; have H9 : Hid (Own w9 W.heap.size u9 RB ∧ Below W.heap.size W w9) := ⟨ho, H5.out.2.trans hb⟩; clear ho hb))
    go_ret
    exact ⟨u9, rfl, H9.out.1.lowE BBd.out.size, BBd.out.trans (H9.out.2.mono BBd.out.size)⟩
  · simp only [List.getElem_toArray, List.getElem_cons_succ, List.getElem_cons_zero]
    refine wp_if (by kernel_rfl) ?_
    refine wp_val (v := .slice (some ⟨W.heap.size, 0, none⟩) 9 9) (w' := W.alloc (.cells #[.int .u8 1, .int .u8 122, .int .u8 82, .int .u8 0, .int .u8 1, .int .u8 120, .int .u8 16, .int .u8 1, .int .u8 x.enc] 5)) (build_9 W x.enc rfl (by kernel_rfl)) ?_
    have J3 : Hid (Own (W.alloc (.cells #[.int .u8 1, .int .u8 122, .int .u8 82, .int .u8 0, .int .u8 1, .int .u8 120, .int .u8 16, .int .u8 1, .int .u8 x.enc] 5)) W.heap.size (.slice (some ⟨W.heap.size, 0, none⟩) 9 9) (cieB x.enc) ∧ Below W.heap.size W (W.alloc (.cells #[.int .u8 1, .int .u8 122, .int .u8 82, .int .u8 0, .int .u8 1, .int .u8 120, .int .u8 16, .int .u8 1, .int .u8 x.enc] 5)) ∧ Bk (W.alloc (.cells #[.int .u8 1, .int .u8 122, .int .u8 82, .int .u8 0, .int .u8 1, .int .u8 120, .int .u8 16, .int .u8 1, .int .u8 x.enc] 5)) w.heap.size 54 #[.int .i64 x.enc, .slice a x.ini.length cp]) := ⟨own_lit9 W x.enc, (Below.refl _ _).alloc (Nat.le_refl _) _, HKd.out.bel ((Below.refl _ _).alloc (Nat.le_refl _) _) HKd.out.lt⟩
    refine hK.out _ _ J3.out.2.2 (fun hS => ?_)
    clear hK
    simp only [Act.put, List.getElem_toArray, List.getElem_cons_succ, List.getElem_cons_zero, List.setIfInBounds_toArray, List.set_cons_zero, List.set_cons_succ]
    refine wpAnyH_ready (rs := [0]) (by kernel_rfl) (by simp) ?_
    refine AllReadyH.cons rfl (fun K hK => ?_) AllReadyH.nil
    simp only [List.getElem_toArray, List.getElem_cons_succ, List.getElem_cons_zero]
    refine wp_if (by kernel_rfl) ?_
    refine wp_enter (f := 64) (args := #[.int .i64 0]) (by kernel_rfl) (four_any 0 (by omega) (by omega) (W.alloc (.cells #[.int .u8 1, .int .u8 122, .int .u8 82, .int .u8 0, .int .u8 1, .int .u8 120, .int .u8 16, .int .u8 1, .int .u8 x.enc] 5))) ?_
    rintro e w2 ⟨v2, he, ho2, hb2⟩
    subst he
    refine ⟨_, rfl, ?_⟩
    have J2 : Hid (Own w2 W.heap.size v2 (pl 0 4) ∧ Below W.heap.size W w2 ∧ Bk w2 w.heap.size 54 #[.int .i64 x.enc, .slice a x.ini.length cp] ∧ Own w2 W.heap.size (.slice (some ⟨W.heap.size, 0, none⟩) 9 9) (cieB x.enc)) := ⟨ho2.lowE J3.out.2.1.size, J3.out.2.1.trans (hb2.mono J3.out.2.1.size), HKd.out.bel (J3.out.2.1.trans (hb2.mono J3.out.2.1.size)) HKd.out.lt, J3.out.1.bel hb2⟩
    clear ho2 hb2
    refine hK.out _ _ J2.out.2.2.1 (fun hS => ?_)
    clear hK
    simp only [Act.put, List.getElem_toArray, List.getElem_cons_succ, List.getElem_cons_zero, List.setIfInBounds_toArray, List.set_cons_zero, List.set_cons_succ]
    refine wpAnyH_ready (rs := [5]) (by kernel_rfl) (by simp) ?_
    refine AllReadyH.cons rfl (fun K hK => ?_) AllReadyH.nil
    simp only [List.getElem_toArray, List.getElem_cons_succ, List.getElem_cons_zero]
    refine wp_if (by kernel_rfl) ?_
    refine wp_app rfl (base := W.heap.size) (v := v2) (u := .slice (some ⟨W.heap.size, 0, none⟩) 9 9) (l := pl 0 4) (m := cieB x.enc) (by kernel_rfl) (by kernel_rfl) J2.out.1 J2.out.2.2.2.bt (by simp [cieB]) (by rw [pl_len]; simp [cieB]) J2.out.2.1.size ?_
    intro v4 w4 hA4
    have J4 : Hid (Own w4 W.heap.size v4 (pl 0 4 ++ cieB x.enc) ∧ Below W.heap.size W w4 ∧ Bk w4 w.heap.size 54 #[.int .i64 x.enc, .slice a x.ini.length cp]) := ⟨hA4.own, J2.out.2.1.trans (hA4.bel J2.out.1 J2.out.2.1.size), HKd.out.bel (J2.out.2.1.trans (hA4.bel J2.out.1 J2.out.2.1.size)) HKd.out.lt⟩
    refine hK.out _ _ J4.out.2.2 (fun hS => ?_)
    clear hK
    simp only [Act.put, List.getElem_toArray, List.getElem_cons_succ, List.getElem_cons_zero, List.setIfInBounds_toArray, List.set_cons_zero, List.set_cons_succ]
    refine wpAnyH_take (i := 6) (v := v4) rfl (by kernel_rfl) (by kernel_rfl) (by kernel_rfl) (fun _ _ _ h => h) (Or.inl ⟨by kernel_rfl, fun u hu => by kernel_rfl⟩) hS ?_
    simp only [Act.put, List.getElem_toArray, List.getElem_cons_succ, List.getElem_cons_zero, List.setIfInBounds_toArray, List.set_cons_zero, List.set_cons_succ]
    refine wpAnyH_done (by kernel_rfl) ?_ _
    clear hS
    go_wp2_with (first
      | (at_builtin; refine append_bt w4 rfl _ _ rfl W.heap.size _ _ rfl J4.out.1 _ WB rfl (H1d.out.bel J4.out.2.1).bt (by rw [List.length_append, pl_len]; simp [cieB]; omega) J4.out.2.1.size ?_; intro v5 w5 ho hb; have H5 : Hid (Own w5 W.heap.size v5 (pl 0 4 ++ cieB x.enc ++ WB) ∧ Below W.heap.size W w5) := ⟨ho, J4.out.2.1.trans hb⟩; clear ho hb)
      | (go_at_call 65; (with_reducible refine (HRc.out _ _ _ H5.out.1 H5.out.2.size).mono ?_); rintro e w9 ⟨u9, he, ho, hb⟩; subst he; have H9 : Hid (Own w9 W.heap.size u9 RB ∧ Below W.heap.size W w9) := ⟨ho, H5.out.2.trans hb⟩; clear ho hb))
    go_ret
    exact ⟨u9, rfl, H9.out.1.lowE BBd.out.size, BBd.out.trans (H9.out.2.mono BBd.out.size)⟩
end Go.Proofs.YtomboebfbipaaaaDoor
