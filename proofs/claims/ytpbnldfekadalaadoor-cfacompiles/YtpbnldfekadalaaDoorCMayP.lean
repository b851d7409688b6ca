/- Which ops may be: the program's mayBe, by its table of shapes. -/
import Derived.Test.YtpbnldfekadalaaDoorCTabQ
namespace Go.Proofs.YtpbnldfekadalaaDoor
open Go.ChangeShapes Go.WideShapes Go.ChangeAt Go.RowKit
set_option linter.unusedVariables false
set_option linter.unusedSimpArgs false

theorem Fz.row {w : World} (h : Fz w) (k : Nat) (hk : k < 11) : ∃ R L H U, shL[k]? = some (R, L, H, U) ∧ w.rangeAt 0 (k * 4) [.int .i64 R, .int .i64 L, .int .i64 H, .int .i64 U] := by
  have e : ∀ k, k < 11 → ∃ R L H U, shL[k]? = some (R, L, H, U) ∧ shC.getD (k * 4) 0 = R ∧ shC.getD (k * 4 + 1) 0 = L ∧ shC.getD (k * 4 + 2) 0 = H ∧ shC.getD (k * 4 + 3) 0 = U := by
    intro k hk
    have : k = 0 ∨ k = 1 ∨ k = 2 ∨ k = 3 ∨ k = 4 ∨ k = 5 ∨ k = 6 ∨ k = 7 ∨ k = 8 ∨ k = 9 ∨ k = 10 := by omega
    rcases this with rfl | rfl | rfl | rfl | rfl | rfl | rfl | rfl | rfl | rfl | rfl <;> exact ⟨_, _, _, _, rfl, rfl, rfl, rfl, rfl⟩
  obtain ⟨R, L, H, U, h0, h1, h2, h3, h4⟩ := e k hk
  refine ⟨R, L, H, U, h0, fun j v hv => ?_⟩
  have hj : j = 0 ∨ j = 1 ∨ j = 2 ∨ j = 3 := by have := (List.getElem?_eq_some_iff.1 hv).1; simp at this; omega
  rcases hj with rfl | rfl | rfl | rfl
  · have := h.c (k * 4) (by omega); rw [h1] at this; simpa using this.trans hv
  · have := h.c (k * 4 + 1) (by omega); rw [h2] at this; simpa using this.trans hv
  · have := h.c (k * 4 + 2) (by omega); rw [h3] at this; simpa using this.trans hv
  · have := h.c (k * 4 + 3) (by omega); rw [h4] at this; simpa using this.trans hv
theorem may_sh {o : Oq} {k : Nat} (hk : o.k = (k : Int)) {R L H U : Int} (h : shL[k]? = some (R, L, H, U)) : (U = 1 ∨ U = 8) ∧ mayB o = ((decide (0 ≤ o.r) && decide (o.r ≤ R)) && ((decide (L ≤ o.n) && decide (o.n ≤ H)) && (o.n.tmod U == 0))) := by
  have hk2 : k < 11 := (List.getElem?_eq_some_iff.1 h).1
  have e0 : ∀ x : Int, x.tmod 1 = 0 := Int.tmod_one
  have z : ∀ x : Int, (x == 0) = (decide (0 ≤ x) && decide (x ≤ 0)) := fun x => by
    rw [Bool.eq_iff_iff]; simp; omega
  have f : ∀ x : Int, decide (x < 2147483648) = decide (x ≤ 2147483647) := fun x => by
    rw [Bool.eq_iff_iff]; simp; omega
  obtain ⟨ok, r, n⟩ := o
  dsimp only at hk ⊢
  have : k = 0 ∨ k = 1 ∨ k = 2 ∨ k = 3 ∨ k = 4 ∨ k = 5 ∨ k = 6 ∨ k = 7 ∨ k = 8 ∨ k = 9 ∨ k = 10 := by omega
  rcases this with rfl | rfl | rfl | rfl | rfl | rfl | rfl | rfl | rfl | rfl | rfl <;> (
    simp only [shL, List.getElem?_cons_succ, List.getElem?_cons_zero, Option.some.injEq, Prod.mk.injEq] at h
    obtain ⟨rfl, rfl, rfl, rfl⟩ := h
    subst hk
    refine ⟨by decide, ?_⟩
    simp [mayB, regB, farB, e0, f, z, Bool.and_assoc])
theorem may_out {o : Oq} (h : o.k < 0 ∨ 11 ≤ o.k) : mayB o = false := by
  unfold mayB
  rw [if_neg (by simp; omega), if_neg (by simp; omega), if_neg (by simp; omega), if_neg (by simp; omega), if_neg (by simp; omega)]
theorem ix_shape (k : Nat) (hk : k < 11) (W : World) : (Instr.indexAt 91 (.pointer (some ⟨0, 0, none⟩)) (.int .i64 (k : Int))).run Tryd.prog W = .ok (.pointer (some ⟨0, k * 4, none⟩)) W := by
  have hs : (Tryd.prog.info? 90).map (·.size) = some 4 := by kernel_rfl
  cases hq : Tryd.prog.info? 90 with
  | none => rw [hq] at hs; cases hs
  | some i =>
    have hi1 : i.size = 4 := by rw [hq] at hs; simpa using hs
    simp [Instr.indexAt, run_underlying Tryd.underlying91, asIntOf, sizeOf, typeInfo, hq, hi1, caddr_add, Instr.sureAddr, hk]
theorem size_bounds : (Tryd.prog.info? 90).map (·.size) = some 4 := by kernel_rfl
theorem load_shape {w : World} {o : Nat} {R L H U : Int} (h : w.rangeAt 0 o [.int .i64 R, .int .i64 L, .int .i64 H, .int .i64 U]) : (loadVar 90 ⟨0, o, none⟩).run Tryd.prog w = .ok (.agg #[.int .i64 R, .int .i64 L, .int .i64 H, .int .i64 U]) w :=
  run_loadVar_mid w 0 o _ _ _ h Tryd.underlying90 rfl (by rw [size_bounds]; rfl)

set_option maxRecDepth 10000 in
/-- Every mayBe. -/
theorem mayBe_any (o : Oq) (w : World) (hf : Fz w) : Calls Tryd.prog 34 #[o.val] w fun e w' => e = .returned (.bool (mayB o)) ∧ Below w.heap.size w w' := by
  have HB : Below w.heap.size w (w.alloc (.cells #[.int .i64 o.k, .int .i64 o.r, .int .i64 o.n] 64)) := (Below.refl _ _).alloc (Nat.le_refl _) _
  by_cases hk : o.k < 0 ∨ 11 ≤ o.k
  · rw [may_out hk]
    by_cases h1 : o.k < 0
    · go_enter Tryd.func34, Tryd.ntmps34
      go_wp2_with fail
      go_ret
      exact ⟨rfl, HB⟩
    · have h2 : 11 ≤ o.k := by omega
      go_enter Tryd.func34, Tryd.ntmps34
      go_wp2_with fail
      go_ret
      exact ⟨rfl, HB⟩
  obtain ⟨ok, r, n⟩ := o
  dsimp only at *
  obtain ⟨k, rfl⟩ : ∃ k : Nat, ok = (k : Int) := ⟨ok.toNat, by omega⟩
  have hk1 : k < 11 := by omega
  have hk2 : ¬ (k : Int) < 0 := by omega
  have hk3 : ¬ (11 : Int) ≤ (k : Int) := by omega
  obtain ⟨R, L, H, U, hsh, hrow⟩ := (hf.bel HB hf.z).row k hk1
  obtain ⟨hU, hm⟩ := may_sh (o := ⟨(k : Int), r, n⟩) rfl hsh
  have O1 : Bk (w.alloc (.cells #[.int .i64 (k : Int), .int .i64 r, .int .i64 n] 64)) w.heap.size 64 #[.int .i64 (k : Int), .int .i64 r, .int .i64 n] := Bk.new w _ _
  rw [hm]
  clear hm hsh hf
  dsimp only
  obtain ⟨x, hx⟩ : ∃ x, (decide (0 ≤ r) && decide (r ≤ R)) = x := ⟨_, rfl⟩
  obtain ⟨y, hy⟩ : ∃ y, (decide (L ≤ n) && decide (n ≤ H)) = y := ⟨_, rfl⟩
  rw [hx, hy]
  have HX : Hid _ := ⟨hx⟩
  have HY : Hid _ := ⟨hy⟩
  clear hx hy
  go_enter Tryd.func34, Tryd.ntmps34
  go_upto_region 3 with fail
  iterate 1 go_step
  refine wpList_val (v := .pointer (some ⟨w.heap.size, 0, none⟩)) (w' := w.alloc (.cells #[.int .i64 (k : Int), .int .i64 r, .int .i64 n] 64)) (by kernel_rfl) (by kernel_rfl) ?_
  simp only [Act.put, List.getElem_toArray, List.getElem_cons_succ, List.getElem_cons_zero, List.setIfInBounds_toArray, List.set_cons_zero, List.set_cons_succ]
  generalize w.alloc (.cells #[.int .i64 (k : Int), .int .i64 r, .int .i64 n] 64) = W1 at *
  refine wpList_val (v := .int .i64 (k : Int)) (w' := W1) (by kernel_rfl) (exec_loadV (t := 3) (p := ⟨w.heap.size, 0, none⟩) rfl (by kernel_rfl) (load_i64 (O1.cell 0 rfl))) ?_
  simp only [Act.put, List.getElem_toArray, List.getElem_cons_succ, List.getElem_cons_zero, List.setIfInBounds_toArray, List.set_cons_zero, List.set_cons_succ]
  refine wpList_val (v := .pointer (some ⟨0, k * 4, none⟩)) (w' := W1) (by kernel_rfl) (exec_ix rfl (by kernel_rfl) (by kernel_rfl) (ix_shape k hk1 W1)) ?_
  simp only [Act.put, List.getElem_toArray, List.getElem_cons_succ, List.getElem_cons_zero, List.setIfInBounds_toArray, List.set_cons_zero, List.set_cons_succ]
  refine wpList_val (v := .agg #[.int .i64 R, .int .i64 L, .int .i64 H, .int .i64 U]) (w' := W1) (by kernel_rfl) (exec_loadV (t := 90) (p := ⟨0, k * 4, none⟩) rfl (by kernel_rfl) (load_shape hrow)) ?_
  simp only [Act.put, List.getElem_toArray, List.getElem_cons_succ, List.getElem_cons_zero, List.setIfInBounds_toArray, List.set_cons_zero, List.set_cons_succ]
  refine wpList_val (v := .pointer (some ⟨W1.heap.size, 0, none⟩)) (w' := W1.alloc (.cells #[.int .i64 0, .int .i64 0, .int .i64 0, .int .i64 0] 90)) (by kernel_rfl) (by kernel_rfl) ?_
  simp only [Act.put, List.getElem_toArray, List.getElem_cons_succ, List.getElem_cons_zero, List.setIfInBounds_toArray, List.set_cons_zero, List.set_cons_succ]
  have B2 : Below W1.heap.size W1 (W1.alloc (.cells #[.int .i64 0, .int .i64 0, .int .i64 0, .int .i64 0] 90)) := (Below.refl _ _).alloc (Nat.le_refl _) _
  have N2 : Bk (W1.alloc (.cells #[.int .i64 0, .int .i64 0, .int .i64 0, .int .i64 0] 90)) W1.heap.size 90 #[.int .i64 0, .int .i64 0, .int .i64 0, .int .i64 0] := Bk.new _ _ _
  have O2 := O1.bel B2 O1.lt
  have hlt := O1.lt
  refine wpList_part (g := W1.heap.size) (off := 0) (val := .agg #[.int .i64 R, .int .i64 L, .int .i64 H, .int .i64 U]) (new := #[.int .i64 R, .int .i64 L, .int .i64 H, .int .i64 U]) rfl rfl (by kernel_rfl) (by kernel_rfl) N2 (by rw [size_bounds]; rfl) (by show 0 + 4 ≤ 4; omega) (by intro u hu; simp [Value.cells] at hu; rcases hu with rfl | rfl | rfl | rfl <;> rfl) rfl ?_
  simp only [Act.put, List.getElem_toArray, List.getElem_cons_succ, List.getElem_cons_zero, List.setIfInBounds_toArray, List.set_cons_zero, List.set_cons_succ]
  have N3 := N2.setR #[.int .i64 R, .int .i64 L, .int .i64 H, .int .i64 U]
  have O3 := O2.setO (c := W1.heap.size) (by omega) #[.int .i64 R, .int .i64 L, .int .i64 H, .int .i64 U]
  have B3 : Below w.heap.size w ((W1.alloc (.cells #[.int .i64 0, .int .i64 0, .int .i64 0, .int .i64 0] 90)).setRow W1.heap.size #[.int .i64 R, .int .i64 L, .int .i64 H, .int .i64 U]) := (HB.trans (B2.mono (by omega))).trans (below_set _ _ _ (by omega))
  generalize (W1.alloc (.cells #[.int .i64 0, .int .i64 0, .int .i64 0, .int .i64 0] 90)).setRow W1.heap.size #[.int .i64 R, .int .i64 L, .int .i64 H, .int .i64 U] = W3 at *
  generalize W1.heap.size = sb at *
  have d1 := O3.cell 1 rfl
  have d2 := O3.cell 2 rfl
  have s0 := N3.cell 0 rfl
  have s1 := N3.cell 1 rfl
  have s2 := N3.cell 2 rfl
  have s3 := N3.cell 3 rfl
  have HBB : Hid _ := ⟨B3⟩
  have HW1 : Hid _ := ⟨isWithin_any r 0 R W3⟩
  have HW2 : Hid _ := ⟨isWithin_any n L H W3⟩
  rw [HX.out] at HW1
  rw [HY.out] at HW2
  clear HB hrow O1 B2 N2 O2 N3 O3 B3 hk hk2 hk3 hlt
  refine wpList_nil ?_
  clear HX HY
  have tk : True := trivial
  cases x with
  | false =>
    go_wp2_with (go_at_call 20; (with_reducible refine HW1.out.mono ?_); rintro e wn ⟨he, hwn⟩; subst he; subst wn)
    go_ret
    exact ⟨rfl, HBB.out⟩
  | true =>
    cases y with
    | false =>
      go_wp2_with (first
        | (go_at_call 20; have _t := tk; (with_reducible refine HW1.out.mono ?_); rintro e wn ⟨he, hwn⟩; subst he; subst wn; clear tk _t)
        | (go_at_call 20; (with_reducible refine HW2.out.mono ?_); rintro e wn ⟨he, hwn⟩; subst he; subst wn))
      go_ret
      exact ⟨rfl, HBB.out⟩
    | true =>
      rcases hU with rfl | rfl
      · go_wp2_with (first
          | (go_at_call 20; have _t := tk; (with_reducible refine HW1.out.mono ?_); rintro e wn ⟨he, hwn⟩; subst he; subst wn; clear tk _t)
          | (go_at_call 20; (with_reducible refine HW2.out.mono ?_); rintro e wn ⟨he, hwn⟩; subst he; subst wn))
        go_ret
        exact ⟨by simp, HBB.out⟩
      · go_wp2_with (first
          | (go_at_call 20; have _t := tk; (with_reducible refine HW1.out.mono ?_); rintro e wn ⟨he, hwn⟩; subst he; subst wn; clear tk _t)
          | (go_at_call 20; (with_reducible refine HW2.out.mono ?_); rintro e wn ⟨he, hwn⟩; subst he; subst wn))
        go_ret
        exact ⟨by simp, HBB.out⟩
end Go.Proofs.YtpbnldfekadalaaDoor
