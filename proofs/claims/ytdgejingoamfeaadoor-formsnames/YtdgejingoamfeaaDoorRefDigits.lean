/- The document's Digits: the decimal numeral. -/
import Derived.Test.YtdgejingoamfeaaDoorDisp
import Derived.Deep.RegionHeld3
import Derived.Deep.RegionWith
import Derived.Laws.Closers25
namespace Go.Proofs.YtdgejingoamfeaaDoor
open Go.ChangeShapes Go.WideShapes Go.ChangeAt Go.RowKit
set_option linter.unusedVariables false
set_option linter.unusedSimpArgs false

abbrev digS (u : Nat) : ByteArray := ⟨(Lib.decDigits u).toArray⟩

theorem conv1 (w : World) (c : Int) : (convert 84 9 (.slice (some ⟨w.heap.size, 0, none⟩) 1 1)).run Tryd.prog (w.alloc (.cells #[.int .u8 c] 5)) = .ok (.string (strOfNums [c])) (w.alloc (.cells #[.int .u8 c] 5)) :=
  run_convert_bytes_arg (P := Tryd.prog) _ 84 5 Tryd.underlying84 Tryd.underlying5 w.heap.size 0 1 1 [c] rfl (fun i hi => by
    obtain rfl : i = 0 := by omega
    simp) 9 Tryd.underlying9

set_option maxRecDepth 4000 in
theorem digits_small (a : Int) (h0 : 0 ≤ a) (h1 : a < 10) (s : ByteArray) (HR : Hid (s = ⟨#[UInt8.ofNat (48 + a.toNat)]⟩)) (w : World) :
    Calls Tryd.prog 45 #[.int .i64 a] w fun e w' => e = .returned (.string s) ∧ Below w.heap.size w w' := by
  have CV := conv1 w (48 + a)
  go_enter Tryd.func45, Tryd.ntmps45
  go_wp2
  go_ret
  exact ⟨ret_str (by rw [HR.out]; show (⟨#[UInt8.ofNat (48 + a).toNat]⟩ : ByteArray) = _; rw [show (48 + a).toNat = 48 + a.toNat by omega]), bel_alloc (Below.refl _ _) _⟩

/-- An operation that gives its value at once, in a region that draws. -/
theorem wp_of_value {o : Oper} {a : Act} {w w' : World} {K : Act → World → Prop} {Q : Exit → Act → World → Prop} {v : Value}
    (hx : (execOp a.eval o).run Tryd.prog w = .ok (.value v) w') (h : K (a.put o.dst v) w') : o.wp Tryd.prog a w K Q := by
  unfold Oper.wp
  rw [hx, Oper.upon_value]
  exact h

theorem wp_if {c : Prop} [Decidable c] {p q : Prop} (hc : c) (h : p) : if c then p else q := by rw [if_pos hc]; exact h

/-- A call in a region that draws. -/
theorem wp_enter {o : Oper} {a : Act} {w : World} {K : Act → World → Prop} {Q : Exit → Act → World → Prop} {f : FuncId} {args : Array Value} {R : Ending → World → Prop}
    (hx : (execOp a.eval o).run Tryd.prog w = .ok (.enter f args) w) (hc : Calls Tryd.prog f args w R) (h : ∀ e w', R e w' → ∃ v, e = .returned v ∧ K (a.put o.dst v) w') : o.wp Tryd.prog a w K Q := by
  unfold Oper.wp
  rw [hx, Oper.upon_enter]
  refine hc.mono ?_
  intro e w' hr
  obtain ⟨v, rfl, hk⟩ := h e w' hr
  exact hk
theorem exec_conv {t u : TypeId} {p : Operand} {y x : Value} {o : Oper} {a : Act} {w : World} (ho : o.op = .convert t u p) (he : a.eval p = y) (hy : (convert t u y).run Tryd.prog w = .ok x w) :
    (execOp a.eval o).run Tryd.prog w = .ok (.value x) w := by
  unfold execOp
  simp only [ho, he, hy, Sem.run_bind, Sem.run_pure, Result.andThen_ok]
theorem guard_add (x y : Operand) (s t : ByteArray) (w : World) : (eqGuard .add 9 x y (.string s) (.string t)).run Tryd.prog w = .ok () w := by kernel_rfl
theorem binop_add (s t : ByteArray) (w : World) : (binOp .add 9 (.string s) (.string t)).run Tryd.prog w = (Op.stringOp .add s t).run Tryd.prog w := by kernel_rfl
theorem exec_add (s t : ByteArray) {o : Oper} {a : Act} {w : World} {x y : Operand} {k : TypeId} (h : s.size + t.size ≤ 9223372036854775807) (ho : o.op = .binOp .add 9 x y k) (hx : a.eval x = .string s) (hy : a.eval y = .string t) :
    (execOp a.eval o).run Tryd.prog w = .ok (.value (.string (s ++ t))) w := by
  unfold execOp
  simp only [ho, hx, hy, Sem.run_bind, Sem.run_pure, Result.andThen_ok, guard_add, binop_add, run_string_add_sum w s t h]
theorem cell_new (v : World) (c : Int) : (v.alloc (.cells #[.int .u8 c] 5)).cell? ⟨v.heap.size, 0, none⟩ = some (.int .u8 c) := by simp

theorem convB {w : World} {c : Int} (b : Nat) (h : w.cell? ⟨b, 0, none⟩ = some (.int .u8 c)) : (convert 84 9 (.slice (some ⟨b, 0, none⟩) 1 1)).run Tryd.prog w = .ok (.string (strOfNums [c])) w :=
  run_convert_bytes_arg (P := Tryd.prog) _ 84 5 Tryd.underlying84 Tryd.underlying5 b 0 1 1 [c] rfl (fun i hi => by
    obtain rfl : i = 0 := by omega
    simpa using h) 9 Tryd.underlying9

set_option maxRecDepth 4000 in
theorem digits_big (a q r : Int) (h0 : 10 ≤ a) (hq : IntKind.i64.wrap (a.tdiv 10) = q) (hr : a.tmod 10 = r) (h1 : IntKind.i64.wrap (48 + r) = 48 + r) (h2 : IntKind.u8.wrap (48 + r) = 48 + r) (s t : ByteArray) (hs : s.size ≤ 100)
    (HC : Hid (∀ v, Calls Tryd.prog 45 #[.int .i64 q] v fun e w' => e = .returned (.string s) ∧ Below v.heap.size v w'))
    (HR : Hid (t = s ++ strOfNums [48 + r])) (w : World) :
    Calls Tryd.prog 45 #[.int .i64 a] w fun e w' => e = .returned (.string t) ∧ Below w.heap.size w w' := by
  have hz : s.size + (strOfNums [48 + r]).size ≤ 9223372036854775807 := by
    have : (strOfNums [48 + r]).size = 1 := rfl
    omega
  go_enter Tryd.func45, Tryd.ntmps45
  go_wp2
  refine wp_region_held_drew (S := fun v => Below w.heap.size w v) (by kernel_rfl) ((Below.refl _ _).drew) (fun hH => ?_)
  refine wpAnyH_take (i := 0) (v := .int .i64 a) rfl (by kernel_rfl) (by kernel_rfl) (by kernel_rfl) (fun _ _ _ h => h) (Or.inl ⟨by kernel_rfl, fun v _ => by kernel_rfl⟩) hH ?_
  simp only [Act.put, List.getElem_toArray, List.getElem_cons_succ, List.getElem_cons_zero, List.setIfInBounds_toArray, List.set_cons_zero, List.set_cons_succ]
  refine wpAnyH_take (i := 1) (v := .int .i64 (IntKind.i64.wrap (a.tdiv 10))) rfl (by kernel_rfl) (by kernel_rfl) (by kernel_rfl) (fun _ _ _ h => h) (Or.inl ⟨by kernel_rfl, fun v _ => by kernel_rfl⟩) hH ?_
  simp only [Act.put, List.getElem_toArray, List.getElem_cons_succ, List.getElem_cons_zero, List.setIfInBounds_toArray, List.set_cons_zero, List.set_cons_succ]
  rw [hq]
  refine wpAnyH_take (i := 3) (v := .int .i64 a) rfl (by kernel_rfl) (by kernel_rfl) (by kernel_rfl) (fun _ _ _ h => h) (Or.inl ⟨by kernel_rfl, fun v _ => by kernel_rfl⟩) hH ?_
  simp only [Act.put, List.getElem_toArray, List.getElem_cons_succ, List.getElem_cons_zero, List.setIfInBounds_toArray, List.set_cons_zero, List.set_cons_succ]
  refine wpAnyH_take (i := 4) (v := .int .i64 (a.tmod 10)) rfl (by kernel_rfl) (by kernel_rfl) (by kernel_rfl) (fun _ _ _ h => h) (Or.inl ⟨by kernel_rfl, fun v _ => by kernel_rfl⟩) hH ?_
  simp only [Act.put, List.getElem_toArray, List.getElem_cons_succ, List.getElem_cons_zero, List.setIfInBounds_toArray, List.set_cons_zero, List.set_cons_succ]
  rw [hr]
  refine wpAnyH_take (i := 5) (v := .int .i64 (IntKind.i64.wrap (48 + r))) rfl (by kernel_rfl) (by kernel_rfl) (by kernel_rfl) (fun _ _ _ h => h) (Or.inl ⟨by kernel_rfl, fun v _ => by kernel_rfl⟩) hH ?_
  simp only [Act.put, List.getElem_toArray, List.getElem_cons_succ, List.getElem_cons_zero, List.setIfInBounds_toArray, List.set_cons_zero, List.set_cons_succ]
  rw [h1]
  refine wpAnyH_take (i := 6) (v := .int .u8 (IntKind.u8.wrap (48 + r))) rfl (by kernel_rfl) (by kernel_rfl) (by kernel_rfl) (fun _ _ _ h => h) (Or.inl ⟨by kernel_rfl, fun v _ => by kernel_rfl⟩) hH ?_
  simp only [Act.put, List.getElem_toArray, List.getElem_cons_succ, List.getElem_cons_zero, List.setIfInBounds_toArray, List.set_cons_zero, List.set_cons_succ]
  rw [h2]
  refine wpAnyH_ready (rs := [2, 7]) (by kernel_rfl) (by simp) ?_
  refine AllReadyH.cons rfl (fun K hK => ?_) (AllReadyH.cons rfl (fun K hK => ?_) AllReadyH.nil)
  all_goals simp only [List.getElem_toArray, List.getElem_cons_succ, List.getElem_cons_zero]
  · skip
    refine wp_if (by kernel_rfl) ?_
    refine wp_enter (f := 45) (by kernel_rfl) (HC.out _) ?_
    rintro e w1 ⟨rfl, hbw1⟩
    refine ⟨_, rfl, hK.out _ _ (bel_trans hH hbw1) (fun h1 => ?_)⟩
    clear hK
    simp only [Act.put, List.getElem_toArray, List.getElem_cons_succ, List.getElem_cons_zero, List.setIfInBounds_toArray, List.set_cons_zero, List.set_cons_succ]
    refine wpAnyH_ready (rs := [7]) (by kernel_rfl) (by simp) ?_
    refine AllReadyH.cons rfl (fun K hK => ?_) AllReadyH.nil
    simp only [List.getElem_toArray, List.getElem_cons_succ, List.getElem_cons_zero]
    refine wp_if (by kernel_rfl) ?_
    refine wp_of_value (v := .slice (some ⟨w1.heap.size, 0, none⟩) 1 1) (w' := w1.alloc (.cells #[.int .u8 (48 + r)] 5)) (by kernel_rfl) ?_
    refine hK.out _ _ (bel_alloc h1 _) (fun h2 => ?_)
    have hcell : (w1.alloc (.cells #[.int .u8 (48 + r)] 5)).cell? ⟨w1.heap.size, 0, none⟩ = some (.int .u8 (48 + r)) := cell_new _ _
    clear hK
    simp only [Act.put, List.getElem_toArray, List.getElem_cons_succ, List.getElem_cons_zero, List.setIfInBounds_toArray, List.set_cons_zero, List.set_cons_succ]
    refine wpAnyH_ready (rs := [8]) (by kernel_rfl) (by simp) ?_
    refine AllReadyH.cons rfl (fun K hK => ?_) AllReadyH.nil
    simp only [List.getElem_toArray, List.getElem_cons_succ, List.getElem_cons_zero]
    refine wp_if (by kernel_rfl) ?_
    refine wp_of_value (v := .string (strOfNums [48 + r])) (w' := w1.alloc (.cells #[.int .u8 (48 + r)] 5)) (exec_conv (t := 84) (u := 9) (p := .tmp 17) rfl (by kernel_rfl) (convB w1.heap.size (c := 48 + r) hcell)) ?_
    refine hK.out _ _ h2 (fun h3 => ?_)
    clear hK
    simp only [Act.put, List.getElem_toArray, List.getElem_cons_succ, List.getElem_cons_zero, List.setIfInBounds_toArray, List.set_cons_zero, List.set_cons_succ]
    refine wpAnyH_take (i := 9) (v := .string (s ++ strOfNums [48 + r])) rfl (by kernel_rfl) (by kernel_rfl) (by kernel_rfl) (fun _ _ _ h => h) (Or.inl ⟨by kernel_rfl, fun v _ => exec_add s _ hz rfl (by kernel_rfl) (by kernel_rfl)⟩) h3 ?_
    simp only [Act.put, List.getElem_toArray, List.getElem_cons_succ, List.getElem_cons_zero, List.setIfInBounds_toArray, List.set_cons_zero, List.set_cons_succ]
    rw [← HR.out]
    refine wpAnyH_take (i := 10) (v := .string t) rfl (by kernel_rfl) (by kernel_rfl) (by kernel_rfl) (fun _ _ _ h => h) (Or.inl ⟨by kernel_rfl, fun v _ => by kernel_rfl⟩) h3 ?_
    simp only [Act.put, List.getElem_toArray, List.getElem_cons_succ, List.getElem_cons_zero, List.setIfInBounds_toArray, List.set_cons_zero, List.set_cons_succ]
    refine wpAnyH_done (by kernel_rfl) ?_ _
    have HX := hid h3
    clear h3 h2 h1 hH hbw1 hcell
    go_wp2
    go_ret
    exact ⟨rfl, HX.out⟩
  · skip
    refine wp_if (by kernel_rfl) ?_
    refine wp_of_value (v := .slice (some ⟨w.drew.heap.size, 0, none⟩) 1 1) (w' := w.drew.alloc (.cells #[.int .u8 (48 + r)] 5)) (by kernel_rfl) ?_
    refine hK.out _ _ (bel_alloc hH _) (fun h1 => ?_)
    have hcell : (w.drew.alloc (.cells #[.int .u8 (48 + r)] 5)).cell? ⟨w.drew.heap.size, 0, none⟩ = some (.int .u8 (48 + r)) := cell_new _ _
    clear hK
    simp only [Act.put, List.getElem_toArray, List.getElem_cons_succ, List.getElem_cons_zero, List.setIfInBounds_toArray, List.set_cons_zero, List.set_cons_succ]
    refine wpAnyH_ready (rs := [2, 8]) (by kernel_rfl) (by simp) ?_
    refine AllReadyH.cons rfl (fun K hK => ?_) (AllReadyH.cons rfl (fun K hK => ?_) AllReadyH.nil)
    all_goals simp only [List.getElem_toArray, List.getElem_cons_succ, List.getElem_cons_zero]
    · skip
      refine wp_if (by kernel_rfl) ?_
      refine wp_enter (f := 45) (by kernel_rfl) (HC.out _) ?_
      rintro e w1 ⟨rfl, hbw1⟩
      refine ⟨_, rfl, hK.out _ _ (bel_trans h1 hbw1) (fun h2 => ?_)⟩
      clear hK
      simp only [Act.put, List.getElem_toArray, List.getElem_cons_succ, List.getElem_cons_zero, List.setIfInBounds_toArray, List.set_cons_zero, List.set_cons_succ]
      have hcell1 := to_bel hbw1 hcell
      refine wpAnyH_ready (rs := [8]) (by kernel_rfl) (by simp) ?_
      refine AllReadyH.cons rfl (fun K hK => ?_) AllReadyH.nil
      simp only [List.getElem_toArray, List.getElem_cons_succ, List.getElem_cons_zero]
      refine wp_if (by kernel_rfl) ?_
      refine wp_of_value (v := .string (strOfNums [48 + r])) (w' := w1) (exec_conv (t := 84) (u := 9) (p := .tmp 17) rfl (by kernel_rfl) (convB w.drew.heap.size (c := 48 + r) hcell1)) ?_
      refine hK.out _ _ h2 (fun h3 => ?_)
      clear hK
      simp only [Act.put, List.getElem_toArray, List.getElem_cons_succ, List.getElem_cons_zero, List.setIfInBounds_toArray, List.set_cons_zero, List.set_cons_succ]
      refine wpAnyH_take (i := 9) (v := .string (s ++ strOfNums [48 + r])) rfl (by kernel_rfl) (by kernel_rfl) (by kernel_rfl) (fun _ _ _ h => h) (Or.inl ⟨by kernel_rfl, fun v _ => exec_add s _ hz rfl (by kernel_rfl) (by kernel_rfl)⟩) h3 ?_
      simp only [Act.put, List.getElem_toArray, List.getElem_cons_succ, List.getElem_cons_zero, List.setIfInBounds_toArray, List.set_cons_zero, List.set_cons_succ]
      rw [← HR.out]
      refine wpAnyH_take (i := 10) (v := .string t) rfl (by kernel_rfl) (by kernel_rfl) (by kernel_rfl) (fun _ _ _ h => h) (Or.inl ⟨by kernel_rfl, fun v _ => by kernel_rfl⟩) h3 ?_
      simp only [Act.put, List.getElem_toArray, List.getElem_cons_succ, List.getElem_cons_zero, List.setIfInBounds_toArray, List.set_cons_zero, List.set_cons_succ]
      refine wpAnyH_done (by kernel_rfl) ?_ _
      have HX := hid h3
      clear h3 h2 h1 hH hbw1 hcell hcell1
      go_wp2
      go_ret
      exact ⟨rfl, HX.out⟩
    · skip
      refine wp_if (by kernel_rfl) ?_
      refine wp_of_value (v := .string (strOfNums [48 + r])) (w' := w.drew.alloc (.cells #[.int .u8 (48 + r)] 5)) (exec_conv (t := 84) (u := 9) (p := .tmp 17) rfl (by kernel_rfl) (convB w.drew.heap.size (c := 48 + r) hcell)) ?_
      refine hK.out _ _ h1 (fun h2 => ?_)
      clear hK
      simp only [Act.put, List.getElem_toArray, List.getElem_cons_succ, List.getElem_cons_zero, List.setIfInBounds_toArray, List.set_cons_zero, List.set_cons_succ]
      refine wpAnyH_ready (rs := [2]) (by kernel_rfl) (by simp) ?_
      refine AllReadyH.cons rfl (fun K hK => ?_) AllReadyH.nil
      simp only [List.getElem_toArray, List.getElem_cons_succ, List.getElem_cons_zero]
      refine wp_if (by kernel_rfl) ?_
      refine wp_enter (f := 45) (by kernel_rfl) (HC.out _) ?_
      rintro e w1 ⟨rfl, hbw1⟩
      refine ⟨_, rfl, hK.out _ _ (bel_trans h2 hbw1) (fun h3 => ?_)⟩
      clear hK
      simp only [Act.put, List.getElem_toArray, List.getElem_cons_succ, List.getElem_cons_zero, List.setIfInBounds_toArray, List.set_cons_zero, List.set_cons_succ]
      refine wpAnyH_take (i := 9) (v := .string (s ++ strOfNums [48 + r])) rfl (by kernel_rfl) (by kernel_rfl) (by kernel_rfl) (fun _ _ _ h => h) (Or.inl ⟨by kernel_rfl, fun v _ => exec_add s _ hz rfl (by kernel_rfl) (by kernel_rfl)⟩) h3 ?_
      simp only [Act.put, List.getElem_toArray, List.getElem_cons_succ, List.getElem_cons_zero, List.setIfInBounds_toArray, List.set_cons_zero, List.set_cons_succ]
      rw [← HR.out]
      refine wpAnyH_take (i := 10) (v := .string t) rfl (by kernel_rfl) (by kernel_rfl) (by kernel_rfl) (fun _ _ _ h => h) (Or.inl ⟨by kernel_rfl, fun v _ => by kernel_rfl⟩) h3 ?_
      simp only [Act.put, List.getElem_toArray, List.getElem_cons_succ, List.getElem_cons_zero, List.setIfInBounds_toArray, List.set_cons_zero, List.set_cons_succ]
      refine wpAnyH_done (by kernel_rfl) ?_ _
      have HX := hid h3
      clear h3 h2 h1 hH hbw1 hcell
      go_wp2
      go_ret
      exact ⟨rfl, HX.out⟩
end Go.Proofs.YtdgejingoamfeaaDoor
