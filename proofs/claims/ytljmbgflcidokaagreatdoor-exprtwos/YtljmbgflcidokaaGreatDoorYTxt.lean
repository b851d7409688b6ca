/- strconv.FormatUint at base 10. The document's Digits and Whole; strconv.Itoa. Text: the program's and the document's. -/
import Derived.Test.YtljmbgflcidokaaGreatDoorQxS
import Derived.Test.YtljmbgflcidokaaGreatDoorLxPrint
import Derived.Lib.ItoaLen
import Derived.Shelf.Strconv.Itoa3
import Derived.Test.YtljmbgflcidokaaGreatDoorXAdd
import Derived.Lib.ItoaMem
import Derived.Lib.AppendIntMem
import Derived.Deep.RegionHeld3
import Derived.Deep.RegionWith
import Derived.Laws.Closers25
import Derived.Test.YtljmbgflcidokaaGreatDoorYSum
namespace Go.Proofs.YtljmbgflcidokaaGreatDoor
open Go.ChangeShapes Go.WideShapes Go.ChangeAt Go.RowKit Go.Shelf Go.Sort
open Go.ChangeShapes Go.WideShapes Go.ChangeAt Go.RowKit
set_option linter.unusedVariables false
set_option linter.unusedSimpArgs false

theorem lays171 : LaysM.n171 Tryz.prog { f := fun k => if k = 129 then 102 else if k = 171 then 31 else if k = 243 then 49 else if k = 246 then 71 else if k = 283 then 88 else if k = 284 then 89 else if k = 285 then 90 else if k = 286 then 91 else if k = 317 then 101 else if k = 318 then 103 else if k = 319 then 104 else if k = 320 then 105 else if k = 337 then 117 else if k = 338 then 118 else 0, t := fun k => if k = 37 then 116 else if k = 46 then 85 else if k = 51 then 141 else if k = 53 then 86 else if k = 171 then 123 else if k = 173 then 126 else if k = 212 then 140 else if k = 213 then 142 else if k = 232 then 161 else if k = 233 then 162 else k, g := fun k => if k = 17 then 1 else if k = 18 then 2 else if k = 19 then 3 else 0 } :=
  { mixed := by kernel_rfl
    f129 := Tryz.func102.trans (congrArg some (by kernel_rfl))
    f171 := Tryz.func31.trans (congrArg some (by kernel_rfl))
    f243 := Tryz.func49.trans (congrArg some (by kernel_rfl))
    f246 := Tryz.func71.trans (congrArg some (by kernel_rfl))
    f283 := Tryz.func88.trans (congrArg some (by kernel_rfl))
    f284 := Tryz.func89.trans (congrArg some (by kernel_rfl))
    f285 := Tryz.func90.trans (congrArg some (by kernel_rfl))
    f286 := Tryz.func91.trans (congrArg some (by kernel_rfl))
    f317 := Tryz.func101.trans (congrArg some (by kernel_rfl))
    f318 := Tryz.func103.trans (congrArg some (by kernel_rfl))
    f319 := Tryz.func104.trans (congrArg some (by kernel_rfl))
    f320 := Tryz.func105.trans (congrArg some (by kernel_rfl))
    f337 := Tryz.func117.trans (congrArg some (by kernel_rfl))
    f338 := Tryz.func118.trans (congrArg some (by kernel_rfl))
    t0 := by kernel_rfl
    a0 := fun _ => by kernel_rfl
    z0 := fun _ => by kernel_rfl
    v0 := fun _ => by kernel_rfl
    t2 := by kernel_rfl
    a2 := fun _ => by kernel_rfl
    z2 := fun _ => by kernel_rfl
    v2 := fun _ => by kernel_rfl
    t3 := by kernel_rfl
    a3 := fun _ => by kernel_rfl
    z3 := fun _ => by kernel_rfl
    v3 := fun _ => by kernel_rfl
    t4 := by kernel_rfl
    a4 := fun _ => by kernel_rfl
    z4 := fun _ => by kernel_rfl
    v4 := fun _ => by kernel_rfl
    t5 := by kernel_rfl
    a5 := fun _ => by kernel_rfl
    z5 := fun _ => by kernel_rfl
    v5 := fun _ => by kernel_rfl
    t9 := by kernel_rfl
    a9 := fun _ => by kernel_rfl
    z9 := fun _ => by kernel_rfl
    v9 := fun _ => by kernel_rfl
    t20 := by kernel_rfl
    a20 := fun _ => by kernel_rfl
    z20 := fun _ => by kernel_rfl
    v20 := fun _ => by kernel_rfl
    t37 := by kernel_rfl
    a37 := fun _ => by kernel_rfl
    z37 := fun _ => by kernel_rfl
    v37 := fun _ => by kernel_rfl
    t46 := by kernel_rfl
    a46 := fun _ => by kernel_rfl
    z46 := fun _ => by kernel_rfl
    v46 := fun _ => by kernel_rfl
    t51 := by kernel_rfl
    a51 := fun _ => by kernel_rfl
    z51 := fun _ => by kernel_rfl
    v51 := fun _ => by kernel_rfl
    t53 := by kernel_rfl
    a53 := fun _ => by kernel_rfl
    z53 := fun _ => by kernel_rfl
    v53 := fun _ => by kernel_rfl
    t171 := by kernel_rfl
    a171 := fun _ => by kernel_rfl
    z171 := fun _ => by kernel_rfl
    v171 := fun _ => by kernel_rfl
    t173 := by kernel_rfl
    a173 := fun _ => by kernel_rfl
    z173 := fun _ => by kernel_rfl
    v173 := fun _ => by kernel_rfl
    t212 := by kernel_rfl
    a212 := fun _ => by kernel_rfl
    z212 := fun _ => by kernel_rfl
    v212 := fun _ => by kernel_rfl
    t213 := by kernel_rfl
    a213 := fun _ => by kernel_rfl
    z213 := fun _ => by kernel_rfl
    t232 := by kernel_rfl
    a232 := fun _ => by kernel_rfl
    z232 := fun _ => by kernel_rfl
    v232 := fun _ => by kernel_rfl
    t233 := by kernel_rfl
    a233 := fun _ => by kernel_rfl
    z233 := fun _ => by kernel_rfl
    v233 := fun _ => by kernel_rfl
    g17 := by kernel_rfl
    g18 := by kernel_rfl
    g19 := by kernel_rfl
    i0 := by kernel_rfl
    i2 := by kernel_rfl
    i3 := by kernel_rfl
    i4 := by kernel_rfl
    i5 := by kernel_rfl
    i9 := by kernel_rfl
    i20 := by kernel_rfl
    i37 := by kernel_rfl
    i46 := by kernel_rfl
    i51 := by kernel_rfl
    i53 := by kernel_rfl
    i171 := by kernel_rfl
    i173 := by kernel_rfl
    i212 := by kernel_rfl
    i232 := by kernel_rfl
    i233 := by kernel_rfl
    m17 := by kernel_rfl
    m18 := by kernel_rfl
    m19 := by kernel_rfl }


theorem ddig : ∀ (f n : Nat), n < 10 ^ f → 1 ≤ f → Lib.decDigits n = digF f n
  | 0, n, _, h => by omega
  | f + 1, n, hn, _ => by
    rw [Lib.decDigits]
    show _ = if n < 10 then [UInt8.ofNat (48 + n)] else digF f (n / 10) ++ [UInt8.ofNat (48 + n % 10)]
    by_cases h : n < 10
    · rw [dif_pos h, if_pos h]
    · rw [dif_neg h, if_neg h]
      have h1 : n / 10 < 10 ^ f := by rw [Nat.pow_succ] at hn; omega
      have h2 : 1 ≤ f := by
        rcases Nat.eq_zero_or_pos f with e | e
        · subst e; simp at hn; omega
        · exact e
      rw [ddig f (n / 10) h1 h2]
theorem dec_digM (n : Nat) (h : n < 18446744073709551616) : Lib.decDigits n = digM n := ddig 20 n (by omega) (by omega)


def i64 (n : Int) : Prop := -9223372036854775808 ≤ n ∧ n ≤ 9223372036854775807
theorem hid {p : Prop} (h : p) : Hid p := ⟨h⟩
theorem ret_str {a b : ByteArray} (h : a = b) : Ending.returned (.string a) = .returned (.string b) := by rw [h]
abbrev itoaS (n : Int) : ByteArray := ⟨(Lib.itoa n).toArray⟩
theorem bel_grow (w : World) (os : Array Obj) : Below w.heap.size w (Sort.grow w os) :=
  ⟨rfl, rfl, rfl, by simp [Sort.grow], fun k hk => by simp [Sort.grow, Array.getElem?_append_left hk]⟩
abbrev digS (u : Nat) : ByteArray := ⟨(Lib.decDigits u).toArray⟩

theorem conv1 (w : World) (c : Int) : (convert 116 9 (.slice (some ⟨w.heap.size, 0, none⟩) 1 1)).run Tryz.prog (w.alloc (.cells #[.int .u8 c] 5)) = .ok (.string (strOfNums [c])) (w.alloc (.cells #[.int .u8 c] 5)) :=
  run_convert_bytes_arg (P := Tryz.prog) _ 116 5 Tryz.underlying116 Tryz.underlying5 w.heap.size 0 1 1 [c] rfl (fun i hi => by
    obtain rfl : i = 0 := by omega
    simp) 9 Tryz.underlying9

set_option maxRecDepth 4000 in
theorem digits_small (a : Int) (h0 : 0 ≤ a) (h1 : a < 10) (s : ByteArray) (HR : Hid (s = ⟨#[UInt8.ofNat (48 + a.toNat)]⟩)) (w : World) :
    Calls Tryz.prog 50 #[.int .i64 a] w fun e w' => e = .returned (.string s) ∧ Below w.heap.size w w' := by
  have CV := conv1 w (48 + a)
  go_enter Tryz.func50, Tryz.ntmps50
  go_wp2
  go_ret
  exact ⟨ret_str (by rw [HR.out]; show (⟨#[UInt8.ofNat (48 + a).toNat]⟩ : ByteArray) = _; rw [show (48 + a).toNat = 48 + a.toNat by omega]), bel_alloc (Below.refl _ _) _⟩

/-- An operation that gives its value at once, in a region that draws. -/
theorem wp_of_value {o : Oper} {a : Act} {w w' : World} {K : Act → World → Prop} {Q : Exit → Act → World → Prop} {v : Value}
    (hx : (execOp a.eval o).run Tryz.prog w = .ok (.value v) w') (h : K (a.put o.dst v) w') : o.wp Tryz.prog a w K Q := by
  unfold Oper.wp
  rw [hx, Oper.upon_value]
  exact h

theorem wp_if {c : Prop} [Decidable c] {p q : Prop} (hc : c) (h : p) : if c then p else q := by rw [if_pos hc]; exact h

/-- A call in a region that draws. -/
theorem wp_enter {o : Oper} {a : Act} {w : World} {K : Act → World → Prop} {Q : Exit → Act → World → Prop} {f : FuncId} {args : Array Value} {R : Ending → World → Prop}
    (hx : (execOp a.eval o).run Tryz.prog w = .ok (.enter f args) w) (hc : Calls Tryz.prog f args w R) (h : ∀ e w', R e w' → ∃ v, e = .returned v ∧ K (a.put o.dst v) w') : o.wp Tryz.prog a w K Q := by
  unfold Oper.wp
  rw [hx, Oper.upon_enter]
  refine hc.mono ?_
  intro e w' hr
  obtain ⟨v, rfl, hk⟩ := h e w' hr
  exact hk
theorem exec_conv {t u : TypeId} {p : Operand} {y x : Value} {o : Oper} {a : Act} {w : World} (ho : o.op = .convert t u p) (he : a.eval p = y) (hy : (convert t u y).run Tryz.prog w = .ok x w) :
    (execOp a.eval o).run Tryz.prog w = .ok (.value x) w := by
  unfold execOp
  simp only [ho, he, hy, Sem.run_bind, Sem.run_pure, Result.andThen_ok]
theorem guard_add (x y : Operand) (s t : ByteArray) (w : World) : (eqGuard .add 9 x y (.string s) (.string t)).run Tryz.prog w = .ok () w := by kernel_rfl
theorem binop_add (s t : ByteArray) (w : World) : (binOp .add 9 (.string s) (.string t)).run Tryz.prog w = (Op.stringOp .add s t).run Tryz.prog w := by kernel_rfl
theorem exec_add (s t : ByteArray) {o : Oper} {a : Act} {w : World} {x y : Operand} {k : TypeId} (h : s.size + t.size ≤ 9223372036854775807) (ho : o.op = .binOp .add 9 x y k) (hx : a.eval x = .string s) (hy : a.eval y = .string t) :
    (execOp a.eval o).run Tryz.prog w = .ok (.value (.string (s ++ t))) w := by
  unfold execOp
  simp only [ho, hx, hy, Sem.run_bind, Sem.run_pure, Result.andThen_ok, guard_add, binop_add, run_string_add_sum w s t h]
theorem cell_new (v : World) (c : Int) : (v.alloc (.cells #[.int .u8 c] 5)).cell? ⟨v.heap.size, 0, none⟩ = some (.int .u8 c) := by simp

theorem convB {w : World} {c : Int} (b : Nat) (h : w.cell? ⟨b, 0, none⟩ = some (.int .u8 c)) : (convert 116 9 (.slice (some ⟨b, 0, none⟩) 1 1)).run Tryz.prog w = .ok (.string (strOfNums [c])) w :=
  run_convert_bytes_arg (P := Tryz.prog) _ 116 5 Tryz.underlying116 Tryz.underlying5 b 0 1 1 [c] rfl (fun i hi => by
    obtain rfl : i = 0 := by omega
    simpa using h) 9 Tryz.underlying9

set_option maxRecDepth 4000 in
theorem digits_big (a q r : Int) (h0 : 10 ≤ a) (hq : IntKind.i64.wrap (a.tdiv 10) = q) (hr : a.tmod 10 = r) (h1 : IntKind.i64.wrap (48 + r) = 48 + r) (h2 : IntKind.u8.wrap (48 + r) = 48 + r) (s t : ByteArray) (hs : s.size ≤ 100)
    (HC : Hid (∀ v, Calls Tryz.prog 50 #[.int .i64 q] v fun e w' => e = .returned (.string s) ∧ Below v.heap.size v w'))
    (HR : Hid (t = s ++ strOfNums [48 + r])) (w : World) :
    Calls Tryz.prog 50 #[.int .i64 a] w fun e w' => e = .returned (.string t) ∧ Below w.heap.size w w' := by
  have hz : s.size + (strOfNums [48 + r]).size ≤ 9223372036854775807 := by
    have : (strOfNums [48 + r]).size = 1 := rfl
    omega
  go_enter Tryz.func50, Tryz.ntmps50
  go_wp2
  refine wp_region_held_drew (S := fun v => Below w.heap.size w v) (by kernel_rfl) ((Below.refl _ _).drew) (fun hH => ?_)
  refine wpAnyH_take (i := 0) (v := .int .i64 a) rfl (by kernel_rfl) (by kernel_rfl) (by kernel_rfl) (fun _ _ _ h => h) (Or.inl ⟨by kernel_rfl, fun v _ => by kernel_rfl⟩) hH ?_
  simp only [Act.put, List.getElem_toArray, List.getElem_cons_succ, List.getElem_cons_zero, List.setIfInBounds_toArray, List.set_cons_zero, List.set_cons_succ]
  refine wpAnyH_take (i := 1) (v := .int .i64 (IntKind.i64.wrap (a.tdiv 10))) rfl (by kernel_rfl) (by kernel_rfl) (by kernel_rfl) (fun _ _ _ h => h) (Or.inl ⟨by kernel_rfl, fun v _ => by kernel_rfl⟩) hH ?_
  simp only [Act.put, List.getElem_toArray, List.getElem_cons_succ, List.getElem_cons_zero, List.setIfInBounds_toArray, List.set_cons_zero, List.set_cons_succ]
  rw [hq]
  refine wpAnyH_take (i := 3) (v := .int .i64 a) rfl (by kernel_rfl) (by kernel_rfl) (by kernel_rfl) (fun _ _ _ h => h) (Or.inl ⟨by kernel_rfl, fun v _ => by kernel_rfl⟩) hH ?_
  simp only [Act.put, List.getElem_toArray, List.getElem_cons_succ, List.getElem_cons_zero, List.setIfInBounds_toArray, List.set_cons_zero, List.set_cons_succ]
  refine wpAnyH_take (i := 4) (v := .int .i64 (a.tmod 10)) rfl (by kernel_rfl) (by kernel_rfl) (by kernel_rfl) (fun _ _ _ h => h) (Or.inl ⟨by kernel_rfl, fun v _ => by kernel_rfl⟩) hH ?_
  simp only [Act.put, List.getElem_toArray, List.getElem_cons_succ, List.getElem_cons_zero, List.setIfInBounds_toArray, List.set_cons_zero, List.set_cons_succ]
  rw [hr]
  refine wpAnyH_take (i := 5) (v := .int .i64 (IntKind.i64.wrap (48 + r))) rfl (by kernel_rfl) (by kernel_rfl) (by kernel_rfl) (fun _ _ _ h => h) (Or.inl ⟨by kernel_rfl, fun v _ => by kernel_rfl⟩) hH ?_
  simp only [Act.put, List.getElem_toArray, List.getElem_cons_succ, List.getElem_cons_zero, List.setIfInBounds_toArray, List.set_cons_zero, List.set_cons_succ]
  rw [h1]
  refine wpAnyH_take (i := 6) (v := .int .u8 (IntKind.u8.wrap (48 + r))) rfl (by kernel_rfl) (by kernel_rfl) (by kernel_rfl) (fun _ _ _ h => h) (Or.inl ⟨by kernel_rfl, fun v _ => by kernel_rfl⟩) hH ?_
  simp only [Act.put, List.getElem_toArray, List.getElem_cons_succ, List.getElem_cons_zero, List.setIfInBounds_toArray, List.set_cons_zero, List.set_cons_succ]
  rw [h2]
  refine wpAnyH_ready (rs := [2, 7]) (by kernel_rfl) (by simp) ?_
  refine AllReadyH.cons rfl (fun K hK => ?_) (AllReadyH.cons rfl (fun K hK => ?_) AllReadyH.nil)
  all_goals simp only [List.getElem_toArray, List.getElem_cons_succ, List.getElem_cons_zero]
  · skip
    refine wp_if (by kernel_rfl) ?_
    refine wp_enter (f := 50) (by kernel_rfl) (HC.out _) ?_
    rintro e w1 ⟨rfl, hbw1⟩
    refine ⟨_, rfl, hK.out _ _ (bel_trans hH hbw1) (fun h1 => ?_)⟩
    clear hK
    simp only [Act.put, List.getElem_toArray, List.getElem_cons_succ, List.getElem_cons_zero, List.setIfInBounds_toArray, List.set_cons_zero, List.set_cons_succ]
    refine wpAnyH_ready (rs := [7]) (by kernel_rfl) (by simp) ?_
    refine AllReadyH.cons rfl (fun K hK => ?_) AllReadyH.nil
    simp only [List.getElem_toArray, List.getElem_cons_succ, List.getElem_cons_zero]
    refine wp_if (by kernel_rfl) ?_
    refine wp_of_value (v := .slice (some ⟨w1.heap.size, 0, none⟩) 1 1) (w' := w1.alloc (.cells #[.int .u8 (48 + r)] 5)) (by kernel_rfl) ?_
    refine hK.out _ _ (bel_alloc h1 _) (fun h2 => ?_)
    have hcell : (w1.alloc (.cells #[.int .u8 (48 + r)] 5)).cell? ⟨w1.heap.size, 0, none⟩ = some (.int .u8 (48 + r)) := cell_new _ _
    clear hK
    simp only [Act.put, List.getElem_toArray, List.getElem_cons_succ, List.getElem_cons_zero, List.setIfInBounds_toArray, List.set_cons_zero, List.set_cons_succ]
    refine wpAnyH_ready (rs := [8]) (by kernel_rfl) (by simp) ?_
    refine AllReadyH.cons rfl (fun K hK => ?_) AllReadyH.nil
    simp only [List.getElem_toArray, List.getElem_cons_succ, List.getElem_cons_zero]
    refine wp_if (by kernel_rfl) ?_
    refine wp_of_value (v := .string (strOfNums [48 + r])) (w' := w1.alloc (.cells #[.int .u8 (48 + r)] 5)) (exec_conv (t := 116) (u := 9) (p := .tmp 17) rfl (by kernel_rfl) (convB w1.heap.size (c := 48 + r) hcell)) ?_
    refine hK.out _ _ h2 (fun h3 => ?_)
    clear hK
    simp only [Act.put, List.getElem_toArray, List.getElem_cons_succ, List.getElem_cons_zero, List.setIfInBounds_toArray, List.set_cons_zero, List.set_cons_succ]
    refine wpAnyH_take (i := 9) (v := .string (s ++ strOfNums [48 + r])) rfl (by kernel_rfl) (by kernel_rfl) (by kernel_rfl) (fun _ _ _ h => h) (Or.inl ⟨by kernel_rfl, fun v _ => exec_add s _ hz rfl (by kernel_rfl) (by kernel_rfl)⟩) h3 ?_
    simp only [Act.put, List.getElem_toArray, List.getElem_cons_succ, List.getElem_cons_zero, List.setIfInBounds_toArray, List.set_cons_zero, List.set_cons_succ]
    rw [← HR.out]
    refine wpAnyH_take (i := 10) (v := .string t) rfl (by kernel_rfl) (by kernel_rfl) (by kernel_rfl) (fun _ _ _ h => h) (Or.inl ⟨by kernel_rfl, fun v _ => by kernel_rfl⟩) h3 ?_
    simp only [Act.put, List.getElem_toArray, List.getElem_cons_succ, List.getElem_cons_zero, List.setIfInBounds_toArray, List.set_cons_zero, List.set_cons_succ]
    refine wpAnyH_done (by kernel_rfl) ?_ _
    have HX := hid h3
    clear h3 h2 h1 hH hbw1 hcell
    go_wp2
    go_ret
    exact ⟨rfl, HX.out⟩
  · skip
    refine wp_if (by kernel_rfl) ?_
    refine wp_of_value (v := .slice (some ⟨w.drew.heap.size, 0, none⟩) 1 1) (w' := w.drew.alloc (.cells #[.int .u8 (48 + r)] 5)) (by kernel_rfl) ?_
    refine hK.out _ _ (bel_alloc hH _) (fun h1 => ?_)
    have hcell : (w.drew.alloc (.cells #[.int .u8 (48 + r)] 5)).cell? ⟨w.drew.heap.size, 0, none⟩ = some (.int .u8 (48 + r)) := cell_new _ _
    clear hK
    simp only [Act.put, List.getElem_toArray, List.getElem_cons_succ, List.getElem_cons_zero, List.setIfInBounds_toArray, List.set_cons_zero, List.set_cons_succ]
    refine wpAnyH_ready (rs := [2, 8]) (by kernel_rfl) (by simp) ?_
    refine AllReadyH.cons rfl (fun K hK => ?_) (AllReadyH.cons rfl (fun K hK => ?_) AllReadyH.nil)
    all_goals simp only [List.getElem_toArray, List.getElem_cons_succ, List.getElem_cons_zero]
    · skip
      refine wp_if (by kernel_rfl) ?_
      refine wp_enter (f := 50) (by kernel_rfl) (HC.out _) ?_
      rintro e w1 ⟨rfl, hbw1⟩
      refine ⟨_, rfl, hK.out _ _ (bel_trans h1 hbw1) (fun h2 => ?_)⟩
      clear hK
      simp only [Act.put, List.getElem_toArray, List.getElem_cons_succ, List.getElem_cons_zero, List.setIfInBounds_toArray, List.set_cons_zero, List.set_cons_succ]
      have hcell1 := to_bel hbw1 hcell
      refine wpAnyH_ready (rs := [8]) (by kernel_rfl) (by simp) ?_
      refine AllReadyH.cons rfl (fun K hK => ?_) AllReadyH.nil
      simp only [List.getElem_toArray, List.getElem_cons_succ, List.getElem_cons_zero]
      refine wp_if (by kernel_rfl) ?_
      refine wp_of_value (v := .string (strOfNums [48 + r])) (w' := w1) (exec_conv (t := 116) (u := 9) (p := .tmp 17) rfl (by kernel_rfl) (convB w.drew.heap.size (c := 48 + r) hcell1)) ?_
      refine hK.out _ _ h2 (fun h3 => ?_)
      clear hK
      simp only [Act.put, List.getElem_toArray, List.getElem_cons_succ, List.getElem_cons_zero, List.setIfInBounds_toArray, List.set_cons_zero, List.set_cons_succ]
      refine wpAnyH_take (i := 9) (v := .string (s ++ strOfNums [48 + r])) rfl (by kernel_rfl) (by kernel_rfl) (by kernel_rfl) (fun _ _ _ h => h) (Or.inl ⟨by kernel_rfl, fun v _ => exec_add s _ hz rfl (by kernel_rfl) (by kernel_rfl)⟩) h3 ?_
      simp only [Act.put, List.getElem_toArray, List.getElem_cons_succ, List.getElem_cons_zero, List.setIfInBounds_toArray, List.set_cons_zero, List.set_cons_succ]
      rw [← HR.out]
      refine wpAnyH_take (i := 10) (v := .string t) rfl (by kernel_rfl) (by kernel_rfl) (by kernel_rfl) (fun _ _ _ h => h) (Or.inl ⟨by kernel_rfl, fun v _ => by kernel_rfl⟩) h3 ?_
      simp only [Act.put, List.getElem_toArray, List.getElem_cons_succ, List.getElem_cons_zero, List.setIfInBounds_toArray, List.set_cons_zero, List.set_cons_succ]
      refine wpAnyH_done (by kernel_rfl) ?_ _
      have HX := hid h3
      clear h3 h2 h1 hH hbw1 hcell hcell1
      go_wp2
      go_ret
      exact ⟨rfl, HX.out⟩
    · skip
      refine wp_if (by kernel_rfl) ?_
      refine wp_of_value (v := .string (strOfNums [48 + r])) (w' := w.drew.alloc (.cells #[.int .u8 (48 + r)] 5)) (exec_conv (t := 116) (u := 9) (p := .tmp 17) rfl (by kernel_rfl) (convB w.drew.heap.size (c := 48 + r) hcell)) ?_
      refine hK.out _ _ h1 (fun h2 => ?_)
      clear hK
      simp only [Act.put, List.getElem_toArray, List.getElem_cons_succ, List.getElem_cons_zero, List.setIfInBounds_toArray, List.set_cons_zero, List.set_cons_succ]
      refine wpAnyH_ready (rs := [2]) (by kernel_rfl) (by simp) ?_
      refine AllReadyH.cons rfl (fun K hK => ?_) AllReadyH.nil
      simp only [List.getElem_toArray, List.getElem_cons_succ, List.getElem_cons_zero]
      refine wp_if (by kernel_rfl) ?_
      refine wp_enter (f := 50) (by kernel_rfl) (HC.out _) ?_
      rintro e w1 ⟨rfl, hbw1⟩
      refine ⟨_, rfl, hK.out _ _ (bel_trans h2 hbw1) (fun h3 => ?_)⟩
      clear hK
      simp only [Act.put, List.getElem_toArray, List.getElem_cons_succ, List.getElem_cons_zero, List.setIfInBounds_toArray, List.set_cons_zero, List.set_cons_succ]
      refine wpAnyH_take (i := 9) (v := .string (s ++ strOfNums [48 + r])) rfl (by kernel_rfl) (by kernel_rfl) (by kernel_rfl) (fun _ _ _ h => h) (Or.inl ⟨by kernel_rfl, fun v _ => exec_add s _ hz rfl (by kernel_rfl) (by kernel_rfl)⟩) h3 ?_
      simp only [Act.put, List.getElem_toArray, List.getElem_cons_succ, List.getElem_cons_zero, List.setIfInBounds_toArray, List.set_cons_zero, List.set_cons_succ]
      rw [← HR.out]
      refine wpAnyH_take (i := 10) (v := .string t) rfl (by kernel_rfl) (by kernel_rfl) (by kernel_rfl) (fun _ _ _ h => h) (Or.inl ⟨by kernel_rfl, fun v _ => by kernel_rfl⟩) h3 ?_
      simp only [Act.put, List.getElem_toArray, List.getElem_cons_succ, List.getElem_cons_zero, List.setIfInBounds_toArray, List.set_cons_zero, List.set_cons_succ]
      refine wpAnyH_done (by kernel_rfl) ?_ _
      have HX := hid h3
      clear h3 h2 h1 hH hbw1 hcell
      go_wp2
      go_ret
      exact ⟨rfl, HX.out⟩
theorem digS_size (u : Nat) (h : u ≤ 9223372036854775807) : (digS u).size ≤ 21 := by
  have := Lib.itoa_length_le (u : Int) (by omega) (by omega)
  rw [Lib.itoa_nonneg] at this
  simpa [digS, ByteArray.size] using this

theorem digS_small (u : Nat) (h : u < 10) : digS u = ⟨#[UInt8.ofNat (48 + u)]⟩ := by
  unfold digS; rw [Lib.decDigits_one h]
theorem digS_big (u : Nat) (h : ¬ u < 10) : digS u = digS (u / 10) ++ strOfNums [48 + ((u % 10 : Nat) : Int)] := by
  have e : strOfNums [48 + ((u % 10 : Nat) : Int)] = ⟨#[UInt8.ofNat (48 + u % 10)]⟩ := by
    show (⟨#[UInt8.ofNat (48 + ((u % 10 : Nat) : Int)).toNat]⟩ : ByteArray) = _
    rw [show (48 + ((u % 10 : Nat) : Int)).toNat = 48 + u % 10 by omega]
  rw [e]
  unfold digS
  rw [Lib.decDigits, dif_neg h]
  apply ByteArray.ext
  simp

theorem digits_any (u : Nat) (h : u ≤ 9223372036854775807) (w : World) :
    Calls Tryz.prog 50 #[.int .i64 (u : Int)] w fun e w' => e = .returned (.string (digS u)) ∧ Below w.heap.size w w' := by
  induction u using Nat.strongRecOn generalizing w with
  | ind u ih =>
    by_cases hu : u < 10
    · exact digits_small (u : Int) (by omega) (by omega) _ ⟨by rw [digS_small u hu]; simp⟩ w
    · have hq : (u : Int).tdiv 10 = ((u / 10 : Nat) : Int) := by
        rw [Int.tdiv_eq_ediv_of_nonneg (by omega)]; omega
      have hr : (u : Int).tmod 10 = ((u % 10 : Nat) : Int) := by
        rw [Int.tmod_eq_emod_of_nonneg (by omega)]; omega
      have hs := digS_size (u / 10) (by omega)
      refine digits_big (u : Int) ((u / 10 : Nat) : Int) ((u % 10 : Nat) : Int) (by omega) ?_ hr ?_ ?_ (digS (u / 10)) _ (by omega) ⟨fun v => ih (u / 10) (by omega) (by omega) v⟩ ⟨digS_big u hu⟩ w
      · rw [hq, IntKind.wrap_i64]; omega
      · rw [IntKind.wrap_i64]; omega
      · have : u % 10 < 10 := Nat.mod_lt _ (by omega)
        rw [IntKind.wrap_u8']; omega

theorem itoa_pos (n : Int) (h : 0 ≤ n) : itoaS n = digS n.toNat := by
  unfold itoaS digS Lib.itoa; rw [if_neg (by omega)]
theorem itoa_low (n : Int) (h : n < 0) : itoaS n = ⟨#[45]⟩ ++ digS n.natAbs := by
  unfold itoaS digS Lib.itoa; rw [if_pos h]
  apply ByteArray.ext
  simp

set_option maxHeartbeats 1000000 in
theorem refWhole_any (n : Int) (h : i64 n) (w : World) :
    Calls Tryz.prog 32 #[.int .i64 n] w fun e w' => e = .returned (.string (itoaS n)) ∧ Below w.heap.size w w' := by
  obtain ⟨l, u⟩ := h
  have HD : Hid (∀ (k : Nat) v, k ≤ 9223372036854775807 → Calls Tryz.prog 50 #[.int .i64 (k : Int)] v fun e w' => e = .returned (.string (digS k)) ∧ Below v.heap.size v w') := ⟨fun k v hk => digits_any k hk v⟩
  by_cases h0 : 0 ≤ n
  · have HR := hid (itoa_pos n h0)
    obtain ⟨m, rfl⟩ := Int.eq_ofNat_of_zero_le h0
    rw [Int.toNat_natCast] at HR
    generalize itoaS (m : Int) = z at *
    go_enter Tryz.func32, Tryz.ntmps32
    go_wp2_with (go_at_call 50; refine (HD.out m _ (by omega)).mono ?_; rintro e w1 ⟨rfl, hb⟩)
    go_ret
    exact ⟨ret_str HR.out.symm, hb⟩
  · have HR := hid (itoa_low n (by omega))
    obtain ⟨m, hm, hn⟩ : ∃ m : Nat, 1 ≤ m ∧ n = -(m : Int) := ⟨n.natAbs, by omega, by omega⟩
    subst hn
    rw [Int.natAbs_neg, Int.natAbs_natCast] at HR
    generalize itoaS (-(m : Int)) = z at *
    by_cases h1 : m < 10
    · have hz := digS_size m (by omega)
      have HC : Hid (∀ v, Calls Tryz.prog 50 #[.int .i64 (m : Int)] v fun e w' => e = .returned (.string (digS m)) ∧ Below v.heap.size v w') := ⟨fun v => HD.out m v (by omega)⟩
      generalize digS m = d at *
      have k1 : (⟨#[45]⟩ : ByteArray).size = 1 := rfl
      go_enter Tryz.func32, Tryz.ntmps32
      go_wp2_with (go_at_call 50; refine (HC.out _).mono ?_; rintro e w1 ⟨rfl, hb⟩)
      go_ret
      exact ⟨ret_str HR.out.symm, hb⟩
    · have hz := digS_size (m / 10) (by omega)
      have hy := digS_size (m % 10) (by omega)
      have HC : Hid (∀ v, Calls Tryz.prog 50 #[.int .i64 ((m : Int) / 10)] v fun e w' => e = .returned (.string (digS (m / 10))) ∧ Below v.heap.size v w') := ⟨fun v => HD.out (m / 10) v (by omega)⟩
      have HE : Hid (∀ v, Calls Tryz.prog 50 #[.int .i64 ((m : Int) % 10)] v fun e w' => e = .returned (.string (digS (m % 10))) ∧ Below v.heap.size v w') := ⟨fun v => HD.out (m % 10) v (by omega)⟩
      have HS : Hid (z = ⟨#[45]⟩ ++ digS (m / 10) ++ digS (m % 10)) := ⟨by
        rw [HR.out, digS_big m h1, ByteArray.append_assoc, digS_small (m % 10) (by omega)]
        show _ = (⟨#[45]⟩ : ByteArray) ++ (digS (m / 10) ++ _)
        congr 2⟩
      clear HD HR
      generalize digS (m / 10) = d at *
      generalize digS (m % 10) = f at *
      have k1 : (⟨#[45]⟩ : ByteArray).size = 1 := rfl
      have A1 : ∀ v, (Op.stringOp .add ⟨#[45]⟩ d).run Tryz.prog v = .ok (.string (⟨#[45]⟩ ++ d)) v := fun v => run_string_add_sum v _ _ (by omega)
      have A2 : ∀ v, (Op.stringOp .add (⟨#[45]⟩ ++ d) f).run Tryz.prog v = .ok (.string (⟨#[45]⟩ ++ d ++ f)) v := fun v => run_string_add_sum v _ _ (by simp only [ByteArray.size_append]; omega)
      clear hz hy
      go_enter Tryz.func32, Tryz.ntmps32
      go_wp2_with (first
        | (have _ := hb; go_at_call 50; refine (HE.out _).mono ?_; rintro e w2 ⟨rfl, hb2⟩)
        | (go_at_call 50; refine (HC.out _).mono ?_; rintro e w1 ⟨rfl, hb⟩))
      go_ret
      exact ⟨ret_str HS.out.symm, bel_trans hb hb2⟩

theorem itoa_any (n : Int) (w : World) (h0 : -9223372036854775808 ≤ n) (h1 : n ≤ 9223372036854775807) (hw : Er w) :
    Calls Tryz.prog 31 #[.int .i64 n] w fun e w' => e = .returned (.string (itoaS n)) ∧ Below w.heap.size w w' := by
  refine (Any.strconv_Itoa lays171 n h0 h1 w hw.tb).mono ?_
  rintro e w' ⟨he, k, os, rfl⟩
  refine ⟨he, ?_⟩
  have h2 := below_drewN (Below.refl w.heap.size w) k
  exact bel_trans h2 (bel_grow _ _)

/-- The names of a value's text. -/
def namesV (v : Vx) : ByteArray := if sB v.m es = true then v.p else v.p ++ (⟨#[45]⟩ ++ v.m)
def textN (N : ByteArray) (n : Int) : ByteArray := if sB N es = true then itoaS n else if n = 0 then N else if 0 < n then N ++ ⟨#[43]⟩ ++ itoaS n else N ++ itoaS n
/-- A value's text. -/
def textV (v : Vx) : ByteArray := textN (namesV v) v.n
theorem itoaS_size (n : Int) (h : i64 n) : (itoaS n).size ≤ 21 := by
  have := Lib.itoa_length_le n h.1 h.2
  show (Lib.itoa n).toArray.size ≤ 21
  simp only [List.size_toArray]
  omega
theorem names_size (v : Vx) (h : v.Ok) : (namesV v).size ≤ 562949953421313 := by
  unfold namesV
  have h1 := h.p
  have h2 := h.m
  split
  · omega
  · rw [ByteArray.size_append, ByteArray.size_append]
    have : (⟨#[45]⟩ : ByteArray).size = 1 := rfl
    omega
theorem names_ne (p m : ByteArray) : sB (p ++ (⟨#[45]⟩ ++ m)) es = false := by
  rw [sB_false]
  intro e
  have := congrArg ByteArray.size e
  rw [ByteArray.size_append, ByteArray.size_append, es_size] at this
  have h1 : (⟨#[45]⟩ : ByteArray).size = 1 := rfl
  omega
theorem names_as (p m : ByteArray) : p ++ ⟨#[45]⟩ ++ m = p ++ (⟨#[45]⟩ ++ m) := ByteArray.append_assoc

set_option maxRecDepth 20000 in
set_option maxHeartbeats 4000000 in
theorem text_any (p m : ByteArray) (n : Int) (hv : (⟨p, m, n⟩ : Vx).Ok) (hn : i64 n) (w : World) (hE : Er w) : Calls Tryz.prog 21 #[.agg #[.string p, .string m, .int .i64 n]] w fun e w' => e = .returned (.string (textV ⟨p, m, n⟩)) ∧ Below w.heap.size w w' := by
  have HV : Hid (VB (w.alloc (.cells #[.string p, .string m, .int .i64 n] 27)) w.heap.size p m n ∧ Below w.heap.size w (w.alloc (.cells #[.string p, .string m, .int .i64 n] 27))) := ⟨VB.new w p m n, bel_alloc (Below.refl _ _) _⟩
  have HI : Hid (∀ v, Below w.heap.size w v → Calls Tryz.prog 31 #[.int .i64 n] v fun e w' => e = .returned (.string (itoaS n)) ∧ Below v.heap.size v w') := ⟨fun v hb => itoa_any n v hn.1 hn.2 (hE.bel hb)⟩
  clear hE
  have hz := itoaS_size n hn
  have hN := names_size _ hv
  have k1 : (⟨#[45]⟩ : ByteArray).size = 1 := rfl
  have k2 : (⟨#[43]⟩ : ByteArray).size = 1 := rfl
  have k3 := hv.p
  have k4 := hv.m
  simp only at k3 k4
  unfold textV
  simp only
  obtain ⟨N, hNN⟩ : ∃ N, namesV ⟨p, m, n⟩ = N := ⟨_, rfl⟩
  rw [hNN] at hN ⊢
  obtain ⟨X, hX⟩ : ∃ X, textN N n = X := ⟨_, rfl⟩
  rw [hX]
  unfold textN at hX
  have HX : Hid _ := ⟨hX⟩
  clear hX
  generalize itoaS n = z at *
  have A3 : ∀ v, (Op.stringOp .add N ⟨#[43]⟩).run Tryz.prog v = .ok (.string (N ++ ⟨#[43]⟩)) v := fun v => run_string_add_sum v _ _ (by omega)
  have A4 : ∀ v, (Op.stringOp .add (N ++ ⟨#[43]⟩) z).run Tryz.prog v = .ok (.string (N ++ ⟨#[43]⟩ ++ z)) v := fun v => run_string_add_sum v _ _ (by rw [ByteArray.size_append]; omega)
  have A5 : ∀ v, (Op.stringOp .add N z).run Tryz.prog v = .ok (.string (N ++ z)) v := fun v => run_string_add_sum v _ _ (by omega)
  have A1 : ∀ v, (Op.stringOp .add ⟨#[45]⟩ m).run Tryz.prog v = .ok (.string (⟨#[45]⟩ ++ m)) v := fun v => run_string_add_sum v _ _ (by omega)
  have A2 : ∀ v, (Op.stringOp .add p (⟨#[45]⟩ ++ m)).run Tryz.prog v = .ok (.string (p ++ (⟨#[45]⟩ ++ m))) v := fun v => run_string_add_sum v _ _ (by rw [ByteArray.size_append]; omega)
  clear hz hN k1 k2 k3 k4 hv hn
  go_enter Tryz.func21, Tryz.ntmps21
  go_upto_region 1 with (fail)
  generalize w.alloc (.cells #[.string p, .string m, .int .i64 n] 27) = v at *
  obtain ⟨d0, d1, d2, _⟩ := HV.out.1
  unfold namesV at hNN
  simp only at hNN
  cases hm : sB m es
  · have hm' := (emp_eq m).trans hm
    rw [hm, if_neg (by simp)] at hNN
    clear hm
    go_upto_region 4 with (fail)
    try rw [hNN]
    clear hNN A1 A2 hm' d0 d1
    cases hs : sB N es
    · have hs' := (emp_eq N).trans hs
      rw [hs, if_neg (by simp)] at HX
      clear hs
      by_cases h0 : n = 0
      · subst h0
        rw [if_pos rfl] at HX
        go_wp2_with (fail)
        go_ret
        exact ⟨ret_str HX.out, HV.out.2⟩
      · rw [if_neg h0] at HX
        have h1 : (n == 0) = false := by simpa using h0
        by_cases h2 : 0 < n
        · rw [if_pos h2] at HX
          go_wp2_with (go_at_call 31; (with_reducible refine (HI.out _ HV.out.2).mono ?_); rintro e w1 ⟨rfl, hb1⟩)
          go_ret
          exact ⟨ret_str HX.out, bel_trans HV.out.2 hb1⟩
        · rw [if_neg h2] at HX
          have h3 : n < 0 := by omega
          go_wp2_with (go_at_call 31; (with_reducible refine (HI.out _ HV.out.2).mono ?_); rintro e w1 ⟨rfl, hb1⟩)
          go_ret
          exact ⟨ret_str HX.out, bel_trans HV.out.2 hb1⟩
    · have hs' := (emp_eq N).trans hs
      rw [hs, if_pos rfl] at HX
      have HR : Hid (N ++ z = z) := ⟨by rw [(sB_iff _ _).1 hs]; exact cat_right z⟩
      clear hs
      go_wp2_with (go_at_call 31; (with_reducible refine (HI.out _ HV.out.2).mono ?_); rintro e w1 ⟨rfl, hb1⟩)
      go_ret
      exact ⟨ret_str (HR.out.trans HX.out), bel_trans HV.out.2 hb1⟩
  · have hm' := (emp_eq m).trans hm
    rw [hm, if_pos rfl] at hNN
    clear hm
    subst hNN
    go_upto_region 4 with (fail)
    clear A1 A2 hm' d0 d1
    generalize p = N at *
    cases hs : sB N es
    · have hs' := (emp_eq N).trans hs
      rw [hs, if_neg (by simp)] at HX
      clear hs
      by_cases h0 : n = 0
      · subst h0
        rw [if_pos rfl] at HX
        go_wp2_with (fail)
        go_ret
        exact ⟨ret_str HX.out, HV.out.2⟩
      · rw [if_neg h0] at HX
        have h1 : (n == 0) = false := by simpa using h0
        by_cases h2 : 0 < n
        · rw [if_pos h2] at HX
          go_wp2_with (go_at_call 31; (with_reducible refine (HI.out _ HV.out.2).mono ?_); rintro e w1 ⟨rfl, hb1⟩)
          go_ret
          exact ⟨ret_str HX.out, bel_trans HV.out.2 hb1⟩
        · rw [if_neg h2] at HX
          have h3 : n < 0 := by omega
          go_wp2_with (go_at_call 31; (with_reducible refine (HI.out _ HV.out.2).mono ?_); rintro e w1 ⟨rfl, hb1⟩)
          go_ret
          exact ⟨ret_str HX.out, bel_trans HV.out.2 hb1⟩
    · have hs' := (emp_eq N).trans hs
      rw [hs, if_pos rfl] at HX
      have HR : Hid (N ++ z = z) := ⟨by rw [(sB_iff _ _).1 hs]; exact cat_right z⟩
      clear hs
      go_wp2_with (go_at_call 31; (with_reducible refine (HI.out _ HV.out.2).mono ?_); rintro e w1 ⟨rfl, hb1⟩)
      go_ret
      exact ⟨ret_str (HR.out.trans HX.out), bel_trans HV.out.2 hb1⟩
set_option maxRecDepth 20000 in
set_option maxHeartbeats 4000000 in
theorem ytext_any (p m : ByteArray) (n : Int) (hv : (⟨p, m, n⟩ : Vx).Ok) (hn : i64 n) (w : World) : Calls Tryz.prog 22 #[.agg #[.string p, .string m, .int .i64 n]] w fun e w' => e = .returned (.string (textV ⟨p, m, n⟩)) ∧ Below w.heap.size w w' := by
  have HV : Hid (VB (w.alloc (.cells #[.string p, .string m, .int .i64 n] 33)) w.heap.size p m n ∧ Below w.heap.size w (w.alloc (.cells #[.string p, .string m, .int .i64 n] 33))) := ⟨VB.newY w p m n, bel_alloc (Below.refl _ _) _⟩
  have HI : Hid (∀ v, Below w.heap.size w v → Calls Tryz.prog 32 #[.int .i64 n] v fun e w' => e = .returned (.string (itoaS n)) ∧ Below v.heap.size v w') := ⟨fun v hb => refWhole_any n hn v⟩
  have hz := itoaS_size n hn
  have hN := names_size _ hv
  have k1 : (⟨#[45]⟩ : ByteArray).size = 1 := rfl
  have k2 : (⟨#[43]⟩ : ByteArray).size = 1 := rfl
  have k3 := hv.p
  have k4 := hv.m
  simp only at k3 k4
  unfold textV
  simp only
  obtain ⟨N, hNN⟩ : ∃ N, namesV ⟨p, m, n⟩ = N := ⟨_, rfl⟩
  rw [hNN] at hN ⊢
  obtain ⟨X, hX⟩ : ∃ X, textN N n = X := ⟨_, rfl⟩
  rw [hX]
  unfold textN at hX
  have HX : Hid _ := ⟨hX⟩
  clear hX
  generalize itoaS n = z at *
  have A3 : ∀ v, (Op.stringOp .add N ⟨#[43]⟩).run Tryz.prog v = .ok (.string (N ++ ⟨#[43]⟩)) v := fun v => run_string_add_sum v _ _ (by omega)
  have A4 : ∀ v, (Op.stringOp .add (N ++ ⟨#[43]⟩) z).run Tryz.prog v = .ok (.string (N ++ ⟨#[43]⟩ ++ z)) v := fun v => run_string_add_sum v _ _ (by rw [ByteArray.size_append]; omega)
  have A5 : ∀ v, (Op.stringOp .add N z).run Tryz.prog v = .ok (.string (N ++ z)) v := fun v => run_string_add_sum v _ _ (by omega)
  have A1 : ∀ v, (Op.stringOp .add p ⟨#[45]⟩).run Tryz.prog v = .ok (.string (p ++ ⟨#[45]⟩)) v := fun v => run_string_add_sum v _ _ (by omega)
  have A2 : ∀ v, (Op.stringOp .add (p ++ ⟨#[45]⟩) m).run Tryz.prog v = .ok (.string (p ++ ⟨#[45]⟩ ++ m)) v := fun v => run_string_add_sum v _ _ (by rw [ByteArray.size_append]; omega)
  clear hz hN k1 k2 k3 k4 hv hn
  go_enter Tryz.func22, Tryz.ntmps22
  go_upto_region 1 with (fail)
  generalize w.alloc (.cells #[.string p, .string m, .int .i64 n] 33) = v at *
  obtain ⟨d0, d1, d2, _⟩ := HV.out.1
  unfold namesV at hNN
  simp only at hNN
  cases hm : sB m es
  · have hm' := (emp_eq m).trans hm
    rw [hm, if_neg (by simp)] at hNN
    rw [← names_as] at hNN
    clear hm
    go_upto_region 4 with (fail)
    try rw [hNN]
    clear hNN A1 A2 hm' d0 d1
    cases hs : sB N es
    · have hs' := (emp_eq N).trans hs
      rw [hs, if_neg (by simp)] at HX
      clear hs
      by_cases h0 : n = 0
      · subst h0
        rw [if_pos rfl] at HX
        go_wp2_with (fail)
        go_ret
        exact ⟨ret_str HX.out, HV.out.2⟩
      · rw [if_neg h0] at HX
        have h1 : (n == 0) = false := by simpa using h0
        by_cases h2 : 0 < n
        · rw [if_pos h2] at HX
          go_wp2_with (go_at_call 32; (with_reducible refine (HI.out _ HV.out.2).mono ?_); rintro e w1 ⟨rfl, hb1⟩)
          go_ret
          exact ⟨ret_str HX.out, bel_trans HV.out.2 hb1⟩
        · rw [if_neg h2] at HX
          have h3 : n < 0 := by omega
          go_wp2_with (go_at_call 32; (with_reducible refine (HI.out _ HV.out.2).mono ?_); rintro e w1 ⟨rfl, hb1⟩)
          go_ret
          exact ⟨ret_str HX.out, bel_trans HV.out.2 hb1⟩
    · have hs' := (emp_eq N).trans hs
      rw [hs, if_pos rfl] at HX
      clear hs
      go_wp2_with (go_at_call 32; (with_reducible refine (HI.out _ HV.out.2).mono ?_); rintro e w1 ⟨rfl, hb1⟩)
      go_ret
      exact ⟨ret_str HX.out, bel_trans HV.out.2 hb1⟩
  · have hm' := (emp_eq m).trans hm
    rw [hm, if_pos rfl] at hNN
    clear hm
    subst hNN
    go_upto_region 4 with (fail)
    clear A1 A2 hm' d0 d1
    generalize p = N at *
    cases hs : sB N es
    · have hs' := (emp_eq N).trans hs
      rw [hs, if_neg (by simp)] at HX
      clear hs
      by_cases h0 : n = 0
      · subst h0
        rw [if_pos rfl] at HX
        go_wp2_with (fail)
        go_ret
        exact ⟨ret_str HX.out, HV.out.2⟩
      · rw [if_neg h0] at HX
        have h1 : (n == 0) = false := by simpa using h0
        by_cases h2 : 0 < n
        · rw [if_pos h2] at HX
          go_wp2_with (go_at_call 32; (with_reducible refine (HI.out _ HV.out.2).mono ?_); rintro e w1 ⟨rfl, hb1⟩)
          go_ret
          exact ⟨ret_str HX.out, bel_trans HV.out.2 hb1⟩
        · rw [if_neg h2] at HX
          have h3 : n < 0 := by omega
          go_wp2_with (go_at_call 32; (with_reducible refine (HI.out _ HV.out.2).mono ?_); rintro e w1 ⟨rfl, hb1⟩)
          go_ret
          exact ⟨ret_str HX.out, bel_trans HV.out.2 hb1⟩
    · have hs' := (emp_eq N).trans hs
      rw [hs, if_pos rfl] at HX
      clear hs
      go_wp2_with (go_at_call 32; (with_reducible refine (HI.out _ HV.out.2).mono ?_); rintro e w1 ⟨rfl, hb1⟩)
      go_ret
      exact ⟨ret_str HX.out, bel_trans HV.out.2 hb1⟩
end Go.Proofs.YtljmbgflcidokaaGreatDoor
