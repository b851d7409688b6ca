/- The contracts of package alu's ops on one number, and of One. -/
import Derived.Test.YtbfkmnlbmlpogaaDoorCalls
import Derived.Test.YtbfkmnlbmlpogaaDoorFive
namespace Go.Proofs.YtbfkmnlbmlpogaaDoor
open Go.ChangeShapes Go.WideShapes Go.ChangeAt Go.RowKit
set_option linter.unusedVariables false
set_option linter.unusedSimpArgs false

theorem Wd.drew {w : World} (h : Wd w) : Wd w.drew := h.below h.z (Below.refl w.heap.size w).drew (Nat.le_refl _)

theorem inc_any (s c : Int) (n : Nat) (a : Int) (k : Bool) (w : World) (h0 : 1 ≤ n) (h1 : n ≤ 64) :
    Calls Tryd.prog 59 #[.agg #[.int .i64 s, .int .i64 n, .int .i64 c], .agg #[.int .u64 a, .bool k]] w fun e w' =>
      e = .returned (.agg #[.int .u64 ((a + 1 + b2i false) % 18446744073709551616), .bool k, .bool (outS n (sx n a + sx n 1 + b2i false))]) ∧ Below w.heap.size w w' := by
  go_enter Tryd.func59, Tryd.ntmps59
  go_wp2_with (go_at_call 35; refine (add_any _ _ _ _ _ _ _ h0 h1).mono ?_; rintro e w1 ⟨rfl, hb⟩; obtain ⟨hc, hf⟩ := bcell hb; have hz : w.heap.size + 1 + 1 < w1.heap.size := (by have := hb.size; simp at this; omega); have hz1 : w.heap.size + 1 < w1.heap.size := (by omega))
  refine bodyPost_ret (v := .agg #[.int .u64 ((a + 1 + b2i false) % 18446744073709551616), .bool k, .bool (outS n (sx n a + sx n 1 + b2i false))])
    (by simp [results, Tryd.results59, go_sem, hc, hz]) rfl ⟨rfl, ?_⟩
  have B : Below w.heap.size w w1 := bel_trans (bel_alloc (bel_alloc (bel_alloc (Below.refl _ _) _) _) _) hb
  repeat (first | (with_reducible exact B) | (with_reducible refine bel_alloc ?_ _) | ((with_reducible refine Below.setCell ?_ ?_ _); rotate_left; (focus (dsimp only; omega))))

theorem dec_any (s c : Int) (n : Nat) (a : Int) (k : Bool) (w : World) (h0 : 1 ≤ n) (h1 : n ≤ 64) :
    Calls Tryd.prog 60 #[.agg #[.int .i64 s, .int .i64 n, .int .i64 c], .agg #[.int .u64 a, .bool k]] w fun e w' =>
      e = .returned (.agg #[.int .u64 ((a - 1 - b2i false) % 18446744073709551616), .bool k, .bool (outS n (sx n a - sx n 1 - b2i false))]) ∧ Below w.heap.size w w' := by
  go_enter Tryd.func60, Tryd.ntmps60
  go_wp2_with (go_at_call 39; refine (sub_any _ _ _ _ _ _ _ h0 h1).mono ?_; rintro e w1 ⟨rfl, hb⟩; obtain ⟨hc, hf⟩ := bcell hb; have hz : w.heap.size + 1 + 1 < w1.heap.size := (by have := hb.size; simp at this; omega); have hz1 : w.heap.size + 1 < w1.heap.size := (by omega))
  refine bodyPost_ret (v := .agg #[.int .u64 ((a - 1 - b2i false) % 18446744073709551616), .bool k, .bool (outS n (sx n a - sx n 1 - b2i false))])
    (by simp [results, Tryd.results60, go_sem, hc, hz]) rfl ⟨rfl, ?_⟩
  have B : Below w.heap.size w w1 := bel_trans (bel_alloc (bel_alloc (bel_alloc (Below.refl _ _) _) _) _) hb
  repeat (first | (with_reducible exact B) | (with_reducible refine bel_alloc ?_ _) | ((with_reducible refine Below.setCell ?_ ?_ _); rotate_left; (focus (dsimp only; omega))))

theorem neg_any (s c : Int) (n : Nat) (a : Int) (k : Bool) (w : World) (h0 : 1 ≤ n) (h1 : n ≤ 64) :
    Calls Tryd.prog 61 #[.agg #[.int .i64 s, .int .i64 n, .int .i64 c], .agg #[.int .u64 a, .bool k]] w fun e w' =>
      e = .returned (.agg #[.int .u64 ((0 - a - b2i false) % 18446744073709551616), .bool (subC n 0 a (b2i false)), .bool (outS n (sx n 0 - sx n a - b2i false))]) ∧ Below w.heap.size w w' := by
  go_enter Tryd.func61, Tryd.ntmps61
  go_wp2_with (go_at_call 39; refine (sub_any _ _ _ _ _ _ _ h0 h1).mono ?_; rintro e w1 ⟨rfl, hb⟩; obtain ⟨hc, hf⟩ := bcell hb; have hz : w.heap.size + 1 + 1 < w1.heap.size := (by have := hb.size; simp at this; omega))
  refine bodyPost_ret (v := .agg #[.int .u64 ((0 - a - b2i false) % 18446744073709551616), .bool (subC n 0 a (b2i false)), .bool (outS n (sx n 0 - sx n a - b2i false))])
    (by simp [results, Tryd.results61, go_sem, hc, hz]) rfl ⟨rfl, ?_⟩
  have B : Below w.heap.size w w1 := bel_trans (bel_alloc (bel_alloc (bel_alloc (Below.refl _ _) _) _) _) hb
  repeat (first | (with_reducible exact B) | (with_reducible refine bel_alloc ?_ _) | ((with_reducible refine Below.setCell ?_ ?_ _); rotate_left; (focus (dsimp only; omega))))

theorem enters_inc : ∀ args w, (callFunc 59 args).run Tryd.prog w = .ok (.enter 59 args) w := enters_of Tryd.func59 (by kernel_rfl) rfl
theorem single_inc (w : World) : Calls Tryd.prog 47 #[.int .i64 15] w fun e w' => e = .returned (.func (.func 59) #[] #[]) ∧ w' = w := by
  go_enter Tryd.func47, Tryd.ntmps47
  go_wp2
  go_ret
  exact ⟨rfl, rfl⟩

theorem enters_dec : ∀ args w, (callFunc 60 args).run Tryd.prog w = .ok (.enter 60 args) w := enters_of Tryd.func60 (by kernel_rfl) rfl
theorem single_dec (w : World) : Calls Tryd.prog 47 #[.int .i64 16] w fun e w' => e = .returned (.func (.func 60) #[] #[]) ∧ w' = w := by
  go_enter Tryd.func47, Tryd.ntmps47
  go_wp2
  go_ret
  exact ⟨rfl, rfl⟩

theorem enters_neg : ∀ args w, (callFunc 61 args).run Tryd.prog w = .ok (.enter 61 args) w := enters_of Tryd.func61 (by kernel_rfl) rfl
theorem single_neg (w : World) : Calls Tryd.prog 47 #[.int .i64 13] w fun e w' => e = .returned (.func (.func 61) #[] #[]) ∧ w' = w := by
  go_enter Tryd.func47, Tryd.ntmps47
  go_wp2
  go_ret
  exact ⟨rfl, rfl⟩

theorem enters_not : ∀ args w, (callFunc 62 args).run Tryd.prog w = .ok (.enter 62 args) w := enters_of Tryd.func62 (by kernel_rfl) rfl
theorem single_not (w : World) : Calls Tryd.prog 47 #[.int .i64 14] w fun e w' => e = .returned (.func (.func 62) #[] #[]) ∧ w' = w := by
  go_enter Tryd.func47, Tryd.ntmps47
  go_wp2
  go_ret
  exact ⟨rfl, rfl⟩

theorem single_no (op : Int) (w : World) (h : ¬ (op = 15 ∨ op = 16 ∨ op = 13 ∨ op = 14)) : Calls Tryd.prog 47 #[.int .i64 op] w fun e w' => e = .returned .nilFunc ∧ w' = w := by
  have h1 : (op == 15) = false := by simp; omega
  have h2 : (op == 16) = false := by simp; omega
  have h3 : (op == 13) = false := by simp; omega
  have h4 : (op == 14) = false := by simp; omega
  clear h
  go_enter Tryd.func47, Tryd.ntmps47
  go_wp2
  go_ret
  exact ⟨rfl, rfl⟩

set_option maxRecDepth 10000 in
set_option maxHeartbeats 1000000 in
theorem one_run (op : Int) (fv : Value) (sz a : Int) (oC oP oZ oS oO : Bool) (r e0 : Int) (C P Z S O : Bool) (w : World) (hw : Wd w) (hn : (op == 14) = false)
    (hs : ∀ v, Calls Tryd.prog 47 #[.int .i64 op] v fun e w' => e = .returned fv ∧ w' = v)
    (hop : ∀ v, Wd v → Calls Tryd.prog 46 #[.int .i64 sz, .agg #[.int .u64 a, .bool oC], fv] v fun e w' => e = .returned (.tuple #[.int .u64 r, .agg #[.bool C, .bool P, .bool Z, .bool S, .bool O], .int .i64 e0]) ∧ Below v.heap.size v w') :
    Calls Tryd.prog 21 #[.int .i64 op, .int .u64 a, .agg #[.bool oC, .bool oP, .bool oZ, .bool oS, .bool oO], .int .i64 sz] w fun e w' =>
      e = .returned (.tuple #[.int .u64 r, .agg #[.bool C, .bool P, .bool Z, .bool S, .bool O], .int .i64 e0]) ∧ Below w.heap.size w w' := by
  have HS := hid hs; have HO := hid hop; have HW := hid hw
  clear hs hop hw
  go_enter Tryd.func21, Tryd.ntmps21
  go_wp2
  have Q0 : Hid (Fl ((w.alloc (Obj.cells #[.bool oC, .bool oP, .bool oZ, .bool oS, .bool oO] 24)).alloc (Obj.cells #[.bool false, .bool false, .bool false, .bool false, .bool false] 24)) w.heap.size oC oP oZ oS oO) := (Fl.new w oC oP oZ oS oO 24).up _
  have R0 := hid (Fl.new (w.alloc (Obj.cells #[.bool oC, .bool oP, .bool oZ, .bool oS, .bool oO] 24)) false false false false false 24)
  have WV : Hid (Wd ((w.alloc (Obj.cells #[.bool oC, .bool oP, .bool oZ, .bool oS, .bool oO] 24)).alloc (Obj.cells #[.bool false, .bool false, .bool false, .bool false, .bool false] 24))) := (HW.out.alloc _).alloc _
  have BV : Hid (Below w.heap.size w ((w.alloc (Obj.cells #[.bool oC, .bool oP, .bool oZ, .bool oS, .bool oO] 24)).alloc (Obj.cells #[.bool false, .bool false, .bool false, .bool false, .bool false] 24))) := bel_alloc (bel_alloc (Below.refl _ _) _) _
  have eb : (w.alloc (Obj.cells #[.bool oC, .bool oP, .bool oZ, .bool oS, .bool oO] 24)).heap.size = w.heap.size + 1 := by simp
  rw [eb] at R0
  clear eb
  generalize (w.alloc (Obj.cells #[.bool oC, .bool oP, .bool oZ, .bool oS, .bool oO] 24)).alloc (Obj.cells #[.bool false, .bool false, .bool false, .bool false, .bool false] 24) = V at *
  have k0 := Q0.out.c0
  go_region_held3 (fun v => v.cell? ⟨w.heap.size, 0, none⟩ = some (.bool oC)) (repeat (first | (with_reducible assumption) | (with_reducible refine up_drew ?_) | (with_reducible refine up_alloc ?_ _) | ((with_reducible refine up_set ?_ ?_); rotate_left; (focus (dsimp only; omega)))))
    (first
      | (go_at_call 47; refine (HS.out _).mono ?_; rintro e w4 ⟨rfl, rfl⟩)
      | (go_at_call 46; refine (HO.out V.drew WV.out.drew).mono ?_; rintro e u ⟨rfl, hbu⟩; have l0 := (to_bel hbu (up_drew k0)); have R1 := hid ((R0.out.bel (Below.refl _ _).drew).bel hbu); have Q1 := hid ((Q0.out.bel (Below.refl _ _).drew).bel hbu); have B1 := hid (bel_trans BV.out.drew hbu); have zu : w.heap.size + 1 < u.heap.size := (R1.out.lt); clear hbu)
      | (go_at_call 46; refine (HO.out (V.alloc (Obj.cells #[.bool false, .bool false, .bool false, .bool false, .bool false] 24)).drew (WV.out.alloc _).drew).mono ?_; rintro e u ⟨rfl, hbu⟩; have l0 := (to_bel hbu (up_drew (up_alloc k0 _))); have R1 := hid (((R0.out.up _).bel (Below.refl _ _).drew).bel hbu); have Q1 := hid (((Q0.out.up _).bel (Below.refl _ _).drew).bel hbu); have T1 := hid (((Fl.new V false false false false false 24).bel (Below.refl _ _).drew).bel hbu); have B1 := hid (bel_trans (bel_alloc BV.out _).drew hbu); have zv : w.heap.size + 1 < V.heap.size := (R0.out.lt); have zu : V.heap.size < u.heap.size := (T1.out.lt); obtain ⟨t0, t1, t2, t3, t4, y0, y1, y2, y3, y4⟩ := T1.out; clear hbu))
  all_goals first
    | (have T2 := hid (T1.out.set C P Z S O); have R2 := hid (R1.out.other (show w.heap.size + 1 ≠ V.heap.size by omega) C P Z S O); have Q2 := hid (Q1.out.other (show w.heap.size ≠ V.heap.size by omega) C P Z S O); have B2 := hid (B1.out.trans (set5_bel (show w.heap.size ≤ V.heap.size by omega) C P Z S O)); have nb : w.heap.size + 1 < V.heap.size := zv; clear t0 t1 t2 t3 t4 y0 y1 y2 y3 y4 zu T1; unfold set5 at T2 R2 Q2 B2; generalize V.heap.size = bt at *; generalize ((((u.setCell ⟨bt, 0, none⟩ (.bool C)).setCell ⟨bt, 1, none⟩ (.bool P)).setCell ⟨bt, 2, none⟩ (.bool Z)).setCell ⟨bt, 3, none⟩ (.bool S)).setCell ⟨bt, 4, none⟩ (.bool O) = U at *)
    | (have T2 := hid (Fl.new u C P Z S O 24); have R2 := hid (R1.out.up (.cells #[.bool C, .bool P, .bool Z, .bool S, .bool O] 24)); have Q2 := hid (Q1.out.up (.cells #[.bool C, .bool P, .bool Z, .bool S, .bool O] 24)); have B2 := hid (bel_alloc B1.out (.cells #[.bool C, .bool P, .bool Z, .bool S, .bool O] 24)); have nb : w.heap.size + 1 < u.heap.size := zu; clear zu; generalize u.heap.size = bt at *; generalize u.alloc (.cells #[.bool C, .bool P, .bool Z, .bool S, .bool O] 24) = U at *)
  all_goals clear l0 R1 Q1 B1 k0 R0 Q0 WV BV HS HO
  all_goals obtain ⟨t0, t1, t2, t3, t4, y0, y1, y2, y3, y4⟩ := T2.out
  all_goals obtain ⟨r0, r1, r2, r3, r4, x0, x1, x2, x3, x4⟩ := R2.out
  all_goals go_wp2
  all_goals
    go_region_held3 (fun v => v.cell? ⟨bt, 0, none⟩ = some (.bool C) ∧ v.cell? ⟨bt, 1, none⟩ = some (.bool P) ∧ v.cell? ⟨bt, 2, none⟩ = some (.bool Z) ∧ v.cell? ⟨bt, 3, none⟩ = some (.bool S) ∧ v.cell? ⟨bt, 4, none⟩ = some (.bool O)) ((refine ⟨?_, ?_, ?_, ?_, ?_⟩) <;> (repeat (first | (with_reducible assumption) | (with_reducible refine up_drew ?_) | ((with_reducible refine up_set ?_ ?_); rotate_left; (focus (dsimp only; omega)))))) (fail)
    go_wp2
    refine bodyPost_ret (v := .tuple #[.int .u64 r, .agg #[.bool C, .bool P, .bool Z, .bool S, .bool O], .int .i64 e0]) (by simp [results, Tryd.results21, go_sem, r0, r1, r2, r3, r4]) rfl ⟨rfl, ?_⟩
    repeat (first | (with_reducible exact B2.out) | (with_reducible refine Below.drew ?_) | ((with_reducible refine Below.setCell ?_ ?_ _); rotate_left; (focus (dsimp only; omega))))

set_option maxRecDepth 10000 in
set_option maxHeartbeats 1000000 in
theorem one_err (fv : Value) (sz a : Int) (oC oP oZ oS oO : Bool) (r : Int) (C P Z S O : Bool) (w : World) (hw : Wd w)
    (hs : ∀ v, Calls Tryd.prog 47 #[.int .i64 14] v fun e w' => e = .returned fv ∧ w' = v)
    (hop : ∀ v, Wd v → Calls Tryd.prog 46 #[.int .i64 sz, .agg #[.int .u64 a, .bool oC], fv] v fun e w' => e = .returned (.tuple #[.int .u64 r, .agg #[.bool C, .bool P, .bool Z, .bool S, .bool O], .int .i64 1]) ∧ Below v.heap.size v w') :
    Calls Tryd.prog 21 #[.int .i64 14, .int .u64 a, .agg #[.bool oC, .bool oP, .bool oZ, .bool oS, .bool oO], .int .i64 sz] w fun e w' =>
      e = .returned (.tuple #[.int .u64 r, .agg #[.bool C, .bool P, .bool Z, .bool S, .bool O], .int .i64 1]) ∧ Below w.heap.size w w' := by
  have HS := hid hs; have HO := hid hop; have HW := hid hw
  clear hs hop hw
  go_enter Tryd.func21, Tryd.ntmps21
  go_wp2
  have Q0 : Hid (Fl ((w.alloc (Obj.cells #[.bool oC, .bool oP, .bool oZ, .bool oS, .bool oO] 24)).alloc (Obj.cells #[.bool false, .bool false, .bool false, .bool false, .bool false] 24)) w.heap.size oC oP oZ oS oO) := (Fl.new w oC oP oZ oS oO 24).up _
  have R0 := hid (Fl.new (w.alloc (Obj.cells #[.bool oC, .bool oP, .bool oZ, .bool oS, .bool oO] 24)) false false false false false 24)
  have WV : Hid (Wd ((w.alloc (Obj.cells #[.bool oC, .bool oP, .bool oZ, .bool oS, .bool oO] 24)).alloc (Obj.cells #[.bool false, .bool false, .bool false, .bool false, .bool false] 24))) := (HW.out.alloc _).alloc _
  have BV : Hid (Below w.heap.size w ((w.alloc (Obj.cells #[.bool oC, .bool oP, .bool oZ, .bool oS, .bool oO] 24)).alloc (Obj.cells #[.bool false, .bool false, .bool false, .bool false, .bool false] 24))) := bel_alloc (bel_alloc (Below.refl _ _) _) _
  have eb : (w.alloc (Obj.cells #[.bool oC, .bool oP, .bool oZ, .bool oS, .bool oO] 24)).heap.size = w.heap.size + 1 := by simp
  rw [eb] at R0
  clear eb
  generalize (w.alloc (Obj.cells #[.bool oC, .bool oP, .bool oZ, .bool oS, .bool oO] 24)).alloc (Obj.cells #[.bool false, .bool false, .bool false, .bool false, .bool false] 24) = V at *
  have k0 := Q0.out.c0
  go_region_held3 (fun v => v.cell? ⟨w.heap.size, 0, none⟩ = some (.bool oC)) (repeat (first | (with_reducible assumption) | (with_reducible refine up_drew ?_) | (with_reducible refine up_alloc ?_ _) | ((with_reducible refine up_set ?_ ?_); rotate_left; (focus (dsimp only; omega)))))
    (first
      | (go_at_call 47; refine (HS.out _).mono ?_; rintro e w4 ⟨rfl, rfl⟩)
      | (go_at_call 46; refine (HO.out V.drew WV.out.drew).mono ?_; rintro e u ⟨rfl, hbu⟩; have l0 := (to_bel hbu (up_drew k0)); have R1 := hid ((R0.out.bel (Below.refl _ _).drew).bel hbu); have Q1 := hid ((Q0.out.bel (Below.refl _ _).drew).bel hbu); have B1 := hid (bel_trans BV.out.drew hbu); have zu : w.heap.size + 1 < u.heap.size := (R1.out.lt); clear hbu)
      | (go_at_call 46; refine (HO.out (V.alloc (Obj.cells #[.bool false, .bool false, .bool false, .bool false, .bool false] 24)).drew (WV.out.alloc _).drew).mono ?_; rintro e u ⟨rfl, hbu⟩; have l0 := (to_bel hbu (up_drew (up_alloc k0 _))); have R1 := hid (((R0.out.up _).bel (Below.refl _ _).drew).bel hbu); have Q1 := hid (((Q0.out.up _).bel (Below.refl _ _).drew).bel hbu); have T1 := hid (((Fl.new V false false false false false 24).bel (Below.refl _ _).drew).bel hbu); have B1 := hid (bel_trans (bel_alloc BV.out _).drew hbu); have zv : w.heap.size + 1 < V.heap.size := (R0.out.lt); have zu : V.heap.size < u.heap.size := (T1.out.lt); obtain ⟨t0, t1, t2, t3, t4, y0, y1, y2, y3, y4⟩ := T1.out; clear hbu))
  all_goals first
    | (have T2 := hid (T1.out.set C P Z S O); have R2 := hid (R1.out.other (show w.heap.size + 1 ≠ V.heap.size by omega) C P Z S O); have Q2 := hid (Q1.out.other (show w.heap.size ≠ V.heap.size by omega) C P Z S O); have B2 := hid (B1.out.trans (set5_bel (show w.heap.size ≤ V.heap.size by omega) C P Z S O)); have nb : w.heap.size + 1 < V.heap.size := zv; clear t0 t1 t2 t3 t4 y0 y1 y2 y3 y4 zu T1; unfold set5 at T2 R2 Q2 B2; generalize V.heap.size = bt at *; generalize ((((u.setCell ⟨bt, 0, none⟩ (.bool C)).setCell ⟨bt, 1, none⟩ (.bool P)).setCell ⟨bt, 2, none⟩ (.bool Z)).setCell ⟨bt, 3, none⟩ (.bool S)).setCell ⟨bt, 4, none⟩ (.bool O) = U at *)
    | (have T2 := hid (Fl.new u C P Z S O 24); have R2 := hid (R1.out.up (.cells #[.bool C, .bool P, .bool Z, .bool S, .bool O] 24)); have Q2 := hid (Q1.out.up (.cells #[.bool C, .bool P, .bool Z, .bool S, .bool O] 24)); have B2 := hid (bel_alloc B1.out (.cells #[.bool C, .bool P, .bool Z, .bool S, .bool O] 24)); have nb : w.heap.size + 1 < u.heap.size := zu; clear zu; generalize u.heap.size = bt at *; generalize u.alloc (.cells #[.bool C, .bool P, .bool Z, .bool S, .bool O] 24) = U at *)
  all_goals clear l0 R1 Q1 B1 k0 R0 Q0 WV BV HS HO
  all_goals obtain ⟨t0, t1, t2, t3, t4, y0, y1, y2, y3, y4⟩ := T2.out
  all_goals obtain ⟨r0, r1, r2, r3, r4, x0, x1, x2, x3, x4⟩ := R2.out
  all_goals go_wp2
  all_goals
    go_region_held3 (fun v => v.cell? ⟨bt, 0, none⟩ = some (.bool C) ∧ v.cell? ⟨bt, 1, none⟩ = some (.bool P) ∧ v.cell? ⟨bt, 2, none⟩ = some (.bool Z) ∧ v.cell? ⟨bt, 3, none⟩ = some (.bool S) ∧ v.cell? ⟨bt, 4, none⟩ = some (.bool O)) ((refine ⟨?_, ?_, ?_, ?_, ?_⟩) <;> (repeat (first | (with_reducible assumption) | (with_reducible refine up_drew ?_) | ((with_reducible refine up_set ?_ ?_); rotate_left; (focus (dsimp only; omega)))))) (fail)
    go_wp2
    refine bodyPost_ret (v := .tuple #[.int .u64 r, .agg #[.bool C, .bool P, .bool Z, .bool S, .bool O], .int .i64 1]) (by simp [results, Tryd.results21, go_sem, r0, r1, r2, r3, r4]) rfl ⟨rfl, ?_⟩
    repeat (first | (with_reducible exact B2.out) | (with_reducible refine Below.drew ?_) | ((with_reducible refine Below.setCell ?_ ?_ _); rotate_left; (focus (dsimp only; omega))))

set_option maxRecDepth 10000 in
set_option maxHeartbeats 1000000 in
theorem one_not (fv : Value) (sz a : Int) (oC oP oZ oS oO : Bool) (r : Int) (C P Z S O : Bool) (w : World) (hw : Wd w)
    (hs : ∀ v, Calls Tryd.prog 47 #[.int .i64 14] v fun e w' => e = .returned fv ∧ w' = v)
    (hop : ∀ v, Wd v → Calls Tryd.prog 46 #[.int .i64 sz, .agg #[.int .u64 a, .bool oC], fv] v fun e w' => e = .returned (.tuple #[.int .u64 r, .agg #[.bool C, .bool P, .bool Z, .bool S, .bool O], .int .i64 0]) ∧ Below v.heap.size v w') :
    Calls Tryd.prog 21 #[.int .i64 14, .int .u64 a, .agg #[.bool oC, .bool oP, .bool oZ, .bool oS, .bool oO], .int .i64 sz] w fun e w' =>
      e = .returned (.tuple #[.int .u64 r, .agg #[.bool oC, .bool oP, .bool oZ, .bool oS, .bool oO], .int .i64 0]) ∧ Below w.heap.size w w' := by
  have HS := hid hs; have HO := hid hop; have HW := hid hw
  clear hs hop hw
  go_enter Tryd.func21, Tryd.ntmps21
  go_wp2
  have Q0 : Hid (Fl ((w.alloc (Obj.cells #[.bool oC, .bool oP, .bool oZ, .bool oS, .bool oO] 24)).alloc (Obj.cells #[.bool false, .bool false, .bool false, .bool false, .bool false] 24)) w.heap.size oC oP oZ oS oO) := (Fl.new w oC oP oZ oS oO 24).up _
  have R0 := hid (Fl.new (w.alloc (Obj.cells #[.bool oC, .bool oP, .bool oZ, .bool oS, .bool oO] 24)) false false false false false 24)
  have WV : Hid (Wd ((w.alloc (Obj.cells #[.bool oC, .bool oP, .bool oZ, .bool oS, .bool oO] 24)).alloc (Obj.cells #[.bool false, .bool false, .bool false, .bool false, .bool false] 24))) := (HW.out.alloc _).alloc _
  have BV : Hid (Below w.heap.size w ((w.alloc (Obj.cells #[.bool oC, .bool oP, .bool oZ, .bool oS, .bool oO] 24)).alloc (Obj.cells #[.bool false, .bool false, .bool false, .bool false, .bool false] 24))) := bel_alloc (bel_alloc (Below.refl _ _) _) _
  have eb : (w.alloc (Obj.cells #[.bool oC, .bool oP, .bool oZ, .bool oS, .bool oO] 24)).heap.size = w.heap.size + 1 := by simp
  rw [eb] at R0
  clear eb
  generalize (w.alloc (Obj.cells #[.bool oC, .bool oP, .bool oZ, .bool oS, .bool oO] 24)).alloc (Obj.cells #[.bool false, .bool false, .bool false, .bool false, .bool false] 24) = V at *
  have k0 := Q0.out.c0
  go_region_held3 (fun v => v.cell? ⟨w.heap.size, 0, none⟩ = some (.bool oC)) (repeat (first | (with_reducible assumption) | (with_reducible refine up_drew ?_) | (with_reducible refine up_alloc ?_ _) | ((with_reducible refine up_set ?_ ?_); rotate_left; (focus (dsimp only; omega)))))
    (first
      | (go_at_call 47; refine (HS.out _).mono ?_; rintro e w4 ⟨rfl, rfl⟩)
      | (go_at_call 46; refine (HO.out V.drew WV.out.drew).mono ?_; rintro e u ⟨rfl, hbu⟩; have l0 := (to_bel hbu (up_drew k0)); have R1 := hid ((R0.out.bel (Below.refl _ _).drew).bel hbu); have Q1 := hid ((Q0.out.bel (Below.refl _ _).drew).bel hbu); have B1 := hid (bel_trans BV.out.drew hbu); have zu : w.heap.size + 1 < u.heap.size := (R1.out.lt); clear hbu)
      | (go_at_call 46; refine (HO.out (V.alloc (Obj.cells #[.bool false, .bool false, .bool false, .bool false, .bool false] 24)).drew (WV.out.alloc _).drew).mono ?_; rintro e u ⟨rfl, hbu⟩; have l0 := (to_bel hbu (up_drew (up_alloc k0 _))); have R1 := hid (((R0.out.up _).bel (Below.refl _ _).drew).bel hbu); have Q1 := hid (((Q0.out.up _).bel (Below.refl _ _).drew).bel hbu); have T1 := hid (((Fl.new V false false false false false 24).bel (Below.refl _ _).drew).bel hbu); have B1 := hid (bel_trans (bel_alloc BV.out _).drew hbu); have zv : w.heap.size + 1 < V.heap.size := (R0.out.lt); have zu : V.heap.size < u.heap.size := (T1.out.lt); obtain ⟨t0, t1, t2, t3, t4, y0, y1, y2, y3, y4⟩ := T1.out; clear hbu))
  all_goals first
    | (have T2 := hid (T1.out.set C P Z S O); have R2 := hid (R1.out.other (show w.heap.size + 1 ≠ V.heap.size by omega) C P Z S O); have Q2 := hid (Q1.out.other (show w.heap.size ≠ V.heap.size by omega) C P Z S O); have B2 := hid (B1.out.trans (set5_bel (show w.heap.size ≤ V.heap.size by omega) C P Z S O)); have nb : w.heap.size + 1 < V.heap.size := zv; clear t0 t1 t2 t3 t4 y0 y1 y2 y3 y4 zu T1; unfold set5 at T2 R2 Q2 B2; generalize V.heap.size = bt at *; generalize ((((u.setCell ⟨bt, 0, none⟩ (.bool C)).setCell ⟨bt, 1, none⟩ (.bool P)).setCell ⟨bt, 2, none⟩ (.bool Z)).setCell ⟨bt, 3, none⟩ (.bool S)).setCell ⟨bt, 4, none⟩ (.bool O) = U at *)
    | (have T2 := hid (Fl.new u C P Z S O 24); have R2 := hid (R1.out.up (.cells #[.bool C, .bool P, .bool Z, .bool S, .bool O] 24)); have Q2 := hid (Q1.out.up (.cells #[.bool C, .bool P, .bool Z, .bool S, .bool O] 24)); have B2 := hid (bel_alloc B1.out (.cells #[.bool C, .bool P, .bool Z, .bool S, .bool O] 24)); have nb : w.heap.size + 1 < u.heap.size := zu; clear zu; generalize u.heap.size = bt at *; generalize u.alloc (.cells #[.bool C, .bool P, .bool Z, .bool S, .bool O] 24) = U at *)
  all_goals clear l0 R1 Q1 B1 k0 R0 Q0 WV BV HS HO
  all_goals obtain ⟨t0, t1, t2, t3, t4, y0, y1, y2, y3, y4⟩ := T2.out
  all_goals obtain ⟨r0, r1, r2, r3, r4, x0, x1, x2, x3, x4⟩ := R2.out
  all_goals obtain ⟨q0, q1, q2, q3, q4, p0, p1, p2, p3, p4⟩ := Q2.out
  all_goals go_wp2
  all_goals
    have T3 := hid (T2.out.set oC oP oZ oS oO); have R3 := hid (R2.out.other (show w.heap.size + 1 ≠ bt by omega) oC oP oZ oS oO); have B3 := hid (B2.out.trans (set5_bel (show w.heap.size ≤ bt by omega) oC oP oZ oS oO))
    clear t0 t1 t2 t3 t4 y0 y1 y2 y3 y4 r0 r1 r2 r3 r4 x0 x1 x2 x3 x4 q0 q1 q2 q3 q4 p0 p1 p2 p3 p4 T2 R2 Q2 B2
    unfold set5 at T3 R3 B3
    generalize ((((U.setCell ⟨bt, 0, none⟩ (.bool oC)).setCell ⟨bt, 1, none⟩ (.bool oP)).setCell ⟨bt, 2, none⟩ (.bool oZ)).setCell ⟨bt, 3, none⟩ (.bool oS)).setCell ⟨bt, 4, none⟩ (.bool oO) = Y at *
    obtain ⟨t0, t1, t2, t3, t4, y0, y1, y2, y3, y4⟩ := T3.out
    obtain ⟨r0, r1, r2, r3, r4, x0, x1, x2, x3, x4⟩ := R3.out
    go_region_held3 (fun v => v.cell? ⟨bt, 0, none⟩ = some (.bool oC) ∧ v.cell? ⟨bt, 1, none⟩ = some (.bool oP) ∧ v.cell? ⟨bt, 2, none⟩ = some (.bool oZ) ∧ v.cell? ⟨bt, 3, none⟩ = some (.bool oS) ∧ v.cell? ⟨bt, 4, none⟩ = some (.bool oO)) ((refine ⟨?_, ?_, ?_, ?_, ?_⟩) <;> (repeat (first | (with_reducible assumption) | (with_reducible refine up_drew ?_) | ((with_reducible refine up_set ?_ ?_); rotate_left; (focus (dsimp only; omega)))))) (fail)
    go_wp2
    refine bodyPost_ret (v := .tuple #[.int .u64 r, .agg #[.bool oC, .bool oP, .bool oZ, .bool oS, .bool oO], .int .i64 0]) (by simp [results, Tryd.results21, go_sem, r0, r1, r2, r3, r4]) rfl ⟨rfl, ?_⟩
    repeat (first | (with_reducible exact B3.out) | (with_reducible refine Below.drew ?_) | ((with_reducible refine Below.setCell ?_ ?_ _); rotate_left; (focus (dsimp only; omega))))
end Go.Proofs.YtbfkmnlbmlpogaaDoor
