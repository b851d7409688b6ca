/- The contracts of package alu's Shift. -/
import Derived.Test.YtbfkmnlbmlpogaaDoorCalls
import Derived.Test.YtbfkmnlbmlpogaaDoorFive
import Derived.Test.YtbfkmnlbmlpogaaDoorShiftOps
namespace Go.Proofs.YtbfkmnlbmlpogaaDoor
open Go.ChangeShapes Go.WideShapes Go.ChangeAt Go.RowKit
set_option linter.unusedVariables false
set_option linter.unusedSimpArgs false

theorem enters_shl : ∀ args w, (callFunc 63 args).run Tryd.prog w = .ok (.enter 63 args) w := enters_of Tryd.func63 (by kernel_rfl) rfl
theorem shiftOf_shl (w : World) : Calls Tryd.prog 48 #[.int .i64 17] w fun e w' => e = .returned (.func (.func 63) #[] #[]) ∧ w' = w := by
  go_enter Tryd.func48, Tryd.ntmps48
  go_wp2
  go_ret
  exact ⟨rfl, rfl⟩

theorem enters_shr : ∀ args w, (callFunc 64 args).run Tryd.prog w = .ok (.enter 64 args) w := enters_of Tryd.func64 (by kernel_rfl) rfl
theorem shiftOf_shr (w : World) : Calls Tryd.prog 48 #[.int .i64 18] w fun e w' => e = .returned (.func (.func 64) #[] #[]) ∧ w' = w := by
  go_enter Tryd.func48, Tryd.ntmps48
  go_wp2
  go_ret
  exact ⟨rfl, rfl⟩

theorem enters_sar : ∀ args w, (callFunc 65 args).run Tryd.prog w = .ok (.enter 65 args) w := enters_of Tryd.func65 (by kernel_rfl) rfl
theorem shiftOf_sar (w : World) : Calls Tryd.prog 48 #[.int .i64 19] w fun e w' => e = .returned (.func (.func 65) #[] #[]) ∧ w' = w := by
  go_enter Tryd.func48, Tryd.ntmps48
  go_wp2
  go_ret
  exact ⟨rfl, rfl⟩

theorem plain_bel (s c : Int) (n : Nat) (x : Int) (w : World) (h1 : n ≤ 64) :
    Calls Tryd.prog 41 #[.agg #[.int .i64 s, .int .i64 n, .int .i64 c], .int .u64 x] w fun e w' => e = .returned (.int .u64 (x % 2 ^ n)) ∧ Below w.heap.size w w' :=
  (plain_any s c n x w h1).mono fun _ _ ⟨he, hw⟩ => ⟨he, hw ▸ bel_alloc (Below.refl _ _) _⟩

set_option maxRecDepth 10000 in
set_option maxHeartbeats 1000000 in
/-- A shift by at least one place. -/
theorem shift_run (op : Int) (J : Nat) (sz : Int) (n : Nat) (cn : Int) (a k : Int) (m : Nat) (oC oP oZ oS oO : Bool) (r : Int) (C P Z S O : Bool) (w : World) (h : Wide sz n cn) (hw : Wd w)
    (k0 : 0 ≤ k) (k1 : k ≤ 255) (em : bits .and .i64 k cn = (m : Int)) (m0 : ((m : Int) == 0) = false)
    (hs : ∀ v, Calls Tryd.prog 48 #[.int .i64 op] v fun e w' => e = .returned (.func (.func J) #[] #[]) ∧ w' = v)
    (hop : ∀ v, Wd v → Calls Tryd.prog 49 #[.int .i64 sz, .agg #[.int .u64 a, .int .i64 m], .func (.func J) #[] #[]] v fun e w' => e = .returned (.tuple #[.int .u64 r, .agg #[.bool C, .bool P, .bool Z, .bool S, .bool O], .int .i64 0]) ∧ Below v.heap.size v w') :
    Calls Tryd.prog 23 #[.int .i64 op, .int .u64 a, .int .i64 k, .agg #[.bool oC, .bool oP, .bool oZ, .bool oS, .bool oO], .int .i64 sz] w fun e w' =>
      e = .returned (.tuple #[.int .u64 r, .agg #[.bool C, .bool P, .bool Z, .bool S, .bool O], .int .i64 0]) ∧ Below w.heap.size w w' := by
  have HH := hid h; have HW := hid hw; have HS := hid hs; have HO := hid hop
  have fn := func_nil_shifted
  have kn : ¬ k < 0 := by omega
  clear h hw hs hop
  go_enter Tryd.func23, Tryd.ntmps23
  go_wp2_with (first
    | (go_at_call 40; refine (widthOf_yes HH.out _ ((HW.out.alloc _).alloc _)).mono ?_; rintro e w1 ⟨rfl, hb⟩; have W1 := hid (((HW.out.alloc _).alloc _).bel hb); have B1 := hid (bel_trans (bel_alloc (bel_alloc (Below.refl _ _) _) _) hb); have hz : w.heap.size + 1 < w1.heap.size := (by have := hb.size; simp at this; omega); obtain ⟨hc, hf⟩ := bcell hb)
    | (go_at_call 48; refine (HS.out _).mono ?_; rintro e w2 ⟨rfl, hq⟩; subst w2)
    | (go_at_call 49; refine (HO.out _ (W1.out.alloc _)).mono ?_; rintro e w3 ⟨rfl, hb3⟩; obtain ⟨hc3, hf3⟩ := bcell hb3; have hz3 : w1.heap.size < w3.heap.size := (by have := hb3.size; simp at this; omega); have hz4 : w.heap.size + 1 < w3.heap.size := (by omega); have hz5 : w.heap.size < w1.heap.size := (by omega)))
  refine bodyPost_ret (v := .tuple #[.int .u64 r, .agg #[.bool C, .bool P, .bool Z, .bool S, .bool O], .int .i64 0]) (by simp [results, Tryd.results23, go_sem, hc3, hc, hz, hz5]) rfl ⟨rfl, ?_⟩
  have B3 := hid (bel_trans (bel_alloc B1.out _) hb3)
  repeat (first | (with_reducible exact B3.out) | ((with_reducible refine Below.setCell ?_ ?_ _); rotate_left; (focus (dsimp only; omega))))

set_option maxRecDepth 10000 in
set_option maxHeartbeats 1000000 in
/-- A shift by no place. -/
theorem shift_none (op : Int) (J : Nat) (sz : Int) (n : Nat) (cn : Int) (a k : Int) (oC oP oZ oS oO : Bool) (w : World) (h : Wide sz n cn) (hw : Wd w)
    (k0 : 0 ≤ k) (k1 : k ≤ 255) (em : bits .and .i64 k cn = 0)
    (hs : ∀ v, Calls Tryd.prog 48 #[.int .i64 op] v fun e w' => e = .returned (.func (.func J) #[] #[]) ∧ w' = v) :
    Calls Tryd.prog 23 #[.int .i64 op, .int .u64 a, .int .i64 k, .agg #[.bool oC, .bool oP, .bool oZ, .bool oS, .bool oO], .int .i64 sz] w fun e w' =>
      e = .returned (.tuple #[.int .u64 (a % 2 ^ n), .agg #[.bool oC, .bool oP, .bool oZ, .bool oS, .bool oO], .int .i64 0]) ∧ Below w.heap.size w w' := by
  have h1 := h.hi
  have HH := hid h; have HW := hid hw; have HS := hid hs
  have fn := func_nil_shifted
  have kn : ¬ k < 0 := by omega
  clear h hw hs
  go_enter Tryd.func23, Tryd.ntmps23
  go_wp2_with (first
    | (go_at_call 40; refine (widthOf_yes HH.out _ ((HW.out.alloc _).alloc _)).mono ?_; rintro e w1 ⟨rfl, hb⟩)
    | (go_at_call 48; refine (HS.out _).mono ?_; rintro e w2 ⟨rfl, hq⟩; subst w2))
  have Q1 := hid (((Fl.new w oC oP oZ oS oO 24).up (.cells #[.bool false, .bool false, .bool false, .bool false, .bool false] 24)).bel hb)
  have R1 := hid ((Fl.new (w.alloc (.cells #[.bool oC, .bool oP, .bool oZ, .bool oS, .bool oO] 24)) false false false false false 24).bel hb)
  have eb : (w.alloc (Obj.cells #[.bool oC, .bool oP, .bool oZ, .bool oS, .bool oO] 24)).heap.size = w.heap.size + 1 := by simp
  rw [eb] at R1
  have Q2 := hid (Q1.out.up (.cells #[.int .i64 sz, .int .i64 n, .int .i64 cn] 62))
  have R2 := hid (R1.out.up (.cells #[.int .i64 sz, .int .i64 n, .int .i64 cn] 62))
  have B2 := hid (bel_alloc (bel_trans (bel_alloc (bel_alloc (Below.refl _ _) _) _) hb) (.cells #[.int .i64 sz, .int .i64 n, .int .i64 cn] 62))
  have j0 : (w1.alloc (.cells #[.int .i64 sz, .int .i64 n, .int .i64 cn] 62)).cell? ⟨w1.heap.size, 0, none⟩ = some (.int .i64 sz) := by simp
  have j1 : (w1.alloc (.cells #[.int .i64 sz, .int .i64 n, .int .i64 cn] 62)).cell? ⟨w1.heap.size, 1, none⟩ = some (.int .i64 n) := by simp
  have j2 : (w1.alloc (.cells #[.int .i64 sz, .int .i64 n, .int .i64 cn] 62)).cell? ⟨w1.heap.size, 2, none⟩ = some (.int .i64 cn) := by simp
  have nb : w.heap.size + 1 < w1.heap.size := R1.out.lt
  clear eb hb Q1 R1 HH HW HS fn em kn
  generalize w1.heap.size = bt at *
  generalize w1.alloc (.cells #[.int .i64 sz, .int .i64 n, .int .i64 cn] 62) = V at *
  obtain ⟨q0, q1, q2, q3, q4, p0, p1, p2, p3, p4⟩ := Q2.out
  go_region_held3 (fun v => v.cell? ⟨bt, 0, none⟩ = some (.int .i64 sz) ∧ v.cell? ⟨bt, 1, none⟩ = some (.int .i64 n) ∧ v.cell? ⟨bt, 2, none⟩ = some (.int .i64 cn) ∧ v.cell? ⟨w.heap.size, 0, none⟩ = some (.bool oC) ∧ v.cell? ⟨w.heap.size, 1, none⟩ = some (.bool oP) ∧ v.cell? ⟨w.heap.size, 2, none⟩ = some (.bool oZ) ∧ v.cell? ⟨w.heap.size, 3, none⟩ = some (.bool oS) ∧ v.cell? ⟨w.heap.size, 4, none⟩ = some (.bool oO)) ((refine ⟨?_, ?_, ?_, ?_, ?_, ?_, ?_, ?_⟩) <;> (repeat (first | (with_reducible assumption) | (with_reducible refine up_drew ?_) | ((with_reducible refine up_set ?_ ?_); rotate_left; (focus (dsimp only; omega))))))
    (first | (go_at_call 41; refine (plain_bel _ _ _ _ _ h1).mono ?_; rintro e u ⟨rfl, hbu⟩; have l0 := (to_bel hbu (up_drew j0)); have l1 := (to_bel hbu (up_drew j1)); have l2 := (to_bel hbu (up_drew j2)); obtain ⟨s0, s1, s2, s3, s4, _, _, _, _, _⟩ := ((Q2.out.bel (Below.refl _ _).drew).bel hbu); obtain ⟨r0, r1, r2, r3, r4, x0, x1, x2, x3, x4⟩ := ((R2.out.bel (Below.refl _ _).drew).bel hbu); have B3 := hid (bel_trans B2.out.drew hbu); clear hbu))
  go_wp2
  refine bodyPost_ret (v := .tuple #[.int .u64 (a % 2 ^ n), .agg #[.bool oC, .bool oP, .bool oZ, .bool oS, .bool oO], .int .i64 0]) (by simp [results, Tryd.results23, go_sem, r0, r1, r2, r3, r4]) rfl ⟨rfl, ?_⟩
  repeat (first | (with_reducible exact B3.out) | (with_reducible refine Below.drew ?_) | ((with_reducible refine Below.setCell ?_ ?_ _); rotate_left; (focus (dsimp only; omega))))
end Go.Proofs.YtbfkmnlbmlpogaaDoor
