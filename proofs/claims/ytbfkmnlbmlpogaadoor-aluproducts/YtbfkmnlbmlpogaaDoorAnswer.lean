/- The contracts of package alu's answer: what an op makes of its operands, with the result's flags. -/
import Derived.Test.YtbfkmnlbmlpogaaDoorOps
import Derived.Shelf.Abstract
import Derived.MapKept
namespace Go.Proofs.YtbfkmnlbmlpogaaDoor
open Go.ChangeShapes Go.WideShapes Go.ChangeAt Go.RowKit
set_option linter.unusedVariables false

/-- The sizes that there are, with their bits and the bits of a count. -/
def Wide (sz : Int) (n : Nat) (c : Int) : Prop := (sz = 1 ∧ n = 8 ∧ c = 31) ∨ (sz = 4 ∧ n = 32 ∧ c = 31) ∨ (sz = 8 ∧ n = 64 ∧ c = 63)

theorem Wide.lo {sz : Int} {n : Nat} {c : Int} (h : Wide sz n c) : 1 ≤ n := by rcases h with h | h | h <;> omega
theorem Wide.hi {sz : Int} {n : Nat} {c : Int} (h : Wide sz n c) : n ≤ 64 := by rcases h with h | h | h <;> omega

theorem widthOf_yes {sz : Int} {n : Nat} {c : Int} (h : Wide sz n c) (w : World) (hw : Wd w) :
    Calls Tryd.prog 40 #[.int .i64 sz] w fun e w' => e = .returned (.tuple #[.agg #[.int .i64 sz, .int .i64 n, .int .i64 c], .int .i64 0]) ∧ Below w.heap.size w w' := by
  rcases h with ⟨rfl, rfl, rfl⟩ | ⟨rfl, rfl, rfl⟩ | ⟨rfl, rfl, rfl⟩
  · exact widthOf_1 w hw
  · exact widthOf_4 w hw
  · exact widthOf_8 w hw

theorem Wd.alloc {w : World} (h : Wd w) (o : Obj) : Wd (w.alloc o) :=
  h.below h.z ((Below.refl w.heap.size w).alloc (Nat.le_refl _) o) (by simp)
theorem Wd.bel {w w' : World} (h : Wd w) (hb : Below w.heap.size w w') : Wd w' := h.below h.z hb hb.size

/-- The flags of a result. -/
abbrev resF (n : Nat) (c o : Bool) (r : Int) : Value := .agg #[.bool c, .bool (evenB r), .bool (r == 0), .bool (decide (sx n r < 0)), .bool o]


theorem fz_new (v : World) (cs : Array Value) (T i : Nat) : (v.alloc (.cells cs T)).frozen? ⟨v.heap.size, i, none⟩ = false := by
  unfold World.frozen?; rw [(MapKept.heap_alloc v (.cells cs T)).1]; simp

theorem func_nil_pair (J : Nat) (w : World) : Sem.run Tryd.prog (binOp .eql 59 (.func (.func J) #[] #[]) .nilFunc) w = .ok (.bool false) w := by kernel_rfl
theorem nil_nil_pair (w : World) : Sem.run Tryd.prog (binOp .eql 59 .nilFunc .nilFunc) w = .ok (.bool true) w := by kernel_rfl

set_option maxRecDepth 10000 in
set_option maxHeartbeats 1000000 in
theorem answer_pair (J : Nat) (sz : Int) (n : Nat) (cn : Int) (a b : Int) (k : Bool) (r : Int) (c o : Bool) (w : World) (h : Wide sz n cn) (hw : Wd w)
    (hent : ∀ args w, (callFunc J args).run Tryd.prog w = .ok (.enter J args) w)
    (hop : ∀ w, Calls Tryd.prog J #[.agg #[.int .i64 sz, .int .i64 n, .int .i64 cn], .agg #[.int .u64 a, .int .u64 b, .bool k]] w fun e w' => e = .returned (.agg #[.int .u64 r, .bool c, .bool o]) ∧ Below w.heap.size w w') :
    Calls Tryd.prog 34 #[.int .i64 sz, .agg #[.int .u64 a, .int .u64 b, .bool k], .func (.func J) #[] #[]] w fun e w' =>
      e = .returned (.tuple #[.int .u64 (r % 2 ^ n), resF n c o (r % 2 ^ n), .int .i64 0]) ∧ Below w.heap.size w w' := by
  have h0 := h.lo
  have h1 := h.hi
  have HH : Hid (Wide sz n cn) := h
  have HO : Hid (∀ w, Calls Tryd.prog J #[.agg #[.int .i64 sz, .int .i64 n, .int .i64 cn], .agg #[.int .u64 a, .int .u64 b, .bool k]] w fun e w' => e = .returned (.agg #[.int .u64 r, .bool c, .bool o]) ∧ Below w.heap.size w w') := hop
  have HW : Hid (Wd w) := hw
  clear h hop hw
  have fn := func_nil_pair
  go_enter Tryd.func34, Tryd.ntmps34
  go_wp2_with (first
    | (go_at_call 40; refine (widthOf_yes HH.out _ ((HW.out.alloc _).alloc _)).mono ?_; rintro e w1 ⟨rfl, hb⟩; obtain ⟨hc, hf⟩ := bcell hb; have hz : w.heap.size + 1 < w1.heap.size := (by have := hb.size; simp at this; omega); have hz0 : w.heap.size < w1.heap.size := (by omega))
    | (go_at_fn J; refine (HO.out _).mono ?_; rintro e w2 ⟨rfl, hb2⟩; obtain ⟨hc2, hf2⟩ := bcell hb2; have hz1 : w1.heap.size < w2.heap.size := (by have := hb2.size; simp at this; omega); have hz2 : w.heap.size + 1 < w2.heap.size := (by omega))
    | (go_at_call 41; refine (plain_any _ _ _ _ _ h1).mono ?_; rintro e w3 ⟨rfl, rfl⟩))
  have B1 : Below w.heap.size w w1 := bel_trans (bel_alloc (bel_alloc (Below.refl _ _) _) _) hb
  have B2 : Below w.heap.size w w2 := bel_trans (bel_alloc B1 _) hb2
  generalize hV : (w2.alloc (Obj.cells #[.int .u64 r, .bool c, .bool o] 88)).alloc (Obj.cells #[.int .i64 sz, .int .i64 n, .int .i64 cn] 62) = V
  have BV : Below w.heap.size w V := hV ▸ bel_alloc (bel_alloc B2 _) _
  have zV : w.heap.size + 1 < V.heap.size := by rw [← hV]; simp; omega
  have k0 : V.cell? ⟨w1.heap.size, 0, none⟩ = some (.int .i64 sz) := by rw [← hV]; exact up_alloc (up_alloc (by rw [hc2 _ _ (by simp)]; simp) _) _
  have k1 : V.cell? ⟨w1.heap.size, 1, none⟩ = some (.int .i64 n) := by rw [← hV]; exact up_alloc (up_alloc (by rw [hc2 _ _ (by simp)]; simp) _) _
  have k2 : V.cell? ⟨w1.heap.size, 2, none⟩ = some (.int .i64 cn) := by rw [← hV]; exact up_alloc (up_alloc (by rw [hc2 _ _ (by simp)]; simp) _) _
  have k3 : V.cell? ⟨w2.heap.size, 1, none⟩ = some (.bool c) := by rw [← hV]; exact up_alloc (by simp) _
  have k4 : V.cell? ⟨w2.heap.size, 2, none⟩ = some (.bool o) := by rw [← hV]; exact up_alloc (by simp) _
  have BW := bel_alloc (bel_alloc (bel_trans (bel_alloc hb (Obj.cells #[.int .i64 sz, .int .i64 n, .int .i64 cn] 62)) hb2) (Obj.cells #[.int .u64 r, .bool c, .bool o] 88)) (Obj.cells #[.int .i64 sz, .int .i64 n, .int .i64 cn] 62)
  rw [hV] at BW
  have q0 : V.cell? ⟨w.heap.size + 1, 0, none⟩ = some (.bool false) := to_bel BW (by simp)
  have q1 : V.cell? ⟨w.heap.size + 1, 1, none⟩ = some (.bool false) := to_bel BW (by simp)
  have q2 : V.cell? ⟨w.heap.size + 1, 2, none⟩ = some (.bool false) := to_bel BW (by simp)
  have q3 : V.cell? ⟨w.heap.size + 1, 3, none⟩ = some (.bool false) := to_bel BW (by simp)
  have q4 : V.cell? ⟨w.heap.size + 1, 4, none⟩ = some (.bool false) := to_bel BW (by simp)
  have f0 : V.frozen? ⟨w.heap.size + 1, 0, none⟩ = false := fz_bel BW (by simp) (by simp)
  have f1 : V.frozen? ⟨w.heap.size + 1, 1, none⟩ = false := fz_bel BW (by simp) (by simp)
  have f2 : V.frozen? ⟨w.heap.size + 1, 2, none⟩ = false := fz_bel BW (by simp) (by simp)
  have f3 : V.frozen? ⟨w.heap.size + 1, 3, none⟩ = false := fz_bel BW (by simp) (by simp)
  have f4 : V.frozen? ⟨w.heap.size + 1, 4, none⟩ = false := fz_bel BW (by simp) (by simp)
  have x1 : w1.heap.size ≠ w.heap.size + 1 := by omega
  have x2 : w2.heap.size ≠ w.heap.size + 1 := by omega
  clear BW hV hc hf hc2 hf2 hb hb2 B1 B2 hz hz0 hz1 hz2 HO HW HH fn hent
  go_region_held3 (fun v => v.cell? ⟨w1.heap.size, 0, none⟩ = some (.int .i64 sz) ∧ v.cell? ⟨w1.heap.size, 1, none⟩ = some (.int .i64 n) ∧ v.cell? ⟨w1.heap.size, 2, none⟩ = some (.int .i64 cn) ∧
      v.cell? ⟨w2.heap.size, 1, none⟩ = some (.bool c) ∧ v.cell? ⟨w2.heap.size, 2, none⟩ = some (.bool o)) ((refine ⟨?_, ?_, ?_, ?_, ?_⟩) <;> (repeat (first | (with_reducible assumption) | (with_reducible refine up_drew ?_) | ((with_reducible refine up_set ?_ ?_); rotate_left; (first | exact x1 | exact x2)))))
    (first
      | (go_at_call 54; refine (evenOnes_any _ _).mono ?_; rintro e w4 ⟨rfl, rfl⟩)
      | (go_at_call 55; refine (top_bel _ _ _ _ _ h0 h1).mono ?_; rintro e u ⟨rfl, hbu⟩; have BU : Below w.heap.size w u := (bel_trans BV.drew hbu); have l0 := (to_bel hbu (up_drew k0)); have l1 := (to_bel hbu (up_drew k1)); have l2 := (to_bel hbu (up_drew k2)); have l3 := (to_bel hbu (up_drew k3)); have l4 := (to_bel hbu (up_drew k4)); have r0 := (to_bel hbu (up_drew q0)); have r1 := (to_bel hbu (up_drew q1)); have r2 := (to_bel hbu (up_drew q2)); have r3 := (to_bel hbu (up_drew q3)); have r4 := (to_bel hbu (up_drew q4)); have g0 : u.frozen? ⟨w.heap.size + 1, 0, none⟩ = false := (fz_bel hbu zV f0); have g1 : u.frozen? ⟨w.heap.size + 1, 1, none⟩ = false := (fz_bel hbu zV f1); have g2 : u.frozen? ⟨w.heap.size + 1, 2, none⟩ = false := (fz_bel hbu zV f2); have g3 : u.frozen? ⟨w.heap.size + 1, 3, none⟩ = false := (fz_bel hbu zV f3); have g4 : u.frozen? ⟨w.heap.size + 1, 4, none⟩ = false := (fz_bel hbu zV f4); clear hbu))
  go_wp2
  refine bodyPost_ret (v := .tuple #[.int .u64 (r % 2 ^ n), resF n c o (r % 2 ^ n), .int .i64 0]) (by simp [results, Tryd.results34, go_sem, r0, r1, r2, r3, r4]) rfl ⟨rfl, ?_⟩
  repeat (first | (with_reducible exact BU) | ((with_reducible refine Below.setCell ?_ ?_ _); rotate_left; (focus (dsimp only; omega))))

set_option maxRecDepth 10000 in
theorem answer_pair_no (sz : Int) (a b : Int) (k : Bool) (op : Value) (w : World) (h : ¬ (sz = 1 ∨ sz = 4 ∨ sz = 8)) (hw : Wd w) :
    Calls Tryd.prog 34 #[.int .i64 sz, .agg #[.int .u64 a, .int .u64 b, .bool k], op] w fun e w' =>
      e = .returned (.tuple #[.int .u64 0, .agg #[.bool false, .bool false, .bool false, .bool false, .bool false], .int .i64 1]) ∧ Below w.heap.size w w' := by
  have HH : Hid (¬ (sz = 1 ∨ sz = 4 ∨ sz = 8)) := h
  have HW : Hid (Wd w) := hw
  clear h hw
  go_enter Tryd.func34, Tryd.ntmps34
  go_wp2_with (go_at_call 40; refine (widthOf_no _ _ ((HW.out.alloc _).alloc _) HH.out).mono ?_; rintro e w1 ⟨rfl, hb⟩; obtain ⟨hc, hf⟩ := bcell hb; have hz : w.heap.size + 1 < w1.heap.size := (by have := hb.size; simp at this; omega); have hz0 : w.heap.size < w1.heap.size := (by omega))
  refine bodyPost_ret (v := .tuple #[.int .u64 0, .agg #[.bool false, .bool false, .bool false, .bool false, .bool false], .int .i64 1]) (by simp [results, Tryd.results34, go_sem, hc, hz]) rfl ⟨rfl, ?_⟩
  have B1 : Below w.heap.size w w1 := bel_trans (bel_alloc (bel_alloc (Below.refl _ _) _) _) hb
  repeat (first | (with_reducible exact B1) | (with_reducible refine bel_alloc ?_ _) | ((with_reducible refine Below.setCell ?_ ?_ _); rotate_left; (focus (dsimp only; omega))))

set_option maxRecDepth 10000 in
theorem answer_pair_nil (sz : Int) (n : Nat) (cn : Int) (a b : Int) (k : Bool) (w : World) (h : Wide sz n cn) (hw : Wd w) :
    Calls Tryd.prog 34 #[.int .i64 sz, .agg #[.int .u64 a, .int .u64 b, .bool k], .nilFunc] w fun e w' =>
      e = .returned (.tuple #[.int .u64 0, .agg #[.bool false, .bool false, .bool false, .bool false, .bool false], .int .i64 1]) ∧ Below w.heap.size w w' := by
  have HH : Hid (Wide sz n cn) := h
  have HW : Hid (Wd w) := hw
  clear h hw
  have fn := nil_nil_pair
  go_enter Tryd.func34, Tryd.ntmps34
  go_wp2_with (go_at_call 40; refine (widthOf_yes HH.out _ ((HW.out.alloc _).alloc _)).mono ?_; rintro e w1 ⟨rfl, hb⟩; obtain ⟨hc, hf⟩ := bcell hb; have hz : w.heap.size + 1 < w1.heap.size := (by have := hb.size; simp at this; omega); have hz0 : w.heap.size < w1.heap.size := (by omega))
  refine bodyPost_ret (v := .tuple #[.int .u64 0, .agg #[.bool false, .bool false, .bool false, .bool false, .bool false], .int .i64 1]) (by simp [results, Tryd.results34, go_sem, hc, hz]) rfl ⟨rfl, ?_⟩
  have B1 : Below w.heap.size w w1 := bel_trans (bel_alloc (bel_alloc (Below.refl _ _) _) _) hb
  repeat (first | (with_reducible exact B1) | (with_reducible refine bel_alloc ?_ _) | ((with_reducible refine Below.setCell ?_ ?_ _); rotate_left; (focus (dsimp only; omega))))

theorem func_nil_single (J : Nat) (w : World) : Sem.run Tryd.prog (binOp .eql 78 (.func (.func J) #[] #[]) .nilFunc) w = .ok (.bool false) w := by kernel_rfl
theorem nil_nil_single (w : World) : Sem.run Tryd.prog (binOp .eql 78 .nilFunc .nilFunc) w = .ok (.bool true) w := by kernel_rfl

set_option maxRecDepth 10000 in
set_option maxHeartbeats 1000000 in
theorem answer_single (J : Nat) (sz : Int) (n : Nat) (cn : Int) (a : Int) (k : Bool) (r : Int) (c o : Bool) (w : World) (h : Wide sz n cn) (hw : Wd w)
    (hent : ∀ args w, (callFunc J args).run Tryd.prog w = .ok (.enter J args) w)
    (hop : ∀ w, Calls Tryd.prog J #[.agg #[.int .i64 sz, .int .i64 n, .int .i64 cn], .agg #[.int .u64 a, .bool k]] w fun e w' => e = .returned (.agg #[.int .u64 r, .bool c, .bool o]) ∧ Below w.heap.size w w') :
    Calls Tryd.prog 46 #[.int .i64 sz, .agg #[.int .u64 a, .bool k], .func (.func J) #[] #[]] w fun e w' =>
      e = .returned (.tuple #[.int .u64 (r % 2 ^ n), resF n c o (r % 2 ^ n), .int .i64 0]) ∧ Below w.heap.size w w' := by
  have h0 := h.lo
  have h1 := h.hi
  have HH : Hid (Wide sz n cn) := h
  have HO : Hid (∀ w, Calls Tryd.prog J #[.agg #[.int .i64 sz, .int .i64 n, .int .i64 cn], .agg #[.int .u64 a, .bool k]] w fun e w' => e = .returned (.agg #[.int .u64 r, .bool c, .bool o]) ∧ Below w.heap.size w w') := hop
  have HW : Hid (Wd w) := hw
  clear h hop hw
  have fn := func_nil_single
  go_enter Tryd.func46, Tryd.ntmps46
  go_wp2_with (first
    | (go_at_call 40; refine (widthOf_yes HH.out _ ((HW.out.alloc _).alloc _)).mono ?_; rintro e w1 ⟨rfl, hb⟩; obtain ⟨hc, hf⟩ := bcell hb; have hz : w.heap.size + 1 < w1.heap.size := (by have := hb.size; simp at this; omega); have hz0 : w.heap.size < w1.heap.size := (by omega))
    | (go_at_fn J; refine (HO.out _).mono ?_; rintro e w2 ⟨rfl, hb2⟩; obtain ⟨hc2, hf2⟩ := bcell hb2; have hz1 : w1.heap.size < w2.heap.size := (by have := hb2.size; simp at this; omega); have hz2 : w.heap.size + 1 < w2.heap.size := (by omega))
    | (go_at_call 41; refine (plain_any _ _ _ _ _ h1).mono ?_; rintro e w3 ⟨rfl, rfl⟩))
  have B1 : Below w.heap.size w w1 := bel_trans (bel_alloc (bel_alloc (Below.refl _ _) _) _) hb
  have B2 : Below w.heap.size w w2 := bel_trans (bel_alloc B1 _) hb2
  generalize hV : (w2.alloc (Obj.cells #[.int .u64 r, .bool c, .bool o] 88)).alloc (Obj.cells #[.int .i64 sz, .int .i64 n, .int .i64 cn] 62) = V
  have BV : Below w.heap.size w V := hV ▸ bel_alloc (bel_alloc B2 _) _
  have zV : w.heap.size + 1 < V.heap.size := by rw [← hV]; simp; omega
  have k0 : V.cell? ⟨w1.heap.size, 0, none⟩ = some (.int .i64 sz) := by rw [← hV]; exact up_alloc (up_alloc (by rw [hc2 _ _ (by simp)]; simp) _) _
  have k1 : V.cell? ⟨w1.heap.size, 1, none⟩ = some (.int .i64 n) := by rw [← hV]; exact up_alloc (up_alloc (by rw [hc2 _ _ (by simp)]; simp) _) _
  have k2 : V.cell? ⟨w1.heap.size, 2, none⟩ = some (.int .i64 cn) := by rw [← hV]; exact up_alloc (up_alloc (by rw [hc2 _ _ (by simp)]; simp) _) _
  have k3 : V.cell? ⟨w2.heap.size, 1, none⟩ = some (.bool c) := by rw [← hV]; exact up_alloc (by simp) _
  have k4 : V.cell? ⟨w2.heap.size, 2, none⟩ = some (.bool o) := by rw [← hV]; exact up_alloc (by simp) _
  have BW := bel_alloc (bel_alloc (bel_trans (bel_alloc hb (Obj.cells #[.int .i64 sz, .int .i64 n, .int .i64 cn] 62)) hb2) (Obj.cells #[.int .u64 r, .bool c, .bool o] 88)) (Obj.cells #[.int .i64 sz, .int .i64 n, .int .i64 cn] 62)
  rw [hV] at BW
  have q0 : V.cell? ⟨w.heap.size + 1, 0, none⟩ = some (.bool false) := to_bel BW (by simp)
  have q1 : V.cell? ⟨w.heap.size + 1, 1, none⟩ = some (.bool false) := to_bel BW (by simp)
  have q2 : V.cell? ⟨w.heap.size + 1, 2, none⟩ = some (.bool false) := to_bel BW (by simp)
  have q3 : V.cell? ⟨w.heap.size + 1, 3, none⟩ = some (.bool false) := to_bel BW (by simp)
  have q4 : V.cell? ⟨w.heap.size + 1, 4, none⟩ = some (.bool false) := to_bel BW (by simp)
  have f0 : V.frozen? ⟨w.heap.size + 1, 0, none⟩ = false := fz_bel BW (by simp) (by simp)
  have f1 : V.frozen? ⟨w.heap.size + 1, 1, none⟩ = false := fz_bel BW (by simp) (by simp)
  have f2 : V.frozen? ⟨w.heap.size + 1, 2, none⟩ = false := fz_bel BW (by simp) (by simp)
  have f3 : V.frozen? ⟨w.heap.size + 1, 3, none⟩ = false := fz_bel BW (by simp) (by simp)
  have f4 : V.frozen? ⟨w.heap.size + 1, 4, none⟩ = false := fz_bel BW (by simp) (by simp)
  have x1 : w1.heap.size ≠ w.heap.size + 1 := by omega
  have x2 : w2.heap.size ≠ w.heap.size + 1 := by omega
  clear BW hV hc hf hc2 hf2 hb hb2 B1 B2 hz hz0 hz1 hz2 HO HW HH fn hent
  go_region_held3 (fun v => v.cell? ⟨w1.heap.size, 0, none⟩ = some (.int .i64 sz) ∧ v.cell? ⟨w1.heap.size, 1, none⟩ = some (.int .i64 n) ∧ v.cell? ⟨w1.heap.size, 2, none⟩ = some (.int .i64 cn) ∧
      v.cell? ⟨w2.heap.size, 1, none⟩ = some (.bool c) ∧ v.cell? ⟨w2.heap.size, 2, none⟩ = some (.bool o)) ((refine ⟨?_, ?_, ?_, ?_, ?_⟩) <;> (repeat (first | (with_reducible assumption) | (with_reducible refine up_drew ?_) | ((with_reducible refine up_set ?_ ?_); rotate_left; (first | exact x1 | exact x2)))))
    (first
      | (go_at_call 54; refine (evenOnes_any _ _).mono ?_; rintro e w4 ⟨rfl, rfl⟩)
      | (go_at_call 55; refine (top_bel _ _ _ _ _ h0 h1).mono ?_; rintro e u ⟨rfl, hbu⟩; have BU : Below w.heap.size w u := (bel_trans BV.drew hbu); have l0 := (to_bel hbu (up_drew k0)); have l1 := (to_bel hbu (up_drew k1)); have l2 := (to_bel hbu (up_drew k2)); have l3 := (to_bel hbu (up_drew k3)); have l4 := (to_bel hbu (up_drew k4)); have r0 := (to_bel hbu (up_drew q0)); have r1 := (to_bel hbu (up_drew q1)); have r2 := (to_bel hbu (up_drew q2)); have r3 := (to_bel hbu (up_drew q3)); have r4 := (to_bel hbu (up_drew q4)); have g0 : u.frozen? ⟨w.heap.size + 1, 0, none⟩ = false := (fz_bel hbu zV f0); have g1 : u.frozen? ⟨w.heap.size + 1, 1, none⟩ = false := (fz_bel hbu zV f1); have g2 : u.frozen? ⟨w.heap.size + 1, 2, none⟩ = false := (fz_bel hbu zV f2); have g3 : u.frozen? ⟨w.heap.size + 1, 3, none⟩ = false := (fz_bel hbu zV f3); have g4 : u.frozen? ⟨w.heap.size + 1, 4, none⟩ = false := (fz_bel hbu zV f4); clear hbu))
  go_wp2
  refine bodyPost_ret (v := .tuple #[.int .u64 (r % 2 ^ n), resF n c o (r % 2 ^ n), .int .i64 0]) (by simp [results, Tryd.results46, go_sem, r0, r1, r2, r3, r4]) rfl ⟨rfl, ?_⟩
  repeat (first | (with_reducible exact BU) | ((with_reducible refine Below.setCell ?_ ?_ _); rotate_left; (focus (dsimp only; omega))))

set_option maxRecDepth 10000 in
theorem answer_single_no (sz : Int) (a : Int) (k : Bool) (op : Value) (w : World) (h : ¬ (sz = 1 ∨ sz = 4 ∨ sz = 8)) (hw : Wd w) :
    Calls Tryd.prog 46 #[.int .i64 sz, .agg #[.int .u64 a, .bool k], op] w fun e w' =>
      e = .returned (.tuple #[.int .u64 0, .agg #[.bool false, .bool false, .bool false, .bool false, .bool false], .int .i64 1]) ∧ Below w.heap.size w w' := by
  have HH : Hid (¬ (sz = 1 ∨ sz = 4 ∨ sz = 8)) := h
  have HW : Hid (Wd w) := hw
  clear h hw
  go_enter Tryd.func46, Tryd.ntmps46
  go_wp2_with (go_at_call 40; refine (widthOf_no _ _ ((HW.out.alloc _).alloc _) HH.out).mono ?_; rintro e w1 ⟨rfl, hb⟩; obtain ⟨hc, hf⟩ := bcell hb; have hz : w.heap.size + 1 < w1.heap.size := (by have := hb.size; simp at this; omega); have hz0 : w.heap.size < w1.heap.size := (by omega))
  refine bodyPost_ret (v := .tuple #[.int .u64 0, .agg #[.bool false, .bool false, .bool false, .bool false, .bool false], .int .i64 1]) (by simp [results, Tryd.results46, go_sem, hc, hz]) rfl ⟨rfl, ?_⟩
  have B1 : Below w.heap.size w w1 := bel_trans (bel_alloc (bel_alloc (Below.refl _ _) _) _) hb
  repeat (first | (with_reducible exact B1) | (with_reducible refine bel_alloc ?_ _) | ((with_reducible refine Below.setCell ?_ ?_ _); rotate_left; (focus (dsimp only; omega))))

set_option maxRecDepth 10000 in
theorem answer_single_nil (sz : Int) (n : Nat) (cn : Int) (a : Int) (k : Bool) (w : World) (h : Wide sz n cn) (hw : Wd w) :
    Calls Tryd.prog 46 #[.int .i64 sz, .agg #[.int .u64 a, .bool k], .nilFunc] w fun e w' =>
      e = .returned (.tuple #[.int .u64 0, .agg #[.bool false, .bool false, .bool false, .bool false, .bool false], .int .i64 1]) ∧ Below w.heap.size w w' := by
  have HH : Hid (Wide sz n cn) := h
  have HW : Hid (Wd w) := hw
  clear h hw
  have fn := nil_nil_single
  go_enter Tryd.func46, Tryd.ntmps46
  go_wp2_with (go_at_call 40; refine (widthOf_yes HH.out _ ((HW.out.alloc _).alloc _)).mono ?_; rintro e w1 ⟨rfl, hb⟩; obtain ⟨hc, hf⟩ := bcell hb; have hz : w.heap.size + 1 < w1.heap.size := (by have := hb.size; simp at this; omega); have hz0 : w.heap.size < w1.heap.size := (by omega))
  refine bodyPost_ret (v := .tuple #[.int .u64 0, .agg #[.bool false, .bool false, .bool false, .bool false, .bool false], .int .i64 1]) (by simp [results, Tryd.results46, go_sem, hc, hz]) rfl ⟨rfl, ?_⟩
  have B1 : Below w.heap.size w w1 := bel_trans (bel_alloc (bel_alloc (Below.refl _ _) _) _) hb
  repeat (first | (with_reducible exact B1) | (with_reducible refine bel_alloc ?_ _) | ((with_reducible refine Below.setCell ?_ ?_ _); rotate_left; (focus (dsimp only; omega))))

theorem func_nil_shifted (J : Nat) (w : World) : Sem.run Tryd.prog (binOp .eql 80 (.func (.func J) #[] #[]) .nilFunc) w = .ok (.bool false) w := by kernel_rfl
theorem nil_nil_shifted (w : World) : Sem.run Tryd.prog (binOp .eql 80 .nilFunc .nilFunc) w = .ok (.bool true) w := by kernel_rfl

set_option maxRecDepth 10000 in
set_option maxHeartbeats 1000000 in
theorem answer_shifted (J : Nat) (sz : Int) (n : Nat) (cn : Int) (a m : Int) (r : Int) (c o : Bool) (w : World) (h : Wide sz n cn) (hw : Wd w)
    (hent : ∀ args w, (callFunc J args).run Tryd.prog w = .ok (.enter J args) w)
    (hop : ∀ w, Calls Tryd.prog J #[.agg #[.int .i64 sz, .int .i64 n, .int .i64 cn], .agg #[.int .u64 a, .int .i64 m]] w fun e w' => e = .returned (.agg #[.int .u64 r, .bool c, .bool o]) ∧ Below w.heap.size w w') :
    Calls Tryd.prog 49 #[.int .i64 sz, .agg #[.int .u64 a, .int .i64 m], .func (.func J) #[] #[]] w fun e w' =>
      e = .returned (.tuple #[.int .u64 (r % 2 ^ n), resF n c o (r % 2 ^ n), .int .i64 0]) ∧ Below w.heap.size w w' := by
  have h0 := h.lo
  have h1 := h.hi
  have HH : Hid (Wide sz n cn) := h
  have HO : Hid (∀ w, Calls Tryd.prog J #[.agg #[.int .i64 sz, .int .i64 n, .int .i64 cn], .agg #[.int .u64 a, .int .i64 m]] w fun e w' => e = .returned (.agg #[.int .u64 r, .bool c, .bool o]) ∧ Below w.heap.size w w') := hop
  have HW : Hid (Wd w) := hw
  clear h hop hw
  have fn := func_nil_shifted
  go_enter Tryd.func49, Tryd.ntmps49
  go_wp2_with (first
    | (go_at_call 40; refine (widthOf_yes HH.out _ ((HW.out.alloc _).alloc _)).mono ?_; rintro e w1 ⟨rfl, hb⟩; obtain ⟨hc, hf⟩ := bcell hb; have hz : w.heap.size + 1 < w1.heap.size := (by have := hb.size; simp at this; omega); have hz0 : w.heap.size < w1.heap.size := (by omega))
    | (go_at_fn J; refine (HO.out _).mono ?_; rintro e w2 ⟨rfl, hb2⟩; obtain ⟨hc2, hf2⟩ := bcell hb2; have hz1 : w1.heap.size < w2.heap.size := (by have := hb2.size; simp at this; omega); have hz2 : w.heap.size + 1 < w2.heap.size := (by omega))
    | (go_at_call 41; refine (plain_any _ _ _ _ _ h1).mono ?_; rintro e w3 ⟨rfl, rfl⟩))
  have B1 : Below w.heap.size w w1 := bel_trans (bel_alloc (bel_alloc (Below.refl _ _) _) _) hb
  have B2 : Below w.heap.size w w2 := bel_trans (bel_alloc B1 _) hb2
  generalize hV : (w2.alloc (Obj.cells #[.int .u64 r, .bool c, .bool o] 88)).alloc (Obj.cells #[.int .i64 sz, .int .i64 n, .int .i64 cn] 62) = V
  have BV : Below w.heap.size w V := hV ▸ bel_alloc (bel_alloc B2 _) _
  have zV : w.heap.size + 1 < V.heap.size := by rw [← hV]; simp; omega
  have k0 : V.cell? ⟨w1.heap.size, 0, none⟩ = some (.int .i64 sz) := by rw [← hV]; exact up_alloc (up_alloc (by rw [hc2 _ _ (by simp)]; simp) _) _
  have k1 : V.cell? ⟨w1.heap.size, 1, none⟩ = some (.int .i64 n) := by rw [← hV]; exact up_alloc (up_alloc (by rw [hc2 _ _ (by simp)]; simp) _) _
  have k2 : V.cell? ⟨w1.heap.size, 2, none⟩ = some (.int .i64 cn) := by rw [← hV]; exact up_alloc (up_alloc (by rw [hc2 _ _ (by simp)]; simp) _) _
  have k3 : V.cell? ⟨w2.heap.size, 1, none⟩ = some (.bool c) := by rw [← hV]; exact up_alloc (by simp) _
  have k4 : V.cell? ⟨w2.heap.size, 2, none⟩ = some (.bool o) := by rw [← hV]; exact up_alloc (by simp) _
  have BW := bel_alloc (bel_alloc (bel_trans (bel_alloc hb (Obj.cells #[.int .i64 sz, .int .i64 n, .int .i64 cn] 62)) hb2) (Obj.cells #[.int .u64 r, .bool c, .bool o] 88)) (Obj.cells #[.int .i64 sz, .int .i64 n, .int .i64 cn] 62)
  rw [hV] at BW
  have q0 : V.cell? ⟨w.heap.size + 1, 0, none⟩ = some (.bool false) := to_bel BW (by simp)
  have q1 : V.cell? ⟨w.heap.size + 1, 1, none⟩ = some (.bool false) := to_bel BW (by simp)
  have q2 : V.cell? ⟨w.heap.size + 1, 2, none⟩ = some (.bool false) := to_bel BW (by simp)
  have q3 : V.cell? ⟨w.heap.size + 1, 3, none⟩ = some (.bool false) := to_bel BW (by simp)
  have q4 : V.cell? ⟨w.heap.size + 1, 4, none⟩ = some (.bool false) := to_bel BW (by simp)
  have f0 : V.frozen? ⟨w.heap.size + 1, 0, none⟩ = false := fz_bel BW (by simp) (by simp)
  have f1 : V.frozen? ⟨w.heap.size + 1, 1, none⟩ = false := fz_bel BW (by simp) (by simp)
  have f2 : V.frozen? ⟨w.heap.size + 1, 2, none⟩ = false := fz_bel BW (by simp) (by simp)
  have f3 : V.frozen? ⟨w.heap.size + 1, 3, none⟩ = false := fz_bel BW (by simp) (by simp)
  have f4 : V.frozen? ⟨w.heap.size + 1, 4, none⟩ = false := fz_bel BW (by simp) (by simp)
  have x1 : w1.heap.size ≠ w.heap.size + 1 := by omega
  have x2 : w2.heap.size ≠ w.heap.size + 1 := by omega
  clear BW hV hc hf hc2 hf2 hb hb2 B1 B2 hz hz0 hz1 hz2 HO HW HH fn hent
  go_region_held3 (fun v => v.cell? ⟨w1.heap.size, 0, none⟩ = some (.int .i64 sz) ∧ v.cell? ⟨w1.heap.size, 1, none⟩ = some (.int .i64 n) ∧ v.cell? ⟨w1.heap.size, 2, none⟩ = some (.int .i64 cn) ∧
      v.cell? ⟨w2.heap.size, 1, none⟩ = some (.bool c) ∧ v.cell? ⟨w2.heap.size, 2, none⟩ = some (.bool o)) ((refine ⟨?_, ?_, ?_, ?_, ?_⟩) <;> (repeat (first | (with_reducible assumption) | (with_reducible refine up_drew ?_) | ((with_reducible refine up_set ?_ ?_); rotate_left; (first | exact x1 | exact x2)))))
    (first
      | (go_at_call 54; refine (evenOnes_any _ _).mono ?_; rintro e w4 ⟨rfl, rfl⟩)
      | (go_at_call 55; refine (top_bel _ _ _ _ _ h0 h1).mono ?_; rintro e u ⟨rfl, hbu⟩; have BU : Below w.heap.size w u := (bel_trans BV.drew hbu); have l0 := (to_bel hbu (up_drew k0)); have l1 := (to_bel hbu (up_drew k1)); have l2 := (to_bel hbu (up_drew k2)); have l3 := (to_bel hbu (up_drew k3)); have l4 := (to_bel hbu (up_drew k4)); have r0 := (to_bel hbu (up_drew q0)); have r1 := (to_bel hbu (up_drew q1)); have r2 := (to_bel hbu (up_drew q2)); have r3 := (to_bel hbu (up_drew q3)); have r4 := (to_bel hbu (up_drew q4)); have g0 : u.frozen? ⟨w.heap.size + 1, 0, none⟩ = false := (fz_bel hbu zV f0); have g1 : u.frozen? ⟨w.heap.size + 1, 1, none⟩ = false := (fz_bel hbu zV f1); have g2 : u.frozen? ⟨w.heap.size + 1, 2, none⟩ = false := (fz_bel hbu zV f2); have g3 : u.frozen? ⟨w.heap.size + 1, 3, none⟩ = false := (fz_bel hbu zV f3); have g4 : u.frozen? ⟨w.heap.size + 1, 4, none⟩ = false := (fz_bel hbu zV f4); clear hbu))
  go_wp2
  refine bodyPost_ret (v := .tuple #[.int .u64 (r % 2 ^ n), resF n c o (r % 2 ^ n), .int .i64 0]) (by simp [results, Tryd.results49, go_sem, r0, r1, r2, r3, r4]) rfl ⟨rfl, ?_⟩
  repeat (first | (with_reducible exact BU) | ((with_reducible refine Below.setCell ?_ ?_ _); rotate_left; (focus (dsimp only; omega))))

set_option maxRecDepth 10000 in
theorem answer_shifted_no (sz : Int) (a m : Int) (op : Value) (w : World) (h : ¬ (sz = 1 ∨ sz = 4 ∨ sz = 8)) (hw : Wd w) :
    Calls Tryd.prog 49 #[.int .i64 sz, .agg #[.int .u64 a, .int .i64 m], op] w fun e w' =>
      e = .returned (.tuple #[.int .u64 0, .agg #[.bool false, .bool false, .bool false, .bool false, .bool false], .int .i64 1]) ∧ Below w.heap.size w w' := by
  have HH : Hid (¬ (sz = 1 ∨ sz = 4 ∨ sz = 8)) := h
  have HW : Hid (Wd w) := hw
  clear h hw
  go_enter Tryd.func49, Tryd.ntmps49
  go_wp2_with (go_at_call 40; refine (widthOf_no _ _ ((HW.out.alloc _).alloc _) HH.out).mono ?_; rintro e w1 ⟨rfl, hb⟩; obtain ⟨hc, hf⟩ := bcell hb; have hz : w.heap.size + 1 < w1.heap.size := (by have := hb.size; simp at this; omega); have hz0 : w.heap.size < w1.heap.size := (by omega))
  refine bodyPost_ret (v := .tuple #[.int .u64 0, .agg #[.bool false, .bool false, .bool false, .bool false, .bool false], .int .i64 1]) (by simp [results, Tryd.results49, go_sem, hc, hz]) rfl ⟨rfl, ?_⟩
  have B1 : Below w.heap.size w w1 := bel_trans (bel_alloc (bel_alloc (Below.refl _ _) _) _) hb
  repeat (first | (with_reducible exact B1) | (with_reducible refine bel_alloc ?_ _) | ((with_reducible refine Below.setCell ?_ ?_ _); rotate_left; (focus (dsimp only; omega))))

set_option maxRecDepth 10000 in
theorem answer_shifted_nil (sz : Int) (n : Nat) (cn : Int) (a m : Int) (w : World) (h : Wide sz n cn) (hw : Wd w) :
    Calls Tryd.prog 49 #[.int .i64 sz, .agg #[.int .u64 a, .int .i64 m], .nilFunc] w fun e w' =>
      e = .returned (.tuple #[.int .u64 0, .agg #[.bool false, .bool false, .bool false, .bool false, .bool false], .int .i64 1]) ∧ Below w.heap.size w w' := by
  have HH : Hid (Wide sz n cn) := h
  have HW : Hid (Wd w) := hw
  clear h hw
  have fn := nil_nil_shifted
  go_enter Tryd.func49, Tryd.ntmps49
  go_wp2_with (go_at_call 40; refine (widthOf_yes HH.out _ ((HW.out.alloc _).alloc _)).mono ?_; rintro e w1 ⟨rfl, hb⟩; obtain ⟨hc, hf⟩ := bcell hb; have hz : w.heap.size + 1 < w1.heap.size := (by have := hb.size; simp at this; omega); have hz0 : w.heap.size < w1.heap.size := (by omega))
  refine bodyPost_ret (v := .tuple #[.int .u64 0, .agg #[.bool false, .bool false, .bool false, .bool false, .bool false], .int .i64 1]) (by simp [results, Tryd.results49, go_sem, hc, hz]) rfl ⟨rfl, ?_⟩
  have B1 : Below w.heap.size w w1 := bel_trans (bel_alloc (bel_alloc (Below.refl _ _) _) _) hb
  repeat (first | (with_reducible exact B1) | (with_reducible refine bel_alloc ?_ _) | ((with_reducible refine Below.setCell ?_ ?_ _); rotate_left; (focus (dsimp only; omega))))
end Go.Proofs.YtbfkmnlbmlpogaaDoor
