/- The contracts of package alu's widths. -/
import Derived.Test.YtbfkmnlbmlpogaaDoorRows
import Derived.Test.YtbfkmnlbmlpogaaDoorPlain
import Derived.WalkKit
import Derived.ProofKit
import Derived.Below
import Derived.Laws.BitsAllLaws
import Derived.LoopN
import Derived.Lib.BitFns
import Derived.WalkLawsBesides
namespace Go.Proofs.YtbfkmnlbmlpogaaDoor
open Go.ChangeShapes Go.WideShapes Go.ChangeAt Go.RowKit
set_option linter.unusedVariables false

/-- The table of the sizes lies in memory. -/
structure Wd (w : World) : Prop where
  z : 0 < w.heap.size
  c0 : w.cell? ⟨0, 0, none⟩ = some (.int .i64 1)
  c1 : w.cell? ⟨0, 1, none⟩ = some (.int .i64 8)
  c2 : w.cell? ⟨0, 2, none⟩ = some (.int .i64 31)
  c3 : w.cell? ⟨0, 3, none⟩ = some (.int .i64 4)
  c4 : w.cell? ⟨0, 4, none⟩ = some (.int .i64 32)
  c5 : w.cell? ⟨0, 5, none⟩ = some (.int .i64 31)
  c6 : w.cell? ⟨0, 6, none⟩ = some (.int .i64 8)
  c7 : w.cell? ⟨0, 7, none⟩ = some (.int .i64 64)
  c8 : w.cell? ⟨0, 8, none⟩ = some (.int .i64 63)

theorem bcell {W w1 : World} (hb : Below W.heap.size W w1) : (∀ b o, b < W.heap.size → w1.cell? ⟨b, o, none⟩ = W.cell? ⟨b, o, none⟩) ∧ (∀ b o, b < W.heap.size → w1.frozen? ⟨b, o, none⟩ = W.frozen? ⟨b, o, none⟩) :=
  ⟨fun b o h => hb.cell (p := ⟨b, o, none⟩) h, fun b o h => hb.frozen (p := ⟨b, o, none⟩) h⟩

theorem Wd.below {w w' : World} (h : Wd w) {n : Nat} (hn : 0 < n) (hb : Below n w w') (hs : w.heap.size ≤ w'.heap.size) : Wd w' := by
  have e : ∀ o, w'.cell? ⟨0, o, none⟩ = w.cell? ⟨0, o, none⟩ := fun o => hb.cell (p := ⟨0, o, none⟩) hn
  have := h.z
  exact ⟨by omega, (e _).trans h.c0, (e _).trans h.c1, (e _).trans h.c2, (e _).trans h.c3, (e _).trans h.c4, (e _).trans h.c5, (e _).trans h.c6, (e _).trans h.c7, (e _).trans h.c8⟩

theorem ret_int {k : IntKind} {a b : Int} (h : a = b) : Ending.returned (.int k a) = .returned (.int k b) := by rw [h]
theorem ret_bool {a b : Bool} (h : a = b) : Ending.returned (.bool a) = .returned (.bool b) := by rw [h]
theorem wrap_wrap (x : Int) : wrap64 (IntKind.u64.wrap x) = wrap64 x := by rw [IntKind.wrap_u64]; unfold wrap64; omega

theorem below_drewN {B : Nat} {a w : World} (h : Below B a w) (n : Nat) : Below B a (w.drewN n) := by
  induction n generalizing w with
  | zero => exact h
  | succ n ih => exact (ih h).drew

theorem bel_alloc {a w : World} (h : Below a.heap.size a w) (o : Obj) : Below a.heap.size a (w.alloc o) := h.alloc h.size o
theorem bel_trans {a v w : World} (h : Below a.heap.size a v) (g : Below v.heap.size v w) : Below a.heap.size a w := h.trans (g.mono h.size)

theorem up_alloc {v : World} {a : Addr} {x : Value} (h : v.cell? a = some x) (o : Obj) : (v.alloc o).cell? a = some x := by
  rw [World.cell?_alloc_lt _ _ _ (World.block_lt_of_cell? v a h), h]
theorem up_drew {v : World} {a : Addr} {x : Value} (h : v.cell? a = some x) : v.drew.cell? a = some x := h
theorem up_set {v : World} {a : Addr} {x : Value} (h : v.cell? a = some x) {p : Addr} {u : Value} (hp : a.block ≠ p.block) : (v.setCell p u).cell? a = some x := by
  have e := Below.heap_setCell v p u a.block hp
  unfold World.cell? at h ⊢
  rw [e]; exact h

theorem plain_any (s c : Int) (n : Nat) (x : Int) (w : World) (h1 : n ≤ 64) :
    Calls Tryd.prog 41 #[.agg #[.int .i64 s, .int .i64 n, .int .i64 c], .int .u64 x] w fun e w' => e = .returned (.int .u64 (x % 2 ^ n)) ∧ w' = w.alloc (.cells #[.int .i64 s, .int .i64 n, .int .i64 c] 62) := by
  rw [← low_u x n (by omega)]
  have e : (64 - (n : Int)).toNat = 64 - n := by omega
  go_enter Tryd.func41, Tryd.ntmps41
  go_wp2
  go_ret
  exact ⟨rfl, rfl⟩

theorem signed_any (s c : Int) (n : Nat) (x : Int) (w : World) (h0 : 1 ≤ n) (h1 : n ≤ 64) :
    Calls Tryd.prog 43 #[.agg #[.int .i64 s, .int .i64 n, .int .i64 c], .int .u64 x] w fun e w' => e = .returned (.int .i64 (sx n x)) ∧ w' = w.alloc (.cells #[.int .i64 s, .int .i64 n, .int .i64 c] 62) := by
  rw [← low_i x n (by omega) (by omega)]
  have e : (64 - (n : Int)).toNat = 64 - n := by omega
  go_enter Tryd.func43, Tryd.ntmps43
  go_wp2
  go_ret
  exact ⟨ret_int (by rw [wrap_wrap]), rfl⟩

/-- The same of a width without bits. -/
theorem plain_0 (s c : Int) (x : Int) (w : World) :
    Calls Tryd.prog 41 #[.agg #[.int .i64 s, .int .i64 0, .int .i64 c], .int .u64 x] w fun e w' => e = .returned (.int .u64 0) ∧ w' = w.alloc (.cells #[.int .i64 s, .int .i64 0, .int .i64 c] 62) := by
  refine (plain_any s c 0 x w (by omega)).mono fun e w' h => ?_
  obtain ⟨rfl, h⟩ := h
  exact ⟨ret_int (by simp), h⟩

theorem signed_0 (s c : Int) (x : Int) (w : World) :
    Calls Tryd.prog 43 #[.agg #[.int .i64 s, .int .i64 0, .int .i64 c], .int .u64 x] w fun e w' => e = .returned (.int .i64 0) ∧ w' = w.alloc (.cells #[.int .i64 s, .int .i64 0, .int .i64 c] 62) := by
  go_enter Tryd.func43, Tryd.ntmps43
  go_wp2
  go_ret
  exact ⟨ret_int (by rw [IntKind.wrap_u64]; unfold wrap64; omega), rfl⟩

theorem top_any (s c : Int) (n : Nat) (x : Int) (w : World) (h0 : 1 ≤ n) (h1 : n ≤ 64) :
    Calls Tryd.prog 55 #[.agg #[.int .i64 s, .int .i64 n, .int .i64 c], .int .u64 x] w fun e w' => e = .returned (.bool (decide (sx n x < 0))) ∧ w' = (w.alloc (.cells #[.int .i64 s, .int .i64 n, .int .i64 c] 62)).alloc (.cells #[.int .i64 s, .int .i64 n, .int .i64 c] 62) := by
  go_enter Tryd.func55, Tryd.ntmps55
  go_wp2_with (go_at_call 43; refine (signed_any _ _ _ _ _ h0 h1).mono ?_; rintro e w1 ⟨rfl, rfl⟩)
  go_ret
  exact ⟨rfl, rfl⟩

theorem top_bel (s c : Int) (n : Nat) (x : Int) (w : World) (h0 : 1 ≤ n) (h1 : n ≤ 64) :
    Calls Tryd.prog 55 #[.agg #[.int .i64 s, .int .i64 n, .int .i64 c], .int .u64 x] w fun e w' => e = .returned (.bool (decide (sx n x < 0))) ∧ Below w.heap.size w w' :=
  (top_any s c n x w h0 h1).mono fun _ _ ⟨he, hw⟩ => ⟨he, hw ▸ bel_alloc (bel_alloc (Below.refl _ _) _) _⟩

/-- What a cell below the mark holds, it holds behind a call. -/
theorem to_bel {v u : World} (hb : Below v.heap.size v u) {a : Addr} {x : Value} (h : v.cell? a = some x) : u.cell? a = some x :=
  (hb.cell (World.block_lt_of_cell? v a h)).trans h
theorem fz_bel {v u : World} (hb : Below v.heap.size v u) {a : Addr} (hl : a.block < v.heap.size) (h : v.frozen? a = false) : u.frozen? a = false :=
  (hb.frozen hl).trans h

theorem even_byte : ∀ n : Fin 256, ((wrap64 (Lib.pop8 (n.val : Int))).tmod 2 == 0) = evenB (n.val : Int) := by decide +kernel
theorem even_low (x : Int) : evenB (x % 256) = evenB x := by
  unfold evenB
  congr 2
  simp only [onesTo]
  omega
theorem even_pop (x : Int) : ((wrap64 (Lib.pop8 (x % 256))).tmod 2 == 0) = evenB x := by
  have h := even_byte ⟨(x % 256).toNat, by omega⟩
  simp only [Int.toNat_of_nonneg (show 0 ≤ x % 256 by omega)] at h
  rw [h, even_low]

theorem evenOnes_any (x : Int) (w : World) :
    Calls Tryd.prog 54 #[.int .u64 x] w fun e w' => e = .returned (.bool (evenB x)) ∧ w' = w := by
  go_enter Tryd.func54, Tryd.ntmps54
  go_wp2
  go_ret
  exact ⟨ret_bool (even_pop x), rfl⟩

theorem bit_any (s : Bool) (b : Int) (w : World) :
    Calls Tryd.prog 52 #[.bool s, .int .u64 b] w fun e w' => e = .returned (.int .u64 (bitV s b)) ∧ w' = w := by
  cases s
  all_goals
    go_enter Tryd.func52, Tryd.ntmps52
    go_wp2
    go_ret
    exact ⟨rfl, rfl⟩



theorem at0 (w : World) : (Instr.index 90 (.agg #[.int .i64 1, .int .i64 8, .int .i64 31, .int .i64 4, .int .i64 32, .int .i64 31, .int .i64 8, .int .i64 64, .int .i64 63]) (.int .i64 0)).run Tryd.prog w = .ok (.agg #[.int .i64 1, .int .i64 8, .int .i64 31]) w := by kernel_rfl
theorem at1 (w : World) : (Instr.index 90 (.agg #[.int .i64 1, .int .i64 8, .int .i64 31, .int .i64 4, .int .i64 32, .int .i64 31, .int .i64 8, .int .i64 64, .int .i64 63]) (.int .i64 1)).run Tryd.prog w = .ok (.agg #[.int .i64 4, .int .i64 32, .int .i64 31]) w := by kernel_rfl
theorem at2 (w : World) : (Instr.index 90 (.agg #[.int .i64 1, .int .i64 8, .int .i64 31, .int .i64 4, .int .i64 32, .int .i64 31, .int .i64 8, .int .i64 64, .int .i64 63]) (.int .i64 2)).run Tryd.prog w = .ok (.agg #[.int .i64 8, .int .i64 64, .int .i64 63]) w := by kernel_rfl

theorem widthOf_1 (w : World) (h : Wd w) :
    Calls Tryd.prog 40 #[.int .i64 1] w fun e w' => e = .returned (.tuple #[.agg #[.int .i64 1, .int .i64 8, .int .i64 31], .int .i64 0]) ∧ Below w.heap.size w w' := by
  obtain ⟨hz, c0, c1, c2, c3, c4, c5, c6, c7, c8⟩ := h
  have i0 := at0
  have i1 := at1
  have i2 := at2
  go_enter Tryd.func40, Tryd.ntmps40
  go_wp2
  clear c0 c1 c2 c3 c4 c5 c6 c7 c8
  refine wp_loop_rounds 1 ?_
  iterate 1 (rw [rounds_succ]; go_wp2)
  refine bodyPost_ret (v := .tuple #[.agg #[.int .i64 1, .int .i64 8, .int .i64 31], .int .i64 0]) (by simp [results, Tryd.results40, go_sem]) rfl ⟨rfl, ?_⟩
  repeat (first | exact Below.refl _ _ | refine Below.alloc ?_ (by first | exact Nat.le_refl _ | (simp; done) | (simp; omega)) _ | refine Below.setCell ?_ (by first | exact Nat.le_refl _ | (simp; done) | (simp; omega)) _)
theorem widthOf_4 (w : World) (h : Wd w) :
    Calls Tryd.prog 40 #[.int .i64 4] w fun e w' => e = .returned (.tuple #[.agg #[.int .i64 4, .int .i64 32, .int .i64 31], .int .i64 0]) ∧ Below w.heap.size w w' := by
  obtain ⟨hz, c0, c1, c2, c3, c4, c5, c6, c7, c8⟩ := h
  have i0 := at0
  have i1 := at1
  have i2 := at2
  go_enter Tryd.func40, Tryd.ntmps40
  go_wp2
  clear c0 c1 c2 c3 c4 c5 c6 c7 c8
  refine wp_loop_rounds 2 ?_
  iterate 2 (rw [rounds_succ]; go_wp2)
  refine bodyPost_ret (v := .tuple #[.agg #[.int .i64 4, .int .i64 32, .int .i64 31], .int .i64 0]) (by simp [results, Tryd.results40, go_sem]) rfl ⟨rfl, ?_⟩
  repeat (first | exact Below.refl _ _ | refine Below.alloc ?_ (by first | exact Nat.le_refl _ | (simp; done) | (simp; omega)) _ | refine Below.setCell ?_ (by first | exact Nat.le_refl _ | (simp; done) | (simp; omega)) _)
theorem widthOf_8 (w : World) (h : Wd w) :
    Calls Tryd.prog 40 #[.int .i64 8] w fun e w' => e = .returned (.tuple #[.agg #[.int .i64 8, .int .i64 64, .int .i64 63], .int .i64 0]) ∧ Below w.heap.size w w' := by
  obtain ⟨hz, c0, c1, c2, c3, c4, c5, c6, c7, c8⟩ := h
  have i0 := at0
  have i1 := at1
  have i2 := at2
  go_enter Tryd.func40, Tryd.ntmps40
  go_wp2
  clear c0 c1 c2 c3 c4 c5 c6 c7 c8
  refine wp_loop_rounds 3 ?_
  iterate 3 (rw [rounds_succ]; go_wp2)
  refine bodyPost_ret (v := .tuple #[.agg #[.int .i64 8, .int .i64 64, .int .i64 63], .int .i64 0]) (by simp [results, Tryd.results40, go_sem]) rfl ⟨rfl, ?_⟩
  repeat (first | exact Below.refl _ _ | refine Below.alloc ?_ (by first | exact Nat.le_refl _ | (simp; done) | (simp; omega)) _ | refine Below.setCell ?_ (by first | exact Nat.le_refl _ | (simp; done) | (simp; omega)) _)

theorem widthOf_no (s : Int) (w : World) (h : Wd w) (hs : ¬ (s = 1 ∨ s = 4 ∨ s = 8)) :
    Calls Tryd.prog 40 #[.int .i64 s] w fun e w' => e = .returned (.tuple #[.agg #[.int .i64 0, .int .i64 0, .int .i64 0], .int .i64 1]) ∧ Below w.heap.size w w' := by
  obtain ⟨hz, c0, c1, c2, c3, c4, c5, c6, c7, c8⟩ := h
  have h1 : ((1 : Int) == s) = false := by simp; omega
  have h4 : ((4 : Int) == s) = false := by simp; omega
  have h8 : ((8 : Int) == s) = false := by simp; omega
  clear hs
  have i0 := at0
  have i1 := at1
  have i2 := at2
  go_enter Tryd.func40, Tryd.ntmps40
  go_wp2
  clear c0 c1 c2 c3 c4 c5 c6 c7 c8
  refine wp_loop_rounds 4 ?_
  iterate 4 (rw [rounds_succ]; go_wp2)
  refine bodyPost_ret (v := .tuple #[.agg #[.int .i64 0, .int .i64 0, .int .i64 0], .int .i64 1]) (by simp [results, Tryd.results40, go_sem]) rfl ⟨rfl, ?_⟩
  repeat (first | exact Below.refl _ _ | refine Below.alloc ?_ (by first | exact Nat.le_refl _ | (simp; done) | (simp; omega)) _ | refine Below.setCell ?_ (by first | exact Nat.le_refl _ | (simp; done) | (simp; omega)) _)
end Go.Proofs.YtbfkmnlbmlpogaaDoor
