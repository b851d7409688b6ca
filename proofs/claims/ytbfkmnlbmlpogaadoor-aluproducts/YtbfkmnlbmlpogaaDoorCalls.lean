/- The contracts of package alu's calls: Trim, Extend, Add, Sub. -/
import Derived.Test.YtbfkmnlbmlpogaaDoorAnswer
namespace Go.Proofs.YtbfkmnlbmlpogaaDoor
open Go.ChangeShapes Go.WideShapes Go.ChangeAt Go.RowKit
set_option linter.unusedVariables false

/-- No flag. -/
abbrev noF : Value := .agg #[.bool false, .bool false, .bool false, .bool false, .bool false]

theorem num_any (n : Int) (w : World) :
    Calls Tryd.prog 17 #[.int .i64 n] w fun e w' => e = .returned (.int .i64 n) ∧ w' = w := by
  go_enter Tryd.func17, Tryd.ntmps17
  go_wp2
  go_ret
  exact ⟨rfl, rfl⟩

theorem ret_ui {a b : Int} (h : a = b) (e : Int) : Ending.returned (.tuple #[.int .u64 a, .int .i64 e]) = .returned (.tuple #[.int .u64 b, .int .i64 e]) := by rw [h]

theorem trim_yes (x sz : Int) (n : Nat) (c : Int) (w : World) (h : Wide sz n c) (hw : Wd w) :
    Calls Tryd.prog 13 #[.int .u64 x, .int .i64 sz] w fun e w' => e = .returned (.tuple #[.int .u64 (x % 2 ^ n), .int .i64 0]) ∧ Below w.heap.size w w' := by
  have h1 := h.hi
  have HH : Hid (Wide sz n c) := h
  have HW : Hid (Wd w) := hw
  clear h hw
  go_enter Tryd.func13, Tryd.ntmps13
  go_wp2_with (first
    | (go_at_call 40; refine (widthOf_yes HH.out _ HW.out).mono ?_; rintro e w1 ⟨rfl, hb⟩)
    | (go_at_call 41; refine (plain_any _ _ _ _ _ h1).mono ?_; rintro e w2 ⟨rfl, rfl⟩))
  go_ret2
  exact ⟨rfl, bel_alloc (bel_alloc hb _) _⟩

theorem trim_no (x sz : Int) (w : World) (h : ¬ (sz = 1 ∨ sz = 4 ∨ sz = 8)) (hw : Wd w) :
    Calls Tryd.prog 13 #[.int .u64 x, .int .i64 sz] w fun e w' => e = .returned (.tuple #[.int .u64 0, .int .i64 1]) ∧ Below w.heap.size w w' := by
  have HH : Hid (¬ (sz = 1 ∨ sz = 4 ∨ sz = 8)) := h
  have HW : Hid (Wd w) := hw
  clear h hw
  go_enter Tryd.func13, Tryd.ntmps13
  go_wp2_with (first
    | (go_at_call 40; refine (widthOf_no _ _ HW.out HH.out).mono ?_; rintro e w1 ⟨rfl, hb⟩)
    | (go_at_call 41; refine (plain_0 _ _ _ _).mono ?_; rintro e w2 ⟨rfl, rfl⟩))
  go_ret2
  exact ⟨rfl, bel_alloc (bel_alloc hb _) _⟩

theorem extend_yes (x sz : Int) (n : Nat) (c : Int) (w : World) (h : Wide sz n c) (hw : Wd w) :
    Calls Tryd.prog 15 #[.int .u64 x, .int .i64 sz] w fun e w' => e = .returned (.tuple #[.int .u64 (sx n x % 18446744073709551616), .int .i64 0]) ∧ Below w.heap.size w w' := by
  have h0 := h.lo
  have h1 := h.hi
  have HH : Hid (Wide sz n c) := h
  have HW : Hid (Wd w) := hw
  clear h hw
  go_enter Tryd.func15, Tryd.ntmps15
  go_wp2_with (first
    | (go_at_call 40; refine (widthOf_yes HH.out _ HW.out).mono ?_; rintro e w1 ⟨rfl, hb⟩)
    | (go_at_call 43; refine (signed_any _ _ _ _ _ h0 h1).mono ?_; rintro e w2 ⟨rfl, rfl⟩))
  go_ret2
  exact ⟨ret_ui (by first | rfl | rw [IntKind.wrap_u64]) _, bel_alloc (bel_alloc hb _) _⟩

theorem extend_no (x sz : Int) (w : World) (h : ¬ (sz = 1 ∨ sz = 4 ∨ sz = 8)) (hw : Wd w) :
    Calls Tryd.prog 15 #[.int .u64 x, .int .i64 sz] w fun e w' => e = .returned (.tuple #[.int .u64 0, .int .i64 1]) ∧ Below w.heap.size w w' := by
  have HH : Hid (¬ (sz = 1 ∨ sz = 4 ∨ sz = 8)) := h
  have HW : Hid (Wd w) := hw
  clear h hw
  go_enter Tryd.func15, Tryd.ntmps15
  go_wp2_with (first
    | (go_at_call 40; refine (widthOf_no _ _ HW.out HH.out).mono ?_; rintro e w1 ⟨rfl, hb⟩)
    | (go_at_call 43; refine (signed_0 _ _ _ _).mono ?_; rintro e w2 ⟨rfl, rfl⟩))
  go_ret2
  exact ⟨rfl, bel_alloc (bel_alloc hb _) _⟩

theorem enters_add : ∀ args w, (callFunc 35 args).run Tryd.prog w = .ok (.enter 35 args) w := enters_of Tryd.func35 (by kernel_rfl) rfl
theorem enters_sub : ∀ args w, (callFunc 39 args).run Tryd.prog w = .ok (.enter 39 args) w := enters_of Tryd.func39 (by kernel_rfl) rfl

set_option maxRecDepth 4000 in
theorem add_yes (a b : Int) (k : Bool) (sz : Int) (n : Nat) (c : Int) (w : World) (h : Wide sz n c) (hw : Wd w) :
    Calls Tryd.prog 9 #[.int .u64 a, .int .u64 b, .bool k, .int .i64 sz] w fun e w' =>
      e = .returned (.tuple #[.int .u64 ((a + b + b2i k) % 2 ^ n), resF n (addC n a b (b2i k)) (outS n (sx n a + sx n b + b2i k)) ((a + b + b2i k) % 2 ^ n), .int .i64 0]) ∧ Below w.heap.size w w' := by
  have h0 := h.lo
  have h1 := h.hi
  have HH : Hid (Wide sz n c) := h
  have HW : Hid (Wd w) := hw
  have HC : Hid (∀ v, Wd v → Calls Tryd.prog 34 #[.int .i64 sz, .agg #[.int .u64 a, .int .u64 b, .bool k], .func (.func 35) #[] #[]] v fun e w' =>
      e = .returned (.tuple #[.int .u64 ((a + b + b2i k) % 2 ^ n), resF n (addC n a b (b2i k)) (outS n (sx n a + sx n b + b2i k)) ((a + b + b2i k) % 2 ^ n), .int .i64 0]) ∧ Below v.heap.size v w') := by
    intro v hv
    have := answer_pair 35 sz n c a b k _ _ _ v h hv enters_add (fun v => add_any sz c n a b k v h0 h1)
    rw [mod64 n h1] at this
    exact this
  clear h hw
  go_enter Tryd.func9, Tryd.ntmps9
  go_wp2_with (go_at_call 34; refine (HC.out _ (HW.out.alloc _)).mono ?_; rintro e w1 ⟨rfl, hb⟩; obtain ⟨hc, hf⟩ := bcell hb; have hz : w.heap.size < w1.heap.size := (by have := hb.size; simp at this; omega))
  refine bodyPost_ret (v := .tuple #[.int .u64 ((a + b + b2i k) % 2 ^ n), resF n (addC n a b (b2i k)) (outS n (sx n a + sx n b + b2i k)) ((a + b + b2i k) % 2 ^ n), .int .i64 0]) (by simp [results, Tryd.results9, go_sem, hc]) rfl ⟨rfl, ?_⟩
  have B1 : Below w.heap.size w w1 := bel_trans (bel_alloc (Below.refl _ _) _) hb
  repeat (first | (with_reducible exact B1) | ((with_reducible refine Below.setCell ?_ ?_ _); rotate_left; (focus (dsimp only; omega))))

set_option maxRecDepth 4000 in
theorem add_no (a b : Int) (k : Bool) (sz : Int) (w : World) (h : ¬ (sz = 1 ∨ sz = 4 ∨ sz = 8)) (hw : Wd w) :
    Calls Tryd.prog 9 #[.int .u64 a, .int .u64 b, .bool k, .int .i64 sz] w fun e w' => e = .returned (.tuple #[.int .u64 0, noF, .int .i64 1]) ∧ Below w.heap.size w w' := by
  have HH : Hid (¬ (sz = 1 ∨ sz = 4 ∨ sz = 8)) := h
  have HW : Hid (Wd w) := hw
  clear h hw
  go_enter Tryd.func9, Tryd.ntmps9
  go_wp2_with (go_at_call 34; refine (answer_pair_no _ _ _ _ _ _ HH.out (HW.out.alloc _)).mono ?_; rintro e w1 ⟨rfl, hb⟩; obtain ⟨hc, hf⟩ := bcell hb; have hz : w.heap.size < w1.heap.size := (by have := hb.size; simp at this; omega))
  refine bodyPost_ret (v := .tuple #[.int .u64 0, noF, .int .i64 1]) (by simp [results, Tryd.results9, go_sem, hc]) rfl ⟨rfl, ?_⟩
  have B1 : Below w.heap.size w w1 := bel_trans (bel_alloc (Below.refl _ _) _) hb
  repeat (first | (with_reducible exact B1) | ((with_reducible refine Below.setCell ?_ ?_ _); rotate_left; (focus (dsimp only; omega))))

set_option maxRecDepth 4000 in
theorem sub_yes (a b : Int) (k : Bool) (sz : Int) (n : Nat) (c : Int) (w : World) (h : Wide sz n c) (hw : Wd w) :
    Calls Tryd.prog 11 #[.int .u64 a, .int .u64 b, .bool k, .int .i64 sz] w fun e w' =>
      e = .returned (.tuple #[.int .u64 ((a - b - b2i k) % 2 ^ n), resF n (subC n a b (b2i k)) (outS n (sx n a - sx n b - b2i k)) ((a - b - b2i k) % 2 ^ n), .int .i64 0]) ∧ Below w.heap.size w w' := by
  have h0 := h.lo
  have h1 := h.hi
  have HH : Hid (Wide sz n c) := h
  have HW : Hid (Wd w) := hw
  have HC : Hid (∀ v, Wd v → Calls Tryd.prog 34 #[.int .i64 sz, .agg #[.int .u64 a, .int .u64 b, .bool k], .func (.func 39) #[] #[]] v fun e w' =>
      e = .returned (.tuple #[.int .u64 ((a - b - b2i k) % 2 ^ n), resF n (subC n a b (b2i k)) (outS n (sx n a - sx n b - b2i k)) ((a - b - b2i k) % 2 ^ n), .int .i64 0]) ∧ Below v.heap.size v w') := by
    intro v hv
    have := answer_pair 39 sz n c a b k _ _ _ v h hv enters_sub (fun v => sub_any sz c n a b k v h0 h1)
    rw [mod64 n h1] at this
    exact this
  clear h hw
  go_enter Tryd.func11, Tryd.ntmps11
  go_wp2_with (go_at_call 34; refine (HC.out _ (HW.out.alloc _)).mono ?_; rintro e w1 ⟨rfl, hb⟩; obtain ⟨hc, hf⟩ := bcell hb; have hz : w.heap.size < w1.heap.size := (by have := hb.size; simp at this; omega))
  refine bodyPost_ret (v := .tuple #[.int .u64 ((a - b - b2i k) % 2 ^ n), resF n (subC n a b (b2i k)) (outS n (sx n a - sx n b - b2i k)) ((a - b - b2i k) % 2 ^ n), .int .i64 0]) (by simp [results, Tryd.results11, go_sem, hc]) rfl ⟨rfl, ?_⟩
  have B1 : Below w.heap.size w w1 := bel_trans (bel_alloc (Below.refl _ _) _) hb
  repeat (first | (with_reducible exact B1) | ((with_reducible refine Below.setCell ?_ ?_ _); rotate_left; (focus (dsimp only; omega))))

set_option maxRecDepth 4000 in
theorem sub_no (a b : Int) (k : Bool) (sz : Int) (w : World) (h : ¬ (sz = 1 ∨ sz = 4 ∨ sz = 8)) (hw : Wd w) :
    Calls Tryd.prog 11 #[.int .u64 a, .int .u64 b, .bool k, .int .i64 sz] w fun e w' => e = .returned (.tuple #[.int .u64 0, noF, .int .i64 1]) ∧ Below w.heap.size w w' := by
  have HH : Hid (¬ (sz = 1 ∨ sz = 4 ∨ sz = 8)) := h
  have HW : Hid (Wd w) := hw
  clear h hw
  go_enter Tryd.func11, Tryd.ntmps11
  go_wp2_with (go_at_call 34; refine (answer_pair_no _ _ _ _ _ _ HH.out (HW.out.alloc _)).mono ?_; rintro e w1 ⟨rfl, hb⟩; obtain ⟨hc, hf⟩ := bcell hb; have hz : w.heap.size < w1.heap.size := (by have := hb.size; simp at this; omega))
  refine bodyPost_ret (v := .tuple #[.int .u64 0, noF, .int .i64 1]) (by simp [results, Tryd.results11, go_sem, hc]) rfl ⟨rfl, ?_⟩
  have B1 : Below w.heap.size w w1 := bel_trans (bel_alloc (Below.refl _ _) _) hb
  repeat (first | (with_reducible exact B1) | ((with_reducible refine Below.setCell ?_ ?_ _); rotate_left; (focus (dsimp only; omega))))
end Go.Proofs.YtbfkmnlbmlpogaaDoor
