/- The contracts of Logic, the program's and the document's. -/
import Derived.Test.YtbfkmnlbmlpogaaDoorRefSums
namespace Go.Proofs.YtbfkmnlbmlpogaaDoor
open Go.ChangeShapes Go.WideShapes Go.ChangeAt Go.RowKit
set_option linter.unusedVariables false
set_option linter.unusedSimpArgs false

theorem enters_and : ∀ args w, (callFunc 56 args).run Tryd.prog w = .ok (.enter 56 args) w := enters_of Tryd.func56 (by kernel_rfl) rfl

theorem enters_or : ∀ args w, (callFunc 57 args).run Tryd.prog w = .ok (.enter 57 args) w := enters_of Tryd.func57 (by kernel_rfl) rfl

theorem enters_xor : ∀ args w, (callFunc 58 args).run Tryd.prog w = .ok (.enter 58 args) w := enters_of Tryd.func58 (by kernel_rfl) rfl
theorem logicOf_and (w : World) : Calls Tryd.prog 45 #[.int .i64 7] w fun e w' => e = .returned (.func (.func 56) #[] #[]) ∧ w' = w := by
  go_enter Tryd.func45, Tryd.ntmps45
  go_wp2
  go_ret
  exact ⟨rfl, rfl⟩
theorem logicOf_test (w : World) : Calls Tryd.prog 45 #[.int .i64 11] w fun e w' => e = .returned (.func (.func 56) #[] #[]) ∧ w' = w := by
  go_enter Tryd.func45, Tryd.ntmps45
  go_wp2
  go_ret
  exact ⟨rfl, rfl⟩
theorem logicOf_or (w : World) : Calls Tryd.prog 45 #[.int .i64 4] w fun e w' => e = .returned (.func (.func 57) #[] #[]) ∧ w' = w := by
  go_enter Tryd.func45, Tryd.ntmps45
  go_wp2
  go_ret
  exact ⟨rfl, rfl⟩
theorem logicOf_xor (w : World) : Calls Tryd.prog 45 #[.int .i64 9] w fun e w' => e = .returned (.func (.func 58) #[] #[]) ∧ w' = w := by
  go_enter Tryd.func45, Tryd.ntmps45
  go_wp2
  go_ret
  exact ⟨rfl, rfl⟩
theorem logicOf_no (op : Int) (w : World) (h : ¬ (op = 7 ∨ op = 11 ∨ op = 4 ∨ op = 9)) : Calls Tryd.prog 45 #[.int .i64 op] w fun e w' => e = .returned .nilFunc ∧ w' = w := by
  have h1 : (op == 7) = false := by simp; omega
  have h2 : (op == 11) = false := by simp; omega
  have h3 : (op == 4) = false := by simp; omega
  have h4 : (op == 9) = false := by simp; omega
  clear h
  go_enter Tryd.func45, Tryd.ntmps45
  go_wp2
  go_ret
  exact ⟨rfl, rfl⟩

set_option maxRecDepth 4000 in
theorem logic_run (op : Int) (fv : Value) (a b sz r e0 : Int) (C P Z S O : Bool) (w : World) (hw : Wd w)
    (hs : ∀ v, Calls Tryd.prog 45 #[.int .i64 op] v fun e w' => e = .returned fv ∧ w' = v)
    (hop : ∀ v, Wd v → Calls Tryd.prog 34 #[.int .i64 sz, .agg #[.int .u64 a, .int .u64 b, .bool false], fv] v fun e w' => e = .returned (.tuple #[.int .u64 r, .agg #[.bool C, .bool P, .bool Z, .bool S, .bool O], .int .i64 e0]) ∧ Below v.heap.size v w') :
    Calls Tryd.prog 19 #[.int .i64 op, .int .u64 a, .int .u64 b, .int .i64 sz] w fun e w' =>
      e = .returned (.tuple #[.int .u64 r, .agg #[.bool C, .bool P, .bool Z, .bool S, .bool O], .int .i64 e0]) ∧ Below w.heap.size w w' := by
  have HS := hid hs; have HO := hid hop; have HW := hid hw
  clear hs hop hw
  go_enter Tryd.func19, Tryd.ntmps19
  go_wp2_with (first
    | (go_at_call 45; refine (HS.out _).mono ?_; rintro e w0 ⟨rfl, hq⟩; subst w0)
    | (go_at_call 34; refine (HO.out _ (HW.out.alloc _)).mono ?_; rintro e w1 ⟨rfl, hb⟩; obtain ⟨hc, hf⟩ := bcell hb; have hz : w.heap.size < w1.heap.size := (by have := hb.size; simp at this; omega)))
  refine bodyPost_ret (v := .tuple #[.int .u64 r, .agg #[.bool C, .bool P, .bool Z, .bool S, .bool O], .int .i64 e0]) (by simp [results, Tryd.results19, go_sem, hc]) rfl ⟨rfl, ?_⟩
  have B1 : Below w.heap.size w w1 := bel_trans (bel_alloc (Below.refl _ _) _) hb
  repeat (first | (with_reducible exact B1) | ((with_reducible refine Below.setCell ?_ ?_ _); rotate_left; (focus (dsimp only; omega))))

set_option maxRecDepth 4000 in
theorem rlogic_and (a b sz : Int) (n : Nat) (c : Int) (w : World) (h : Wide sz n c) :
    Calls Tryd.prog 20 #[.int .i64 7, .int .u64 a, .int .u64 b, .int .i64 sz] w fun e w' =>
      e = .returned (.tuple #[.int .u64 (bits .and .u64 a b % 2 ^ n), resF n false false (bits .and .u64 a b % 2 ^ n), .int .i64 0]) ∧ Below w.heap.size w w' := by
  have l0 := h.lo; have l1 := h.hi
  have HH := hid h
  have hz0 : ((n : Int) == 0) = false := by simp; omega
  have x0 := bits_lo_u64 .and a b
  have x1 := bits_hi_u64 .and a b
  generalize hx : bits .and .u64 a b = x at *
  have HX := hid (show 0 ≤ x ∧ x < 18446744073709551616 by omega)
  have HR := hid (mod_in n l1 x)
  clear h x0 x1
  go_enter Tryd.func20, Tryd.ntmps20
  go_wp2_with (first
    | (go_at_call 36; refine (rbits_yes HH.out _).mono ?_; rintro e w0 ⟨rfl, hq⟩; subst w0)
    | (go_at_call 42; refine (rlow_any _ _ _ HX.out.1 HX.out.2 l1).mono ?_; rintro e w0 ⟨rfl, hq⟩; subst w0)
    | (go_at_call 38; refine (rflags_any _ _ _ HR.out.1 HR.out.2 l0 l1).mono ?_; rintro e w1 ⟨rfl, hb⟩; obtain ⟨hc, hf⟩ := bcell hb; have hz : w.heap.size < w1.heap.size := (by have := hb.size; simp at this; omega)))
  refine bodyPost_ret (v := .tuple #[.int .u64 (x % 2 ^ n), resF n false false (x % 2 ^ n), .int .i64 0]) (by simp [results, Tryd.results20, go_sem, hc]) rfl ⟨rfl, ?_⟩
  have B1 : Below w.heap.size w w1 := bel_trans (bel_alloc (Below.refl _ _) _) hb
  repeat (first | (with_reducible exact B1) | ((with_reducible refine Below.setCell ?_ ?_ _); rotate_left; (focus (dsimp only; omega))))

set_option maxRecDepth 4000 in
theorem rlogic_test (a b sz : Int) (n : Nat) (c : Int) (w : World) (h : Wide sz n c) :
    Calls Tryd.prog 20 #[.int .i64 11, .int .u64 a, .int .u64 b, .int .i64 sz] w fun e w' =>
      e = .returned (.tuple #[.int .u64 (bits .and .u64 a b % 2 ^ n), resF n false false (bits .and .u64 a b % 2 ^ n), .int .i64 0]) ∧ Below w.heap.size w w' := by
  have l0 := h.lo; have l1 := h.hi
  have HH := hid h
  have hz0 : ((n : Int) == 0) = false := by simp; omega
  have x0 := bits_lo_u64 .and a b
  have x1 := bits_hi_u64 .and a b
  generalize hx : bits .and .u64 a b = x at *
  have HX := hid (show 0 ≤ x ∧ x < 18446744073709551616 by omega)
  have HR := hid (mod_in n l1 x)
  clear h x0 x1
  go_enter Tryd.func20, Tryd.ntmps20
  go_wp2_with (first
    | (go_at_call 36; refine (rbits_yes HH.out _).mono ?_; rintro e w0 ⟨rfl, hq⟩; subst w0)
    | (go_at_call 42; refine (rlow_any _ _ _ HX.out.1 HX.out.2 l1).mono ?_; rintro e w0 ⟨rfl, hq⟩; subst w0)
    | (go_at_call 38; refine (rflags_any _ _ _ HR.out.1 HR.out.2 l0 l1).mono ?_; rintro e w1 ⟨rfl, hb⟩; obtain ⟨hc, hf⟩ := bcell hb; have hz : w.heap.size < w1.heap.size := (by have := hb.size; simp at this; omega)))
  refine bodyPost_ret (v := .tuple #[.int .u64 (x % 2 ^ n), resF n false false (x % 2 ^ n), .int .i64 0]) (by simp [results, Tryd.results20, go_sem, hc]) rfl ⟨rfl, ?_⟩
  have B1 : Below w.heap.size w w1 := bel_trans (bel_alloc (Below.refl _ _) _) hb
  repeat (first | (with_reducible exact B1) | ((with_reducible refine Below.setCell ?_ ?_ _); rotate_left; (focus (dsimp only; omega))))

set_option maxRecDepth 4000 in
theorem rlogic_or (a b sz : Int) (n : Nat) (c : Int) (w : World) (h : Wide sz n c) :
    Calls Tryd.prog 20 #[.int .i64 4, .int .u64 a, .int .u64 b, .int .i64 sz] w fun e w' =>
      e = .returned (.tuple #[.int .u64 (bits .or .u64 a b % 2 ^ n), resF n false false (bits .or .u64 a b % 2 ^ n), .int .i64 0]) ∧ Below w.heap.size w w' := by
  have l0 := h.lo; have l1 := h.hi
  have HH := hid h
  have hz0 : ((n : Int) == 0) = false := by simp; omega
  have x0 := bits_lo_u64 .or a b
  have x1 := bits_hi_u64 .or a b
  generalize hx : bits .or .u64 a b = x at *
  have HX := hid (show 0 ≤ x ∧ x < 18446744073709551616 by omega)
  have HR := hid (mod_in n l1 x)
  clear h x0 x1
  go_enter Tryd.func20, Tryd.ntmps20
  go_wp2_with (first
    | (go_at_call 36; refine (rbits_yes HH.out _).mono ?_; rintro e w0 ⟨rfl, hq⟩; subst w0)
    | (go_at_call 42; refine (rlow_any _ _ _ HX.out.1 HX.out.2 l1).mono ?_; rintro e w0 ⟨rfl, hq⟩; subst w0)
    | (go_at_call 38; refine (rflags_any _ _ _ HR.out.1 HR.out.2 l0 l1).mono ?_; rintro e w1 ⟨rfl, hb⟩; obtain ⟨hc, hf⟩ := bcell hb; have hz : w.heap.size < w1.heap.size := (by have := hb.size; simp at this; omega)))
  refine bodyPost_ret (v := .tuple #[.int .u64 (x % 2 ^ n), resF n false false (x % 2 ^ n), .int .i64 0]) (by simp [results, Tryd.results20, go_sem, hc]) rfl ⟨rfl, ?_⟩
  have B1 : Below w.heap.size w w1 := bel_trans (bel_alloc (Below.refl _ _) _) hb
  repeat (first | (with_reducible exact B1) | ((with_reducible refine Below.setCell ?_ ?_ _); rotate_left; (focus (dsimp only; omega))))

set_option maxRecDepth 4000 in
theorem rlogic_xor (a b sz : Int) (n : Nat) (c : Int) (w : World) (h : Wide sz n c) :
    Calls Tryd.prog 20 #[.int .i64 9, .int .u64 a, .int .u64 b, .int .i64 sz] w fun e w' =>
      e = .returned (.tuple #[.int .u64 (bits .xor .u64 a b % 2 ^ n), resF n false false (bits .xor .u64 a b % 2 ^ n), .int .i64 0]) ∧ Below w.heap.size w w' := by
  have l0 := h.lo; have l1 := h.hi
  have HH := hid h
  have hz0 : ((n : Int) == 0) = false := by simp; omega
  have x0 := bits_lo_u64 .xor a b
  have x1 := bits_hi_u64 .xor a b
  generalize hx : bits .xor .u64 a b = x at *
  have HX := hid (show 0 ≤ x ∧ x < 18446744073709551616 by omega)
  have HR := hid (mod_in n l1 x)
  clear h x0 x1
  go_enter Tryd.func20, Tryd.ntmps20
  go_wp2_with (first
    | (go_at_call 36; refine (rbits_yes HH.out _).mono ?_; rintro e w0 ⟨rfl, hq⟩; subst w0)
    | (go_at_call 42; refine (rlow_any _ _ _ HX.out.1 HX.out.2 l1).mono ?_; rintro e w0 ⟨rfl, hq⟩; subst w0)
    | (go_at_call 38; refine (rflags_any _ _ _ HR.out.1 HR.out.2 l0 l1).mono ?_; rintro e w1 ⟨rfl, hb⟩; obtain ⟨hc, hf⟩ := bcell hb; have hz : w.heap.size < w1.heap.size := (by have := hb.size; simp at this; omega)))
  refine bodyPost_ret (v := .tuple #[.int .u64 (x % 2 ^ n), resF n false false (x % 2 ^ n), .int .i64 0]) (by simp [results, Tryd.results20, go_sem, hc]) rfl ⟨rfl, ?_⟩
  have B1 : Below w.heap.size w w1 := bel_trans (bel_alloc (Below.refl _ _) _) hb
  repeat (first | (with_reducible exact B1) | ((with_reducible refine Below.setCell ?_ ?_ _); rotate_left; (focus (dsimp only; omega))))

theorem rlogic_no (op a b sz : Int) (w : World) (h : ¬ (sz = 1 ∨ sz = 4 ∨ sz = 8)) :
    Calls Tryd.prog 20 #[.int .i64 op, .int .u64 a, .int .u64 b, .int .i64 sz] w fun e w' => e = .returned (.tuple #[.int .u64 0, noF, .int .i64 1]) ∧ Below w.heap.size w w' := by
  have HH := hid h
  clear h
  go_enter Tryd.func20, Tryd.ntmps20
  go_wp2_with (go_at_call 36; refine (rbits_no _ HH.out _).mono ?_; rintro e w0 ⟨rfl, hq⟩; subst w0)
  refine bodyPost_ret (v := .tuple #[.int .u64 0, noF, .int .i64 1]) (by simp [results, Tryd.results20, go_sem]) rfl ⟨rfl, ?_⟩
  exact bel_alloc (Below.refl _ _) _

theorem rlogic_op (op a b sz : Int) (n : Nat) (c : Int) (w : World) (h : Wide sz n c) (ho : ¬ (op = 7 ∨ op = 11 ∨ op = 4 ∨ op = 9)) :
    Calls Tryd.prog 20 #[.int .i64 op, .int .u64 a, .int .u64 b, .int .i64 sz] w fun e w' => e = .returned (.tuple #[.int .u64 0, noF, .int .i64 1]) ∧ Below w.heap.size w w' := by
  have l0 := h.lo
  have HH := hid h
  have hz0 : ((n : Int) == 0) = false := by simp; omega
  have h1 : (op == 7) = false := by simp; omega
  have h2 : (op == 11) = false := by simp; omega
  have h3 : (op == 4) = false := by simp; omega
  have h4 : (op == 9) = false := by simp; omega
  clear h ho
  go_enter Tryd.func20, Tryd.ntmps20
  go_wp2_with (go_at_call 36; refine (rbits_yes HH.out _).mono ?_; rintro e w0 ⟨rfl, hq⟩; subst w0)
  refine bodyPost_ret (v := .tuple #[.int .u64 0, noF, .int .i64 1]) (by simp [results, Tryd.results20, go_sem]) rfl ⟨rfl, ?_⟩
  exact bel_alloc (Below.refl _ _) _

theorem size_is (sz : Int) : (∃ n c, Wide sz n c) ∨ ¬ (sz = 1 ∨ sz = 4 ∨ sz = 8) := by
  by_cases h1 : sz = 1
  · exact .inl ⟨8, 31, .inl ⟨h1, rfl, rfl⟩⟩
  · by_cases h4 : sz = 4
    · exact .inl ⟨32, 31, .inr (.inl ⟨h4, rfl, rfl⟩)⟩
    · by_cases h8 : sz = 8
      · exact .inl ⟨64, 63, .inr (.inr ⟨h8, rfl, rfl⟩)⟩
      · exact .inr (by omega)

theorem logicOf_any (op : Int) : ∃ fv : Value, ∀ v, Calls Tryd.prog 45 #[.int .i64 op] v fun e w' => e = .returned fv ∧ w' = v := by
  by_cases h1 : op = 7
  · subst h1; exact ⟨_, logicOf_and⟩
  · by_cases h2 : op = 11
    · subst h2; exact ⟨_, logicOf_test⟩
    · by_cases h3 : op = 4
      · subst h3; exact ⟨_, logicOf_or⟩
      · by_cases h4 : op = 9
        · subst h4; exact ⟨_, logicOf_xor⟩
        · exact ⟨_, fun v => logicOf_no op v (by omega)⟩

theorem same_logic (op a b sz : Int) :
    ∃ (x : Int) (C P Z S O : Bool) (e0 : Int),
      (∀ v, Wd v → Calls Tryd.prog 19 #[.int .i64 op, .int .u64 a, .int .u64 b, .int .i64 sz] v fun e w' => e = .returned (.tuple #[.int .u64 x, .agg #[.bool C, .bool P, .bool Z, .bool S, .bool O], .int .i64 e0]) ∧ Below v.heap.size v w') ∧
      (∀ v, Calls Tryd.prog 20 #[.int .i64 op, .int .u64 a, .int .u64 b, .int .i64 sz] v fun e w' => e = .returned (.tuple #[.int .u64 x, .agg #[.bool C, .bool P, .bool Z, .bool S, .bool O], .int .i64 e0]) ∧ Below v.heap.size v w') := by
  rcases size_is sz with ⟨n, c, h⟩ | h
  · by_cases h1 : op = 7
    · subst h1
      exact ⟨_, _, _, _, _, _, _, fun v hv => logic_run 7 _ a b sz _ _ _ _ _ _ _ v hv logicOf_and (fun v hv => answer_pair 56 sz n c a b false _ _ _ v h hv enters_and (fun v => and_any sz c n a b false v)), fun v => rlogic_and a b sz n c v h⟩
    · by_cases h2 : op = 11
      · subst h2
        exact ⟨_, _, _, _, _, _, _, fun v hv => logic_run 11 _ a b sz _ _ _ _ _ _ _ v hv logicOf_test (fun v hv => answer_pair 56 sz n c a b false _ _ _ v h hv enters_and (fun v => and_any sz c n a b false v)), fun v => rlogic_test a b sz n c v h⟩
      · by_cases h3 : op = 4
        · subst h3
          exact ⟨_, _, _, _, _, _, _, fun v hv => logic_run 4 _ a b sz _ _ _ _ _ _ _ v hv logicOf_or (fun v hv => answer_pair 57 sz n c a b false _ _ _ v h hv enters_or (fun v => or_any sz c n a b false v)), fun v => rlogic_or a b sz n c v h⟩
        · by_cases h4 : op = 9
          · subst h4
            exact ⟨_, _, _, _, _, _, _, fun v hv => logic_run 9 _ a b sz _ _ _ _ _ _ _ v hv logicOf_xor (fun v hv => answer_pair 58 sz n c a b false _ _ _ v h hv enters_xor (fun v => xor_any sz c n a b false v)), fun v => rlogic_xor a b sz n c v h⟩
          · exact ⟨_, _, _, _, _, _, _, fun v hv => logic_run op _ a b sz _ _ _ _ _ _ _ v hv (fun v => logicOf_no op v (by omega)) (fun v hv => answer_pair_nil sz n c a b false v h hv), fun v => rlogic_op op a b sz n c v h (by omega)⟩
  · obtain ⟨fv, hf⟩ := logicOf_any op
    exact ⟨_, _, _, _, _, _, _, fun v hv => logic_run op fv a b sz _ _ _ _ _ _ _ v hv hf (fun v hv => answer_pair_no sz a b false fv v h hv), fun v => rlogic_no op a b sz v h⟩
end Go.Proofs.YtbfkmnlbmlpogaaDoor
