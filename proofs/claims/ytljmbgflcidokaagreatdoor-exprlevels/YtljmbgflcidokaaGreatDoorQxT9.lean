/- The program's tokens: any token. -/
import Derived.Test.YtljmbgflcidokaaGreatDoorQxH
namespace Go.Proofs.YtljmbgflcidokaaGreatDoor
open Go.ChangeShapes Go.WideShapes Go.ChangeAt Go.RowKit
set_option linter.unusedVariables false
set_option linter.unusedSimpArgs false
section
variable {w w1 w2 : World} {rb : Nat} {s : ByteArray} {a : Nat} {ln : Int} {lv : Value}

set_option maxHeartbeats 4000000 in
set_option maxRecDepth 10000 in
theorem token_name (h : RD w rb s a ln lv) (His18 : Hid (∀ W, RD W rb s a ln lv → Calls Tryz.prog 76 #[.pointer (some ⟨rb, 0, none⟩), .int .u8 18] W fun e w' => e = .returned (.bool true) ∧ RD w' rb s a ln lv ∧ TR rb W w')) (m : Option (Tok × Nat)) (HC0 : ∀ W, RD W rb s a ln lv → Calls Tryz.prog 77 #[.pointer (some ⟨rb, 0, none⟩)] W fun e w' => TokE m rb s a ln lv W e w') :
    Calls Tryz.prog 59 #[.pointer (some ⟨rb, 0, none⟩)] w fun e w' => TokE (m.map fun x => (x.1, x.2 + 0)) rb s a ln lv w e w' := by
  have HR : Hid _ := ⟨h⟩
  have HRa : Hid _ := ⟨h.alloc tokZP⟩
  have hne := h.lt
  cases m with
  | none =>
    have HC : Hid _ := ⟨HC0⟩
    dsimp only [TokE] at HC
    clear h HC0
    go_enter Tryz.func59, Tryz.ntmps59
    go_wp2_with (first
      | (go_at_call_of 76 (Value.int IntKind.u8 18); (with_reducible refine (His18.out _ HRa.out).mono ?_); rintro e v0 ⟨rfl, R0, T0⟩; have HT0 : Hid _ := ⟨T0⟩; have HR0 : Hid _ := ⟨R0⟩; clear R0 T0)
      | (go_at_call 77; (with_reducible refine (HC.out _ HR0.out).mono ?_); rintro e v9 ⟨p, q, r, t, a', rfl, R9, T9⟩; have HT9 : Hid _ := ⟨HT0.out.trans T9⟩; have HR9 : Hid _ := ⟨R9⟩; clear R9 T9; obtain ⟨d0, d1, d2, d3, fz⟩ := TBP.of HR.out HT9.out; have f0 := fz 0; have f1 := fz 1; have f2 := fz 2; have f3 := fz 3; clear fz))
    refine bodyPost_ret (resS_token _ v9 w.heap.size _ _ _ _ rfl (TBP.of HR.out HT9.out)) rfl ?_
    exact tok_no rfl (HR9.out.set4 hne _ _ _ _) (TR.set4 HT9.out _ _ _ _)
  | some x =>
    obtain ⟨⟨tk, tn, tt⟩, j⟩ := x
    have HC : Hid _ := ⟨HC0⟩
    dsimp only [TokE] at HC
    clear h HC0
    go_enter Tryz.func59, Tryz.ntmps59
    go_wp2_with (first
      | (go_at_call_of 76 (Value.int IntKind.u8 18); (with_reducible refine (His18.out _ HRa.out).mono ?_); rintro e v0 ⟨rfl, R0, T0⟩; have HT0 : Hid _ := ⟨T0⟩; have HR0 : Hid _ := ⟨R0⟩; clear R0 T0)
      | (go_at_call 77; (with_reducible refine (HC.out _ HR0.out).mono ?_); rintro e v9 ⟨rfl, R9, T9⟩; have HT9 : Hid _ := ⟨HT0.out.trans T9⟩; have HR9 : Hid _ := ⟨R9⟩; clear R9 T9; obtain ⟨d0, d1, d2, d3, fz⟩ := TBP.of HR.out HT9.out; have f0 := fz 0; have f1 := fz 1; have f2 := fz 2; have f3 := fz 3; clear fz))
    refine bodyPost_ret (resS_token _ v9 w.heap.size _ _ _ _ rfl (TBP.of HR.out HT9.out)) rfl ?_
    exact tok_yes rfl rfl rfl rfl (by simp only; omega) (HR9.out.set4 hne _ _ _ _) (TR.set4 HT9.out _ _ _ _)

set_option maxHeartbeats 4000000 in
set_option maxRecDepth 10000 in
theorem token_number (h : RD w rb s a ln lv) (His18 : Hid (∀ W, RD W rb s a ln lv → Calls Tryz.prog 76 #[.pointer (some ⟨rb, 0, none⟩), .int .u8 18] W fun e w' => e = .returned (.bool false) ∧ RD w' rb s a ln lv ∧ TR rb W w')) (His4 : Hid (∀ W, RD W rb s a ln lv → Calls Tryz.prog 76 #[.pointer (some ⟨rb, 0, none⟩), .int .u8 4] W fun e w' => e = .returned (.bool true) ∧ RD w' rb s a ln lv ∧ TR rb W w')) (m : Option (Tok × Nat)) (HC0 : ∀ W, RD W rb s a ln lv → Calls Tryz.prog 78 #[.pointer (some ⟨rb, 0, none⟩)] W fun e w' => TokE m rb s a ln lv W e w') :
    Calls Tryz.prog 59 #[.pointer (some ⟨rb, 0, none⟩)] w fun e w' => TokE (m.map fun x => (x.1, x.2 + 0)) rb s a ln lv w e w' := by
  have HR : Hid _ := ⟨h⟩
  have HRa : Hid _ := ⟨h.alloc tokZP⟩
  have hne := h.lt
  cases m with
  | none =>
    have HC : Hid _ := ⟨HC0⟩
    dsimp only [TokE] at HC
    clear h HC0
    go_enter Tryz.func59, Tryz.ntmps59
    go_wp2_with (first
      | (go_at_call_of 76 (Value.int IntKind.u8 18); (with_reducible refine (His18.out _ HRa.out).mono ?_); rintro e v0 ⟨rfl, R0, T0⟩; have HT0 : Hid _ := ⟨T0⟩; have HR0 : Hid _ := ⟨R0⟩; clear R0 T0)
      | (go_at_call_of 76 (Value.int IntKind.u8 4); (with_reducible refine (His4.out _ HR0.out).mono ?_); rintro e v1 ⟨rfl, R1, T1⟩; have HT1 : Hid _ := ⟨HT0.out.trans T1⟩; have HR1 : Hid _ := ⟨R1⟩; clear R1 T1)
      | (go_at_call 78; (with_reducible refine (HC.out _ HR1.out).mono ?_); rintro e v9 ⟨p, q, r, t, a', rfl, R9, T9⟩; have HT9 : Hid _ := ⟨HT1.out.trans T9⟩; have HR9 : Hid _ := ⟨R9⟩; clear R9 T9; obtain ⟨d0, d1, d2, d3, fz⟩ := TBP.of HR.out HT9.out; have f0 := fz 0; have f1 := fz 1; have f2 := fz 2; have f3 := fz 3; clear fz))
    refine bodyPost_ret (resS_token _ v9 w.heap.size _ _ _ _ rfl (TBP.of HR.out HT9.out)) rfl ?_
    exact tok_no rfl (HR9.out.set4 hne _ _ _ _) (TR.set4 HT9.out _ _ _ _)
  | some x =>
    obtain ⟨⟨tk, tn, tt⟩, j⟩ := x
    have HC : Hid _ := ⟨HC0⟩
    dsimp only [TokE] at HC
    clear h HC0
    go_enter Tryz.func59, Tryz.ntmps59
    go_wp2_with (first
      | (go_at_call_of 76 (Value.int IntKind.u8 18); (with_reducible refine (His18.out _ HRa.out).mono ?_); rintro e v0 ⟨rfl, R0, T0⟩; have HT0 : Hid _ := ⟨T0⟩; have HR0 : Hid _ := ⟨R0⟩; clear R0 T0)
      | (go_at_call_of 76 (Value.int IntKind.u8 4); (with_reducible refine (His4.out _ HR0.out).mono ?_); rintro e v1 ⟨rfl, R1, T1⟩; have HT1 : Hid _ := ⟨HT0.out.trans T1⟩; have HR1 : Hid _ := ⟨R1⟩; clear R1 T1)
      | (go_at_call 78; (with_reducible refine (HC.out _ HR1.out).mono ?_); rintro e v9 ⟨rfl, R9, T9⟩; have HT9 : Hid _ := ⟨HT1.out.trans T9⟩; have HR9 : Hid _ := ⟨R9⟩; clear R9 T9; obtain ⟨d0, d1, d2, d3, fz⟩ := TBP.of HR.out HT9.out; have f0 := fz 0; have f1 := fz 1; have f2 := fz 2; have f3 := fz 3; clear fz))
    refine bodyPost_ret (resS_token _ v9 w.heap.size _ _ _ _ rfl (TBP.of HR.out HT9.out)) rfl ?_
    exact tok_yes rfl rfl rfl rfl (by simp only; omega) (HR9.out.set4 hne _ _ _ _) (TR.set4 HT9.out _ _ _ _)

set_option maxHeartbeats 4000000 in
set_option maxRecDepth 10000 in
theorem token_byte (h : RD w rb s a ln lv) (His18 : Hid (∀ W, RD W rb s a ln lv → Calls Tryz.prog 76 #[.pointer (some ⟨rb, 0, none⟩), .int .u8 18] W fun e w' => e = .returned (.bool false) ∧ RD w' rb s a ln lv ∧ TR rb W w')) (His4 : Hid (∀ W, RD W rb s a ln lv → Calls Tryz.prog 76 #[.pointer (some ⟨rb, 0, none⟩), .int .u8 4] W fun e w' => e = .returned (.bool false) ∧ RD w' rb s a ln lv ∧ TR rb W w')) (Htake39 : Hid (∀ W, RD W rb s a ln lv → Calls Tryz.prog 57 #[.pointer (some ⟨rb, 0, none⟩), .int .u8 39] W fun e w' => e = .returned (.bool true) ∧ RD w' rb s (a + 1) ln lv ∧ TR rb W w')) (m : Option (Tok × Nat)) (HC0 : ∀ W, RD W rb s (a + 1) ln lv → Calls Tryz.prog 79 #[.pointer (some ⟨rb, 0, none⟩)] W fun e w' => TokE m rb s (a + 1) ln lv W e w') :
    Calls Tryz.prog 59 #[.pointer (some ⟨rb, 0, none⟩)] w fun e w' => TokE (m.map fun x => (x.1, x.2 + 1)) rb s a ln lv w e w' := by
  have HR : Hid _ := ⟨h⟩
  have HRa : Hid _ := ⟨h.alloc tokZP⟩
  have hne := h.lt
  cases m with
  | none =>
    have HC : Hid _ := ⟨HC0⟩
    dsimp only [TokE] at HC
    clear h HC0
    go_enter Tryz.func59, Tryz.ntmps59
    go_wp2_with (first
      | (go_at_call_of 76 (Value.int IntKind.u8 18); (with_reducible refine (His18.out _ HRa.out).mono ?_); rintro e v0 ⟨rfl, R0, T0⟩; have HT0 : Hid _ := ⟨T0⟩; have HR0 : Hid _ := ⟨R0⟩; clear R0 T0)
      | (go_at_call_of 76 (Value.int IntKind.u8 4); (with_reducible refine (His4.out _ HR0.out).mono ?_); rintro e v1 ⟨rfl, R1, T1⟩; have HT1 : Hid _ := ⟨HT0.out.trans T1⟩; have HR1 : Hid _ := ⟨R1⟩; clear R1 T1)
      | (go_at_call_of 57 (Value.int IntKind.u8 39); (with_reducible refine (Htake39.out _ HR1.out).mono ?_); rintro e v2 ⟨rfl, R2, T2⟩; have HT2 : Hid _ := ⟨HT1.out.trans T2⟩; have HR2 : Hid _ := ⟨R2⟩; clear R2 T2)
      | (go_at_call 79; (with_reducible refine (HC.out _ HR2.out).mono ?_); rintro e v9 ⟨p, q, r, t, a', rfl, R9, T9⟩; have HT9 : Hid _ := ⟨HT2.out.trans T9⟩; have HR9 : Hid _ := ⟨R9⟩; clear R9 T9; obtain ⟨d0, d1, d2, d3, fz⟩ := TBP.of HR.out HT9.out; have f0 := fz 0; have f1 := fz 1; have f2 := fz 2; have f3 := fz 3; clear fz))
    refine bodyPost_ret (resS_token _ v9 w.heap.size _ _ _ _ rfl (TBP.of HR.out HT9.out)) rfl ?_
    exact tok_no rfl (HR9.out.set4 hne _ _ _ _) (TR.set4 HT9.out _ _ _ _)
  | some x =>
    obtain ⟨⟨tk, tn, tt⟩, j⟩ := x
    have HC : Hid _ := ⟨HC0⟩
    dsimp only [TokE] at HC
    clear h HC0
    go_enter Tryz.func59, Tryz.ntmps59
    go_wp2_with (first
      | (go_at_call_of 76 (Value.int IntKind.u8 18); (with_reducible refine (His18.out _ HRa.out).mono ?_); rintro e v0 ⟨rfl, R0, T0⟩; have HT0 : Hid _ := ⟨T0⟩; have HR0 : Hid _ := ⟨R0⟩; clear R0 T0)
      | (go_at_call_of 76 (Value.int IntKind.u8 4); (with_reducible refine (His4.out _ HR0.out).mono ?_); rintro e v1 ⟨rfl, R1, T1⟩; have HT1 : Hid _ := ⟨HT0.out.trans T1⟩; have HR1 : Hid _ := ⟨R1⟩; clear R1 T1)
      | (go_at_call_of 57 (Value.int IntKind.u8 39); (with_reducible refine (Htake39.out _ HR1.out).mono ?_); rintro e v2 ⟨rfl, R2, T2⟩; have HT2 : Hid _ := ⟨HT1.out.trans T2⟩; have HR2 : Hid _ := ⟨R2⟩; clear R2 T2)
      | (go_at_call 79; (with_reducible refine (HC.out _ HR2.out).mono ?_); rintro e v9 ⟨rfl, R9, T9⟩; have HT9 : Hid _ := ⟨HT2.out.trans T9⟩; have HR9 : Hid _ := ⟨R9⟩; clear R9 T9; obtain ⟨d0, d1, d2, d3, fz⟩ := TBP.of HR.out HT9.out; have f0 := fz 0; have f1 := fz 1; have f2 := fz 2; have f3 := fz 3; clear fz))
    refine bodyPost_ret (resS_token _ v9 w.heap.size _ _ _ _ rfl (TBP.of HR.out HT9.out)) rfl ?_
    exact tok_yes rfl rfl rfl rfl (by simp only; omega) (HR9.out.set4 hne _ _ _ _) (TR.set4 HT9.out _ _ _ _)

set_option maxHeartbeats 4000000 in
set_option maxRecDepth 10000 in
theorem token_text (h : RD w rb s a ln lv) (His18 : Hid (∀ W, RD W rb s a ln lv → Calls Tryz.prog 76 #[.pointer (some ⟨rb, 0, none⟩), .int .u8 18] W fun e w' => e = .returned (.bool false) ∧ RD w' rb s a ln lv ∧ TR rb W w')) (His4 : Hid (∀ W, RD W rb s a ln lv → Calls Tryz.prog 76 #[.pointer (some ⟨rb, 0, none⟩), .int .u8 4] W fun e w' => e = .returned (.bool false) ∧ RD w' rb s a ln lv ∧ TR rb W w')) (Htake39 : Hid (∀ W, RD W rb s a ln lv → Calls Tryz.prog 57 #[.pointer (some ⟨rb, 0, none⟩), .int .u8 39] W fun e w' => e = .returned (.bool false) ∧ RD w' rb s a ln lv ∧ TR rb W w')) (Htake34 : Hid (∀ W, RD W rb s a ln lv → Calls Tryz.prog 57 #[.pointer (some ⟨rb, 0, none⟩), .int .u8 34] W fun e w' => e = .returned (.bool true) ∧ RD w' rb s (a + 1) ln lv ∧ TR rb W w')) (m : Option (Tok × Nat)) (HC0 : ∀ W, RD W rb s (a + 1) ln lv → Calls Tryz.prog 80 #[.pointer (some ⟨rb, 0, none⟩)] W fun e w' => TokE m rb s (a + 1) ln lv W e w') :
    Calls Tryz.prog 59 #[.pointer (some ⟨rb, 0, none⟩)] w fun e w' => TokE (m.map fun x => (x.1, x.2 + 1)) rb s a ln lv w e w' := by
  have HR : Hid _ := ⟨h⟩
  have HRa : Hid _ := ⟨h.alloc tokZP⟩
  have hne := h.lt
  cases m with
  | none =>
    have HC : Hid _ := ⟨HC0⟩
    dsimp only [TokE] at HC
    clear h HC0
    go_enter Tryz.func59, Tryz.ntmps59
    go_wp2_with (first
      | (go_at_call_of 76 (Value.int IntKind.u8 18); (with_reducible refine (His18.out _ HRa.out).mono ?_); rintro e v0 ⟨rfl, R0, T0⟩; have HT0 : Hid _ := ⟨T0⟩; have HR0 : Hid _ := ⟨R0⟩; clear R0 T0)
      | (go_at_call_of 76 (Value.int IntKind.u8 4); (with_reducible refine (His4.out _ HR0.out).mono ?_); rintro e v1 ⟨rfl, R1, T1⟩; have HT1 : Hid _ := ⟨HT0.out.trans T1⟩; have HR1 : Hid _ := ⟨R1⟩; clear R1 T1)
      | (go_at_call_of 57 (Value.int IntKind.u8 39); (with_reducible refine (Htake39.out _ HR1.out).mono ?_); rintro e v2 ⟨rfl, R2, T2⟩; have HT2 : Hid _ := ⟨HT1.out.trans T2⟩; have HR2 : Hid _ := ⟨R2⟩; clear R2 T2)
      | (go_at_call_of 57 (Value.int IntKind.u8 34); (with_reducible refine (Htake34.out _ HR2.out).mono ?_); rintro e v3 ⟨rfl, R3, T3⟩; have HT3 : Hid _ := ⟨HT2.out.trans T3⟩; have HR3 : Hid _ := ⟨R3⟩; clear R3 T3)
      | (go_at_call 80; (with_reducible refine (HC.out _ HR3.out).mono ?_); rintro e v9 ⟨p, q, r, t, a', rfl, R9, T9⟩; have HT9 : Hid _ := ⟨HT3.out.trans T9⟩; have HR9 : Hid _ := ⟨R9⟩; clear R9 T9; obtain ⟨d0, d1, d2, d3, fz⟩ := TBP.of HR.out HT9.out; have f0 := fz 0; have f1 := fz 1; have f2 := fz 2; have f3 := fz 3; clear fz))
    refine bodyPost_ret (resS_token _ v9 w.heap.size _ _ _ _ rfl (TBP.of HR.out HT9.out)) rfl ?_
    exact tok_no rfl (HR9.out.set4 hne _ _ _ _) (TR.set4 HT9.out _ _ _ _)
  | some x =>
    obtain ⟨⟨tk, tn, tt⟩, j⟩ := x
    have HC : Hid _ := ⟨HC0⟩
    dsimp only [TokE] at HC
    clear h HC0
    go_enter Tryz.func59, Tryz.ntmps59
    go_wp2_with (first
      | (go_at_call_of 76 (Value.int IntKind.u8 18); (with_reducible refine (His18.out _ HRa.out).mono ?_); rintro e v0 ⟨rfl, R0, T0⟩; have HT0 : Hid _ := ⟨T0⟩; have HR0 : Hid _ := ⟨R0⟩; clear R0 T0)
      | (go_at_call_of 76 (Value.int IntKind.u8 4); (with_reducible refine (His4.out _ HR0.out).mono ?_); rintro e v1 ⟨rfl, R1, T1⟩; have HT1 : Hid _ := ⟨HT0.out.trans T1⟩; have HR1 : Hid _ := ⟨R1⟩; clear R1 T1)
      | (go_at_call_of 57 (Value.int IntKind.u8 39); (with_reducible refine (Htake39.out _ HR1.out).mono ?_); rintro e v2 ⟨rfl, R2, T2⟩; have HT2 : Hid _ := ⟨HT1.out.trans T2⟩; have HR2 : Hid _ := ⟨R2⟩; clear R2 T2)
      | (go_at_call_of 57 (Value.int IntKind.u8 34); (with_reducible refine (Htake34.out _ HR2.out).mono ?_); rintro e v3 ⟨rfl, R3, T3⟩; have HT3 : Hid _ := ⟨HT2.out.trans T3⟩; have HR3 : Hid _ := ⟨R3⟩; clear R3 T3)
      | (go_at_call 80; (with_reducible refine (HC.out _ HR3.out).mono ?_); rintro e v9 ⟨rfl, R9, T9⟩; have HT9 : Hid _ := ⟨HT3.out.trans T9⟩; have HR9 : Hid _ := ⟨R9⟩; clear R9 T9; obtain ⟨d0, d1, d2, d3, fz⟩ := TBP.of HR.out HT9.out; have f0 := fz 0; have f1 := fz 1; have f2 := fz 2; have f3 := fz 3; clear fz))
    refine bodyPost_ret (resS_token _ v9 w.heap.size _ _ _ _ rfl (TBP.of HR.out HT9.out)) rfl ?_
    exact tok_yes rfl rfl rfl rfl (by simp only; omega) (HR9.out.set4 hne _ _ _ _) (TR.set4 HT9.out _ _ _ _)

set_option maxHeartbeats 4000000 in
set_option maxRecDepth 10000 in
theorem token_reg (h : RD w rb s a ln lv) (His18 : Hid (∀ W, RD W rb s a ln lv → Calls Tryz.prog 76 #[.pointer (some ⟨rb, 0, none⟩), .int .u8 18] W fun e w' => e = .returned (.bool false) ∧ RD w' rb s a ln lv ∧ TR rb W w')) (His4 : Hid (∀ W, RD W rb s a ln lv → Calls Tryz.prog 76 #[.pointer (some ⟨rb, 0, none⟩), .int .u8 4] W fun e w' => e = .returned (.bool false) ∧ RD w' rb s a ln lv ∧ TR rb W w')) (Htake39 : Hid (∀ W, RD W rb s a ln lv → Calls Tryz.prog 57 #[.pointer (some ⟨rb, 0, none⟩), .int .u8 39] W fun e w' => e = .returned (.bool false) ∧ RD w' rb s a ln lv ∧ TR rb W w')) (Htake34 : Hid (∀ W, RD W rb s a ln lv → Calls Tryz.prog 57 #[.pointer (some ⟨rb, 0, none⟩), .int .u8 34] W fun e w' => e = .returned (.bool false) ∧ RD w' rb s a ln lv ∧ TR rb W w')) (Htake37 : Hid (∀ W, RD W rb s a ln lv → Calls Tryz.prog 57 #[.pointer (some ⟨rb, 0, none⟩), .int .u8 37] W fun e w' => e = .returned (.bool true) ∧ RD w' rb s (a + 1) ln lv ∧ TR rb W w')) (m : Option (Tok × Nat)) (HC0 : ∀ W, RD W rb s (a + 1) ln lv → Calls Tryz.prog 81 #[.pointer (some ⟨rb, 0, none⟩)] W fun e w' => TokE m rb s (a + 1) ln lv W e w') :
    Calls Tryz.prog 59 #[.pointer (some ⟨rb, 0, none⟩)] w fun e w' => TokE (m.map fun x => (x.1, x.2 + 1)) rb s a ln lv w e w' := by
  have HR : Hid _ := ⟨h⟩
  have HRa : Hid _ := ⟨h.alloc tokZP⟩
  have hne := h.lt
  cases m with
  | none =>
    have HC : Hid _ := ⟨HC0⟩
    dsimp only [TokE] at HC
    clear h HC0
    go_enter Tryz.func59, Tryz.ntmps59
    go_wp2_with (first
      | (go_at_call_of 76 (Value.int IntKind.u8 18); (with_reducible refine (His18.out _ HRa.out).mono ?_); rintro e v0 ⟨rfl, R0, T0⟩; have HT0 : Hid _ := ⟨T0⟩; have HR0 : Hid _ := ⟨R0⟩; clear R0 T0)
      | (go_at_call_of 76 (Value.int IntKind.u8 4); (with_reducible refine (His4.out _ HR0.out).mono ?_); rintro e v1 ⟨rfl, R1, T1⟩; have HT1 : Hid _ := ⟨HT0.out.trans T1⟩; have HR1 : Hid _ := ⟨R1⟩; clear R1 T1)
      | (go_at_call_of 57 (Value.int IntKind.u8 39); (with_reducible refine (Htake39.out _ HR1.out).mono ?_); rintro e v2 ⟨rfl, R2, T2⟩; have HT2 : Hid _ := ⟨HT1.out.trans T2⟩; have HR2 : Hid _ := ⟨R2⟩; clear R2 T2)
      | (go_at_call_of 57 (Value.int IntKind.u8 34); (with_reducible refine (Htake34.out _ HR2.out).mono ?_); rintro e v3 ⟨rfl, R3, T3⟩; have HT3 : Hid _ := ⟨HT2.out.trans T3⟩; have HR3 : Hid _ := ⟨R3⟩; clear R3 T3)
      | (go_at_call_of 57 (Value.int IntKind.u8 37); (with_reducible refine (Htake37.out _ HR3.out).mono ?_); rintro e v4 ⟨rfl, R4, T4⟩; have HT4 : Hid _ := ⟨HT3.out.trans T4⟩; have HR4 : Hid _ := ⟨R4⟩; clear R4 T4)
      | (go_at_call 81; (with_reducible refine (HC.out _ HR4.out).mono ?_); rintro e v9 ⟨p, q, r, t, a', rfl, R9, T9⟩; have HT9 : Hid _ := ⟨HT4.out.trans T9⟩; have HR9 : Hid _ := ⟨R9⟩; clear R9 T9; obtain ⟨d0, d1, d2, d3, fz⟩ := TBP.of HR.out HT9.out; have f0 := fz 0; have f1 := fz 1; have f2 := fz 2; have f3 := fz 3; clear fz))
    refine bodyPost_ret (resS_token _ v9 w.heap.size _ _ _ _ rfl (TBP.of HR.out HT9.out)) rfl ?_
    exact tok_no rfl (HR9.out.set4 hne _ _ _ _) (TR.set4 HT9.out _ _ _ _)
  | some x =>
    obtain ⟨⟨tk, tn, tt⟩, j⟩ := x
    have HC : Hid _ := ⟨HC0⟩
    dsimp only [TokE] at HC
    clear h HC0
    go_enter Tryz.func59, Tryz.ntmps59
    go_wp2_with (first
      | (go_at_call_of 76 (Value.int IntKind.u8 18); (with_reducible refine (His18.out _ HRa.out).mono ?_); rintro e v0 ⟨rfl, R0, T0⟩; have HT0 : Hid _ := ⟨T0⟩; have HR0 : Hid _ := ⟨R0⟩; clear R0 T0)
      | (go_at_call_of 76 (Value.int IntKind.u8 4); (with_reducible refine (His4.out _ HR0.out).mono ?_); rintro e v1 ⟨rfl, R1, T1⟩; have HT1 : Hid _ := ⟨HT0.out.trans T1⟩; have HR1 : Hid _ := ⟨R1⟩; clear R1 T1)
      | (go_at_call_of 57 (Value.int IntKind.u8 39); (with_reducible refine (Htake39.out _ HR1.out).mono ?_); rintro e v2 ⟨rfl, R2, T2⟩; have HT2 : Hid _ := ⟨HT1.out.trans T2⟩; have HR2 : Hid _ := ⟨R2⟩; clear R2 T2)
      | (go_at_call_of 57 (Value.int IntKind.u8 34); (with_reducible refine (Htake34.out _ HR2.out).mono ?_); rintro e v3 ⟨rfl, R3, T3⟩; have HT3 : Hid _ := ⟨HT2.out.trans T3⟩; have HR3 : Hid _ := ⟨R3⟩; clear R3 T3)
      | (go_at_call_of 57 (Value.int IntKind.u8 37); (with_reducible refine (Htake37.out _ HR3.out).mono ?_); rintro e v4 ⟨rfl, R4, T4⟩; have HT4 : Hid _ := ⟨HT3.out.trans T4⟩; have HR4 : Hid _ := ⟨R4⟩; clear R4 T4)
      | (go_at_call 81; (with_reducible refine (HC.out _ HR4.out).mono ?_); rintro e v9 ⟨rfl, R9, T9⟩; have HT9 : Hid _ := ⟨HT4.out.trans T9⟩; have HR9 : Hid _ := ⟨R9⟩; clear R9 T9; obtain ⟨d0, d1, d2, d3, fz⟩ := TBP.of HR.out HT9.out; have f0 := fz 0; have f1 := fz 1; have f2 := fz 2; have f3 := fz 3; clear fz))
    refine bodyPost_ret (resS_token _ v9 w.heap.size _ _ _ _ rfl (TBP.of HR.out HT9.out)) rfl ?_
    exact tok_yes rfl rfl rfl rfl (by simp only; omega) (HR9.out.set4 hne _ _ _ _) (TR.set4 HT9.out _ _ _ _)

set_option maxHeartbeats 4000000 in
set_option maxRecDepth 10000 in
theorem token_end (h : RD w rb s a ln lv) (His18 : Hid (∀ W, RD W rb s a ln lv → Calls Tryz.prog 76 #[.pointer (some ⟨rb, 0, none⟩), .int .u8 18] W fun e w' => e = .returned (.bool false) ∧ RD w' rb s a ln lv ∧ TR rb W w')) (His4 : Hid (∀ W, RD W rb s a ln lv → Calls Tryz.prog 76 #[.pointer (some ⟨rb, 0, none⟩), .int .u8 4] W fun e w' => e = .returned (.bool false) ∧ RD w' rb s a ln lv ∧ TR rb W w')) (Htake39 : Hid (∀ W, RD W rb s a ln lv → Calls Tryz.prog 57 #[.pointer (some ⟨rb, 0, none⟩), .int .u8 39] W fun e w' => e = .returned (.bool false) ∧ RD w' rb s a ln lv ∧ TR rb W w')) (Htake34 : Hid (∀ W, RD W rb s a ln lv → Calls Tryz.prog 57 #[.pointer (some ⟨rb, 0, none⟩), .int .u8 34] W fun e w' => e = .returned (.bool false) ∧ RD w' rb s a ln lv ∧ TR rb W w')) (Htake37 : Hid (∀ W, RD W rb s a ln lv → Calls Tryz.prog 57 #[.pointer (some ⟨rb, 0, none⟩), .int .u8 37] W fun e w' => e = .returned (.bool false) ∧ RD w' rb s a ln lv ∧ TR rb W w')) (Htake59 : Hid (∀ W, RD W rb s a ln lv → Calls Tryz.prog 57 #[.pointer (some ⟨rb, 0, none⟩), .int .u8 59] W fun e w' => e = .returned (.bool true) ∧ RD w' rb s (a + 1) ln lv ∧ TR rb W w')) :
    Calls Tryz.prog 59 #[.pointer (some ⟨rb, 0, none⟩)] w fun e w' => TokE (some (⟨6, 0, []⟩, 1)) rb s a ln lv w e w' := by
  have HR : Hid _ := ⟨h⟩
  have HRa : Hid _ := ⟨h.alloc tokZP⟩
  have hne := h.lt
  clear h
  go_enter Tryz.func59, Tryz.ntmps59
  go_wp2_with (first
    | (go_at_call_of 76 (Value.int IntKind.u8 18); (with_reducible refine (His18.out _ HRa.out).mono ?_); rintro e v0 ⟨rfl, R0, T0⟩; have HT0 : Hid _ := ⟨T0⟩; have HR0 : Hid _ := ⟨R0⟩; clear R0 T0)
    | (go_at_call_of 76 (Value.int IntKind.u8 4); (with_reducible refine (His4.out _ HR0.out).mono ?_); rintro e v1 ⟨rfl, R1, T1⟩; have HT1 : Hid _ := ⟨HT0.out.trans T1⟩; have HR1 : Hid _ := ⟨R1⟩; clear R1 T1)
    | (go_at_call_of 57 (Value.int IntKind.u8 39); (with_reducible refine (Htake39.out _ HR1.out).mono ?_); rintro e v2 ⟨rfl, R2, T2⟩; have HT2 : Hid _ := ⟨HT1.out.trans T2⟩; have HR2 : Hid _ := ⟨R2⟩; clear R2 T2)
    | (go_at_call_of 57 (Value.int IntKind.u8 34); (with_reducible refine (Htake34.out _ HR2.out).mono ?_); rintro e v3 ⟨rfl, R3, T3⟩; have HT3 : Hid _ := ⟨HT2.out.trans T3⟩; have HR3 : Hid _ := ⟨R3⟩; clear R3 T3)
    | (go_at_call_of 57 (Value.int IntKind.u8 37); (with_reducible refine (Htake37.out _ HR3.out).mono ?_); rintro e v4 ⟨rfl, R4, T4⟩; have HT4 : Hid _ := ⟨HT3.out.trans T4⟩; have HR4 : Hid _ := ⟨R4⟩; clear R4 T4)
    | (go_at_call_of 57 (Value.int IntKind.u8 59); (with_reducible refine (Htake59.out _ HR4.out).mono ?_); rintro e v5 ⟨rfl, R5, T5⟩; have HT5 : Hid _ := ⟨HT4.out.trans T5⟩; have HR5 : Hid _ := ⟨R5⟩; clear R5 T5; obtain ⟨d0, d1, d2, d3, fz⟩ := TBP.of HR.out HT5.out; have f0 := fz 0; have f1 := fz 1; have f2 := fz 2; have f3 := fz 3; clear fz))
  refine bodyPost_ret (resS_token _ v5 w.heap.size _ _ _ _ rfl (TBP.of HR.out HT5.out)) rfl ?_
  exact tok_yes rfl rfl rfl rfl rfl (HR5.out.set4 hne _ _ _ _) (TR.set4 HT5.out _ _ _ _)

set_option maxHeartbeats 4000000 in
set_option maxRecDepth 10000 in
theorem token_sign (h : RD w rb s a ln lv) (His18 : Hid (∀ W, RD W rb s a ln lv → Calls Tryz.prog 76 #[.pointer (some ⟨rb, 0, none⟩), .int .u8 18] W fun e w' => e = .returned (.bool false) ∧ RD w' rb s a ln lv ∧ TR rb W w')) (His4 : Hid (∀ W, RD W rb s a ln lv → Calls Tryz.prog 76 #[.pointer (some ⟨rb, 0, none⟩), .int .u8 4] W fun e w' => e = .returned (.bool false) ∧ RD w' rb s a ln lv ∧ TR rb W w')) (Htake39 : Hid (∀ W, RD W rb s a ln lv → Calls Tryz.prog 57 #[.pointer (some ⟨rb, 0, none⟩), .int .u8 39] W fun e w' => e = .returned (.bool false) ∧ RD w' rb s a ln lv ∧ TR rb W w')) (Htake34 : Hid (∀ W, RD W rb s a ln lv → Calls Tryz.prog 57 #[.pointer (some ⟨rb, 0, none⟩), .int .u8 34] W fun e w' => e = .returned (.bool false) ∧ RD w' rb s a ln lv ∧ TR rb W w')) (Htake37 : Hid (∀ W, RD W rb s a ln lv → Calls Tryz.prog 57 #[.pointer (some ⟨rb, 0, none⟩), .int .u8 37] W fun e w' => e = .returned (.bool false) ∧ RD w' rb s a ln lv ∧ TR rb W w')) (Htake59 : Hid (∀ W, RD W rb s a ln lv → Calls Tryz.prog 57 #[.pointer (some ⟨rb, 0, none⟩), .int .u8 59] W fun e w' => e = .returned (.bool false) ∧ RD w' rb s a ln lv ∧ TR rb W w')) (m : Option (Tok × Nat)) (HC0 : ∀ W, RD W rb s a ln lv → Calls Tryz.prog 82 #[.pointer (some ⟨rb, 0, none⟩)] W fun e w' => TokE m rb s a ln lv W e w') :
    Calls Tryz.prog 59 #[.pointer (some ⟨rb, 0, none⟩)] w fun e w' => TokE (m.map fun x => (x.1, x.2 + 0)) rb s a ln lv w e w' := by
  have HR : Hid _ := ⟨h⟩
  have HRa : Hid _ := ⟨h.alloc tokZP⟩
  have hne := h.lt
  cases m with
  | none =>
    have HC : Hid _ := ⟨HC0⟩
    dsimp only [TokE] at HC
    clear h HC0
    go_enter Tryz.func59, Tryz.ntmps59
    go_wp2_with (first
      | (go_at_call_of 76 (Value.int IntKind.u8 18); (with_reducible refine (His18.out _ HRa.out).mono ?_); rintro e v0 ⟨rfl, R0, T0⟩; have HT0 : Hid _ := ⟨T0⟩; have HR0 : Hid _ := ⟨R0⟩; clear R0 T0)
      | (go_at_call_of 76 (Value.int IntKind.u8 4); (with_reducible refine (His4.out _ HR0.out).mono ?_); rintro e v1 ⟨rfl, R1, T1⟩; have HT1 : Hid _ := ⟨HT0.out.trans T1⟩; have HR1 : Hid _ := ⟨R1⟩; clear R1 T1)
      | (go_at_call_of 57 (Value.int IntKind.u8 39); (with_reducible refine (Htake39.out _ HR1.out).mono ?_); rintro e v2 ⟨rfl, R2, T2⟩; have HT2 : Hid _ := ⟨HT1.out.trans T2⟩; have HR2 : Hid _ := ⟨R2⟩; clear R2 T2)
      | (go_at_call_of 57 (Value.int IntKind.u8 34); (with_reducible refine (Htake34.out _ HR2.out).mono ?_); rintro e v3 ⟨rfl, R3, T3⟩; have HT3 : Hid _ := ⟨HT2.out.trans T3⟩; have HR3 : Hid _ := ⟨R3⟩; clear R3 T3)
      | (go_at_call_of 57 (Value.int IntKind.u8 37); (with_reducible refine (Htake37.out _ HR3.out).mono ?_); rintro e v4 ⟨rfl, R4, T4⟩; have HT4 : Hid _ := ⟨HT3.out.trans T4⟩; have HR4 : Hid _ := ⟨R4⟩; clear R4 T4)
      | (go_at_call_of 57 (Value.int IntKind.u8 59); (with_reducible refine (Htake59.out _ HR4.out).mono ?_); rintro e v5 ⟨rfl, R5, T5⟩; have HT5 : Hid _ := ⟨HT4.out.trans T5⟩; have HR5 : Hid _ := ⟨R5⟩; clear R5 T5)
      | (go_at_call 82; (with_reducible refine (HC.out _ HR5.out).mono ?_); rintro e v9 ⟨p, q, r, t, a', rfl, R9, T9⟩; have HT9 : Hid _ := ⟨HT5.out.trans T9⟩; have HR9 : Hid _ := ⟨R9⟩; clear R9 T9; obtain ⟨d0, d1, d2, d3, fz⟩ := TBP.of HR.out HT9.out; have f0 := fz 0; have f1 := fz 1; have f2 := fz 2; have f3 := fz 3; clear fz))
    refine bodyPost_ret (resS_token _ v9 w.heap.size _ _ _ _ rfl (TBP.of HR.out HT9.out)) rfl ?_
    exact tok_no rfl (HR9.out.set4 hne _ _ _ _) (TR.set4 HT9.out _ _ _ _)
  | some x =>
    obtain ⟨⟨tk, tn, tt⟩, j⟩ := x
    have HC : Hid _ := ⟨HC0⟩
    dsimp only [TokE] at HC
    clear h HC0
    go_enter Tryz.func59, Tryz.ntmps59
    go_wp2_with (first
      | (go_at_call_of 76 (Value.int IntKind.u8 18); (with_reducible refine (His18.out _ HRa.out).mono ?_); rintro e v0 ⟨rfl, R0, T0⟩; have HT0 : Hid _ := ⟨T0⟩; have HR0 : Hid _ := ⟨R0⟩; clear R0 T0)
      | (go_at_call_of 76 (Value.int IntKind.u8 4); (with_reducible refine (His4.out _ HR0.out).mono ?_); rintro e v1 ⟨rfl, R1, T1⟩; have HT1 : Hid _ := ⟨HT0.out.trans T1⟩; have HR1 : Hid _ := ⟨R1⟩; clear R1 T1)
      | (go_at_call_of 57 (Value.int IntKind.u8 39); (with_reducible refine (Htake39.out _ HR1.out).mono ?_); rintro e v2 ⟨rfl, R2, T2⟩; have HT2 : Hid _ := ⟨HT1.out.trans T2⟩; have HR2 : Hid _ := ⟨R2⟩; clear R2 T2)
      | (go_at_call_of 57 (Value.int IntKind.u8 34); (with_reducible refine (Htake34.out _ HR2.out).mono ?_); rintro e v3 ⟨rfl, R3, T3⟩; have HT3 : Hid _ := ⟨HT2.out.trans T3⟩; have HR3 : Hid _ := ⟨R3⟩; clear R3 T3)
      | (go_at_call_of 57 (Value.int IntKind.u8 37); (with_reducible refine (Htake37.out _ HR3.out).mono ?_); rintro e v4 ⟨rfl, R4, T4⟩; have HT4 : Hid _ := ⟨HT3.out.trans T4⟩; have HR4 : Hid _ := ⟨R4⟩; clear R4 T4)
      | (go_at_call_of 57 (Value.int IntKind.u8 59); (with_reducible refine (Htake59.out _ HR4.out).mono ?_); rintro e v5 ⟨rfl, R5, T5⟩; have HT5 : Hid _ := ⟨HT4.out.trans T5⟩; have HR5 : Hid _ := ⟨R5⟩; clear R5 T5)
      | (go_at_call 82; (with_reducible refine (HC.out _ HR5.out).mono ?_); rintro e v9 ⟨rfl, R9, T9⟩; have HT9 : Hid _ := ⟨HT5.out.trans T9⟩; have HR9 : Hid _ := ⟨R9⟩; clear R9 T9; obtain ⟨d0, d1, d2, d3, fz⟩ := TBP.of HR.out HT9.out; have f0 := fz 0; have f1 := fz 1; have f2 := fz 2; have f3 := fz 3; clear fz))
    refine bodyPost_ret (resS_token _ v9 w.heap.size _ _ _ _ rfl (TBP.of HR.out HT9.out)) rfl ?_
    exact tok_yes rfl rfl rfl rfl (by simp only; omega) (HR9.out.set4 hne _ _ _ _) (TR.set4 HT9.out _ _ _ _)

theorem hid_is (K : Nat) (z : Int) (hz : z = (K : Int)) {b : Bool} (hb : kB K (hdZ (Ln s a)) = b) : Hid (∀ W, RD W rb s a ln lv → Calls Tryz.prog 76 #[.pointer (some ⟨rb, 0, none⟩), .int .u8 z] W fun e w' => e = .returned (.bool b) ∧ RD w' rb s a ln lv ∧ TR rb W w') := ⟨fun W hW => by
  have := is_t hW K z hz
  rw [hb] at this
  exact this⟩
theorem hid_no {b : Int} (ha : a ≤ 9007199254740992) (hz : ¬ hdZ (Ln s a) = b) : Hid (∀ W, RD W rb s a ln lv → Calls Tryz.prog 57 #[.pointer (some ⟨rb, 0, none⟩), .int .u8 b] W fun e w' => e = .returned (.bool false) ∧ RD w' rb s a ln lv ∧ TR rb W w') := ⟨fun W hW => take_no hW ha hz⟩
theorem hid_yes {b : Int} (ha : a ≤ 9007199254740992) (hz : hdZ (Ln s a) = b) : Hid (∀ W, RD W rb s a ln lv → Calls Tryz.prog 57 #[.pointer (some ⟨rb, 0, none⟩), .int .u8 b] W fun e w' => e = .returned (.bool true) ∧ RD w' rb s (a + 1) ln lv ∧ TR rb W w') := ⟨fun W hW => take_yes hW ha hz⟩
theorem map_zero (m : Option (Tok × Nat)) : (m.map fun x => (x.1, x.2 + 0)) = m := by cases m <;> rfl

theorem token_any (h : RD w rb s a ln lv) (hl : s.size ≤ 8796093022208) (ha : a ≤ s.size) : Calls Tryz.prog 59 #[.pointer (some ⟨rb, 0, none⟩)] w fun e w' => TokE (oneM (Ln s a)) rb s a ln lv w e w' := by
  have ha2 : a ≤ 9007199254740992 := by omega
  cases hL : Ln s a with
  | nil =>
    have hz : hdZ (Ln s a) = 10 := by rw [hL]; rfl
    have hk : ∀ K, K < 256 → kB K (hdZ (Ln s a)) = false := fun K hK => by rw [hz]; exact kB_lf K hK
    have := token_sign h (hid_is 18 18 rfl (hk 18 (by omega))) (hid_is 4 4 rfl (hk 4 (by omega))) (hid_no ha2 (by rw [hz]; decide)) (hid_no ha2 (by rw [hz]; decide)) (hid_no ha2 (by rw [hz]; decide)) (hid_no ha2 (by rw [hz]; decide)) _ (fun W hW => sign_any hW hl ha)
    rw [hL] at this
    exact this
  | cons c r =>
    obtain ⟨h1, h2, h3⟩ := Ln_cons hL
    have hz : hdZ (Ln s a) = zOf c := by rw [hL]; rfl
    have hk : ∀ K, kB K (hdZ (Ln s a)) = kB K (zOf c) := fun K => by rw [hz]
    have hno : ∀ n : Nat, n < 256 → ¬ c = UInt8.ofNat n → ¬ hdZ (Ln s a) = (n : Int) := fun n hn hc e => hc ((u8z hn).1 (by rw [← hz]; exact e))
    have hone : oneM (c :: r) = if c = 59 then some (⟨6, 0, []⟩, 1)
      else if isDig c = true ∨ c = 39 then (numM (c :: r)).map fun p => (⟨2, wrap64 p.1, []⟩, p.2)
      else if c = 34 then (quoM (c :: r)).map fun p => (⟨3, 0, p.1⟩, p.2)
      else if c = 37 then if regN r = 0 then none else some (⟨5, 0, r.take (regN r)⟩, 1 + regN r)
      else if isIn c = true then if wordN (c :: r) ≤ 255 then some (⟨1, 0, (c :: r).take (wordN (c :: r))⟩, wordN (c :: r)) else none
      else if signN (c :: r) = 0 then none else some (⟨4, 0, (c :: r).take (signN (c :: r))⟩, signN (c :: r)) := rfl
    rw [hone]
    cases hdg : isDig c
    · cases hin : isIn c
      · have k18 : kB 18 (hdZ (Ln s a)) = false := by rw [hk, kB_first, hin]; rfl
        have k4 : kB 4 (hdZ (Ln s a)) = false := by rw [hk, kB_dig, hdg]
        by_cases c59 : c = 59
        · rw [if_pos c59]
          subst c59
          exact token_end h (hid_is 18 18 rfl k18) (hid_is 4 4 rfl k4) (hid_no ha2 (by rw [hz]; decide)) (hid_no ha2 (by rw [hz]; decide)) (hid_no ha2 (by rw [hz]; decide)) (hid_yes ha2 (by rw [hz]; rfl))
        · rw [if_neg c59]
          by_cases c39 : c = 39
          · rw [if_pos (.inr c39)]
            subst c39
            have := token_byte h (hid_is 18 18 rfl k18) (hid_is 4 4 rfl k4) (hid_yes ha2 (by rw [hz]; rfl)) _ (fun W hW => byteNumber_any hW hl (by omega))
            rw [h3] at this
            have e : ((numM (39 :: r)).map fun p => ((⟨2, wrap64 p.1, []⟩ : Tok), p.2)) = ((numM (39 :: r)).map fun p => ((⟨2, wrap64 p.1, []⟩ : Tok), p.2 - 1)).map fun x => (x.1, x.2 + 1) := by
              cases hn : numM (39 :: r) with
              | none => rfl
              | some p =>
                obtain ⟨v, n⟩ := p
                have := (num_len (.inr rfl) hn).1
                obtain ⟨n', rfl⟩ : ∃ n', n = n' + 1 := ⟨n - 1, by omega⟩
                rfl
            rw [e]
            exact this
          · rw [if_neg (by rintro (e | e); cases e; exact c39 e)]
            have n39 := hno 39 (by omega) c39
            by_cases c34 : c = 34
            · rw [if_pos c34]
              subst c34
              have := token_text h (hid_is 18 18 rfl k18) (hid_is 4 4 rfl k4) (hid_no ha2 n39) (hid_yes ha2 (by rw [hz]; rfl)) _ (fun W hW => quotedText_any hW hl (by omega))
              rw [h3] at this
              have e : ((quoM (34 :: r)).map fun p => ((⟨3, 0, p.1⟩ : Tok), p.2)) = ((quoM (34 :: r)).map fun p => ((⟨3, 0, p.1⟩ : Tok), p.2 - 1)).map fun x => (x.1, x.2 + 1) := by
                cases hn : quoM (34 :: r) with
                | none => rfl
                | some p =>
                  obtain ⟨v, n⟩ := p
                  have := (quo_len hn).1
                  obtain ⟨n', rfl⟩ : ∃ n', n = n' + 1 := ⟨n - 1, by omega⟩
                  rfl
              rw [e]
              exact this
            · rw [if_neg c34]
              have n34 := hno 34 (by omega) c34
              by_cases c37 : c = 37
              · rw [if_pos c37]
                subst c37
                have := token_reg h (hid_is 18 18 rfl k18) (hid_is 4 4 rfl k4) (hid_no ha2 n39) (hid_no ha2 n34) (hid_yes ha2 (by rw [hz]; rfl)) _ (fun W hW => register_any hW hl (by omega))
                rw [h3] at this
                have e : (if regN r = 0 then none else some ((⟨5, 0, r.take (regN r)⟩ : Tok), 1 + regN r)) = (if regN r = 0 then none else some ((⟨5, 0, r.take (regN r)⟩ : Tok), regN r)).map fun x => (x.1, x.2 + 1) := by
                  split
                  · rfl
                  · show some _ = some _
                    congr 2
                    omega
                rw [e]
                exact this
              · rw [if_neg c37, if_neg (by simp)]
                have n37 := hno 37 (by omega) c37
                have n59 := hno 59 (by omega) c59
                have := token_sign h (hid_is 18 18 rfl k18) (hid_is 4 4 rfl k4) (hid_no ha2 n39) (hid_no ha2 n34) (hid_no ha2 n37) (hid_no ha2 n59) _ (fun W hW => sign_any hW hl ha)
                rw [hL, map_zero] at this
                exact this
      · have k18 : kB 18 (hdZ (Ln s a)) = true := by rw [hk, kB_first, hin, hdg]; rfl
        have := token_name h (hid_is 18 18 rfl k18) _ (fun W hW => name_any hW hl ha)
        rw [hL, map_zero] at this
        have n59 : ¬ c = 59 := by intro e; subst e; cases hin
        have n39 : ¬ c = 39 := by intro e; subst e; cases hin
        have n34 : ¬ c = 34 := by intro e; subst e; cases hin
        have n37 : ¬ c = 37 := by intro e; subst e; cases hin
        rw [if_neg n59, if_neg (by rintro (e | e); cases e; exact n39 e), if_neg n34, if_neg n37, if_pos rfl]
        exact this
    · have k18 : kB 18 (hdZ (Ln s a)) = false := by rw [hk, kB_first, hdg]; simp
      have k4 : kB 4 (hdZ (Ln s a)) = true := by rw [hk, kB_dig, hdg]
      have := token_number h (hid_is 18 18 rfl k18) (hid_is 4 4 rfl k4) _ (fun W hW => number_any hW hl ha hL hdg)
      rw [map_zero] at this
      have n59 : ¬ c = 59 := by intro e; subst e; cases hdg
      rw [if_neg n59, if_pos (.inl rfl)]
      exact this
end
end Go.Proofs.YtljmbgflcidokaaGreatDoor
