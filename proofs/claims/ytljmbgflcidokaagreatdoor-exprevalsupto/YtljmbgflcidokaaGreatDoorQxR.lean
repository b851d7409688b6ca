/- The program's tokens: any token. The program's reader: a token more. Lines, plainly: how far a line has been cut. The program's cutting of all lines. The program's kinds of bytes: the table is what kz says. The program's kinds of bytes: the table is made; a new reader. The program's kinds of bytes: the whole table; a new reader. The program's All: any text is cut as the document says. What the laws lean on: the contracts of the program's calls, by name; num, live. The program's All: the contract. -/
import Derived.Test.YtljmbgflcidokaaGreatDoorQxJ
import Derived.Deep.RegionLaw
import Derived.Deep.AppendLies
import Derived.WalkMore
import Derived.Laws.Rows
import Derived.Laws.Tables
import Derived.Deep.Cut
import Derived.Test.YtljmbgflcidokaaGreatDoorLxAll
import Derived.Test.YtljmbgflcidokaaGreatDoorLxTokP
import Derived.Test.YtljmbgflcidokaaGreatDoorQxS
import Derived.Laws.StructEq
namespace Go.Proofs.YtljmbgflcidokaaGreatDoor
open Go.ChangeShapes Go.WideShapes Go.ChangeAt Go.RowKit
set_option linter.unusedVariables false
set_option linter.unusedSimpArgs false
section
variable {w w1 w2 : World} {rb : Nat} {s : ByteArray} {a : Nat} {ln : Int} {lv : Value}

set_option maxHeartbeats 4000000 in
set_option maxRecDepth 10000 in
theorem token_name (h : RD w rb s a ln lv) (His18 : Hid (∀ W, RD W rb s a ln lv → Calls Tryz.prog 76 #[.pointer (some ⟨rb, 0, none⟩), .int .u8 18] W fun e w' => e = .returned (.bool true) ∧ RD w' rb s a ln lv ∧ TR rb W w')) (m : Option (Tok × Nat)) (HC0 : ∀ W, RD W rb s a ln lv → Calls Tryz.prog 77 #[.pointer (some ⟨rb, 0, none⟩)] W fun e w' => TokE m rb s a ln lv W e w') :
    Calls Tryz.prog 59 #[.pointer (some ⟨rb, 0, none⟩)] w fun e w' => TokE (m.map fun x => (x.1, x.2 + 0)) rb s a ln lv w e w' := by
  have HR : Hid _ := ⟨h⟩
  have HRa : Hid _ := ⟨h.alloc tokZP⟩
  have hne := h.lt
  cases m with
  | none =>
    have HC : Hid _ := ⟨HC0⟩
    dsimp only [TokE] at HC
    clear h HC0
    go_enter Tryz.func59, Tryz.ntmps59
    go_wp2_with (first
      | (go_at_call_of 76 (Value.int IntKind.u8 18); (with_reducible refine (His18.out _ HRa.out).mono ?_); rintro e v0 ⟨rfl, R0, T0⟩; have HT0 : Hid _ := ⟨T0⟩; have HR0 : Hid _ := ⟨R0⟩; clear R0 T0)
      | (go_at_call 77; (with_reducible refine (HC.out _ HR0.out).mono ?_); rintro e v9 ⟨p, q, r, t, a', rfl, R9, T9⟩; have HT9 : Hid _ := ⟨HT0.out.trans T9⟩; have HR9 : Hid _ := ⟨R9⟩; clear R9 T9; obtain ⟨d0, d1, d2, d3, fz⟩ := TBP.of HR.out HT9.out; have f0 := fz 0; have f1 := fz 1; have f2 := fz 2; have f3 := fz 3; clear fz))
    refine bodyPost_ret (resS_token _ v9 w.heap.size _ _ _ _ rfl (TBP.of HR.out HT9.out)) rfl ?_
    exact tok_no rfl (HR9.out.set4 hne _ _ _ _) (TR.set4 HT9.out _ _ _ _)
  | some x =>
    obtain ⟨⟨tk, tn, tt⟩, j⟩ := x
    have HC : Hid _ := ⟨HC0⟩
    dsimp only [TokE] at HC
    clear h HC0
    go_enter Tryz.func59, Tryz.ntmps59
    go_wp2_with (first
      | (go_at_call_of 76 (Value.int IntKind.u8 18); (with_reducible refine (His18.out _ HRa.out).mono ?_); rintro e v0 ⟨rfl, R0, T0⟩; have HT0 : Hid _ := ⟨T0⟩; have HR0 : Hid _ := ⟨R0⟩; clear R0 T0)
      | (go_at_call 77; (with_reducible refine (HC.out _ HR0.out).mono ?_); rintro e v9 ⟨rfl, R9, T9⟩; have HT9 : Hid _ := ⟨HT0.out.trans T9⟩; have HR9 : Hid _ := ⟨R9⟩; clear R9 T9; obtain ⟨d0, d1, d2, d3, fz⟩ := TBP.of HR.out HT9.out; have f0 := fz 0; have f1 := fz 1; have f2 := fz 2; have f3 := fz 3; clear fz))
    refine bodyPost_ret (resS_token _ v9 w.heap.size _ _ _ _ rfl (TBP.of HR.out HT9.out)) rfl ?_
    exact tok_yes rfl rfl rfl rfl (by simp only; omega) (HR9.out.set4 hne _ _ _ _) (TR.set4 HT9.out _ _ _ _)

set_option maxHeartbeats 4000000 in
set_option maxRecDepth 10000 in
theorem token_number (h : RD w rb s a ln lv) (His18 : Hid (∀ W, RD W rb s a ln lv → Calls Tryz.prog 76 #[.pointer (some ⟨rb, 0, none⟩), .int .u8 18] W fun e w' => e = .returned (.bool false) ∧ RD w' rb s a ln lv ∧ TR rb W w')) (His4 : Hid (∀ W, RD W rb s a ln lv → Calls Tryz.prog 76 #[.pointer (some ⟨rb, 0, none⟩), .int .u8 4] W fun e w' => e = .returned (.bool true) ∧ RD w' rb s a ln lv ∧ TR rb W w')) (m : Option (Tok × Nat)) (HC0 : ∀ W, RD W rb s a ln lv → Calls Tryz.prog 78 #[.pointer (some ⟨rb, 0, none⟩)] W fun e w' => TokE m rb s a ln lv W e w') :
    Calls Tryz.prog 59 #[.pointer (some ⟨rb, 0, none⟩)] w fun e w' => TokE (m.map fun x => (x.1, x.2 + 0)) rb s a ln lv w e w' := by
  have HR : Hid _ := ⟨h⟩
  have HRa : Hid _ := ⟨h.alloc tokZP⟩
  have hne := h.lt
  cases m with
  | none =>
    have HC : Hid _ := ⟨HC0⟩
    dsimp only [TokE] at HC
    clear h HC0
    go_enter Tryz.func59, Tryz.ntmps59
    go_wp2_with (first
      | (go_at_call_of 76 (Value.int IntKind.u8 18); (with_reducible refine (His18.out _ HRa.out).mono ?_); rintro e v0 ⟨rfl, R0, T0⟩; have HT0 : Hid _ := ⟨T0⟩; have HR0 : Hid _ := ⟨R0⟩; clear R0 T0)
      | (go_at_call_of 76 (Value.int IntKind.u8 4); (with_reducible refine (His4.out _ HR0.out).mono ?_); rintro e v1 ⟨rfl, R1, T1⟩; have HT1 : Hid _ := ⟨HT0.out.trans T1⟩; have HR1 : Hid _ := ⟨R1⟩; clear R1 T1)
      | (go_at_call 78; (with_reducible refine (HC.out _ HR1.out).mono ?_); rintro e v9 ⟨p, q, r, t, a', rfl, R9, T9⟩; have HT9 : Hid _ := ⟨HT1.out.trans T9⟩; have HR9 : Hid _ := ⟨R9⟩; clear R9 T9; obtain ⟨d0, d1, d2, d3, fz⟩ := TBP.of HR.out HT9.out; have f0 := fz 0; have f1 := fz 1; have f2 := fz 2; have f3 := fz 3; clear fz))
    refine bodyPost_ret (resS_token _ v9 w.heap.size _ _ _ _ rfl (TBP.of HR.out HT9.out)) rfl ?_
    exact tok_no rfl (HR9.out.set4 hne _ _ _ _) (TR.set4 HT9.out _ _ _ _)
  | some x =>
    obtain ⟨⟨tk, tn, tt⟩, j⟩ := x
    have HC : Hid _ := ⟨HC0⟩
    dsimp only [TokE] at HC
    clear h HC0
    go_enter Tryz.func59, Tryz.ntmps59
    go_wp2_with (first
      | (go_at_call_of 76 (Value.int IntKind.u8 18); (with_reducible refine (His18.out _ HRa.out).mono ?_); rintro e v0 ⟨rfl, R0, T0⟩; have HT0 : Hid _ := ⟨T0⟩; have HR0 : Hid _ := ⟨R0⟩; clear R0 T0)
      | (go_at_call_of 76 (Value.int IntKind.u8 4); (with_reducible refine (His4.out _ HR0.out).mono ?_); rintro e v1 ⟨rfl, R1, T1⟩; have HT1 : Hid _ := ⟨HT0.out.trans T1⟩; have HR1 : Hid _ := ⟨R1⟩; clear R1 T1)
      | (go_at_call 78; (with_reducible refine (HC.out _ HR1.out).mono ?_); rintro e v9 ⟨rfl, R9, T9⟩; have HT9 : Hid _ := ⟨HT1.out.trans T9⟩; have HR9 : Hid _ := ⟨R9⟩; clear R9 T9; obtain ⟨d0, d1, d2, d3, fz⟩ := TBP.of HR.out HT9.out; have f0 := fz 0; have f1 := fz 1; have f2 := fz 2; have f3 := fz 3; clear fz))
    refine bodyPost_ret (resS_token _ v9 w.heap.size _ _ _ _ rfl (TBP.of HR.out HT9.out)) rfl ?_
    exact tok_yes rfl rfl rfl rfl (by simp only; omega) (HR9.out.set4 hne _ _ _ _) (TR.set4 HT9.out _ _ _ _)

set_option maxHeartbeats 4000000 in
set_option maxRecDepth 10000 in
theorem token_byte (h : RD w rb s a ln lv) (His18 : Hid (∀ W, RD W rb s a ln lv → Calls Tryz.prog 76 #[.pointer (some ⟨rb, 0, none⟩), .int .u8 18] W fun e w' => e = .returned (.bool false) ∧ RD w' rb s a ln lv ∧ TR rb W w')) (His4 : Hid (∀ W, RD W rb s a ln lv → Calls Tryz.prog 76 #[.pointer (some ⟨rb, 0, none⟩), .int .u8 4] W fun e w' => e = .returned (.bool false) ∧ RD w' rb s a ln lv ∧ TR rb W w')) (Htake39 : Hid (∀ W, RD W rb s a ln lv → Calls Tryz.prog 57 #[.pointer (some ⟨rb, 0, none⟩), .int .u8 39] W fun e w' => e = .returned (.bool true) ∧ RD w' rb s (a + 1) ln lv ∧ TR rb W w')) (m : Option (Tok × Nat)) (HC0 : ∀ W, RD W rb s (a + 1) ln lv → Calls Tryz.prog 79 #[.pointer (some ⟨rb, 0, none⟩)] W fun e w' => TokE m rb s (a + 1) ln lv W e w') :
    Calls Tryz.prog 59 #[.pointer (some ⟨rb, 0, none⟩)] w fun e w' => TokE (m.map fun x => (x.1, x.2 + 1)) rb s a ln lv w e w' := by
  have HR : Hid _ := ⟨h⟩
  have HRa : Hid _ := ⟨h.alloc tokZP⟩
  have hne := h.lt
  cases m with
  | none =>
    have HC : Hid _ := ⟨HC0⟩
    dsimp only [TokE] at HC
    clear h HC0
    go_enter Tryz.func59, Tryz.ntmps59
    go_wp2_with (first
      | (go_at_call_of 76 (Value.int IntKind.u8 18); (with_reducible refine (His18.out _ HRa.out).mono ?_); rintro e v0 ⟨rfl, R0, T0⟩; have HT0 : Hid _ := ⟨T0⟩; have HR0 : Hid _ := ⟨R0⟩; clear R0 T0)
      | (go_at_call_of 76 (Value.int IntKind.u8 4); (with_reducible refine (His4.out _ HR0.out).mono ?_); rintro e v1 ⟨rfl, R1, T1⟩; have HT1 : Hid _ := ⟨HT0.out.trans T1⟩; have HR1 : Hid _ := ⟨R1⟩; clear R1 T1)
      | (go_at_call_of 57 (Value.int IntKind.u8 39); (with_reducible refine (Htake39.out _ HR1.out).mono ?_); rintro e v2 ⟨rfl, R2, T2⟩; have HT2 : Hid _ := ⟨HT1.out.trans T2⟩; have HR2 : Hid _ := ⟨R2⟩; clear R2 T2)
      | (go_at_call 79; (with_reducible refine (HC.out _ HR2.out).mono ?_); rintro e v9 ⟨p, q, r, t, a', rfl, R9, T9⟩; have HT9 : Hid _ := ⟨HT2.out.trans T9⟩; have HR9 : Hid _ := ⟨R9⟩; clear R9 T9; obtain ⟨d0, d1, d2, d3, fz⟩ := TBP.of HR.out HT9.out; have f0 := fz 0; have f1 := fz 1; have f2 := fz 2; have f3 := fz 3; clear fz))
    refine bodyPost_ret (resS_token _ v9 w.heap.size _ _ _ _ rfl (TBP.of HR.out HT9.out)) rfl ?_
    exact tok_no rfl (HR9.out.set4 hne _ _ _ _) (TR.set4 HT9.out _ _ _ _)
  | some x =>
    obtain ⟨⟨tk, tn, tt⟩, j⟩ := x
    have HC : Hid _ := ⟨HC0⟩
    dsimp only [TokE] at HC
    clear h HC0
    go_enter Tryz.func59, Tryz.ntmps59
    go_wp2_with (first
      | (go_at_call_of 76 (Value.int IntKind.u8 18); (with_reducible refine (His18.out _ HRa.out).mono ?_); rintro e v0 ⟨rfl, R0, T0⟩; have HT0 : Hid _ := ⟨T0⟩; have HR0 : Hid _ := ⟨R0⟩; clear R0 T0)
      | (go_at_call_of 76 (Value.int IntKind.u8 4); (with_reducible refine (His4.out _ HR0.out).mono ?_); rintro e v1 ⟨rfl, R1, T1⟩; have HT1 : Hid _ := ⟨HT0.out.trans T1⟩; have HR1 : Hid _ := ⟨R1⟩; clear R1 T1)
      | (go_at_call_of 57 (Value.int IntKind.u8 39); (with_reducible refine (Htake39.out _ HR1.out).mono ?_); rintro e v2 ⟨rfl, R2, T2⟩; have HT2 : Hid _ := ⟨HT1.out.trans T2⟩; have HR2 : Hid _ := ⟨R2⟩; clear R2 T2)
      | (go_at_call 79; (with_reducible refine (HC.out _ HR2.out).mono ?_); rintro e v9 ⟨rfl, R9, T9⟩; have HT9 : Hid _ := ⟨HT2.out.trans T9⟩; have HR9 : Hid _ := ⟨R9⟩; clear R9 T9; obtain ⟨d0, d1, d2, d3, fz⟩ := TBP.of HR.out HT9.out; have f0 := fz 0; have f1 := fz 1; have f2 := fz 2; have f3 := fz 3; clear fz))
    refine bodyPost_ret (resS_token _ v9 w.heap.size _ _ _ _ rfl (TBP.of HR.out HT9.out)) rfl ?_
    exact tok_yes rfl rfl rfl rfl (by simp only; omega) (HR9.out.set4 hne _ _ _ _) (TR.set4 HT9.out _ _ _ _)

set_option maxHeartbeats 4000000 in
set_option maxRecDepth 10000 in
theorem token_text (h : RD w rb s a ln lv) (His18 : Hid (∀ W, RD W rb s a ln lv → Calls Tryz.prog 76 #[.pointer (some ⟨rb, 0, none⟩), .int .u8 18] W fun e w' => e = .returned (.bool false) ∧ RD w' rb s a ln lv ∧ TR rb W w')) (His4 : Hid (∀ W, RD W rb s a ln lv → Calls Tryz.prog 76 #[.pointer (some ⟨rb, 0, none⟩), .int .u8 4] W fun e w' => e = .returned (.bool false) ∧ RD w' rb s a ln lv ∧ TR rb W w')) (Htake39 : Hid (∀ W, RD W rb s a ln lv → Calls Tryz.prog 57 #[.pointer (some ⟨rb, 0, none⟩), .int .u8 39] W fun e w' => e = .returned (.bool false) ∧ RD w' rb s a ln lv ∧ TR rb W w')) (Htake34 : Hid (∀ W, RD W rb s a ln lv → Calls Tryz.prog 57 #[.pointer (some ⟨rb, 0, none⟩), .int .u8 34] W fun e w' => e = .returned (.bool true) ∧ RD w' rb s (a + 1) ln lv ∧ TR rb W w')) (m : Option (Tok × Nat)) (HC0 : ∀ W, RD W rb s (a + 1) ln lv → Calls Tryz.prog 80 #[.pointer (some ⟨rb, 0, none⟩)] W fun e w' => TokE m rb s (a + 1) ln lv W e w') :
    Calls Tryz.prog 59 #[.pointer (some ⟨rb, 0, none⟩)] w fun e w' => TokE (m.map fun x => (x.1, x.2 + 1)) rb s a ln lv w e w' := by
  have HR : Hid _ := ⟨h⟩
  have HRa : Hid _ := ⟨h.alloc tokZP⟩
  have hne := h.lt
  cases m with
  | none =>
    have HC : Hid _ := ⟨HC0⟩
    dsimp only [TokE] at HC
    clear h HC0
    go_enter Tryz.func59, Tryz.ntmps59
    go_wp2_with (first
      | (go_at_call_of 76 (Value.int IntKind.u8 18); (with_reducible refine (His18.out _ HRa.out).mono ?_); rintro e v0 ⟨rfl, R0, T0⟩; have HT0 : Hid _ := ⟨T0⟩; have HR0 : Hid _ := ⟨R0⟩; clear R0 T0)
      | (go_at_call_of 76 (Value.int IntKind.u8 4); (with_reducible refine (His4.out _ HR0.out).mono ?_); rintro e v1 ⟨rfl, R1, T1⟩; have HT1 : Hid _ := ⟨HT0.out.trans T1⟩; have HR1 : Hid _ := ⟨R1⟩; clear R1 T1)
      | (go_at_call_of 57 (Value.int IntKind.u8 39); (with_reducible refine (Htake39.out _ HR1.out).mono ?_); rintro e v2 ⟨rfl, R2, T2⟩; have HT2 : Hid _ := ⟨HT1.out.trans T2⟩; have HR2 : Hid _ := ⟨R2⟩; clear R2 T2)
      | (go_at_call_of 57 (Value.int IntKind.u8 34); (with_reducible refine (Htake34.out _ HR2.out).mono ?_); rintro e v3 ⟨rfl, R3, T3⟩; have HT3 : Hid _ := ⟨HT2.out.trans T3⟩; have HR3 : Hid _ := ⟨R3⟩; clear R3 T3)
      | (go_at_call 80; (with_reducible refine (HC.out _ HR3.out).mono ?_); rintro e v9 ⟨p, q, r, t, a', rfl, R9, T9⟩; have HT9 : Hid _ := ⟨HT3.out.trans T9⟩; have HR9 : Hid _ := ⟨R9⟩; clear R9 T9; obtain ⟨d0, d1, d2, d3, fz⟩ := TBP.of HR.out HT9.out; have f0 := fz 0; have f1 := fz 1; have f2 := fz 2; have f3 := fz 3; clear fz))
    refine bodyPost_ret (resS_token _ v9 w.heap.size _ _ _ _ rfl (TBP.of HR.out HT9.out)) rfl ?_
    exact tok_no rfl (HR9.out.set4 hne _ _ _ _) (TR.set4 HT9.out _ _ _ _)
  | some x =>
    obtain ⟨⟨tk, tn, tt⟩, j⟩ := x
    have HC : Hid _ := ⟨HC0⟩
    dsimp only [TokE] at HC
    clear h HC0
    go_enter Tryz.func59, Tryz.ntmps59
    go_wp2_with (first
      | (go_at_call_of 76 (Value.int IntKind.u8 18); (with_reducible refine (His18.out _ HRa.out).mono ?_); rintro e v0 ⟨rfl, R0, T0⟩; have HT0 : Hid _ := ⟨T0⟩; have HR0 : Hid _ := ⟨R0⟩; clear R0 T0)
      | (go_at_call_of 76 (Value.int IntKind.u8 4); (with_reducible refine (His4.out _ HR0.out).mono ?_); rintro e v1 ⟨rfl, R1, T1⟩; have HT1 : Hid _ := ⟨HT0.out.trans T1⟩; have HR1 : Hid _ := ⟨R1⟩; clear R1 T1)
      | (go_at_call_of 57 (Value.int IntKind.u8 39); (with_reducible refine (Htake39.out _ HR1.out).mono ?_); rintro e v2 ⟨rfl, R2, T2⟩; have HT2 : Hid _ := ⟨HT1.out.trans T2⟩; have HR2 : Hid _ := ⟨R2⟩; clear R2 T2)
      | (go_at_call_of 57 (Value.int IntKind.u8 34); (with_reducible refine (Htake34.out _ HR2.out).mono ?_); rintro e v3 ⟨rfl, R3, T3⟩; have HT3 : Hid _ := ⟨HT2.out.trans T3⟩; have HR3 : Hid _ := ⟨R3⟩; clear R3 T3)
      | (go_at_call 80; (with_reducible refine (HC.out _ HR3.out).mono ?_); rintro e v9 ⟨rfl, R9, T9⟩; have HT9 : Hid _ := ⟨HT3.out.trans T9⟩; have HR9 : Hid _ := ⟨R9⟩; clear R9 T9; obtain ⟨d0, d1, d2, d3, fz⟩ := TBP.of HR.out HT9.out; have f0 := fz 0; have f1 := fz 1; have f2 := fz 2; have f3 := fz 3; clear fz))
    refine bodyPost_ret (resS_token _ v9 w.heap.size _ _ _ _ rfl (TBP.of HR.out HT9.out)) rfl ?_
    exact tok_yes rfl rfl rfl rfl (by simp only; omega) (HR9.out.set4 hne _ _ _ _) (TR.set4 HT9.out _ _ _ _)

set_option maxHeartbeats 4000000 in
set_option maxRecDepth 10000 in
theorem token_reg (h : RD w rb s a ln lv) (His18 : Hid (∀ W, RD W rb s a ln lv → Calls Tryz.prog 76 #[.pointer (some ⟨rb, 0, none⟩), .int .u8 18] W fun e w' => e = .returned (.bool false) ∧ RD w' rb s a ln lv ∧ TR rb W w')) (His4 : Hid (∀ W, RD W rb s a ln lv → Calls Tryz.prog 76 #[.pointer (some ⟨rb, 0, none⟩), .int .u8 4] W fun e w' => e = .returned (.bool false) ∧ RD w' rb s a ln lv ∧ TR rb W w')) (Htake39 : Hid (∀ W, RD W rb s a ln lv → Calls Tryz.prog 57 #[.pointer (some ⟨rb, 0, none⟩), .int .u8 39] W fun e w' => e = .returned (.bool false) ∧ RD w' rb s a ln lv ∧ TR rb W w')) (Htake34 : Hid (∀ W, RD W rb s a ln lv → Calls Tryz.prog 57 #[.pointer (some ⟨rb, 0, none⟩), .int .u8 34] W fun e w' => e = .returned (.bool false) ∧ RD w' rb s a ln lv ∧ TR rb W w')) (Htake37 : Hid (∀ W, RD W rb s a ln lv → Calls Tryz.prog 57 #[.pointer (some ⟨rb, 0, none⟩), .int .u8 37] W fun e w' => e = .returned (.bool true) ∧ RD w' rb s (a + 1) ln lv ∧ TR rb W w')) (m : Option (Tok × Nat)) (HC0 : ∀ W, RD W rb s (a + 1) ln lv → Calls Tryz.prog 81 #[.pointer (some ⟨rb, 0, none⟩)] W fun e w' => TokE m rb s (a + 1) ln lv W e w') :
    Calls Tryz.prog 59 #[.pointer (some ⟨rb, 0, none⟩)] w fun e w' => TokE (m.map fun x => (x.1, x.2 + 1)) rb s a ln lv w e w' := by
  have HR : Hid _ := ⟨h⟩
  have HRa : Hid _ := ⟨h.alloc tokZP⟩
  have hne := h.lt
  cases m with
  | none =>
    have HC : Hid _ := ⟨HC0⟩
    dsimp only [TokE] at HC
    clear h HC0
    go_enter Tryz.func59, Tryz.ntmps59
    go_wp2_with (first
      | (go_at_call_of 76 (Value.int IntKind.u8 18); (with_reducible refine (His18.out _ HRa.out).mono ?_); rintro e v0 ⟨rfl, R0, T0⟩; have HT0 : Hid _ := ⟨T0⟩; have HR0 : Hid _ := ⟨R0⟩; clear R0 T0)
      | (go_at_call_of 76 (Value.int IntKind.u8 4); (with_reducible refine (His4.out _ HR0.out).mono ?_); rintro e v1 ⟨rfl, R1, T1⟩; have HT1 : Hid _ := ⟨HT0.out.trans T1⟩; have HR1 : Hid _ := ⟨R1⟩; clear R1 T1)
      | (go_at_call_of 57 (Value.int IntKind.u8 39); (with_reducible refine (Htake39.out _ HR1.out).mono ?_); rintro e v2 ⟨rfl, R2, T2⟩; have HT2 : Hid _ := ⟨HT1.out.trans T2⟩; have HR2 : Hid _ := ⟨R2⟩; clear R2 T2)
      | (go_at_call_of 57 (Value.int IntKind.u8 34); (with_reducible refine (Htake34.out _ HR2.out).mono ?_); rintro e v3 ⟨rfl, R3, T3⟩; have HT3 : Hid _ := ⟨HT2.out.trans T3⟩; have HR3 : Hid _ := ⟨R3⟩; clear R3 T3)
      | (go_at_call_of 57 (Value.int IntKind.u8 37); (with_reducible refine (Htake37.out _ HR3.out).mono ?_); rintro e v4 ⟨rfl, R4, T4⟩; have HT4 : Hid _ := ⟨HT3.out.trans T4⟩; have HR4 : Hid _ := ⟨R4⟩; clear R4 T4)
      | (go_at_call 81; (with_reducible refine (HC.out _ HR4.out).mono ?_); rintro e v9 ⟨p, q, r, t, a', rfl, R9, T9⟩; have HT9 : Hid _ := ⟨HT4.out.trans T9⟩; have HR9 : Hid _ := ⟨R9⟩; clear R9 T9; obtain ⟨d0, d1, d2, d3, fz⟩ := TBP.of HR.out HT9.out; have f0 := fz 0; have f1 := fz 1; have f2 := fz 2; have f3 := fz 3; clear fz))
    refine bodyPost_ret (resS_token _ v9 w.heap.size _ _ _ _ rfl (TBP.of HR.out HT9.out)) rfl ?_
    exact tok_no rfl (HR9.out.set4 hne _ _ _ _) (TR.set4 HT9.out _ _ _ _)
  | some x =>
    obtain ⟨⟨tk, tn, tt⟩, j⟩ := x
    have HC : Hid _ := ⟨HC0⟩
    dsimp only [TokE] at HC
    clear h HC0
    go_enter Tryz.func59, Tryz.ntmps59
    go_wp2_with (first
      | (go_at_call_of 76 (Value.int IntKind.u8 18); (with_reducible refine (His18.out _ HRa.out).mono ?_); rintro e v0 ⟨rfl, R0, T0⟩; have HT0 : Hid _ := ⟨T0⟩; have HR0 : Hid _ := ⟨R0⟩; clear R0 T0)
      | (go_at_call_of 76 (Value.int IntKind.u8 4); (with_reducible refine (His4.out _ HR0.out).mono ?_); rintro e v1 ⟨rfl, R1, T1⟩; have HT1 : Hid _ := ⟨HT0.out.trans T1⟩; have HR1 : Hid _ := ⟨R1⟩; clear R1 T1)
      | (go_at_call_of 57 (Value.int IntKind.u8 39); (with_reducible refine (Htake39.out _ HR1.out).mono ?_); rintro e v2 ⟨rfl, R2, T2⟩; have HT2 : Hid _ := ⟨HT1.out.trans T2⟩; have HR2 : Hid _ := ⟨R2⟩; clear R2 T2)
      | (go_at_call_of 57 (Value.int IntKind.u8 34); (with_reducible refine (Htake34.out _ HR2.out).mono ?_); rintro e v3 ⟨rfl, R3, T3⟩; have HT3 : Hid _ := ⟨HT2.out.trans T3⟩; have HR3 : Hid _ := ⟨R3⟩; clear R3 T3)
      | (go_at_call_of 57 (Value.int IntKind.u8 37); (with_reducible refine (Htake37.out _ HR3.out).mono ?_); rintro e v4 ⟨rfl, R4, T4⟩; have HT4 : Hid _ := ⟨HT3.out.trans T4⟩; have HR4 : Hid _ := ⟨R4⟩; clear R4 T4)
      | (go_at_call 81; (with_reducible refine (HC.out _ HR4.out).mono ?_); rintro e v9 ⟨rfl, R9, T9⟩; have HT9 : Hid _ := ⟨HT4.out.trans T9⟩; have HR9 : Hid _ := ⟨R9⟩; clear R9 T9; obtain ⟨d0, d1, d2, d3, fz⟩ := TBP.of HR.out HT9.out; have f0 := fz 0; have f1 := fz 1; have f2 := fz 2; have f3 := fz 3; clear fz))
    refine bodyPost_ret (resS_token _ v9 w.heap.size _ _ _ _ rfl (TBP.of HR.out HT9.out)) rfl ?_
    exact tok_yes rfl rfl rfl rfl (by simp only; omega) (HR9.out.set4 hne _ _ _ _) (TR.set4 HT9.out _ _ _ _)

set_option maxHeartbeats 4000000 in
set_option maxRecDepth 10000 in
theorem token_end (h : RD w rb s a ln lv) (His18 : Hid (∀ W, RD W rb s a ln lv → Calls Tryz.prog 76 #[.pointer (some ⟨rb, 0, none⟩), .int .u8 18] W fun e w' => e = .returned (.bool false) ∧ RD w' rb s a ln lv ∧ TR rb W w')) (His4 : Hid (∀ W, RD W rb s a ln lv → Calls Tryz.prog 76 #[.pointer (some ⟨rb, 0, none⟩), .int .u8 4] W fun e w' => e = .returned (.bool false) ∧ RD w' rb s a ln lv ∧ TR rb W w')) (Htake39 : Hid (∀ W, RD W rb s a ln lv → Calls Tryz.prog 57 #[.pointer (some ⟨rb, 0, none⟩), .int .u8 39] W fun e w' => e = .returned (.bool false) ∧ RD w' rb s a ln lv ∧ TR rb W w')) (Htake34 : Hid (∀ W, RD W rb s a ln lv → Calls Tryz.prog 57 #[.pointer (some ⟨rb, 0, none⟩), .int .u8 34] W fun e w' => e = .returned (.bool false) ∧ RD w' rb s a ln lv ∧ TR rb W w')) (Htake37 : Hid (∀ W, RD W rb s a ln lv → Calls Tryz.prog 57 #[.pointer (some ⟨rb, 0, none⟩), .int .u8 37] W fun e w' => e = .returned (.bool false) ∧ RD w' rb s a ln lv ∧ TR rb W w')) (Htake59 : Hid (∀ W, RD W rb s a ln lv → Calls Tryz.prog 57 #[.pointer (some ⟨rb, 0, none⟩), .int .u8 59] W fun e w' => e = .returned (.bool true) ∧ RD w' rb s (a + 1) ln lv ∧ TR rb W w')) :
    Calls Tryz.prog 59 #[.pointer (some ⟨rb, 0, none⟩)] w fun e w' => TokE (some (⟨6, 0, []⟩, 1)) rb s a ln lv w e w' := by
  have HR : Hid _ := ⟨h⟩
  have HRa : Hid _ := ⟨h.alloc tokZP⟩
  have hne := h.lt
  clear h
  go_enter Tryz.func59, Tryz.ntmps59
  go_wp2_with (first
    | (go_at_call_of 76 (Value.int IntKind.u8 18); (with_reducible refine (His18.out _ HRa.out).mono ?_); rintro e v0 ⟨rfl, R0, T0⟩; have HT0 : Hid _ := ⟨T0⟩; have HR0 : Hid _ := ⟨R0⟩; clear R0 T0)
    | (go_at_call_of 76 (Value.int IntKind.u8 4); (with_reducible refine (His4.out _ HR0.out).mono ?_); rintro e v1 ⟨rfl, R1, T1⟩; have HT1 : Hid _ := ⟨HT0.out.trans T1⟩; have HR1 : Hid _ := ⟨R1⟩; clear R1 T1)
    | (go_at_call_of 57 (Value.int IntKind.u8 39); (with_reducible refine (Htake39.out _ HR1.out).mono ?_); rintro e v2 ⟨rfl, R2, T2⟩; have HT2 : Hid _ := ⟨HT1.out.trans T2⟩; have HR2 : Hid _ := ⟨R2⟩; clear R2 T2)
    | (go_at_call_of 57 (Value.int IntKind.u8 34); (with_reducible refine (Htake34.out _ HR2.out).mono ?_); rintro e v3 ⟨rfl, R3, T3⟩; have HT3 : Hid _ := ⟨HT2.out.trans T3⟩; have HR3 : Hid _ := ⟨R3⟩; clear R3 T3)
    | (go_at_call_of 57 (Value.int IntKind.u8 37); (with_reducible refine (Htake37.out _ HR3.out).mono ?_); rintro e v4 ⟨rfl, R4, T4⟩; have HT4 : Hid _ := ⟨HT3.out.trans T4⟩; have HR4 : Hid _ := ⟨R4⟩; clear R4 T4)
    | (go_at_call_of 57 (Value.int IntKind.u8 59); (with_reducible refine (Htake59.out _ HR4.out).mono ?_); rintro e v5 ⟨rfl, R5, T5⟩; have HT5 : Hid _ := ⟨HT4.out.trans T5⟩; have HR5 : Hid _ := ⟨R5⟩; clear R5 T5; obtain ⟨d0, d1, d2, d3, fz⟩ := TBP.of HR.out HT5.out; have f0 := fz 0; have f1 := fz 1; have f2 := fz 2; have f3 := fz 3; clear fz))
  refine bodyPost_ret (resS_token _ v5 w.heap.size _ _ _ _ rfl (TBP.of HR.out HT5.out)) rfl ?_
  exact tok_yes rfl rfl rfl rfl rfl (HR5.out.set4 hne _ _ _ _) (TR.set4 HT5.out _ _ _ _)

set_option maxHeartbeats 4000000 in
set_option maxRecDepth 10000 in
theorem token_sign (h : RD w rb s a ln lv) (His18 : Hid (∀ W, RD W rb s a ln lv → Calls Tryz.prog 76 #[.pointer (some ⟨rb, 0, none⟩), .int .u8 18] W fun e w' => e = .returned (.bool false) ∧ RD w' rb s a ln lv ∧ TR rb W w')) (His4 : Hid (∀ W, RD W rb s a ln lv → Calls Tryz.prog 76 #[.pointer (some ⟨rb, 0, none⟩), .int .u8 4] W fun e w' => e = .returned (.bool false) ∧ RD w' rb s a ln lv ∧ TR rb W w')) (Htake39 : Hid (∀ W, RD W rb s a ln lv → Calls Tryz.prog 57 #[.pointer (some ⟨rb, 0, none⟩), .int .u8 39] W fun e w' => e = .returned (.bool false) ∧ RD w' rb s a ln lv ∧ TR rb W w')) (Htake34 : Hid (∀ W, RD W rb s a ln lv → Calls Tryz.prog 57 #[.pointer (some ⟨rb, 0, none⟩), .int .u8 34] W fun e w' => e = .returned (.bool false) ∧ RD w' rb s a ln lv ∧ TR rb W w')) (Htake37 : Hid (∀ W, RD W rb s a ln lv → Calls Tryz.prog 57 #[.pointer (some ⟨rb, 0, none⟩), .int .u8 37] W fun e w' => e = .returned (.bool false) ∧ RD w' rb s a ln lv ∧ TR rb W w')) (Htake59 : Hid (∀ W, RD W rb s a ln lv → Calls Tryz.prog 57 #[.pointer (some ⟨rb, 0, none⟩), .int .u8 59] W fun e w' => e = .returned (.bool false) ∧ RD w' rb s a ln lv ∧ TR rb W w')) (m : Option (Tok × Nat)) (HC0 : ∀ W, RD W rb s a ln lv → Calls Tryz.prog 82 #[.pointer (some ⟨rb, 0, none⟩)] W fun e w' => TokE m rb s a ln lv W e w') :
    Calls Tryz.prog 59 #[.pointer (some ⟨rb, 0, none⟩)] w fun e w' => TokE (m.map fun x => (x.1, x.2 + 0)) rb s a ln lv w e w' := by
  have HR : Hid _ := ⟨h⟩
  have HRa : Hid _ := ⟨h.alloc tokZP⟩
  have hne := h.lt
  cases m with
  | none =>
    have HC : Hid _ := ⟨HC0⟩
    dsimp only [TokE] at HC
    clear h HC0
    go_enter Tryz.func59, Tryz.ntmps59
    go_wp2_with (first
      | (go_at_call_of 76 (Value.int IntKind.u8 18); (with_reducible refine (His18.out _ HRa.out).mono ?_); rintro e v0 ⟨rfl, R0, T0⟩; have HT0 : Hid _ := ⟨T0⟩; have HR0 : Hid _ := ⟨R0⟩; clear R0 T0)
      | (go_at_call_of 76 (Value.int IntKind.u8 4); (with_reducible refine (His4.out _ HR0.out).mono ?_); rintro e v1 ⟨rfl, R1, T1⟩; have HT1 : Hid _ := ⟨HT0.out.trans T1⟩; have HR1 : Hid _ := ⟨R1⟩; clear R1 T1)
      | (go_at_call_of 57 (Value.int IntKind.u8 39); (with_reducible refine (Htake39.out _ HR1.out).mono ?_); rintro e v2 ⟨rfl, R2, T2⟩; have HT2 : Hid _ := ⟨HT1.out.trans T2⟩; have HR2 : Hid _ := ⟨R2⟩; clear R2 T2)
      | (go_at_call_of 57 (Value.int IntKind.u8 34); (with_reducible refine (Htake34.out _ HR2.out).mono ?_); rintro e v3 ⟨rfl, R3, T3⟩; have HT3 : Hid _ := ⟨HT2.out.trans T3⟩; have HR3 : Hid _ := ⟨R3⟩; clear R3 T3)
      | (go_at_call_of 57 (Value.int IntKind.u8 37); (with_reducible refine (Htake37.out _ HR3.out).mono ?_); rintro e v4 ⟨rfl, R4, T4⟩; have HT4 : Hid _ := ⟨HT3.out.trans T4⟩; have HR4 : Hid _ := ⟨R4⟩; clear R4 T4)
      | (go_at_call_of 57 (Value.int IntKind.u8 59); (with_reducible refine (Htake59.out _ HR4.out).mono ?_); rintro e v5 ⟨rfl, R5, T5⟩; have HT5 : Hid _ := ⟨HT4.out.trans T5⟩; have HR5 : Hid _ := ⟨R5⟩; clear R5 T5)
      | (go_at_call 82; (with_reducible refine (HC.out _ HR5.out).mono ?_); rintro e v9 ⟨p, q, r, t, a', rfl, R9, T9⟩; have HT9 : Hid _ := ⟨HT5.out.trans T9⟩; have HR9 : Hid _ := ⟨R9⟩; clear R9 T9; obtain ⟨d0, d1, d2, d3, fz⟩ := TBP.of HR.out HT9.out; have f0 := fz 0; have f1 := fz 1; have f2 := fz 2; have f3 := fz 3; clear fz))
    refine bodyPost_ret (resS_token _ v9 w.heap.size _ _ _ _ rfl (TBP.of HR.out HT9.out)) rfl ?_
    exact tok_no rfl (HR9.out.set4 hne _ _ _ _) (TR.set4 HT9.out _ _ _ _)
  | some x =>
    obtain ⟨⟨tk, tn, tt⟩, j⟩ := x
    have HC : Hid _ := ⟨HC0⟩
    dsimp only [TokE] at HC
    clear h HC0
    go_enter Tryz.func59, Tryz.ntmps59
    go_wp2_with (first
      | (go_at_call_of 76 (Value.int IntKind.u8 18); (with_reducible refine (His18.out _ HRa.out).mono ?_); rintro e v0 ⟨rfl, R0, T0⟩; have HT0 : Hid _ := ⟨T0⟩; have HR0 : Hid _ := ⟨R0⟩; clear R0 T0)
      | (go_at_call_of 76 (Value.int IntKind.u8 4); (with_reducible refine (His4.out _ HR0.out).mono ?_); rintro e v1 ⟨rfl, R1, T1⟩; have HT1 : Hid _ := ⟨HT0.out.trans T1⟩; have HR1 : Hid _ := ⟨R1⟩; clear R1 T1)
      | (go_at_call_of 57 (Value.int IntKind.u8 39); (with_reducible refine (Htake39.out _ HR1.out).mono ?_); rintro e v2 ⟨rfl, R2, T2⟩; have HT2 : Hid _ := ⟨HT1.out.trans T2⟩; have HR2 : Hid _ := ⟨R2⟩; clear R2 T2)
      | (go_at_call_of 57 (Value.int IntKind.u8 34); (with_reducible refine (Htake34.out _ HR2.out).mono ?_); rintro e v3 ⟨rfl, R3, T3⟩; have HT3 : Hid _ := ⟨HT2.out.trans T3⟩; have HR3 : Hid _ := ⟨R3⟩; clear R3 T3)
      | (go_at_call_of 57 (Value.int IntKind.u8 37); (with_reducible refine (Htake37.out _ HR3.out).mono ?_); rintro e v4 ⟨rfl, R4, T4⟩; have HT4 : Hid _ := ⟨HT3.out.trans T4⟩; have HR4 : Hid _ := ⟨R4⟩; clear R4 T4)
      | (go_at_call_of 57 (Value.int IntKind.u8 59); (with_reducible refine (Htake59.out _ HR4.out).mono ?_); rintro e v5 ⟨rfl, R5, T5⟩; have HT5 : Hid _ := ⟨HT4.out.trans T5⟩; have HR5 : Hid _ := ⟨R5⟩; clear R5 T5)
      | (go_at_call 82; (with_reducible refine (HC.out _ HR5.out).mono ?_); rintro e v9 ⟨rfl, R9, T9⟩; have HT9 : Hid _ := ⟨HT5.out.trans T9⟩; have HR9 : Hid _ := ⟨R9⟩; clear R9 T9; obtain ⟨d0, d1, d2, d3, fz⟩ := TBP.of HR.out HT9.out; have f0 := fz 0; have f1 := fz 1; have f2 := fz 2; have f3 := fz 3; clear fz))
    refine bodyPost_ret (resS_token _ v9 w.heap.size _ _ _ _ rfl (TBP.of HR.out HT9.out)) rfl ?_
    exact tok_yes rfl rfl rfl rfl (by simp only; omega) (HR9.out.set4 hne _ _ _ _) (TR.set4 HT9.out _ _ _ _)

theorem hid_is (K : Nat) (z : Int) (hz : z = (K : Int)) {b : Bool} (hb : kB K (hdZ (Ln s a)) = b) : Hid (∀ W, RD W rb s a ln lv → Calls Tryz.prog 76 #[.pointer (some ⟨rb, 0, none⟩), .int .u8 z] W fun e w' => e = .returned (.bool b) ∧ RD w' rb s a ln lv ∧ TR rb W w') := ⟨fun W hW => by
  have := is_t hW K z hz
  rw [hb] at this
  exact this⟩
theorem hid_no {b : Int} (ha : a ≤ 9007199254740992) (hz : ¬ hdZ (Ln s a) = b) : Hid (∀ W, RD W rb s a ln lv → Calls Tryz.prog 57 #[.pointer (some ⟨rb, 0, none⟩), .int .u8 b] W fun e w' => e = .returned (.bool false) ∧ RD w' rb s a ln lv ∧ TR rb W w') := ⟨fun W hW => take_no hW ha hz⟩
theorem hid_yes {b : Int} (ha : a ≤ 9007199254740992) (hz : hdZ (Ln s a) = b) : Hid (∀ W, RD W rb s a ln lv → Calls Tryz.prog 57 #[.pointer (some ⟨rb, 0, none⟩), .int .u8 b] W fun e w' => e = .returned (.bool true) ∧ RD w' rb s (a + 1) ln lv ∧ TR rb W w') := ⟨fun W hW => take_yes hW ha hz⟩
theorem map_zero (m : Option (Tok × Nat)) : (m.map fun x => (x.1, x.2 + 0)) = m := by cases m <;> rfl

theorem token_any (h : RD w rb s a ln lv) (hl : s.size ≤ 8796093022208) (ha : a ≤ s.size) : Calls Tryz.prog 59 #[.pointer (some ⟨rb, 0, none⟩)] w fun e w' => TokE (oneM (Ln s a)) rb s a ln lv w e w' := by
  have ha2 : a ≤ 9007199254740992 := by omega
  cases hL : Ln s a with
  | nil =>
    have hz : hdZ (Ln s a) = 10 := by rw [hL]; rfl
    have hk : ∀ K, K < 256 → kB K (hdZ (Ln s a)) = false := fun K hK => by rw [hz]; exact kB_lf K hK
    have := token_sign h (hid_is 18 18 rfl (hk 18 (by omega))) (hid_is 4 4 rfl (hk 4 (by omega))) (hid_no ha2 (by rw [hz]; decide)) (hid_no ha2 (by rw [hz]; decide)) (hid_no ha2 (by rw [hz]; decide)) (hid_no ha2 (by rw [hz]; decide)) _ (fun W hW => sign_any hW hl ha)
    rw [hL] at this
    exact this
  | cons c r =>
    obtain ⟨h1, h2, h3⟩ := Ln_cons hL
    have hz : hdZ (Ln s a) = zOf c := by rw [hL]; rfl
    have hk : ∀ K, kB K (hdZ (Ln s a)) = kB K (zOf c) := fun K => by rw [hz]
    have hno : ∀ n : Nat, n < 256 → ¬ c = UInt8.ofNat n → ¬ hdZ (Ln s a) = (n : Int) := fun n hn hc e => hc ((u8z hn).1 (by rw [← hz]; exact e))
    have hone : oneM (c :: r) = if c = 59 then some (⟨6, 0, []⟩, 1)
      else if isDig c = true ∨ c = 39 then (numM (c :: r)).map fun p => (⟨2, wrap64 p.1, []⟩, p.2)
      else if c = 34 then (quoM (c :: r)).map fun p => (⟨3, 0, p.1⟩, p.2)
      else if c = 37 then if regN r = 0 then none else some (⟨5, 0, r.take (regN r)⟩, 1 + regN r)
      else if isIn c = true then if wordN (c :: r) ≤ 255 then some (⟨1, 0, (c :: r).take (wordN (c :: r))⟩, wordN (c :: r)) else none
      else if signN (c :: r) = 0 then none else some (⟨4, 0, (c :: r).take (signN (c :: r))⟩, signN (c :: r)) := rfl
    rw [hone]
    cases hdg : isDig c
    · cases hin : isIn c
      · have k18 : kB 18 (hdZ (Ln s a)) = false := by rw [hk, kB_first, hin]; rfl
        have k4 : kB 4 (hdZ (Ln s a)) = false := by rw [hk, kB_dig, hdg]
        by_cases c59 : c = 59
        · rw [if_pos c59]
          subst c59
          exact token_end h (hid_is 18 18 rfl k18) (hid_is 4 4 rfl k4) (hid_no ha2 (by rw [hz]; decide)) (hid_no ha2 (by rw [hz]; decide)) (hid_no ha2 (by rw [hz]; decide)) (hid_yes ha2 (by rw [hz]; rfl))
        · rw [if_neg c59]
          by_cases c39 : c = 39
          · rw [if_pos (.inr c39)]
            subst c39
            have := token_byte h (hid_is 18 18 rfl k18) (hid_is 4 4 rfl k4) (hid_yes ha2 (by rw [hz]; rfl)) _ (fun W hW => byteNumber_any hW hl (by omega))
            rw [h3] at this
            have e : ((numM (39 :: r)).map fun p => ((⟨2, wrap64 p.1, []⟩ : Tok), p.2)) = ((numM (39 :: r)).map fun p => ((⟨2, wrap64 p.1, []⟩ : Tok), p.2 - 1)).map fun x => (x.1, x.2 + 1) := by
              cases hn : numM (39 :: r) with
              | none => rfl
              | some p =>
                obtain ⟨v, n⟩ := p
                have := (num_len (.inr rfl) hn).1
                obtain ⟨n', rfl⟩ : ∃ n', n = n' + 1 := ⟨n - 1, by omega⟩
                rfl
            rw [e]
            exact this
          · rw [if_neg (by rintro (e | e); cases e; exact c39 e)]
            have n39 := hno 39 (by omega) c39
            by_cases c34 : c = 34
            · rw [if_pos c34]
              subst c34
              have := token_text h (hid_is 18 18 rfl k18) (hid_is 4 4 rfl k4) (hid_no ha2 n39) (hid_yes ha2 (by rw [hz]; rfl)) _ (fun W hW => quotedText_any hW hl (by omega))
              rw [h3] at this
              have e : ((quoM (34 :: r)).map fun p => ((⟨3, 0, p.1⟩ : Tok), p.2)) = ((quoM (34 :: r)).map fun p => ((⟨3, 0, p.1⟩ : Tok), p.2 - 1)).map fun x => (x.1, x.2 + 1) := by
                cases hn : quoM (34 :: r) with
                | none => rfl
                | some p =>
                  obtain ⟨v, n⟩ := p
                  have := (quo_len hn).1
                  obtain ⟨n', rfl⟩ : ∃ n', n = n' + 1 := ⟨n - 1, by omega⟩
                  rfl
              rw [e]
              exact this
            · rw [if_neg c34]
              have n34 := hno 34 (by omega) c34
              by_cases c37 : c = 37
              · rw [if_pos c37]
                subst c37
                have := token_reg h (hid_is 18 18 rfl k18) (hid_is 4 4 rfl k4) (hid_no ha2 n39) (hid_no ha2 n34) (hid_yes ha2 (by rw [hz]; rfl)) _ (fun W hW => register_any hW hl (by omega))
                rw [h3] at this
                have e : (if regN r = 0 then none else some ((⟨5, 0, r.take (regN r)⟩ : Tok), 1 + regN r)) = (if regN r = 0 then none else some ((⟨5, 0, r.take (regN r)⟩ : Tok), regN r)).map fun x => (x.1, x.2 + 1) := by
                  split
                  · rfl
                  · show some _ = some _
                    congr 2
                    omega
                rw [e]
                exact this
              · rw [if_neg c37, if_neg (by simp)]
                have n37 := hno 37 (by omega) c37
                have n59 := hno 59 (by omega) c59
                have := token_sign h (hid_is 18 18 rfl k18) (hid_is 4 4 rfl k4) (hid_no ha2 n39) (hid_no ha2 n34) (hid_no ha2 n37) (hid_no ha2 n59) _ (fun W hW => sign_any hW hl ha)
                rw [hL, map_zero] at this
                exact this
      · have k18 : kB 18 (hdZ (Ln s a)) = true := by rw [hk, kB_first, hin, hdg]; rfl
        have := token_name h (hid_is 18 18 rfl k18) _ (fun W hW => name_any hW hl ha)
        rw [hL, map_zero] at this
        have n59 : ¬ c = 59 := by intro e; subst e; cases hin
        have n39 : ¬ c = 39 := by intro e; subst e; cases hin
        have n34 : ¬ c = 34 := by intro e; subst e; cases hin
        have n37 : ¬ c = 37 := by intro e; subst e; cases hin
        rw [if_neg n59, if_neg (by rintro (e | e); cases e; exact n39 e), if_neg n34, if_neg n37, if_pos rfl]
        exact this
    · have k18 : kB 18 (hdZ (Ln s a)) = false := by rw [hk, kB_first, hdg]; simp
      have k4 : kB 4 (hdZ (Ln s a)) = true := by rw [hk, kB_dig, hdg]
      have := token_number h (hid_is 18 18 rfl k18) (hid_is 4 4 rfl k4) _ (fun W hW => number_any hW hl ha hL hdg)
      rw [map_zero] at this
      have n59 : ¬ c = 59 := by intro e; subst e; cases hdg
      rw [if_neg n59, if_pos (.inl rfl)]
      exact this
end
section
variable {w w1 w2 : World} {rb : Nat} {s : ByteArray} {a : Nat} {ln : Int} {lv : Value}

/-- Nothing but the reader, and its list's blocks, has turned. -/
abbrev TL2 (rb base : Nat) (w w' : World) : Prop := Turn (fun k => k = rb ∨ base ≤ k) w w'

set_option maxHeartbeats 4000000 in
set_option maxRecDepth 10000 in
theorem qadd_any (h : RD w rb s a ln lv) (L : List TL) (base : Nat) (hO : OwnTP w base lv L) (hb1 : rb < base) (hb2 : base ≤ w.heap.size) (hlen : L.length + 1 ≤ 2199023255552) (k l0 n : Int) (t : List UInt8) :
    Calls Tryz.prog 58 #[.pointer (some ⟨rb, 0, none⟩), .agg #[.int .i64 k, .int .i64 l0, .int .i64 n, .string (St t)]] w fun e w' => e = .returned (.tuple #[]) ∧ ∃ lv', RD w' rb s a ln lv' ∧ OwnTP w' base lv' (L ++ [(⟨k, n, t⟩, ln)]) ∧ TL2 rb base w w' := by
  obtain ⟨ao, cp, hv, _⟩ := OwnTP.any hO
  subst hv
  have HR : Hid _ := ⟨h⟩
  have HO : Hid _ := ⟨hO⟩
  obtain ⟨i0, hi, hz0, hz1', hz2⟩ := info_parts infoTP
  have HI : Hid _ := ⟨And.intro hi (And.intro hz0 (And.intro hz1' hz2))⟩
  have c2 := h.c2
  have c3 := h.c3
  have hlt := h.lt
  have z9 := h.fz 259
  have HS : Hid (St t = St t) := ⟨rfl⟩
  obtain ⟨str, hstr⟩ : ∃ str, St t = str := ⟨_, rfl⟩
  rw [hstr]
  have HT : Hid _ := ⟨hstr⟩
  clear h hO hi hz0 hz1' hz2 hstr HS
  go_enter Tryz.func58, Tryz.ntmps58
  go_wp2
  have RW := HR.out.alloc (.cells #[.int .i64 k, .int .i64 ln, .int .i64 n, .string str] 37)
  have OW : OwnTP (w.alloc (.cells #[.int .i64 k, .int .i64 ln, .int .i64 n, .string str] 37)) base (.slice ao L.length cp) L := World.ownsRow.alloc HO.out _
  have TW : TL2 rb base w (w.alloc (.cells #[.int .i64 k, .int .i64 ln, .int .i64 n, .string str] 37)) := Turn.alloc (Turn.refl _ _) _
  have hszW : w.heap.size < (w.alloc (.cells #[.int .i64 k, .int .i64 ln, .int .i64 n, .string str] 37)).heap.size := by simp
  have e0 : (w.alloc (.cells #[.int .i64 k, .int .i64 ln, .int .i64 n, .string str] 37)).cell? ⟨w.heap.size, 0, none⟩ = some (.int .i64 k) := by simp
  have e1 : (w.alloc (.cells #[.int .i64 k, .int .i64 ln, .int .i64 n, .string str] 37)).cell? ⟨w.heap.size, 1, none⟩ = some (.int .i64 ln) := by simp
  have e2 : (w.alloc (.cells #[.int .i64 k, .int .i64 ln, .int .i64 n, .string str] 37)).cell? ⟨w.heap.size, 2, none⟩ = some (.int .i64 n) := by simp
  have e3 : (w.alloc (.cells #[.int .i64 k, .int .i64 ln, .int .i64 n, .string str] 37)).cell? ⟨w.heap.size, 3, none⟩ = some (.string str) := by simp
  generalize w.alloc (.cells #[.int .i64 k, .int .i64 ln, .int .i64 n, .string str] 37) = W at *
  have x3 := RW.c3
  have y9 := RW.fz 259
  have hltW := RW.lt
  have HRW : Hid _ := ⟨RW⟩
  have HOW : Hid _ := ⟨OW⟩
  have HTW : Hid _ := ⟨TW⟩
  have q1 : L.length + 1 ≤ maxLen := by unfold maxLen; omega
  have q2 : (L.length + 1) * 40 ≤ 140737488355328 := by omega
  have hbW : base ≤ W.heap.size := by omega
  have q3 : ∀ o : Obj, base ≤ (W.alloc o).drew.heap.size := fun o => by simp; omega
  have q4 : ∀ u ∈ [Value.int .i64 k, .int .i64 ln, .int .i64 n, .string str], u.oneCell' = true := by intro u hu; simp at hu; rcases hu with rfl | rfl | rfl | rfl <;> rfl
  clear c2 c3 RW OW TW
  go_region_law ((refine step_append_lies _ (by rfl) _ _ _ (by rfl) base 37 i0 (.agg zeroTP) 4 40 Tryz.underlying24 HI.out.1 HI.out.2.1 HI.out.2.2.1 HI.out.2.2.2 rfl (by decide) _ L.length (tlCells L) (by rfl) (World.ownsRow.alloc HOW.out _) ⟨W.heap.size, 0, none⟩ 1 1 [.int .i64 k, .int .i64 ln, .int .i64 n, .string str] (by rfl) rfl (World.news_of_block (heap_alloc_new W _)) q4 (by decide) q1 q2 (q3 _) (W.heap.size + 1) (by simp) ?_; intro g cap w1 hown1 hgrow hat hlt2; have R1 : RD w1 rb s a ln (.slice ao L.length cp) := (HRW.out.alloc _).drew.turn (S := fun k => base ≤ k) (Turn.grown (Turn.refl _ _) hgrow (fun k hk e => (HOW.out.lt k e).1)) (fun e => by omega) (fun k e => by have := HRW.out.hi; omega); have u3 := R1.c3; have v9 := R1.fz 259; have HR1 : Hid _ := ⟨R1⟩; clear R1))
  all_goals
    have hOl : OwnTP w1 base (.slice (some ⟨g, 0, none⟩) (L.length + 1) cap) (L ++ [(⟨k, n, t⟩, ln)]) := by
      unfold OwnTP
      rw [tlCells_append, List.length_append]
      have : tlCells [(⟨k, n, t⟩, ln)] = [Value.int .i64 k, .int .i64 ln, .int .i64 n, .string str] := by rw [← HT.out]; rfl
      rw [this]
      exact hown1
    have hT1 : TL2 rb base w w1 := Turn.grown ((HTW.out.alloc _).trans (Turn.of_below (Below.refl _ _).drew _)) hgrow (fun k hk e => .inr (HOW.out.lt k e).1)
    have HOl : Hid _ := ⟨hOl⟩
    have HT1 : Hid _ := ⟨hT1⟩
    clear hOl hT1 hown1 hgrow hat
    go_wp2
    go_end0
    exact ⟨rfl, _, HR1.out.setList _, Turn.row (TR.set (TR.self rb w1) 259 _) HOl.out (fun k hk e => by have := (HOl.out.lt k hk).1; omega), Turn.setCell (S := fun k => k = rb ∨ base ≤ k) HT1.out ⟨rb, 259, none⟩ (.inl rfl) _⟩
end

/-- So far: ts has been cut; L is left of the line. -/
def LF (L : List UInt8) (X : Option (List Tok)) (ts : List Tok) : Prop := ∃ n, L.length < n ∧ X = (lineF n L).map (ts ++ ·)
theorem LF.start (L : List UInt8) : LF L (lineF (L.length + 1) L) [] := ⟨L.length + 1, by omega, by cases lineF (L.length + 1) L <;> simp⟩
theorem lineF_c (n : Nat) (c : UInt8) (r : List UInt8) : lineF (n + 1) (c :: r) = if c = 35 then some [] else if c = 32 ∨ c = 9 then lineF n r else match oneM (c :: r) with | none => none | some (t, k) => (lineF n ((c :: r).drop k)).map (t :: ·) := rfl
theorem LF.stop {X : Option (List Tok)} {ts : List Tok} (h : LF [] X ts) : X = some ts := by
  obtain ⟨n, hn, rfl⟩ := h
  cases n with
  | zero => simp at hn
  | succ n => show (some []).map (ts ++ ·) = _; simp
theorem LF.hash {r : List UInt8} {X : Option (List Tok)} {ts : List Tok} (h : LF (35 :: r) X ts) : X = some ts := by
  obtain ⟨n, hn, rfl⟩ := h
  cases n with
  | zero => simp at hn
  | succ n => rw [lineF_c, if_pos rfl]; simp
theorem LF.none {c : UInt8} {r : List UInt8} {X : Option (List Tok)} {ts : List Tok} (h : LF (c :: r) X ts) (h35 : ¬ c = 35) (hb : ¬ (c = 32 ∨ c = 9)) (ho : oneM (c :: r) = Option.none) : X = Option.none := by
  obtain ⟨n, hn, rfl⟩ := h
  cases n with
  | zero => simp at hn
  | succ n => rw [lineF_c, if_neg h35, if_neg hb, ho]; rfl
theorem LF.step {c : UInt8} {r : List UInt8} {X : Option (List Tok)} {ts : List Tok} (h : LF (c :: r) X ts) (h35 : ¬ c = 35) (hb : ¬ (c = 32 ∨ c = 9)) {t : Tok} {k : Nat} (ho : oneM (c :: r) = some (t, k)) : LF ((c :: r).drop k) X (ts ++ [t]) := by
  obtain ⟨n, hn, rfl⟩ := h
  have hk := one_len ho
  cases n with
  | zero => simp at hn
  | succ n =>
    refine ⟨n, by rw [List.length_drop]; omega, ?_⟩
    rw [lineF_c, if_neg h35, if_neg hb, ho]
    simp only [Option.map_map]
    congr 1
    funext x
    simp
theorem LF.blank : ∀ {L : List UInt8} {X : Option (List Tok)} {ts : List Tok}, LF L X ts → LF (L.drop (runN 1 L)) X ts
  | [], X, ts, h => h
  | c :: r, X, ts, h => by
    by_cases hb : c = 32 ∨ c = 9
    · have h1 : LF r X ts := by
        obtain ⟨n, hn, rfl⟩ := h
        cases n with
        | zero => simp at hn
        | succ n =>
          refine ⟨n, by simpa using hn, ?_⟩
          rw [lineF_c, if_neg (by rcases hb with rfl | rfl <;> decide), if_pos hb]
      have hr : runN 1 (c :: r) = runN 1 r + 1 := by
        rw [run_eq 1 (fun c => c == 32 || c == 9) kB_blank, run_eq 1 (fun c => c == 32 || c == 9) kB_blank, List.takeWhile_cons]
        have : (c == 32 || c == 9) = true := by simpa using hb
        rw [this]; simp
      rw [hr, List.drop_succ_cons]
      exact LF.blank h1
    · have hr : runN 1 (c :: r) = 0 := by
        rw [run_eq 1 (fun c => c == 32 || c == 9) kB_blank, List.takeWhile_cons]
        have : (c == 32 || c == 9) = false := by simpa using hb
        rw [this]; simp
      rw [hr]; exact h
theorem blank_head {L : List UInt8} {c : UInt8} {r : List UInt8} (h : L.drop (runN 1 L) = c :: r) : ¬ (c = 32 ∨ c = 9) := by
  have := run_stop (K := 1) (by omega) L
  rw [h] at this
  have h1 : kB 1 (zOf c) = false := this
  rw [kB_blank] at h1
  simpa using h1

/-- What becomes of the whole once a line has been cut. -/
theorem cut_line {s : ByteArray} {a j : Nat} {acc : List TL} {C : Except Int (List TL)} (h : a < s.size) (hC : C = cutF (linesM ((lo s).drop a)) (j + 1) acc) {X : Option (List Tok)} (hX : X = lineF ((Ln s a).length + 1) (Ln s a)) :
    (X = none → C = .error ((j + 1 : Nat) : Int)) ∧ (∀ ts, X = some ts → C = cutF (linesM ((lo s).drop (a + (Ln s a).length + 1))) (j + 1 + 1) (acc ++ (if ts = [] then [] else ts ++ [(⟨6, 0, []⟩ : Tok)]).map fun t => (t, ((j + 1 : Nat) : Int)))) := by
  rw [lines_Ln h] at hC
  have hc : cutF (Ln s a :: linesM ((lo s).drop (a + (Ln s a).length + 1))) (j + 1) acc = match lineM (Ln s a) with | none => .error ((j + 1 : Nat) : Int) | some ts => cutF (linesM ((lo s).drop (a + (Ln s a).length + 1))) (j + 1 + 1) (acc ++ ts.map fun t => (t, ((j + 1 : Nat) : Int))) := rfl
  rw [hc] at hC
  have hl : lineM (Ln s a) = X.map fun ts => if ts = [] then [] else ts ++ [⟨6, 0, []⟩] := by rw [hX]; rfl
  rw [hl] at hC
  constructor
  · intro e; rw [e] at hC; exact hC
  · intro ts e; rw [e] at hC; exact hC
section
variable {w w1 w2 : World} {rb : Nat} {s : ByteArray} {a : Nat} {ln : Int} {lv : Value}

theorem more_t (h : RD w rb s a ln lv) {b : Bool} (hb : decide (a < s.size) = b) : Calls Tryz.prog 53 #[.pointer (some ⟨rb, 0, none⟩)] w fun e w' => e = .returned (.bool b) ∧ RD w' rb s a ln lv ∧ TR rb w w' := by
  subst hb
  refine (more_any h).mono ?_
  rintro e w' ⟨he, m, rfl⟩
  exact ⟨he, h.drewN m, (TR.self _ _).draw m⟩
theorem peek_t (h : RD w rb s a ln lv) {z : Int} (hz : hdZ (Ln s a) = z) : Calls Tryz.prog 55 #[.pointer (some ⟨rb, 0, none⟩)] w fun e w' => e = .returned (.int .u8 z) ∧ RD w' rb s a ln lv ∧ TR rb w w' := by
  subst hz
  refine (peek_any h).mono ?_
  rintro e w' ⟨he, m, rfl⟩
  exact ⟨he, h.drewN m, (TR.self _ _).draw m⟩
theorem TL2.tr {base : Nat} (h : TL2 rb base w w1) (k : TR rb w1 w2) : TL2 rb base w w2 := Turn.trans' h k (fun i _ e => .inl e)
theorem TL2.t2 {base : Nat} (h : TL2 rb base w w1) (k : TL2 rb base w1 w2) : TL2 rb base w w2 := Turn.trans h k
theorem own_tr {base : Nat} {v : Value} {L : List TL} (h : OwnTP w base v L) (hb : rb < base) (k : TR rb w w1) : OwnTP w1 base v L := k.row h (fun i hi e => by have := (h.lt i hi).1; omega)

/-- How cut ends. -/
def CutE (C : Except Int (List TL)) (rb base : Nat) (s : ByteArray) (w : World) (e : Ending) (w' : World) : Prop :=
  match C with
  | .ok ts => e = .returned (.bool true) ∧ ∃ a ln lv, RD w' rb s a ln lv ∧ OwnTP w' base lv ts ∧ TL2 rb base w w'
  | .error k => e = .returned (.bool false) ∧ ∃ a lv, RD w' rb s a k lv ∧ TL2 rb base w w'
theorem cut_yes {C : Except Int (List TL)} {ts : List TL} (h : C = .ok ts) {base : Nat} {w w' : World} {a : Nat} {ln : Int} {lv : Value} (R : RD w' rb s a ln lv) (O : OwnTP w' base lv ts) (T : TL2 rb base w w') : CutE C rb base s w (.returned (.bool true)) w' := by subst h; exact ⟨rfl, a, ln, lv, R, O, T⟩
theorem cut_no {C : Except Int (List TL)} {k : Int} (h : C = .error k) {base : Nat} {w w' : World} {a : Nat} {lv : Value} (R : RD w' rb s a k lv) (T : TL2 rb base w w') : CutE C rb base s w (.returned (.bool false)) w' := by subst h; exact ⟨rfl, a, lv, R, T⟩

theorem hd_lf {l : List UInt8} (h : ∀ c ∈ l, ¬ c = 10) : (l = [] → hdZ l = 10) ∧ (∀ c r, l = c :: r → ¬ hdZ l = 10) := by
  constructor
  · rintro rfl; rfl
  · rintro c r rfl e
    exact h c (by simp) ((u8z (n := 10) (by omega)).1 e)

/-- What the inner loop knows. -/
structure InL (w0 w : World) (rb base : Nat) (s : ByteArray) (a : Nat) (J : Int) (acc : List TL) (X : Option (List Tok)) (b : Nat) (ts : List Tok) (lv : Value) : Prop where
  e : b + (Ln s b).length = a + (Ln s a).length
  r : RD w rb s b J lv
  o : OwnTP w base lv (acc ++ ts.map fun t => (t, J))
  t : TL2 rb base w0 w
  f : LF (Ln s b) X ts

set_option maxHeartbeats 8000000 in
set_option maxRecDepth 10000 in
theorem cut_any (h : RD w rb s 0 0 (.slice none 0 0)) (hl : s.size ≤ 65536) (base : Nat) (hb1 : rb < base) (hb2 : base ≤ w.heap.size) :
    Calls Tryz.prog 35 #[.pointer (some ⟨rb, 0, none⟩)] w fun e w' => CutE (cutF (linesM (lo s)) 1 []) rb base s w e w' := by
  have H0 : Hid _ := ⟨h⟩
  obtain ⟨C, hC0⟩ : ∃ C, cutF (linesM (lo s)) 1 [] = C := ⟨_, rfl⟩
  rw [hC0]
  have HC0 : Hid (C = cutF (linesM ((lo s).drop 0)) (0 + 1) []) := ⟨hC0.symm⟩
  clear h hC0
  go_enter Tryz.func35, Tryz.ntmps35
  go_wp2_with fail
  go_step3
  go_wp2_with fail
  go_step3
  go_wp2_with fail
  go_loopw [] (fun wr => ∃ (a j : Nat) (acc : List TL) (lv : Value), a ≤ s.size + 1 ∧ j ≤ a ∧ acc.length ≤ 2 * a ∧ Hid (RD wr rb s a (j : Int) lv ∧ OwnTP wr base lv acc ∧ TL2 rb base w wr ∧ C = cutF (linesM ((lo s).drop a)) (j + 1) acc)) (fun wr => s.size + 2 - atOf wr rb)
  case atStart => exact ⟨0, 0, [], _, by omega, by omega, by simp, ⟨H0.out, OwnTP.nil _ _, Turn.refl _ _, HC0.out⟩⟩
  case round =>
    obtain ⟨a, j, acc, lv, ha, hj, hacc, HW⟩ := hrel
    obtain ⟨R1, O1, T1, hC⟩ := HW.out
    clear HC0 H0
    have hmeO : Hid _ := ⟨R1.atOf⟩
    by_cases hlt : a < s.size
    · have HM : Hid _ := ⟨more_t R1 (decide_eq_true hlt)⟩
      obtain ⟨X, hX⟩ : ∃ X, X = lineF ((Ln s a).length + 1) (Ln s a) := ⟨_, rfl⟩
      have HX : Hid _ := ⟨cut_line hlt hC hX⟩
      have HLS : Hid (LF (Ln s a) X []) := ⟨by rw [hX]; exact LF.start _⟩
      have htop := Ln_top s _ a (Nat.le_refl _) (Nat.le_of_lt hlt)
      obtain ⟨ao, cp, hv, _⟩ := OwnTP.any O1
      subst hv
      have HO1 : Hid _ := ⟨O1⟩
      have HT1 : Hid _ := ⟨T1⟩
      have hw1 : IntKind.i64.wrap ((j : Int) + 1) = (j : Int) + 1 := by rw [IntKind.wrap_i64]; omega
      clear R1 O1 T1 hC HW hX
      go_wp2_with (go_at_call 53; (with_reducible refine HM.out.mono ?_); rintro e v1 ⟨rfl, R2, T2⟩; have k2 := R2.c2; have k3 := R2.c3; have z2 := R2.fz 258; have HR2 : Hid _ := ⟨R2⟩; have HT2 : Hid _ := ⟨T2⟩; clear R2 T2)
      have HI0 : Hid (InL w (v1.setCell ⟨rb, 258, none⟩ (.int .i64 ((j : Int) + 1))) rb base s a ((j : Int) + 1) acc X a [] (.slice ao acc.length cp)) := ⟨⟨rfl, HR2.out.setLine _, by
        have := own_tr (own_tr HO1.out hb1 HT2.out) hb1 ((TR.self rb v1).set 258 (.int .i64 ((j : Int) + 1)))
        simpa using this, TL2.tr (TL2.tr HT1.out HT2.out) ((TR.self rb v1).set 258 _), HLS.out⟩⟩
      generalize v1.setCell ⟨rb, 258, none⟩ (.int .i64 ((j : Int) + 1)) = v2 at *
      clear k2 k3 z2 HR2 HT2 HM HO1 HT1 HLS
      go_loopw [] (fun wr => ∃ (b : Nat) (ts : List Tok) (lv : Value), a ≤ b ∧ b ≤ s.size ∧ ts.length ≤ b - a ∧ Hid (InL w wr rb base s a ((j : Int) + 1) acc X b ts lv)) (fun wr => s.size + 1 - atOf wr rb)
      case atStart => exact ⟨a, [], _, Nat.le_refl _, by omega, by simp, HI0⟩
      case round =>
        obtain ⟨b, ts, lv, hab, hbs, hts, HW⟩ := hrel
        obtain ⟨eE, R1, O1, T1, F1⟩ := HW.out
        have hmeI : Hid _ := ⟨R1.atOf⟩
        have hbA : b ≤ a + (Ln s a).length := by omega
        have hle := run_le 1 (Ln s b)
        have HSk : Hid _ := ⟨skip_any R1 1 1 rfl (by omega) (by omega) hbs⟩
        have F2 := F1.blank
        have hbn := Ln_top s _ b hle hbs
        have hLn := Ln_drop s _ b hle
        have hlenD : ((Ln s b).drop (runN 1 (Ln s b))).length = (Ln s b).length - runN 1 (Ln s b) := List.length_drop
        obtain ⟨ao, cp, hv, _⟩ := OwnTP.any O1
        obtain ⟨cnt, hcnt⟩ : ∃ cnt, (acc ++ ts.map fun t => (t, (j : Int) + 1)).length = cnt := ⟨_, rfl⟩
        rw [hcnt] at hv
        subst hv
        have hcl : cnt = acc.length + ts.length := by rw [← hcnt]; simp
        have HO1 : Hid _ := ⟨O1⟩
        have HT1 : Hid _ := ⟨T1⟩
        have hbw : base ≤ wr.heap.size := Nat.le_trans hb2 T1.size
        have hacc2 : acc.length ≤ 131074 := by omega
        clear R1 O1 T1 HW HI0
        generalize hn : runN 1 (Ln s b) = n at *
        obtain ⟨q, hq⟩ : ∃ q, b + n = q := ⟨_, rfl⟩
        rw [hq] at HSk hbn hLn
        cases hD : (Ln s b).drop n with
        | nil =>
          rw [hD] at F2 hlenD hLn
          simp only [List.length_nil] at hlenD
          have HPk : Hid (∀ W, RD W rb s q ((j : Int) + 1) (.slice ao cnt cp) → Calls Tryz.prog 55 #[.pointer (some ⟨rb, 0, none⟩)] W fun e w' => e = .returned (.int .u8 10) ∧ RD w' rb s q ((j : Int) + 1) (.slice ao cnt cp) ∧ TR rb W w') := ⟨fun W hW => peek_t hW (by rw [hLn]; rfl)⟩
          have HTk : Hid (∀ W, RD W rb s q ((j : Int) + 1) (.slice ao cnt cp) → Calls Tryz.prog 57 #[.pointer (some ⟨rb, 0, none⟩), .int .u8 10] W fun e w' => e = .returned (.bool true) ∧ RD w' rb s (q + 1) ((j : Int) + 1) (.slice ao cnt cp) ∧ TR rb W w') := ⟨fun W hW => take_yes hW (by omega) (by rw [hLn]; rfl)⟩
          obtain ⟨bE, hbE⟩ : ∃ bE, q + 1 = bE := ⟨_, rfl⟩
          rw [hbE] at HTk
          have hE1 : bE = a + (Ln s a).length + 1 := by omega
          have hXs : X = some ts := F2.stop
          have HCn : Hid _ := ⟨HX.out.2 ts hXs⟩
          cases hts0 : ts with
          | nil =>
            subst hts0
            have hgt : ¬ (acc.length : Int) < (cnt : Int) := by simp only [List.length_nil] at hcl; omega
            have hlen : (acc ++ ([] : List Tok).map fun t => (t, (j : Int) + 1)) = acc := by simp
            have HE1 : Hid _ := ⟨hE1⟩
            clear F1 F2 hXs HX hE1 hlenD hn hcnt hcl eE hbE hq hLn hD
            go_wp2_with (first
              | (go_at_call 54; (with_reducible refine HSk.out.mono ?_); rintro e x1 ⟨rfl, R2, T2⟩; have HR2 : Hid _ := ⟨R2⟩; have HT2 : Hid _ := ⟨T2⟩; have HO2 : Hid _ := ⟨own_tr HO1.out hb1 T2⟩; clear R2 T2)
              | (go_at_call 55; (with_reducible refine (HPk.out _ HR2.out).mono ?_); rintro e x2 ⟨rfl, R3, T3⟩; have HR3 : Hid _ := ⟨R3⟩; have HT3 : Hid _ := ⟨HT2.out.trans T3⟩; have HO3 : Hid _ := ⟨own_tr HO2.out hb1 T3⟩; clear R3 T3)
              | (go_at_call 57; (with_reducible refine (HTk.out _ HR3.out).mono ?_); rintro e x5 ⟨rfl, R5, T5⟩; have k3 := R5.c3; have HR5 : Hid _ := ⟨R5⟩; have HT5 : Hid _ := ⟨HT3.out.trans T5⟩; have HO5 : Hid _ := ⟨own_tr HO3.out hb1 T5⟩; clear R5 T5))
            have R5' : RD x5 rb s (a + (Ln s a).length + 1) ((j + 1 : Nat) : Int) (.slice ao cnt cp) := by rw [← HE1.out]; exact HR5.out
            have hme2 : Hid _ := ⟨R5'.atOf⟩
            have O5' : OwnTP x5 base (.slice ao cnt cp) acc := by have := HO5.out; rw [hlen] at this; exact this
            go_roundw
            case rel => exact ⟨a + (Ln s a).length + 1, j + 1, acc, _, by omega, by omega, by omega, ⟨R5', O5', TL2.tr HT1.out HT5.out, by have := HCn.out; simpa using this⟩⟩
            case measure => rw [hmeO.out, hme2.out]; omega
          | cons t0 ts0 =>
            have hne : ¬ ts = [] := by rw [hts0]; simp
            have hgt : (acc.length : Int) < (cnt : Int) := by have : ts.length = ts0.length + 1 := (by rw [hts0]; rfl); omega
            have hAl : (acc ++ ts.map fun t => (t, (j : Int) + 1)).length ≤ 262144 := by simp; omega
            have HAd : Hid (∀ W, RD W rb s bE ((j : Int) + 1) (.slice ao cnt cp) → OwnTP W base (.slice ao cnt cp) (acc ++ ts.map fun t => (t, (j : Int) + 1)) → base ≤ W.heap.size → Calls Tryz.prog 58 #[.pointer (some ⟨rb, 0, none⟩), .agg #[.int .i64 6, .int .i64 0, .int .i64 0, .string ⟨#[]⟩]] W fun e w' => e = .returned (.tuple #[]) ∧ ∃ lv', RD w' rb s bE ((j : Int) + 1) lv' ∧ OwnTP w' base lv' ((acc ++ ts.map fun t => (t, (j : Int) + 1)) ++ [(⟨6, 0, []⟩, (j : Int) + 1)]) ∧ TL2 rb base W w') := ⟨fun W hW hO hbW => qadd_any hW _ base hO hb1 hbW (by omega) 6 0 0 []⟩
            have hfin : ((acc ++ ts.map fun t => (t, (j : Int) + 1)) ++ [(⟨6, 0, []⟩, (j : Int) + 1)]) = acc ++ (if ts = [] then [] else ts ++ [(⟨6, 0, []⟩ : Tok)]).map fun t => (t, ((j + 1 : Nat) : Int)) := by rw [if_neg hne]; simp
            have HE1 : Hid _ := ⟨hE1⟩
            clear F1 F2 hXs HX hts0 hne hE1 hlenD hn hcnt hcl eE hbE hq hLn hD
            go_wp2_with (first
              | (go_at_call 54; (with_reducible refine HSk.out.mono ?_); rintro e x1 ⟨rfl, R2, T2⟩; have HR2 : Hid _ := ⟨R2⟩; have HT2 : Hid _ := ⟨T2⟩; have HO2 : Hid _ := ⟨own_tr HO1.out hb1 T2⟩; clear R2 T2)
              | (go_at_call 55; (with_reducible refine (HPk.out _ HR2.out).mono ?_); rintro e x2 ⟨rfl, R3, T3⟩; have HR3 : Hid _ := ⟨R3⟩; have HT3 : Hid _ := ⟨HT2.out.trans T3⟩; have HO3 : Hid _ := ⟨own_tr HO2.out hb1 T3⟩; clear R3 T3)
              | (go_at_call 57; (with_reducible refine (HTk.out _ HR3.out).mono ?_); rintro e x5 ⟨rfl, R5, T5⟩; have k3 := R5.c3; have HR5 : Hid _ := ⟨R5⟩; have HT5 : Hid _ := ⟨HT3.out.trans T5⟩; have HO5 : Hid _ := ⟨own_tr HO3.out hb1 T5⟩; clear R5 T5)
              | (go_at_call 58; (with_reducible refine (HAd.out _ HR5.out HO5.out (Nat.le_trans hbw HT5.out.size)).mono ?_); rintro e x9 ⟨rfl, lv9, R9, O9, T9⟩))
            have R9' : RD x9 rb s (a + (Ln s a).length + 1) ((j + 1 : Nat) : Int) lv9 := by rw [← HE1.out]; exact R9
            have hme2 : Hid _ := ⟨R9'.atOf⟩
            rw [hfin] at O9
            go_roundw
            case rel => exact ⟨a + (Ln s a).length + 1, j + 1, _, lv9, by omega, by omega, by rw [← hfin]; simp; simp at hAl; omega, ⟨R9', O9, TL2.t2 (TL2.tr HT1.out HT5.out) T9, HCn.out⟩⟩
            case measure => rw [hmeO.out, hme2.out]; omega
        | cons c r =>
          rw [hD] at F2 hlenD hLn
          simp only [List.length_cons] at hlenD
          have hnb : ¬ (c = 32 ∨ c = 9) := blank_head (L := Ln s b) (by rw [hn]; exact hD)
          have hten := Ln_ten s q
          have hc10 : ¬ c = 10 := hten c (by rw [hLn]; simp)
          clear hten
          by_cases h35 : c = 35
          · subst h35
            have HPk : Hid (∀ W, RD W rb s q ((j : Int) + 1) (.slice ao cnt cp) → Calls Tryz.prog 55 #[.pointer (some ⟨rb, 0, none⟩)] W fun e w' => e = .returned (.int .u8 35) ∧ RD w' rb s q ((j : Int) + 1) (.slice ao cnt cp) ∧ TR rb W w') := ⟨fun W hW => peek_t hW (by rw [hLn]; rfl)⟩
            obtain ⟨q2, hq2⟩ : ∃ q2, q + (r.length + 1) = q2 := ⟨_, rfl⟩
            have hLq : Ln s q2 = [] := by
              have := Ln_drop s (r.length + 1) q (by rw [hLn]; simp)
              rw [hq2, hLn] at this
              rw [this]
              exact List.drop_of_length_le (by simp)
            have hq2s : q2 ≤ s.size := by
              have := Ln_top s (r.length + 1) q (by rw [hLn]; simp) hbn
              omega
            have HSl : Hid (∀ W, RD W rb s q ((j : Int) + 1) (.slice ao cnt cp) → Calls Tryz.prog 56 #[.pointer (some ⟨rb, 0, none⟩)] W fun e w' => e = .returned (.tuple #[]) ∧ RD w' rb s q2 ((j : Int) + 1) (.slice ao cnt cp) ∧ TR rb W w') := ⟨fun W hW => by
              have := skipLine_any hW (by omega) hbn
              rw [hLn, List.length_cons, hq2] at this
              exact this⟩
            have HTk : Hid (∀ W, RD W rb s q2 ((j : Int) + 1) (.slice ao cnt cp) → Calls Tryz.prog 57 #[.pointer (some ⟨rb, 0, none⟩), .int .u8 10] W fun e w' => e = .returned (.bool true) ∧ RD w' rb s (q2 + 1) ((j : Int) + 1) (.slice ao cnt cp) ∧ TR rb W w') := ⟨fun W hW => take_yes hW (by omega) (by rw [hLq]; rfl)⟩
            obtain ⟨bE, hbE⟩ : ∃ bE, q2 + 1 = bE := ⟨_, rfl⟩
            rw [hbE] at HTk
            have hE1 : bE = a + (Ln s a).length + 1 := by omega
            have hXs : X = some ts := F2.hash
            have HCn : Hid _ := ⟨HX.out.2 ts hXs⟩
            cases hts0 : ts with
            | nil =>
              subst hts0
              have hgt : ¬ (acc.length : Int) < (cnt : Int) := by simp only [List.length_nil] at hcl; omega
              have hlen : (acc ++ ([] : List Tok).map fun t => (t, (j : Int) + 1)) = acc := by simp
              have HE1 : Hid _ := ⟨hE1⟩
              clear F1 F2 hXs HX hE1 hlenD hn hcnt hcl eE hbE hq hLn hD hq2 hLq
              go_wp2_with (first
                | (go_at_call 54; (with_reducible refine HSk.out.mono ?_); rintro e x1 ⟨rfl, R2, T2⟩; have HR2 : Hid _ := ⟨R2⟩; have HT2 : Hid _ := ⟨T2⟩; have HO2 : Hid _ := ⟨own_tr HO1.out hb1 T2⟩; clear R2 T2)
                | (go_at_call 55; (with_reducible refine (HPk.out _ HR2.out).mono ?_); rintro e x2 ⟨rfl, R3, T3⟩; have HR3 : Hid _ := ⟨R3⟩; have HT3 : Hid _ := ⟨HT2.out.trans T3⟩; have HO3 : Hid _ := ⟨own_tr HO2.out hb1 T3⟩; clear R3 T3)
                | (go_at_call 56; (with_reducible refine (HSl.out _ HR3.out).mono ?_); rintro e x3 ⟨rfl, R4, T4⟩; have HR4 : Hid _ := ⟨R4⟩; have HT4 : Hid _ := ⟨HT3.out.trans T4⟩; have HO4 : Hid _ := ⟨own_tr HO3.out hb1 T4⟩; clear R4 T4)
                | (go_at_call 57; (with_reducible refine (HTk.out _ HR4.out).mono ?_); rintro e x5 ⟨rfl, R5, T5⟩; have k3 := R5.c3; have HR5 : Hid _ := ⟨R5⟩; have HT5 : Hid _ := ⟨HT4.out.trans T5⟩; have HO5 : Hid _ := ⟨own_tr HO4.out hb1 T5⟩; clear R5 T5))
              have R5' : RD x5 rb s (a + (Ln s a).length + 1) ((j + 1 : Nat) : Int) (.slice ao cnt cp) := by rw [← HE1.out]; exact HR5.out
              have hme2 : Hid _ := ⟨R5'.atOf⟩
              have O5' : OwnTP x5 base (.slice ao cnt cp) acc := by have := HO5.out; rw [hlen] at this; exact this
              go_roundw
              case rel => exact ⟨a + (Ln s a).length + 1, j + 1, acc, _, by omega, by omega, by omega, ⟨R5', O5', TL2.tr HT1.out HT5.out, by have := HCn.out; simpa using this⟩⟩
              case measure => rw [hmeO.out, hme2.out]; omega
            | cons t0 ts0 =>
              have hne : ¬ ts = [] := by rw [hts0]; simp
              have hgt : (acc.length : Int) < (cnt : Int) := by have : ts.length = ts0.length + 1 := (by rw [hts0]; rfl); omega
              have hAl : (acc ++ ts.map fun t => (t, (j : Int) + 1)).length ≤ 262144 := by simp; omega
              have HAd : Hid (∀ W, RD W rb s bE ((j : Int) + 1) (.slice ao cnt cp) → OwnTP W base (.slice ao cnt cp) (acc ++ ts.map fun t => (t, (j : Int) + 1)) → base ≤ W.heap.size → Calls Tryz.prog 58 #[.pointer (some ⟨rb, 0, none⟩), .agg #[.int .i64 6, .int .i64 0, .int .i64 0, .string ⟨#[]⟩]] W fun e w' => e = .returned (.tuple #[]) ∧ ∃ lv', RD w' rb s bE ((j : Int) + 1) lv' ∧ OwnTP w' base lv' ((acc ++ ts.map fun t => (t, (j : Int) + 1)) ++ [(⟨6, 0, []⟩, (j : Int) + 1)]) ∧ TL2 rb base W w') := ⟨fun W hW hO hbW => qadd_any hW _ base hO hb1 hbW (by omega) 6 0 0 []⟩
              have hfin : ((acc ++ ts.map fun t => (t, (j : Int) + 1)) ++ [(⟨6, 0, []⟩, (j : Int) + 1)]) = acc ++ (if ts = [] then [] else ts ++ [(⟨6, 0, []⟩ : Tok)]).map fun t => (t, ((j + 1 : Nat) : Int)) := by rw [if_neg hne]; simp
              have HE1 : Hid _ := ⟨hE1⟩
              clear F1 F2 hXs HX hts0 hne hE1 hlenD hn hcnt hcl eE hbE hq hLn hD hq2 hLq
              go_wp2_with (first
                | (go_at_call 54; (with_reducible refine HSk.out.mono ?_); rintro e x1 ⟨rfl, R2, T2⟩; have HR2 : Hid _ := ⟨R2⟩; have HT2 : Hid _ := ⟨T2⟩; have HO2 : Hid _ := ⟨own_tr HO1.out hb1 T2⟩; clear R2 T2)
                | (go_at_call 55; (with_reducible refine (HPk.out _ HR2.out).mono ?_); rintro e x2 ⟨rfl, R3, T3⟩; have HR3 : Hid _ := ⟨R3⟩; have HT3 : Hid _ := ⟨HT2.out.trans T3⟩; have HO3 : Hid _ := ⟨own_tr HO2.out hb1 T3⟩; clear R3 T3)
                | (go_at_call 56; (with_reducible refine (HSl.out _ HR3.out).mono ?_); rintro e x3 ⟨rfl, R4, T4⟩; have HR4 : Hid _ := ⟨R4⟩; have HT4 : Hid _ := ⟨HT3.out.trans T4⟩; have HO4 : Hid _ := ⟨own_tr HO3.out hb1 T4⟩; clear R4 T4)
                | (go_at_call 57; (with_reducible refine (HTk.out _ HR4.out).mono ?_); rintro e x5 ⟨rfl, R5, T5⟩; have k3 := R5.c3; have HR5 : Hid _ := ⟨R5⟩; have HT5 : Hid _ := ⟨HT4.out.trans T5⟩; have HO5 : Hid _ := ⟨own_tr HO4.out hb1 T5⟩; clear R5 T5)
                | (go_at_call 58; (with_reducible refine (HAd.out _ HR5.out HO5.out (Nat.le_trans hbw HT5.out.size)).mono ?_); rintro e x9 ⟨rfl, lv9, R9, O9, T9⟩))
              have R9' : RD x9 rb s (a + (Ln s a).length + 1) ((j + 1 : Nat) : Int) lv9 := by rw [← HE1.out]; exact R9
              have hme2 : Hid _ := ⟨R9'.atOf⟩
              rw [hfin] at O9
              go_roundw
              case rel => exact ⟨a + (Ln s a).length + 1, j + 1, _, lv9, by omega, by omega, by rw [← hfin]; simp; simp at hAl; omega, ⟨R9', O9, TL2.t2 (TL2.tr HT1.out HT5.out) T9, HCn.out⟩⟩
              case measure => rw [hmeO.out, hme2.out]; omega
          · obtain ⟨z, hz⟩ : ∃ z, zOf c = z := ⟨_, rfl⟩
            have q35 : (z == 35) = false := by rw [← hz, beq_eq_false_iff_ne]; intro e; exact h35 ((u8z (n := 35) (by omega)).1 e)
            have HPk : Hid (∀ W, RD W rb s q ((j : Int) + 1) (.slice ao cnt cp) → Calls Tryz.prog 55 #[.pointer (some ⟨rb, 0, none⟩)] W fun e w' => e = .returned (.int .u8 z) ∧ RD w' rb s q ((j : Int) + 1) (.slice ao cnt cp) ∧ TR rb W w') := ⟨fun W hW => peek_t hW (by rw [hLn]; exact hz)⟩
            have HTk : Hid (∀ W, RD W rb s q ((j : Int) + 1) (.slice ao cnt cp) → Calls Tryz.prog 57 #[.pointer (some ⟨rb, 0, none⟩), .int .u8 10] W fun e w' => e = .returned (.bool false) ∧ RD w' rb s q ((j : Int) + 1) (.slice ao cnt cp) ∧ TR rb W w') := ⟨fun W hW => take_no hW (by omega) (by rw [hLn]; exact fun e => hc10 ((u8z (n := 10) (by omega)).1 e))⟩
            have HTo0 : ∀ W, RD W rb s q ((j : Int) + 1) (.slice ao cnt cp) → Calls Tryz.prog 59 #[.pointer (some ⟨rb, 0, none⟩)] W fun e w' => TokE (oneM (c :: r)) rb s q ((j : Int) + 1) (.slice ao cnt cp) W e w' := fun W hW => by
              have := token_any hW (by omega) hbn
              rw [hLn] at this
              exact this
            cases ho : oneM (c :: r) with
            | none =>
              have hXn : X = none := F2.none h35 hnb ho
              have HCn : Hid _ := ⟨HX.out.1 hXn⟩
              rw [ho] at HTo0
              have HTo : Hid _ := ⟨HTo0⟩
              dsimp only [TokE] at HTo
              clear F1 F2 HX hXn HTo0 ho h35 hnb hc10 hz hlenD hn hcnt hcl eE hq hLn hD
              go_wp2_with (first
                | (go_at_call 54; (with_reducible refine HSk.out.mono ?_); rintro e x1 ⟨rfl, R2, T2⟩; have HR2 : Hid _ := ⟨R2⟩; have HT2 : Hid _ := ⟨T2⟩; have HO2 : Hid _ := ⟨own_tr HO1.out hb1 T2⟩; clear R2 T2)
                | (go_at_call 55; (with_reducible refine (HPk.out _ HR2.out).mono ?_); rintro e x2 ⟨rfl, R3, T3⟩; have HR3 : Hid _ := ⟨R3⟩; have HT3 : Hid _ := ⟨HT2.out.trans T3⟩; have HO3 : Hid _ := ⟨own_tr HO2.out hb1 T3⟩; clear R3 T3)
                | (go_at_call 57; (with_reducible refine (HTk.out _ HR3.out).mono ?_); rintro e x5 ⟨rfl, R5, T5⟩; have k3 := R5.c3; have HR5 : Hid _ := ⟨R5⟩; have HT5 : Hid _ := ⟨HT3.out.trans T5⟩; have HO5 : Hid _ := ⟨own_tr HO3.out hb1 T5⟩; clear R5 T5)
                | (go_at_call 59; (with_reducible refine (HTo.out _ HR5.out).mono ?_); rintro e x6 ⟨p', q', r', t', a', rfl, R6, T6⟩; have HR6 : Hid _ := ⟨R6⟩; have HT6 : Hid _ := ⟨HT5.out.trans T6⟩; clear R6 T6))
              first | go_ret | (rw [Exit.noGoto_ret]; go_ret)
              exact cut_no HCn.out (HR6.out.alloc _) (TL2.tr HT1.out (HT6.out.alloc _))
            | some p =>
              obtain ⟨⟨tk, tn, tt⟩, m⟩ := p
              have hm := one_len ho
              simp only [List.length_cons] at hm
              have HF3 : Hid _ := ⟨F2.step h35 hnb ho⟩
              have hm2 : m ≤ (Ln s q).length := by rw [hLn]; simp; omega
              have hLm := Ln_drop s m q hm2
              have hLmt := Ln_top s m q hm2 hbn
              have hlm : (Ln s (q + m)).length = (Ln s q).length - m := by rw [hLm, List.length_drop]
              have hlq : (Ln s q).length = r.length + 1 := by rw [hLn]; rfl
              rw [← hLn, ← hLm] at HF3
              rw [ho] at HTo0
              have HTo : Hid _ := ⟨HTo0⟩
              dsimp only [TokE] at HTo
              have hAl : (acc ++ ts.map fun t => (t, (j : Int) + 1)).length ≤ 262144 := by simp; omega
              have HAd : Hid (∀ W, RD W rb s (q + m) ((j : Int) + 1) (.slice ao cnt cp) → OwnTP W base (.slice ao cnt cp) (acc ++ ts.map fun t => (t, (j : Int) + 1)) → base ≤ W.heap.size → Calls Tryz.prog 58 #[.pointer (some ⟨rb, 0, none⟩), .agg #[.int .i64 tk, .int .i64 0, .int .i64 tn, .string (St tt)]] W fun e w' => e = .returned (.tuple #[]) ∧ ∃ lv', RD w' rb s (q + m) ((j : Int) + 1) lv' ∧ OwnTP w' base lv' ((acc ++ ts.map fun t => (t, (j : Int) + 1)) ++ [(⟨tk, tn, tt⟩, (j : Int) + 1)]) ∧ TL2 rb base W w') := ⟨fun W hW hO hbW => qadd_any hW _ base hO hb1 hbW (by omega) tk 0 tn tt⟩
              have HF : Hid (a ≤ q + m ∧ ts.length + 1 ≤ q + m - a ∧ q + m + (Ln s (q + m)).length = a + (Ln s a).length ∧ b < q + m) := ⟨by omega⟩
              clear F1 F2 HTo0 ho h35 hnb hc10 hz hLm hlenD hn hcnt hcl eE hq hLn hD hlm hlq hm hm2
              go_wp2_with (first
                | (go_at_call 54; (with_reducible refine HSk.out.mono ?_); rintro e x1 ⟨rfl, R2, T2⟩; have HR2 : Hid _ := ⟨R2⟩; have HT2 : Hid _ := ⟨T2⟩; have HO2 : Hid _ := ⟨own_tr HO1.out hb1 T2⟩; clear R2 T2)
                | (go_at_call 55; (with_reducible refine (HPk.out _ HR2.out).mono ?_); rintro e x2 ⟨rfl, R3, T3⟩; have HR3 : Hid _ := ⟨R3⟩; have HT3 : Hid _ := ⟨HT2.out.trans T3⟩; have HO3 : Hid _ := ⟨own_tr HO2.out hb1 T3⟩; clear R3 T3)
                | (go_at_call 57; (with_reducible refine (HTk.out _ HR3.out).mono ?_); rintro e x5 ⟨rfl, R5, T5⟩; have k3 := R5.c3; have HR5 : Hid _ := ⟨R5⟩; have HT5 : Hid _ := ⟨HT3.out.trans T5⟩; have HO5 : Hid _ := ⟨own_tr HO3.out hb1 T5⟩; clear R5 T5)
                | (go_at_call 59; (with_reducible refine (HTo.out _ HR5.out).mono ?_); rintro e x6 ⟨rfl, R6, T6⟩; have HR6 : Hid _ := ⟨R6.alloc (.cells #[.int .i64 tk, .int .i64 0, .int .i64 tn, .string (St tt)] 37)⟩; have HT6 : Hid _ := ⟨(HT5.out.trans T6).alloc (.cells #[.int .i64 tk, .int .i64 0, .int .i64 tn, .string (St tt)] 37)⟩; have HO6 : Hid (OwnTP (x6.alloc (.cells #[.int .i64 tk, .int .i64 0, .int .i64 tn, .string (St tt)] 37)) base (.slice ao cnt cp) (acc ++ ts.map fun t => (t, (j : Int) + 1))) := ⟨World.ownsRow.alloc (own_tr HO5.out hb1 T6) _⟩; clear R6 T6)
                | (go_at_call 58; (with_reducible refine (HAd.out _ HR6.out HO6.out (Nat.le_trans hbw HT6.out.size)).mono ?_); rintro e x9 ⟨rfl, lv9, R9, O9, T9⟩))
              have hme2 : Hid _ := ⟨R9.atOf⟩
              have O9' : OwnTP x9 base lv9 (acc ++ (ts ++ [(⟨tk, tn, tt⟩ : Tok)]).map fun t => (t, (j : Int) + 1)) := by
                rw [List.map_append, ← List.append_assoc]; exact O9
              go_roundw
              case rel => exact ⟨q + m, ts ++ [⟨tk, tn, tt⟩], lv9, HF.out.1, hLmt, by simp; exact HF.out.2.1, ⟨⟨HF.out.2.2.1, R9, O9', TL2.t2 (TL2.tr HT1.out HT6.out) T9, HF3.out⟩⟩⟩
              case measure => rw [hmeI.out, hme2.out]; have := HF.out.2.2.2; omega
    · have HM : Hid _ := ⟨more_t R1 (decide_eq_false hlt)⟩
      have HN : Hid (C = .ok acc) := ⟨by rw [hC, lines_end hlt]; rfl⟩
      have HO1 : Hid _ := ⟨O1⟩
      have HT1 : Hid _ := ⟨T1⟩
      clear R1 O1 T1 hC HW
      go_wp2_with (go_at_call 53; (with_reducible refine HM.out.mono ?_); rintro e v1 ⟨rfl, R2, T2⟩; have HR2 : Hid _ := ⟨R2⟩; have HT2 : Hid _ := ⟨T2⟩; clear R2 T2)
      go_ret
      exact cut_yes HN.out HR2.out (own_tr HO1.out hb1 HT2.out) (TL2.tr HT1.out HT2.out)
end

/-- The law of an operation whose value is known. -/
theorem wpList_val {ops : Array Oper} {rest : List Oper} {o : Oper} {a : Act} {w : World} {Q : Exit → Act → World → Prop} {v : Value} (hw : Region.wanted o (yielded ops a.tmps) = true)
    (hx : (execOp a.eval o).run Tryz.prog w = .ok (.value v) w) (h : wpList Tryz.prog ops Q rest (a.put o.dst v) w) : wpList Tryz.prog ops Q (o :: rest) a w := by
  refine BigFrame.wpList_want hw fun K hK => ?_
  unfold Oper.wp
  rw [hx, Oper.upon_value]
  exact hK _ _ h
theorem wpList_does {ops : Array Oper} {rest : List Oper} {o : Oper} {a : Act} {w w' : World} {Q : Exit → Act → World → Prop} {v : Value} (hw : Region.wanted o (yielded ops a.tmps) = true)
    (hx : (execOp a.eval o).run Tryz.prog w = .ok (.value v) w') (h : wpList Tryz.prog ops Q rest (a.put o.dst v) w') : wpList Tryz.prog ops Q (o :: rest) a w := by
  refine BigFrame.wpList_want hw fun K hK => ?_
  unfold Oper.wp
  rw [hx, Oper.upon_value]
  exact hK _ _ h
theorem wpList_call {ops : Array Oper} {rest : List Oper} {o : Oper} {a : Act} {w : World} {Q : Exit → Act → World → Prop} {f : FuncId} {args : Array Value} {v : Value} {T : World → Prop} (hw : Region.wanted o (yielded ops a.tmps) = true)
    (hx : (execOp a.eval o).run Tryz.prog w = .ok (.enter f args) w) (hc : Calls Tryz.prog f args w fun e w' => e = .returned v ∧ T w') (h : ∀ w', T w' → wpList Tryz.prog ops Q rest (a.put o.dst v) w') : wpList Tryz.prog ops Q (o :: rest) a w := by
  refine BigFrame.wpList_want hw fun K hK => ?_
  unfold Oper.wp
  rw [hx, Oper.upon_enter]
  refine hc.mono ?_
  rintro e w' ⟨rfl, ht⟩
  exact hK _ _ (h _ ht)
theorem wpList_load_of {ops : Array Oper} {rest : List Oper} {o : Oper} {a : Act} {w : World} {Q : Exit → Act → World → Prop} {t : TypeId} {x : Operand} {p : Addr} {v : Value} (ho : o.op = .load t x)
    (hw : Region.wanted o (yielded ops a.tmps) = true) (hx : a.eval x = .pointer (some p)) (hl : (loadVar t p).run Tryz.prog w = .ok v w)
    (h : wpList Tryz.prog ops Q rest (a.put o.dst v) w) : wpList Tryz.prog ops Q (o :: rest) a w := by
  refine BigFrame.wpList_want hw fun K hK => ?_
  unfold Oper.wp execOp
  simp only [ho, hx, Instr.loadAt, Instr.sureAddr, Sem.run_bind, Sem.run_pure, Result.andThen_ok, hl]
  exact hK _ _ h

/-- A table of numbers, as cells. -/
def karr (f : Nat → Int) : Array Value := ((List.range 256).map fun j => Value.int .u8 (f j)).toArray
theorem karr_size (f : Nat → Int) : (karr f).size = 256 := by simp [karr]
theorem karr_at (f : Nat → Int) (j : Nat) (h : j < 256) : (karr f)[j]? = some (.int .u8 (f j)) := by simp [karr, h]
def upd (f : Nat → Int) (c : Nat) (v : Int) (j : Nat) : Int := if j = c then v else f j
theorem karr_set (f : Nat → Int) (c : Nat) (v : Int) (h : c < 256) : (karr f).setIfInBounds c (.int .u8 v) = karr (upd f c v) := by
  apply Array.ext_getElem?
  intro i
  by_cases hi : i < 256
  · rw [karr_at _ i hi, Array.getElem?_setIfInBounds]
    unfold upd
    by_cases e : c = i
    · subst e; simp [karr_size, h]
    · rw [if_neg e, karr_at _ i hi, if_neg (fun e' => e e'.symm)]
  · rw [Array.getElem?_eq_none (by simp [karr_size]; omega), Array.getElem?_eq_none (by simp [karr_size]; omega)]
/-- A table lies in block b. -/
def KB (w : World) (b : Nat) (f : Nat → Int) : Prop := w.heap[b]? = some (.cells (karr f) 94 (0, 0))
theorem KB.cell {w : World} {b : Nat} {f : Nat → Int} (h : KB w b f) (j : Nat) (hj : j < 256) : w.cell? ⟨b, j, none⟩ = some (.int .u8 (f j)) ∧ w.frozen? ⟨b, j, none⟩ = false := by
  unfold KB at h
  constructor
  · simp only [World.cell?, h]; simpa using karr_at f j hj
  · simp [World.frozen?, h]
theorem KB.set {w : World} {b : Nat} {f : Nat → Int} (h : KB w b f) (c : Nat) (hc : c < 256) (v : Int) : KB (w.setCell ⟨b, c, none⟩ (.int .u8 v)) b (upd f c v) := by
  unfold KB at h ⊢
  rw [setCell_eq_setRow w b c _ _ _ _ h, setRow_heap w b _ _ _ _ h, karr_set f c v hc]
theorem KB.turn {w w' : World} {b : Nat} {f : Nat → Int} (h : KB w b f) {S : Nat → Prop} (ht : Turn S w w') (hb : ¬ S b) : KB w' b f := by
  have h' : w.heap[b]? = _ := h
  exact (ht.block b (Array.getElem?_eq_some_iff.1 h').1 hb).trans h
def orAll (K : Int) : List UInt8 → (Nat → Int) → Nat → Int
  | [], f => f
  | c :: r, f => orAll K r (upd f c.toNat (bits .or .u8 (f c.toNat) K))
theorem orAll_snoc (K : Int) : ∀ (l : List UInt8) (c : UInt8) (f : Nat → Int), orAll K (l ++ [c]) f = upd (orAll K l f) c.toNat (bits .or .u8 (orAll K l f c.toNat) K)
  | [], c, f => rfl
  | d :: l, c, f => orAll_snoc K l c _

set_option maxHeartbeats 4000000 in
set_option maxRecDepth 10000 in
theorem kadd_any (w : World) (kb : Nat) (f : Nat → Int) (K : Int) (bs : ByteArray) (h : KB w kb f) (hl : bs.size ≤ 256) :
    Calls Tryz.prog 75 #[.pointer (some ⟨kb, 0, none⟩), .int .u8 K, .string bs] w fun e w' => e = .returned (.tuple #[]) ∧ (KB w' kb (orAll K (lo bs) f) ∧ Turn (fun k => k = kb) w w') := by
  have H0 : Hid (KB w kb (orAll K ((lo bs).take 0) f)) := ⟨h⟩
  clear h
  go_enter Tryz.func75, Tryz.ntmps75
  go_wp2_with fail
  go_loopw [9] (fun i wr => ∃ n : Nat, i = .int .i64 n ∧ n ≤ bs.size ∧ Hid (KB wr kb (orAll K ((lo bs).take n) f) ∧ Turn (fun k => k = kb) w wr)) (fun i _ => bs.size - (intOf i).toNat)
  case atStart => exact ⟨0, rfl, by omega, ⟨H0.out, Turn.refl _ _⟩⟩
  case round =>
    obtain ⟨n, rfl, hn, HW⟩ := hrel
    obtain ⟨K1, T1⟩ := HW.out
    by_cases hlt : n < bs.size
    · have hlti : (n : Int) < (bs.size : Int) := by omega
      have hn0 : (0 : Int) ≤ (n : Int) := by omega
      have hc := bs[n].toNat_lt
      obtain ⟨kc, kf⟩ := K1.cell bs[n].toNat hc
      have hsn : orAll K ((lo bs).take (n + 1)) f = upd (orAll K ((lo bs).take n) f) bs[n].toNat (bits .or .u8 (orAll K ((lo bs).take n) f bs[n].toNat) K) := by
        rw [List.take_succ_eq_append_getElem (by rw [lo_len]; exact hlt), orAll_snoc]; rfl
      have HS : Hid (KB (wr.setCell ⟨kb, bs[n].toNat, none⟩ (.int .u8 (bits .or .u8 (orAll K ((lo bs).take n) f bs[n].toNat) K))) kb (orAll K ((lo bs).take (n + 1)) f)) := ⟨by rw [hsn]; exact K1.set _ hc _⟩
      have HT1 : Hid _ := ⟨T1⟩
      clear hsn K1 T1 HW H0
      generalize orAll K ((lo bs).take n) f bs[n].toNat = z at *
      have i1 : ((bs[n].toNat : Nat) : Int) < 256 := by omega
      have i0 : (0 : Int) ≤ ((bs[n].toNat : Nat) : Int) := by omega
      go_wp2
      go_region
      all_goals
        go_wp2
        go_roundw
        case rel => exact ⟨n + 1, by go_num, by omega, ⟨HS.out, Turn.drewN (Turn.setCell (S := fun k => k = kb) HT1.out ⟨kb, bs[n].toNat, none⟩ rfl _) 1⟩⟩
        case measure => simp [intOf]; omega
    · have hnn : n = bs.size := by omega
      have hlti : ¬ (n : Int) < (bs.size : Int) := by omega
      have HF : Hid (KB wr kb (orAll K (lo bs) f)) := ⟨by have := K1; rw [hnn, List.take_of_length_le (by rw [lo_len]; exact Nat.le_refl _)] at this; exact this⟩
      have HT1 : Hid _ := ⟨T1⟩
      clear K1 T1 HW H0 hnn
      go_wp2
      go_end0
      exact ⟨rfl, HF.out, HT1.out⟩

def kt1 : Nat → Int := orAll 1 [32, 9] (fun _ => 0)
def kt2 : Nat → Int := orAll 2 [65, 66, 67, 68, 69, 70, 71, 72, 73, 74, 75, 76, 77, 78, 79, 80, 81, 82, 83, 84, 85, 86, 87, 88, 89, 90, 97, 98, 99, 100, 101, 102, 103, 104, 105, 106, 107, 108, 109, 110, 111, 112, 113, 114, 115, 116, 117, 118, 119, 120, 121, 122] kt1
def kt3 : Nat → Int := orAll 4 [48, 49, 50, 51, 52, 53, 54, 55, 56, 57] kt2
def kt4 : Nat → Int := orAll 8 [48, 49, 50, 51, 52, 53, 54, 55, 56, 57, 65, 66, 67, 68, 69, 70, 97, 98, 99, 100, 101, 102] kt3
def kt5 : Nat → Int := orAll 16 [95, 46] kt4
def kt6 : Nat → Int := orAll 32 [44, 40, 41, 58, 36, 43, 45, 42, 47, 38, 126, 64, 61, 124, 94] kt5
theorem kt_kz : karr kt6 = karr kz := by
  have h : ∀ n : Fin 256, kt6 n.val = kz n.val := by decide +kernel
  have e : ((List.range 256).map fun j => Value.int .u8 (kt6 j)) = ((List.range 256).map fun j => Value.int .u8 (kz j)) := List.map_congr_left (fun j hj => by rw [h ⟨j, List.mem_range.1 hj⟩])
  exact congrArg List.toArray e
theorem under_kinds : Tryz.prog.underlying 94 = some (.array 256 5) := by kernel_rfl
theorem size_kinds : (Tryz.prog.info? 94).map (·.size) = some 256 := by kernel_rfl
theorem KB.load {w : World} {b : Nat} {f : Nat → Int} (h : KB w b f) : (loadVar 94 ⟨b, 0, none⟩).run Tryz.prog w = .ok (.agg (karr f)) w :=
  run_loadVar_row (P := Tryz.prog) w b _ _ (karr f) (0, 0) _ h under_kinds rfl (by rw [karr_size]; exact size_kinds)
theorem results_kinds (tmps : Array Value) (W : World) (g : Nat) (f : Nat → Int) (hp : tmps.getD 0 undef = .pointer (some ⟨g, 0, none⟩)) (h : KB W g f) :
    (results Tryz.f52 tmps).run Tryz.prog W = .ok (.agg (karr f)) W := by
  have hp' : tmps[0]?.getD undef = .pointer (some ⟨g, 0, none⟩) := by simpa using hp
  simp [results, Tryz.results52, hp', asAddr, h.load]
theorem KB.setR {w : World} {b : Nat} {f : Nat → Int} (h : KB w b f) (g : Nat → Int) : KB (w.setRow b (karr g)) b g := setRow_heap w b _ _ _ _ h

set_option maxRecDepth 20000 in
set_option maxHeartbeats 4000000 in
theorem kinds_any (w : World) : Calls Tryz.prog 52 #[] w fun e w' => e = .returned (.agg (karr kz)) ∧ Below w.heap.size w w' := by
  obtain ⟨B0, hB0⟩ : ∃ b, b = w.heap.size := ⟨_, rfl⟩
  go_enter Tryz.func52, Tryz.ntmps52
  go_upto_region 0 with (fail)
  iterate 1 go_step
  refine wpList_does (v := .pointer (some ⟨B0, 0, none⟩)) (w' := w.alloc (.cells (karr fun _ => 0) 94)) (by kernel_rfl) (by rw [hB0]; kernel_rfl) ?_
  simp only [Act.put, List.getElem_toArray, List.getElem_cons_succ, List.getElem_cons_zero, List.setIfInBounds_toArray, List.set_cons_zero, List.set_cons_succ]
  have F1 : Below w.heap.size w (w.alloc (.cells (karr fun _ => 0) 94)) := (Below.refl _ _).alloc (Nat.le_refl _) _
  have K0 : KB (w.alloc (.cells (karr fun _ => 0) 94)) B0 (fun _ => 0) := by rw [hB0]; exact heap_alloc_new w _
  have hz1 : B0 < (w.alloc (.cells (karr fun _ => 0) 94)).heap.size := by rw [hB0]; simp
  generalize w.alloc (.cells (karr fun _ => 0) 94) = v1 at *
  refine wpList_nil ?_
  go_upto_region 1 with (fail)
  iterate 1 go_step
  obtain ⟨B1, hB1⟩ : ∃ b, b = v1.heap.size := ⟨_, rfl⟩
  refine wpList_does (v := .pointer (some ⟨B1, 0, none⟩)) (w' := v1.alloc (.cells (karr fun _ => 0) 94)) (by kernel_rfl) (by rw [hB1]; kernel_rfl) ?_
  simp only [Act.put, List.getElem_toArray, List.getElem_cons_succ, List.getElem_cons_zero, List.setIfInBounds_toArray, List.set_cons_zero, List.set_cons_succ]
  have F2 : Below w.heap.size w (v1.alloc (.cells (karr fun _ => 0) 94)) := F1.trans ((Below.refl _ _).alloc F1.size _)
  have K0 : KB (v1.alloc (.cells (karr fun _ => 0) 94)) B0 (fun _ => 0) := K0.turn (Turn.alloc (Turn.refl (fun _ => False) _) _) (fun e => e)
  have K1 : KB (v1.alloc (.cells (karr fun _ => 0) 94)) B1 (fun _ => 0) := by rw [hB1]; exact heap_alloc_new v1 _
  have hb01 : B0 < B1 := by omega
  generalize v1.alloc (.cells (karr fun _ => 0) 94) = u0 at *
  clear F1 hz1 hB1
  refine wpList_nil ?_
  go_upto_region 2 with (fail)
  iterate 1 go_step
  refine wpList_call (f := 75) (args := #[.pointer (some ⟨B1, 0, none⟩), .int .u8 1, .string ⟨#[32, 9]⟩]) (v := .tuple #[]) (by kernel_rfl) (by kernel_rfl) (kadd_any u0 B1 (fun _ => 0) 1 ⟨#[32, 9]⟩ K1 (by decide)) ?_
  rintro u1 ⟨K1, T1⟩
  simp only [Act.put, List.getElem_toArray, List.getElem_cons_succ, List.getElem_cons_zero, List.setIfInBounds_toArray, List.set_cons_zero, List.set_cons_succ]
  replace K1 : KB u1 B1 kt1 := K1
  replace K0 := K0.turn T1 (by omega)
  replace F2 : Below w.heap.size w u1 := F2.trans (T1.below (by have := F2.size; omega) (fun k e => by omega))
  clear T1
  refine wpList_nil ?_
  go_upto_region 3 with (fail)
  iterate 1 go_step
  refine wpList_call (f := 75) (args := #[.pointer (some ⟨B1, 0, none⟩), .int .u8 2, .string ⟨#[65, 66, 67, 68, 69, 70, 71, 72, 73, 74, 75, 76, 77, 78, 79, 80, 81, 82, 83, 84, 85, 86, 87, 88, 89, 90, 97, 98, 99, 100, 101, 102, 103, 104, 105, 106, 107, 108, 109, 110, 111, 112, 113, 114, 115, 116, 117, 118, 119, 120, 121, 122]⟩]) (v := .tuple #[]) (by kernel_rfl) (by kernel_rfl) (kadd_any u1 B1 kt1 2 ⟨#[65, 66, 67, 68, 69, 70, 71, 72, 73, 74, 75, 76, 77, 78, 79, 80, 81, 82, 83, 84, 85, 86, 87, 88, 89, 90, 97, 98, 99, 100, 101, 102, 103, 104, 105, 106, 107, 108, 109, 110, 111, 112, 113, 114, 115, 116, 117, 118, 119, 120, 121, 122]⟩ K1 (by decide)) ?_
  rintro u2 ⟨K1, T2⟩
  simp only [Act.put, List.getElem_toArray, List.getElem_cons_succ, List.getElem_cons_zero, List.setIfInBounds_toArray, List.set_cons_zero, List.set_cons_succ]
  replace K1 : KB u2 B1 kt2 := K1
  replace K0 := K0.turn T2 (by omega)
  replace F2 : Below w.heap.size w u2 := F2.trans (T2.below (by have := F2.size; omega) (fun k e => by omega))
  clear T2
  refine wpList_nil ?_
  go_upto_region 4 with (fail)
  iterate 1 go_step
  refine wpList_call (f := 75) (args := #[.pointer (some ⟨B1, 0, none⟩), .int .u8 4, .string ⟨#[48, 49, 50, 51, 52, 53, 54, 55, 56, 57]⟩]) (v := .tuple #[]) (by kernel_rfl) (by kernel_rfl) (kadd_any u2 B1 kt2 4 ⟨#[48, 49, 50, 51, 52, 53, 54, 55, 56, 57]⟩ K1 (by decide)) ?_
  rintro u3 ⟨K1, T3⟩
  simp only [Act.put, List.getElem_toArray, List.getElem_cons_succ, List.getElem_cons_zero, List.setIfInBounds_toArray, List.set_cons_zero, List.set_cons_succ]
  replace K1 : KB u3 B1 kt3 := K1
  replace K0 := K0.turn T3 (by omega)
  replace F2 : Below w.heap.size w u3 := F2.trans (T3.below (by have := F2.size; omega) (fun k e => by omega))
  clear T3
  refine wpList_nil ?_
  go_upto_region 5 with (fail)
  iterate 1 go_step
  refine wpList_call (f := 75) (args := #[.pointer (some ⟨B1, 0, none⟩), .int .u8 8, .string ⟨#[48, 49, 50, 51, 52, 53, 54, 55, 56, 57, 65, 66, 67, 68, 69, 70, 97, 98, 99, 100, 101, 102]⟩]) (v := .tuple #[]) (by kernel_rfl) (by kernel_rfl) (kadd_any u3 B1 kt3 8 ⟨#[48, 49, 50, 51, 52, 53, 54, 55, 56, 57, 65, 66, 67, 68, 69, 70, 97, 98, 99, 100, 101, 102]⟩ K1 (by decide)) ?_
  rintro u4 ⟨K1, T4⟩
  simp only [Act.put, List.getElem_toArray, List.getElem_cons_succ, List.getElem_cons_zero, List.setIfInBounds_toArray, List.set_cons_zero, List.set_cons_succ]
  replace K1 : KB u4 B1 kt4 := K1
  replace K0 := K0.turn T4 (by omega)
  replace F2 : Below w.heap.size w u4 := F2.trans (T4.below (by have := F2.size; omega) (fun k e => by omega))
  clear T4
  refine wpList_nil ?_
  go_upto_region 6 with (fail)
  iterate 1 go_step
  refine wpList_call (f := 75) (args := #[.pointer (some ⟨B1, 0, none⟩), .int .u8 16, .string ⟨#[95, 46]⟩]) (v := .tuple #[]) (by kernel_rfl) (by kernel_rfl) (kadd_any u4 B1 kt4 16 ⟨#[95, 46]⟩ K1 (by decide)) ?_
  rintro u5 ⟨K1, T5⟩
  simp only [Act.put, List.getElem_toArray, List.getElem_cons_succ, List.getElem_cons_zero, List.setIfInBounds_toArray, List.set_cons_zero, List.set_cons_succ]
  replace K1 : KB u5 B1 kt5 := K1
  replace K0 := K0.turn T5 (by omega)
  replace F2 : Below w.heap.size w u5 := F2.trans (T5.below (by have := F2.size; omega) (fun k e => by omega))
  clear T5
  refine wpList_nil ?_
  go_upto_region 7 with (fail)
  iterate 1 go_step
  refine wpList_call (f := 75) (args := #[.pointer (some ⟨B1, 0, none⟩), .int .u8 32, .string ⟨#[44, 40, 41, 58, 36, 43, 45, 42, 47, 38, 126, 64, 61, 124, 94]⟩]) (v := .tuple #[]) (by kernel_rfl) (by kernel_rfl) (kadd_any u5 B1 kt5 32 ⟨#[44, 40, 41, 58, 36, 43, 45, 42, 47, 38, 126, 64, 61, 124, 94]⟩ K1 (by decide)) ?_
  rintro u6 ⟨K1, T6⟩
  simp only [Act.put, List.getElem_toArray, List.getElem_cons_succ, List.getElem_cons_zero, List.setIfInBounds_toArray, List.set_cons_zero, List.set_cons_succ]
  replace K1 : KB u6 B1 kt6 := K1
  replace K0 := K0.turn T6 (by omega)
  replace F2 : Below w.heap.size w u6 := F2.trans (T6.below (by have := F2.size; omega) (fun k e => by omega))
  clear T6
  refine wpList_nil ?_
  go_upto_region 8 with (fail)
  iterate 1 go_step
  refine wpList_load_of (p := ⟨B1, 0, none⟩) (v := .agg (karr kt6)) rfl (by kernel_rfl) (by kernel_rfl) K1.load ?_
  simp only [Act.put, List.getElem_toArray, List.getElem_cons_succ, List.getElem_cons_zero, List.setIfInBounds_toArray, List.set_cons_zero, List.set_cons_succ]
  refine wpList_store_row rfl _ _ _ rfl B0 (karr kt6) (by kernel_rfl) (by kernel_rfl) 94 (karr fun _ => 0) K0 (by rw [karr_size]; exact size_kinds) (by rw [karr_size, karr_size]) (by kernel_rfl) ?_
  simp only [Act.put, List.getElem_toArray, List.getElem_cons_succ, List.getElem_cons_zero, List.setIfInBounds_toArray, List.set_cons_zero, List.set_cons_succ]
  have K9 := K0.setR kt6
  have F9 : Below w.heap.size w (u6.setRow B0 (karr kt6)) := F2.trans ⟨rfl, rfl, rfl, by simp, fun j hj => setRow_other _ B0 j _ (by omega)⟩
  generalize u6.setRow B0 (karr kt6) = u9 at *
  refine wpList_nil ?_
  go_wp2_with fail
  exact bodyPost_ret (v := .agg (karr kt6)) (results_kinds _ u9 B0 kt6 (by kernel_rfl) K9) (by kernel_rfl) ⟨by rw [kt_kz], F9⟩

def rdArr (s : ByteArray) : Array Value := #[.string s, .int .i64 0] ++ karr kz ++ #[.int .i64 0, .slice none 0 0]
theorem rd_new (s : ByteArray) {w : World} {b : Nat} (h : w.heap[b]? = some (.cells (rdArr s) 96 (0, 0))) (he : Er w) (hb : 6 ≤ b) : RD w b s 0 0 (.slice none 0 0) := by
  have hc : ∀ j, w.cell? ⟨b, j, none⟩ = (rdArr s)[j]? := fun j => by simp only [World.cell?, h]; simp
  have hk := karr_size kz
  refine ⟨(hc 0).trans ?_, (hc 1).trans ?_, fun j hj => (hc (2 + j)).trans ?_, (hc 258).trans ?_, (hc 259).trans ?_, fun j => by simp [World.frozen?, h], he, hb⟩
  · unfold rdArr
    rw [Array.getElem?_append_left (by simp; omega), Array.getElem?_append_left (by simp)]; rfl
  · unfold rdArr
    rw [Array.getElem?_append_left (by simp; omega), Array.getElem?_append_left (by simp)]; rfl
  · unfold rdArr
    rw [Array.getElem?_append_left (by simp [hk]; omega), Array.getElem?_append_right (by simp)]
    have : 2 + j - (#[Value.string s, .int .i64 0] : Array Value).size = j := by simp
    rw [this]; exact karr_at kz j hj
  · unfold rdArr
    rw [Array.getElem?_append_right (by simp [hk])]
    have : 258 - (#[Value.string s, .int .i64 0] ++ karr kz).size = 0 := by simp [hk]
    rw [this]; rfl
  · unfold rdArr
    rw [Array.getElem?_append_right (by simp [hk])]
    have : 259 - (#[Value.string s, .int .i64 0] ++ karr kz).size = 1 := by simp [hk]
    rw [this]; rfl

set_option maxRecDepth 20000 in
set_option maxHeartbeats 4000000 in
theorem newReader_any (s : ByteArray) (w : World) (he : Er w) : Calls Tryz.prog 34 #[.string s] w fun e w' => ∃ rb, e = .returned (.pointer (some ⟨rb, 0, none⟩)) ∧ w.heap.size ≤ rb ∧ RD w' rb s 0 0 (.slice none 0 0) ∧ Below w.heap.size w w' := by
  go_enter Tryz.func34, Tryz.ntmps34
  go_upto_region 1 with (fail)
  iterate 1 go_step
  refine wpList_val (v := .string s) (by kernel_rfl) (by kernel_rfl) ?_
  simp only [Act.put, List.getElem_toArray, List.getElem_cons_succ, List.getElem_cons_zero, List.setIfInBounds_toArray, List.set_cons_zero, List.set_cons_succ]
  refine wpList_val (v := .agg #[.string s, .int .i64 0]) (by kernel_rfl) (by kernel_rfl) ?_
  simp only [Act.put, List.getElem_toArray, List.getElem_cons_succ, List.getElem_cons_zero, List.setIfInBounds_toArray, List.set_cons_zero, List.set_cons_succ]
  refine wpList_call (f := 52) (args := #[]) (v := .agg (karr kz)) (by kernel_rfl) (by kernel_rfl) (kinds_any w) ?_
  rintro v1 hb1
  simp only [Act.put, List.getElem_toArray, List.getElem_cons_succ, List.getElem_cons_zero, List.setIfInBounds_toArray, List.set_cons_zero, List.set_cons_succ]
  refine wpList_val (v := .agg (rdArr s)) (by kernel_rfl) (by kernel_rfl) ?_
  simp only [Act.put, List.getElem_toArray, List.getElem_cons_succ, List.getElem_cons_zero, List.setIfInBounds_toArray, List.set_cons_zero, List.set_cons_succ]
  obtain ⟨B0, hB0⟩ : ∃ b, b = v1.heap.size := ⟨_, rfl⟩
  refine wpList_does (v := .pointer (some ⟨B0, 0, none⟩)) (w' := v1.alloc (.cells (rdArr s) 96)) (by kernel_rfl) (by rw [hB0]; kernel_rfl) ?_
  simp only [Act.put, List.getElem_toArray, List.getElem_cons_succ, List.getElem_cons_zero, List.setIfInBounds_toArray, List.set_cons_zero, List.set_cons_succ]
  have hs1 := hb1.size
  have F1 : Below w.heap.size w (v1.alloc (.cells (rdArr s) 96)) := hb1.alloc hs1 _
  have R1 : RD (v1.alloc (.cells (rdArr s) 96)) B0 s 0 0 (.slice none 0 0) := rd_new s (by rw [hB0]; exact heap_alloc_new v1 _) (he.bel F1) (by have := he.sz; omega)
  have hz : w.heap.size ≤ B0 := by omega
  generalize v1.alloc (.cells (rdArr s) 96) = v2 at *
  clear hB0
  refine wpList_val (v := .pointer (some ⟨B0, 0, none⟩)) (by kernel_rfl) (by kernel_rfl) ?_
  simp only [Act.put, List.getElem_toArray, List.getElem_cons_succ, List.getElem_cons_zero, List.setIfInBounds_toArray, List.set_cons_zero, List.set_cons_succ]
  refine wpList_nil ?_
  go_wp2_with fail
  go_ret
  exact ⟨B0, rfl, hz, R1, F1⟩

set_option maxHeartbeats 1000000 in
set_option maxRecDepth 100000 in
theorem count_one (s : ByteArray) (c : UInt8) (w : World) : Calls Tryz.prog 51 #[.string s, .string ⟨#[c]⟩] w fun e w' => e = .returned (.int .i64 (((lo s).count c : Nat) : Int)) ∧ w' = w := by
  go_enter Tryz.func51, Tryz.ntmps51
  go_wp2
  rw [run_callFunc_extern Tryz.func73 (by kernel_rfl) (by kernel_rfl) (by kernel_rfl) (e := Extern.BytealgCount.count) (by kernel_rfl), Lib.run_countString]
  simp only [Result.andThen]
  rw [Oper.upon_value]
  go_wp2
  go_ret
  exact ⟨rfl, rfl⟩

/-- How many lines there are. -/
theorem lines_count : ∀ (l acc : List UInt8), (linesF l acc).length = l.count 10 + (if l = [] then (if acc = [] then 0 else 1) else if l.getLast? = some 10 then 0 else 1)
  | [], acc => by
    show (if acc = [] then ([] : List (List UInt8)) else [acc]).length = _
    split <;> simp_all
  | c :: r, acc => by
    by_cases hc : c = 10
    · subst hc
      have h := lines_count r []
      show (acc :: linesF r []).length = _
      rw [List.length_cons, h]
      cases r with
      | nil => rfl
      | cons d r' =>
        simp only [reduceCtorEq, if_false, List.getLast?_cons_cons, List.count_cons_self]
        omega
    · have h := lines_count r (acc ++ [c])
      show (if c = 10 then acc :: linesF r [] else linesF r (acc ++ [c])).length = _
      rw [if_neg hc, h, List.count_cons]
      have e0 : (c == 10) = false := by simpa using hc
      rw [e0]
      cases r with
      | nil => simp [hc]
      | cons d r' => simp

/-- How the program's All ends. -/
def AEndsP (m : Except (Int × Int) (List TL)) (w : World) (e : Ending) (w' : World) : Prop :=
  match m with
  | .error p => e = .returned (.tuple #[.slice none 0 0, .int .i64 p.1, .int .i64 p.2]) ∧ Below w.heap.size w w'
  | .ok ts => ∃ v, e = .returned (.tuple #[v, .int .i64 0, .int .i64 0]) ∧ OwnTP w' w.heap.size v ts ∧ Below w.heap.size w w'
/-- The contracts of the program's All, Quote and Print. -/
def PAll : Prop := ∀ (s : ByteArray) (w : World), Er w → Calls Tryz.prog 24 #[.string s] w fun e w' => AEndsP (allM (lo s)) w e w'
theorem eql_tok (a b c : Int) (s : ByteArray) (w : World) : (binOp .eql 37 (.agg #[.int .i64 a, .int .i64 b, .int .i64 c, .string s]) (.agg #[.int .i64 a, .int .i64 b, .int .i64 c, .string s])).run Tryz.prog w = .ok (.bool true) w := by
  simp [go_sem]

def liveT : List UInt8 := [102, 111, 111, 58, 32, 109, 111, 118, 113, 32, 36, 45, 48, 120, 49, 48, 44, 32, 37, 114, 97, 120, 32, 35, 32, 120, 10]
def liveL : List TL := [(⟨1, 0, [102, 111, 111]⟩, 1), (⟨4, 0, [58]⟩, 1), (⟨1, 0, [109, 111, 118, 113]⟩, 1), (⟨4, 0, [36]⟩, 1), (⟨4, 0, [45]⟩, 1), (⟨2, 16, []⟩, 1), (⟨4, 0, [44]⟩, 1), (⟨5, 0, [114, 97, 120]⟩, 1), (⟨6, 0, []⟩, 1)]
theorem live_cut : allM liveT = .ok liveL := by kernel_rfl


theorem OwnTP.lower {w : World} {base base' : Nat} {v : Value} {l : List TL} (h : OwnTP w base v l) (hb : base' ≤ base) : OwnTP w base' v l := by
  rcases h with ⟨h1, h2⟩
  refine ⟨h1, ?_⟩
  rcases h2 with h | ⟨g, cap, cur, h3, h4, h5⟩
  · exact .inl h
  · exact .inr ⟨g, cap, cur, h3, Nat.le_trans hb h4, h5⟩
theorem lo_last (s : ByteArray) (n : Nat) (h : s.size = n + 1) : (lo s).getLast? = some (s[n]'(by omega)) := by
  have e : (lo s).length - 1 = n := by rw [lo_len]; omega
  have : n < (lo s).length := by rw [lo_len]; omega
  rw [List.getLast?_eq_getElem?, e, List.getElem?_eq_getElem this]
  rfl

set_option maxHeartbeats 1000000 in
set_option maxRecDepth 10000 in
theorem countLines_any (s : ByteArray) (w : World) (hl : s.size ≤ 65536) : Calls Tryz.prog 33 #[.string s] w fun e w' => e = .returned (.int .i64 ((linesM (lo s)).length : Int)) ∧ w' = w := by
  have hc := lines_count (lo s) []
  have e0 : linesM (lo s) = linesF (lo s) [] := rfl
  rw [e0, hc]
  have hcl : (lo s).count 10 ≤ (lo s).length := List.count_le_length
  rw [lo_len] at hcl
  have HC : Hid _ := ⟨count_one s 10 w⟩
  clear hc e0
  by_cases h0 : s.size = 0
  · obtain ⟨t1, t2⟩ := isempty s h0
    have hlo : lo s = [] := List.eq_nil_of_length_eq_zero (by rw [lo_len]; exact h0)
    rw [hlo] at HC ⊢
    clear hlo h0 hcl
    go_enter Tryz.func33, Tryz.ntmps33
    go_wp2_with (go_at_call 51; (with_reducible refine HC.out.mono ?_); rintro e w' ⟨rfl, hw'⟩; subst w')
    go_ret
    exact ⟨rfl, rfl⟩
  · obtain ⟨t1, t2⟩ := nonempty s (by omega)
    obtain ⟨n, hn⟩ : ∃ n, s.size = n + 1 := ⟨s.size - 1, by omega⟩
    have hlast := lo_last s n hn
    have hne : ¬ lo s = [] := fun e => by have := lo_len s; rw [e] at this; simp at this; omega
    rw [if_neg hne, hlast]
    generalize (lo s).count 10 = cnt at *
    have hsz : ((s.size : Int) - 1) = (n : Int) := by omega
    have hw1 : IntKind.i64.wrap ((s.size : Int) - 1) = (n : Int) := by rw [IntKind.wrap_i64]; omega
    have i0 : (0 : Int) ≤ (n : Int) := by omega
    have i1 : (n : Int) < (s.size : Int) := by omega
    have hns : n < s.size := by omega
    have hw2 : IntKind.i64.wrap ((cnt : Int) + 1) = (cnt : Int) + 1 := by rw [IntKind.wrap_i64]; omega
    by_cases h10 : s[n]'hns = 10
    · have q : (((s[n]'hns).toNat : Int) != 10) = false := by rw [h10]; rfl
      rw [if_pos (by rw [h10])]
      clear hlast hne hn h0 h10
      go_enter Tryz.func33, Tryz.ntmps33
      go_wp2_with (go_at_call 51; (with_reducible refine HC.out.mono ?_); rintro e w' ⟨rfl, hw'⟩; subst w')
      go_ret
      exact ⟨rfl, rfl⟩
    · have q : (((s[n]'hns).toNat : Int) != 10) = true := by
        rw [bne_iff_ne]; intro e; exact h10 ((u8z (n := 10) (by omega)).1 e)
      rw [if_neg (by intro e; exact h10 (Option.some.inj e))]
      clear hlast hne hn h0 h10
      go_enter Tryz.func33, Tryz.ntmps33
      go_wp2_with (go_at_call 51; (with_reducible refine HC.out.mono ?_); rintro e w' ⟨rfl, hw'⟩; subst w')
      go_ret
      exact ⟨by go_num, rfl⟩

set_option maxHeartbeats 1000000 in
set_option maxRecDepth 10000 in
theorem pall : PAll := by
  intro s w hE
  obtain ⟨M, hM⟩ : ∃ M, allM (lo s) = M := ⟨_, rfl⟩
  rw [hM]
  unfold allM at hM
  rw [lo_len] at hM
  by_cases h1 : 65536 < s.size
  · rw [if_pos h1] at hM
    subst hM
    have h1i : (65536 : Int) < (s.size : Int) := by omega
    clear hE
    go_enter Tryz.func24, Tryz.ntmps24
    go_wp2
    go_ret3
    exact ⟨rfl, Below.refl _ _⟩
  · rw [if_neg h1] at hM
    have h1i : ¬ (65536 : Int) < (s.size : Int) := by omega
    have HC : Hid _ := ⟨countLines_any s w (by omega)⟩
    by_cases h2 : 4000 < (linesM (lo s)).length
    · rw [if_pos h2] at hM
      subst hM
      have h2i : (4000 : Int) < ((linesM (lo s)).length : Int) := by omega
      generalize (linesM (lo s)).length = nl at *
      clear hE
      go_enter Tryz.func24, Tryz.ntmps24
      go_wp2_with (go_at_call 33; (with_reducible refine HC.out.mono ?_); rintro e w' ⟨rfl, hw'⟩; subst w')
      go_ret3
      exact ⟨rfl, Below.refl _ _⟩
    · rw [if_neg h2] at hM
      have h2i : ¬ (4000 : Int) < ((linesM (lo s)).length : Int) := by omega
      have HN : Hid _ := ⟨newReader_any s w hE⟩
      have HCut : Hid (∀ W rb, RD W rb s 0 0 (.slice none 0 0) → Calls Tryz.prog 35 #[.pointer (some ⟨rb, 0, none⟩)] W fun e w' => CutE (cutF (linesM (lo s)) 1 []) rb (rb + 1) s W e w') := ⟨fun W rb hW => cut_any hW (by omega) (rb + 1) (by omega) hW.lt⟩
      generalize hC : cutF (linesM (lo s)) 1 [] = C at *
      generalize (linesM (lo s)).length = nl at *
      cases C with
      | error k =>
        have hM' : Except.error (k, 100) = M := hM
        subst hM'
        dsimp only [CutE] at HCut
        clear hM hE hC
        go_enter Tryz.func24, Tryz.ntmps24
        go_wp2_with (first
          | (go_at_call 33; (with_reducible refine HC.out.mono ?_); rintro e w' ⟨rfl, hw'⟩; subst w')
          | (go_at_call 34; (with_reducible refine HN.out.mono ?_); rintro e w1 ⟨rb, rfl, hrb, R1, B1⟩; have HR1 : Hid _ := ⟨R1⟩; clear R1)
          | (go_at_call 35; (with_reducible refine (HCut.out _ _ HR1.out).mono ?_); rintro e w2 ⟨rfl, a', lv', R2, T2⟩; have c2 := R2.c2; have B2 : Below w.heap.size w w2 := B1.trans (T2.below B1.size (fun k e => by omega)); clear R2 T2))
        go_quiet (fail)
        go_wp2
        go_ret3
        exact ⟨rfl, below_drewN B2 _⟩
      | ok ts =>
        have hM' : Except.ok ts = M := hM
        subst hM'
        dsimp only [CutE] at HCut
        clear hM hE hC
        go_enter Tryz.func24, Tryz.ntmps24
        go_wp2_with (first
          | (go_at_call 33; (with_reducible refine HC.out.mono ?_); rintro e w' ⟨rfl, hw'⟩; subst w')
          | (go_at_call 34; (with_reducible refine HN.out.mono ?_); rintro e w1 ⟨rb, rfl, hrb, R1, B1⟩; have HR1 : Hid _ := ⟨R1⟩; clear R1)
          | (go_at_call 35; (with_reducible refine (HCut.out _ _ HR1.out).mono ?_); rintro e w2 ⟨rfl, a', ln', lv', R2, O2, T2⟩; have c3 := R2.c3; have HO2 : Hid _ := ⟨O2⟩; have B2 : Below w.heap.size w w2 := B1.trans (T2.below B1.size (fun k e => by omega)); clear R2 T2 O2))
        go_ret3
        exact ⟨_, rfl, HO2.out.lower (by omega), B2⟩
end Go.Proofs.YtljmbgflcidokaaGreatDoor
