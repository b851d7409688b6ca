/- The program's numbers: the walks, by what stands first. -/
import Derived.Test.YthdkbjifjmhgoaaDoorQxT3
import Derived.Deep.RegionWith
namespace Go.Proofs.YthdkbjifjmhgoaaDoor
open Go.ChangeShapes Go.WideShapes Go.ChangeAt Go.RowKit
set_option linter.unusedVariables false
set_option linter.unusedSimpArgs false
section
variable {w w1 w2 : World} {rb : Nat} {s : ByteArray} {a : Nat} {ln : Int} {lv : Value}

set_option maxHeartbeats 4000000 in
set_option maxRecDepth 10000 in
theorem number_A (h : RD w rb s a ln lv) (q n f : Nat) (T : ByteArray) (R : Option Int) (nx : Bool) (ht : Tail s ln lv rb f q 10 T R nx) (hq : a + n = q) (hf : f = a) (HK : Hid (Calls Tryd.prog 34 #[.pointer (some ⟨rb, 0, none⟩), .int .u8 48] (w.alloc tokZP) fun e w' => e = .returned (.bool false) ∧ RD w' rb s a ln lv ∧ TR rb (w.alloc tokZP) w')) (HS : Hid (∀ W, RD W rb s a ln lv → Calls Tryd.prog 31 #[.pointer (some ⟨rb, 0, none⟩), .int .u8 4] W fun e w' => e = .returned (.tuple #[]) ∧ RD w' rb s q ln lv ∧ TR rb W w'))
    (M : Option (Int × Nat)) (hM : M = if nx = true then none else R.map fun v => (v, n)) :
    Calls Tryd.prog 48 #[.pointer (some ⟨rb, 0, none⟩)] w fun e w' => TokE (M.map fun p => (⟨2, wrap64 p.1, []⟩, p.2)) rb s a ln lv w e w' := by
  have HR : Hid _ := ⟨h⟩
  have hne := h.lt
  have c1 := h.c1
  have hcv := conv_u64
  have HQ : Hid _ := ⟨hq⟩
  have HSi : Hid _ := ⟨ht.since⟩
  have HP0 := ht.parse
  subst hf
  cases R with
  | none =>
    have hM' : M = none := by rw [hM]; cases nx <;> simp
    rw [hM']
    have HP : Hid _ := ⟨HP0⟩
    clear h ht HP0 hM hM' hq
    go_enter Tryd.func48, Tryd.ntmps48
    go_wp2_with (first
      | (go_at_call 34; (with_reducible refine HK.out.mono ?_); rintro e w0 ⟨rfl, R0, T0⟩; have HT0 : Hid _ := ⟨T0⟩; have HR0 : Hid _ := ⟨R0⟩; clear R0 T0)
      | (go_at_call 31; (with_reducible refine (HS.out _ HR0.out).mono ?_); rintro e w1 ⟨rfl, R1, T1⟩; have HT1 : Hid _ := ⟨HT0.out.trans T1⟩; have HR1 : Hid _ := ⟨R1⟩; clear R1 T1)
      | (go_at_call 65; (with_reducible refine (HSi.out _ HR1.out).mono ?_); rintro e w2 ⟨rfl, R2, T2⟩; have HT2 : Hid _ := ⟨HT1.out.trans T2⟩; have HR2 : Hid _ := ⟨R2⟩; clear R2 T2)
      | (go_at_call 66; (with_reducible refine (HP.out _ HR2.out).mono ?_); rintro e w3 ⟨⟨x, N, rfl⟩, R3, T3⟩; have HT3 : Hid _ := ⟨HT2.out.trans T3⟩; have HR3 : Hid _ := ⟨R3⟩; clear R3 T3; obtain ⟨d0, d1, d2, d3, fz⟩ := TBP.of HR.out HT3.out; have f0 := fz 0; have f1 := fz 1; have f2 := fz 2; have f3 := fz 3; clear fz))
    refine bodyPost_ret (resS_number _ w3 w.heap.size _ _ _ _ rfl (TBP.of HR.out HT3.out)) rfl ?_
    exact ⟨_, _, _, _, _, rfl, HR3.out.set4 hne _ _ _ _, TR.set4 HT3.out _ _ _ _⟩
  | some v =>
    have HP : Hid _ := ⟨HP0⟩
    cases nx
    · rw [if_neg (by simp)] at hM
      rw [hM]
      have HO : Hid _ := ⟨ht.yes rfl⟩
      clear h ht HP0 hM hq
      go_enter Tryd.func48, Tryd.ntmps48
      go_wp2_with (first
        | (go_at_call 34; (with_reducible refine HK.out.mono ?_); rintro e w0 ⟨rfl, R0, T0⟩; have HT0 : Hid _ := ⟨T0⟩; have HR0 : Hid _ := ⟨R0⟩; clear R0 T0)
        | (go_at_call 31; (with_reducible refine (HS.out _ HR0.out).mono ?_); rintro e w1 ⟨rfl, R1, T1⟩; have HT1 : Hid _ := ⟨HT0.out.trans T1⟩; have HR1 : Hid _ := ⟨R1⟩; clear R1 T1)
        | (go_at_call 65; (with_reducible refine (HSi.out _ HR1.out).mono ?_); rintro e w2 ⟨rfl, R2, T2⟩; have HT2 : Hid _ := ⟨HT1.out.trans T2⟩; have HR2 : Hid _ := ⟨R2⟩; clear R2 T2)
        | (go_at_call 66; (with_reducible refine (HP.out _ HR2.out).mono ?_); rintro e w3 ⟨rfl, R3, T3⟩; have HT3 : Hid _ := ⟨HT2.out.trans T3⟩; have HR3 : Hid _ := ⟨R3⟩; clear R3 T3)
        | (go_at_call 67; (with_reducible refine (HO.out _ _ HR3.out).mono ?_); rintro e w4 ⟨rfl, R4, T4⟩; have HT4 : Hid _ := ⟨HT3.out.trans T4⟩; have HR4 : Hid _ := ⟨R4⟩; clear R4 T4; obtain ⟨d0, d1, d2, d3, fz⟩ := TBP.of HR.out HT4.out; have f0 := fz 0; have f1 := fz 1; have f2 := fz 2; have f3 := fz 3; clear fz))
      refine bodyPost_ret (resS_number _ w4 w.heap.size _ _ _ _ rfl (TBP.of HR.out HT4.out)) rfl ?_
      exact ⟨rfl, by rw [HQ.out]; exact HR4.out.set4 hne _ _ _ _, TR.set4 HT4.out _ _ _ _⟩
    · rw [if_pos rfl] at hM
      rw [hM]
      have HO : Hid _ := ⟨ht.no rfl⟩
      clear h ht HP0 hM hq
      go_enter Tryd.func48, Tryd.ntmps48
      go_wp2_with (first
        | (go_at_call 34; (with_reducible refine HK.out.mono ?_); rintro e w0 ⟨rfl, R0, T0⟩; have HT0 : Hid _ := ⟨T0⟩; have HR0 : Hid _ := ⟨R0⟩; clear R0 T0)
        | (go_at_call 31; (with_reducible refine (HS.out _ HR0.out).mono ?_); rintro e w1 ⟨rfl, R1, T1⟩; have HT1 : Hid _ := ⟨HT0.out.trans T1⟩; have HR1 : Hid _ := ⟨R1⟩; clear R1 T1)
        | (go_at_call 65; (with_reducible refine (HSi.out _ HR1.out).mono ?_); rintro e w2 ⟨rfl, R2, T2⟩; have HT2 : Hid _ := ⟨HT1.out.trans T2⟩; have HR2 : Hid _ := ⟨R2⟩; clear R2 T2)
        | (go_at_call 66; (with_reducible refine (HP.out _ HR2.out).mono ?_); rintro e w3 ⟨rfl, R3, T3⟩; have HT3 : Hid _ := ⟨HT2.out.trans T3⟩; have HR3 : Hid _ := ⟨R3⟩; clear R3 T3)
        | (go_at_call 67; (with_reducible refine (HO.out _ _ HR3.out).mono ?_); rintro e w4 ⟨p, q', r', t', a', rfl, R4, T4⟩; have HT4 : Hid _ := ⟨HT3.out.trans T4⟩; have HR4 : Hid _ := ⟨R4⟩; clear R4 T4; obtain ⟨d0, d1, d2, d3, fz⟩ := TBP.of HR.out HT4.out; have f0 := fz 0; have f1 := fz 1; have f2 := fz 2; have f3 := fz 3; clear fz))
      refine bodyPost_ret (resS_number _ w4 w.heap.size _ _ _ _ rfl (TBP.of HR.out HT4.out)) rfl ?_
      exact ⟨_, _, _, _, _, rfl, HR4.out.set4 hne _ _ _ _, TR.set4 HT4.out _ _ _ _⟩

set_option maxHeartbeats 4000000 in
set_option maxRecDepth 10000 in
theorem number_B (h : RD w rb s a ln lv) (q n f : Nat) (m : Nat) (T : ByteArray) (R : Option Int) (nx : Bool) (ht : Tail s ln lv rb f q 16 T R nx) (hq : a + n = q) (hT : (T.size : Int) = (m : Int)) (HK : Hid (Calls Tryd.prog 34 #[.pointer (some ⟨rb, 0, none⟩), .int .u8 48] (w.alloc tokZP) fun e w' => e = .returned (.bool true) ∧ RD w' rb s (a + 1) ln lv ∧ TR rb (w.alloc tokZP) w')) (HX : Hid (∀ W, RD W rb s (a + 1) ln lv → Calls Tryd.prog 34 #[.pointer (some ⟨rb, 0, none⟩), .int .u8 120] W fun e w' => e = .returned (.bool true) ∧ RD w' rb s f ln lv ∧ TR rb W w')) (HS : Hid (∀ W, RD W rb s f ln lv → Calls Tryd.prog 31 #[.pointer (some ⟨rb, 0, none⟩), .int .u8 8] W fun e w' => e = .returned (.tuple #[]) ∧ RD w' rb s q ln lv ∧ TR rb W w'))
    (M : Option (Int × Nat)) (hM : M = if 16 < m ∨ nx = true then none else R.map fun v => (v, n)) :
    Calls Tryd.prog 48 #[.pointer (some ⟨rb, 0, none⟩)] w fun e w' => TokE (M.map fun p => (⟨2, wrap64 p.1, []⟩, p.2)) rb s a ln lv w e w' := by
  have HR : Hid _ := ⟨h⟩
  have hne := h.lt
  have c1 := h.c1
  have hcv := conv_u64
  have HQ : Hid _ := ⟨hq⟩
  have HSi : Hid _ := ⟨ht.since⟩
  have HP0 := ht.parse
  cases R with
  | none =>
    have hM' : M = none := by rw [hM]; cases nx <;> simp
    rw [hM']
    have HP : Hid _ := ⟨HP0⟩
    clear h ht HP0 hM hM' hq
    go_enter Tryd.func48, Tryd.ntmps48
    go_wp2_with (first
      | (go_at_call_of 34 (Value.int IntKind.u8 48); (with_reducible refine HK.out.mono ?_); rintro e w0 ⟨rfl, R0, T0⟩; have HT0 : Hid _ := ⟨T0⟩; have HR0 : Hid _ := ⟨R0⟩; clear R0 T0)
      | (go_at_call_of 34 (Value.int IntKind.u8 120); (with_reducible refine (HX.out _ HR0.out).mono ?_); rintro e wx ⟨rfl, Rx, Tx⟩; have gx := Rx.c1; have HTx : Hid _ := ⟨HT0.out.trans Tx⟩; have HRx : Hid _ := ⟨Rx⟩; clear Rx Tx)
      | (go_at_call 31; (with_reducible refine (HS.out _ HRx.out).mono ?_); rintro e w1 ⟨rfl, R1, T1⟩; have HT1 : Hid _ := ⟨HTx.out.trans T1⟩; have HR1 : Hid _ := ⟨R1⟩; clear R1 T1)
      | (go_at_call 65; (with_reducible refine (HSi.out _ HR1.out).mono ?_); rintro e w2 ⟨rfl, R2, T2⟩; have HT2 : Hid _ := ⟨HT1.out.trans T2⟩; have HR2 : Hid _ := ⟨R2⟩; clear R2 T2)
      | (go_at_call 66; (with_reducible refine (HP.out _ HR2.out).mono ?_); rintro e w3 ⟨⟨x, N, rfl⟩, R3, T3⟩; have HT3 : Hid _ := ⟨HT2.out.trans T3⟩; have HR3 : Hid _ := ⟨R3⟩; clear R3 T3; obtain ⟨d0, d1, d2, d3, fz⟩ := TBP.of HR.out HT3.out; have f0 := fz 0; have f1 := fz 1; have f2 := fz 2; have f3 := fz 3; clear fz))
    refine bodyPost_ret (resS_number _ w3 w.heap.size _ _ _ _ rfl (TBP.of HR.out HT3.out)) rfl ?_
    exact ⟨_, _, _, _, _, rfl, HR3.out.set4 hne _ _ _ _, TR.set4 HT3.out _ _ _ _⟩
  | some v =>
    have HP : Hid _ := ⟨HP0⟩
    by_cases h16 : 16 < m
    · have h16i : (16 : Int) < (m : Int) := by omega
      rw [if_pos (.inl h16)] at hM
      rw [hM]
      clear h ht HP0 hM hq h16
      go_enter Tryd.func48, Tryd.ntmps48
      go_wp2_with (first
        | (go_at_call_of 34 (Value.int IntKind.u8 48); (with_reducible refine HK.out.mono ?_); rintro e w0 ⟨rfl, R0, T0⟩; have HT0 : Hid _ := ⟨T0⟩; have HR0 : Hid _ := ⟨R0⟩; clear R0 T0)
        | (go_at_call_of 34 (Value.int IntKind.u8 120); (with_reducible refine (HX.out _ HR0.out).mono ?_); rintro e wx ⟨rfl, Rx, Tx⟩; have gx := Rx.c1; have HTx : Hid _ := ⟨HT0.out.trans Tx⟩; have HRx : Hid _ := ⟨Rx⟩; clear Rx Tx)
        | (go_at_call 31; (with_reducible refine (HS.out _ HRx.out).mono ?_); rintro e w1 ⟨rfl, R1, T1⟩; have HT1 : Hid _ := ⟨HTx.out.trans T1⟩; have HR1 : Hid _ := ⟨R1⟩; clear R1 T1)
        | (go_at_call 65; (with_reducible refine (HSi.out _ HR1.out).mono ?_); rintro e w2 ⟨rfl, R2, T2⟩; have HT2 : Hid _ := ⟨HT1.out.trans T2⟩; have HR2 : Hid _ := ⟨R2⟩; clear R2 T2)
        | (go_at_call 66; (with_reducible refine (HP.out _ HR2.out).mono ?_); rintro e w3 ⟨rfl, R3, T3⟩; have HT3 : Hid _ := ⟨HT2.out.trans T3⟩; have HR3 : Hid _ := ⟨R3⟩; clear R3 T3; obtain ⟨d0, d1, d2, d3, fz⟩ := TBP.of HR.out HT3.out; have f0 := fz 0; have f1 := fz 1; have f2 := fz 2; have f3 := fz 3; clear fz))
      refine bodyPost_ret (resS_number _ w3 w.heap.size _ _ _ _ rfl (TBP.of HR.out HT3.out)) rfl ?_
      exact ⟨_, _, _, _, _, rfl, HR3.out.set4 hne _ _ _ _, TR.set4 HT3.out _ _ _ _⟩
    · have h16i : ¬ (16 : Int) < (m : Int) := by omega
      cases nx
      · rw [if_neg (by rintro (h | h); exact h16 h; cases h)] at hM
        rw [hM]
        have HO : Hid _ := ⟨ht.yes rfl⟩
        clear h ht HP0 hM hq h16
        go_enter Tryd.func48, Tryd.ntmps48
        go_wp2_with (first
          | (go_at_call_of 34 (Value.int IntKind.u8 48); (with_reducible refine HK.out.mono ?_); rintro e w0 ⟨rfl, R0, T0⟩; have HT0 : Hid _ := ⟨T0⟩; have HR0 : Hid _ := ⟨R0⟩; clear R0 T0)
          | (go_at_call_of 34 (Value.int IntKind.u8 120); (with_reducible refine (HX.out _ HR0.out).mono ?_); rintro e wx ⟨rfl, Rx, Tx⟩; have gx := Rx.c1; have HTx : Hid _ := ⟨HT0.out.trans Tx⟩; have HRx : Hid _ := ⟨Rx⟩; clear Rx Tx)
          | (go_at_call 31; (with_reducible refine (HS.out _ HRx.out).mono ?_); rintro e w1 ⟨rfl, R1, T1⟩; have HT1 : Hid _ := ⟨HTx.out.trans T1⟩; have HR1 : Hid _ := ⟨R1⟩; clear R1 T1)
          | (go_at_call 65; (with_reducible refine (HSi.out _ HR1.out).mono ?_); rintro e w2 ⟨rfl, R2, T2⟩; have HT2 : Hid _ := ⟨HT1.out.trans T2⟩; have HR2 : Hid _ := ⟨R2⟩; clear R2 T2)
          | (go_at_call 66; (with_reducible refine (HP.out _ HR2.out).mono ?_); rintro e w3 ⟨rfl, R3, T3⟩; have HT3 : Hid _ := ⟨HT2.out.trans T3⟩; have HR3 : Hid _ := ⟨R3⟩; clear R3 T3)
          | (go_at_call 67; (with_reducible refine (HO.out _ _ HR3.out).mono ?_); rintro e w4 ⟨rfl, R4, T4⟩; have HT4 : Hid _ := ⟨HT3.out.trans T4⟩; have HR4 : Hid _ := ⟨R4⟩; clear R4 T4; obtain ⟨d0, d1, d2, d3, fz⟩ := TBP.of HR.out HT4.out; have f0 := fz 0; have f1 := fz 1; have f2 := fz 2; have f3 := fz 3; clear fz))
        refine bodyPost_ret (resS_number _ w4 w.heap.size _ _ _ _ rfl (TBP.of HR.out HT4.out)) rfl ?_
        exact ⟨rfl, by rw [HQ.out]; exact HR4.out.set4 hne _ _ _ _, TR.set4 HT4.out _ _ _ _⟩
      · rw [if_pos (.inr rfl)] at hM
        rw [hM]
        have HO : Hid _ := ⟨ht.no rfl⟩
        clear h ht HP0 hM hq h16
        go_enter Tryd.func48, Tryd.ntmps48
        go_wp2_with (first
          | (go_at_call_of 34 (Value.int IntKind.u8 48); (with_reducible refine HK.out.mono ?_); rintro e w0 ⟨rfl, R0, T0⟩; have HT0 : Hid _ := ⟨T0⟩; have HR0 : Hid _ := ⟨R0⟩; clear R0 T0)
          | (go_at_call_of 34 (Value.int IntKind.u8 120); (with_reducible refine (HX.out _ HR0.out).mono ?_); rintro e wx ⟨rfl, Rx, Tx⟩; have gx := Rx.c1; have HTx : Hid _ := ⟨HT0.out.trans Tx⟩; have HRx : Hid _ := ⟨Rx⟩; clear Rx Tx)
          | (go_at_call 31; (with_reducible refine (HS.out _ HRx.out).mono ?_); rintro e w1 ⟨rfl, R1, T1⟩; have HT1 : Hid _ := ⟨HTx.out.trans T1⟩; have HR1 : Hid _ := ⟨R1⟩; clear R1 T1)
          | (go_at_call 65; (with_reducible refine (HSi.out _ HR1.out).mono ?_); rintro e w2 ⟨rfl, R2, T2⟩; have HT2 : Hid _ := ⟨HT1.out.trans T2⟩; have HR2 : Hid _ := ⟨R2⟩; clear R2 T2)
          | (go_at_call 66; (with_reducible refine (HP.out _ HR2.out).mono ?_); rintro e w3 ⟨rfl, R3, T3⟩; have HT3 : Hid _ := ⟨HT2.out.trans T3⟩; have HR3 : Hid _ := ⟨R3⟩; clear R3 T3)
          | (go_at_call 67; (with_reducible refine (HO.out _ _ HR3.out).mono ?_); rintro e w4 ⟨p, q', r', t', a', rfl, R4, T4⟩; have HT4 : Hid _ := ⟨HT3.out.trans T4⟩; have HR4 : Hid _ := ⟨R4⟩; clear R4 T4; obtain ⟨d0, d1, d2, d3, fz⟩ := TBP.of HR.out HT4.out; have f0 := fz 0; have f1 := fz 1; have f2 := fz 2; have f3 := fz 3; clear fz))
        refine bodyPost_ret (resS_number _ w4 w.heap.size _ _ _ _ rfl (TBP.of HR.out HT4.out)) rfl ?_
        exact ⟨_, _, _, _, _, rfl, HR4.out.set4 hne _ _ _ _, TR.set4 HT4.out _ _ _ _⟩

set_option maxHeartbeats 4000000 in
set_option maxRecDepth 10000 in
theorem number_C (h : RD w rb s a ln lv) (q n f : Nat) (T : ByteArray) (R : Option Int) (nx : Bool) (ht : Tail s ln lv rb f q 10 T R nx) (hq : a + n = q) (hf : f = a) (HK : Hid (Calls Tryd.prog 34 #[.pointer (some ⟨rb, 0, none⟩), .int .u8 48] (w.alloc tokZP) fun e w' => e = .returned (.bool true) ∧ RD w' rb s q ln lv ∧ TR rb (w.alloc tokZP) w')) (HX : Hid (∀ W, RD W rb s q ln lv → Calls Tryd.prog 34 #[.pointer (some ⟨rb, 0, none⟩), .int .u8 120] W fun e w' => e = .returned (.bool false) ∧ RD w' rb s q ln lv ∧ TR rb W w'))
    (M : Option (Int × Nat)) (hM : M = if nx = true then none else R.map fun v => (v, n)) :
    Calls Tryd.prog 48 #[.pointer (some ⟨rb, 0, none⟩)] w fun e w' => TokE (M.map fun p => (⟨2, wrap64 p.1, []⟩, p.2)) rb s a ln lv w e w' := by
  have HR : Hid _ := ⟨h⟩
  have hne := h.lt
  have c1 := h.c1
  have hcv := conv_u64
  have HQ : Hid _ := ⟨hq⟩
  have HSi : Hid _ := ⟨ht.since⟩
  have HP0 := ht.parse
  subst hf
  cases R with
  | none =>
    have hM' : M = none := by rw [hM]; cases nx <;> simp
    rw [hM']
    have HP : Hid _ := ⟨HP0⟩
    clear h ht HP0 hM hM' hq
    go_enter Tryd.func48, Tryd.ntmps48
    go_wp2_with (first
      | (go_at_call_of 34 (Value.int IntKind.u8 48); (with_reducible refine HK.out.mono ?_); rintro e w0 ⟨rfl, R0, T0⟩; have HT0 : Hid _ := ⟨T0⟩; have HR0 : Hid _ := ⟨R0⟩; clear R0 T0)
      | (go_at_call_of 34 (Value.int IntKind.u8 120); (with_reducible refine (HX.out _ HR0.out).mono ?_); rintro e w1 ⟨rfl, R1, T1⟩; have HT1 : Hid _ := ⟨HT0.out.trans T1⟩; have HR1 : Hid _ := ⟨R1⟩; clear R1 T1)
      | (go_at_call 65; (with_reducible refine (HSi.out _ HR1.out).mono ?_); rintro e w2 ⟨rfl, R2, T2⟩; have HT2 : Hid _ := ⟨HT1.out.trans T2⟩; have HR2 : Hid _ := ⟨R2⟩; clear R2 T2)
      | (go_at_call 66; (with_reducible refine (HP.out _ HR2.out).mono ?_); rintro e w3 ⟨⟨x, N, rfl⟩, R3, T3⟩; have HT3 : Hid _ := ⟨HT2.out.trans T3⟩; have HR3 : Hid _ := ⟨R3⟩; clear R3 T3; obtain ⟨d0, d1, d2, d3, fz⟩ := TBP.of HR.out HT3.out; have f0 := fz 0; have f1 := fz 1; have f2 := fz 2; have f3 := fz 3; clear fz))
    refine bodyPost_ret (resS_number _ w3 w.heap.size _ _ _ _ rfl (TBP.of HR.out HT3.out)) rfl ?_
    exact ⟨_, _, _, _, _, rfl, HR3.out.set4 hne _ _ _ _, TR.set4 HT3.out _ _ _ _⟩
  | some v =>
    have HP : Hid _ := ⟨HP0⟩
    cases nx
    · rw [if_neg (by simp)] at hM
      rw [hM]
      have HO : Hid _ := ⟨ht.yes rfl⟩
      clear h ht HP0 hM hq
      go_enter Tryd.func48, Tryd.ntmps48
      go_wp2_with (first
        | (go_at_call_of 34 (Value.int IntKind.u8 48); (with_reducible refine HK.out.mono ?_); rintro e w0 ⟨rfl, R0, T0⟩; have HT0 : Hid _ := ⟨T0⟩; have HR0 : Hid _ := ⟨R0⟩; clear R0 T0)
        | (go_at_call_of 34 (Value.int IntKind.u8 120); (with_reducible refine (HX.out _ HR0.out).mono ?_); rintro e w1 ⟨rfl, R1, T1⟩; have HT1 : Hid _ := ⟨HT0.out.trans T1⟩; have HR1 : Hid _ := ⟨R1⟩; clear R1 T1)
        | (go_at_call 65; (with_reducible refine (HSi.out _ HR1.out).mono ?_); rintro e w2 ⟨rfl, R2, T2⟩; have HT2 : Hid _ := ⟨HT1.out.trans T2⟩; have HR2 : Hid _ := ⟨R2⟩; clear R2 T2)
        | (go_at_call 66; (with_reducible refine (HP.out _ HR2.out).mono ?_); rintro e w3 ⟨rfl, R3, T3⟩; have HT3 : Hid _ := ⟨HT2.out.trans T3⟩; have HR3 : Hid _ := ⟨R3⟩; clear R3 T3)
        | (go_at_call 67; (with_reducible refine (HO.out _ _ HR3.out).mono ?_); rintro e w4 ⟨rfl, R4, T4⟩; have HT4 : Hid _ := ⟨HT3.out.trans T4⟩; have HR4 : Hid _ := ⟨R4⟩; clear R4 T4; obtain ⟨d0, d1, d2, d3, fz⟩ := TBP.of HR.out HT4.out; have f0 := fz 0; have f1 := fz 1; have f2 := fz 2; have f3 := fz 3; clear fz))
      refine bodyPost_ret (resS_number _ w4 w.heap.size _ _ _ _ rfl (TBP.of HR.out HT4.out)) rfl ?_
      exact ⟨rfl, by rw [HQ.out]; exact HR4.out.set4 hne _ _ _ _, TR.set4 HT4.out _ _ _ _⟩
    · rw [if_pos rfl] at hM
      rw [hM]
      have HO : Hid _ := ⟨ht.no rfl⟩
      clear h ht HP0 hM hq
      go_enter Tryd.func48, Tryd.ntmps48
      go_wp2_with (first
        | (go_at_call_of 34 (Value.int IntKind.u8 48); (with_reducible refine HK.out.mono ?_); rintro e w0 ⟨rfl, R0, T0⟩; have HT0 : Hid _ := ⟨T0⟩; have HR0 : Hid _ := ⟨R0⟩; clear R0 T0)
        | (go_at_call_of 34 (Value.int IntKind.u8 120); (with_reducible refine (HX.out _ HR0.out).mono ?_); rintro e w1 ⟨rfl, R1, T1⟩; have HT1 : Hid _ := ⟨HT0.out.trans T1⟩; have HR1 : Hid _ := ⟨R1⟩; clear R1 T1)
        | (go_at_call 65; (with_reducible refine (HSi.out _ HR1.out).mono ?_); rintro e w2 ⟨rfl, R2, T2⟩; have HT2 : Hid _ := ⟨HT1.out.trans T2⟩; have HR2 : Hid _ := ⟨R2⟩; clear R2 T2)
        | (go_at_call 66; (with_reducible refine (HP.out _ HR2.out).mono ?_); rintro e w3 ⟨rfl, R3, T3⟩; have HT3 : Hid _ := ⟨HT2.out.trans T3⟩; have HR3 : Hid _ := ⟨R3⟩; clear R3 T3)
        | (go_at_call 67; (with_reducible refine (HO.out _ _ HR3.out).mono ?_); rintro e w4 ⟨p, q', r', t', a', rfl, R4, T4⟩; have HT4 : Hid _ := ⟨HT3.out.trans T4⟩; have HR4 : Hid _ := ⟨R4⟩; clear R4 T4; obtain ⟨d0, d1, d2, d3, fz⟩ := TBP.of HR.out HT4.out; have f0 := fz 0; have f1 := fz 1; have f2 := fz 2; have f3 := fz 3; clear fz))
      refine bodyPost_ret (resS_number _ w4 w.heap.size _ _ _ _ rfl (TBP.of HR.out HT4.out)) rfl ?_
      exact ⟨_, _, _, _, _, rfl, HR4.out.set4 hne _ _ _ _, TR.set4 HT4.out _ _ _ _⟩

end
end Go.Proofs.YthdkbjifjmhgoaaDoor
