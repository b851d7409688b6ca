/- The program's tokens: numbers. The program's numbers: the walks, by what stands first. The program's tokens: any number; the bytes of a text. The program's texts: two digits, escapes, bytes. The program's texts: escapes, bytes, whole texts. The program's tokens: whole texts; any token. -/
import Derived.Test.YtljmbgflcidokaaGreatDoorQxV
import Derived.Test.YtljmbgflcidokaaGreatDoorQxN
import Derived.Deep.RegionWith
namespace Go.Proofs.YtljmbgflcidokaaGreatDoor
open Go.ChangeShapes Go.WideShapes Go.ChangeAt Go.RowKit
set_option linter.unusedVariables false
set_option linter.unusedSimpArgs false
section
variable {w w1 w2 : World} {rb : Nat} {s : ByteArray} {a : Nat} {ln : Int} {lv : Value}

theorem numberOf_yes (h : RD w rb s a ln lv) (n : Int) (hb : kB 22 (hdZ (Ln s a)) = false) : Calls Tryz.prog 96 #[.pointer (some ⟨rb, 0, none⟩), .int .i64 n] w fun e w' => e = .returned (.tuple #[.agg #[.int .i64 2, .int .i64 0, .int .i64 n, .string ⟨#[]⟩], .bool true]) ∧ RD w' rb s a ln lv ∧ TR rb w w' := by
  have := numberOf_any h n
  rw [hb, if_neg (by simp)] at this
  exact this
theorem numberOf_no (h : RD w rb s a ln lv) (n : Int) (hb : kB 22 (hdZ (Ln s a)) = true) : Calls Tryz.prog 96 #[.pointer (some ⟨rb, 0, none⟩), .int .i64 n] w fun e w' => ∃ (p q r : Int) (t : ByteArray) (a' : Nat), e = .returned (.tuple #[.agg #[.int .i64 p, .int .i64 q, .int .i64 r, .string t], .bool false]) ∧ RD w' rb s a' ln lv ∧ TR rb w w' := by
  have := numberOf_any h n
  rw [hb, if_pos rfl] at this
  exact this
theorem conv_u64 (v : Int) (W : World) : (convert 86 3 (.int .u64 v)).run Tryz.prog W = .ok (.int .i64 (wrap64 v)) W := by
  have : IntKind.i64.wrap v = wrap64 v := by rw [IntKind.wrap_i64]; unfold wrap64; omega
  simp [go_sem, this]

/-- How a number goes on behind its digits: from f to q, to the base B. -/
structure Tail (s : ByteArray) (ln : Int) (lv : Value) (rb f q : Nat) (B : Int) (T : ByteArray) (R : Option Int) (nx : Bool) : Prop where
  since : ∀ W, RD W rb s q ln lv → Calls Tryz.prog 94 #[.pointer (some ⟨rb, 0, none⟩), .int .i64 f] W fun e w' => e = .returned (.string T) ∧ RD w' rb s q ln lv ∧ TR rb W w'
  parse : ∀ W, RD W rb s q ln lv → Calls Tryz.prog 95 #[.string T, .int .i64 B, .int .i64 64] W fun e w' => (match R with | some v => e = .returned (.tuple #[.int .u64 v, .nilIface]) | none => Bad e) ∧ RD w' rb s q ln lv ∧ TR rb W w'
  yes : nx = false → ∀ W n, RD W rb s q ln lv → Calls Tryz.prog 96 #[.pointer (some ⟨rb, 0, none⟩), .int .i64 n] W fun e w' => e = .returned (.tuple #[.agg #[.int .i64 2, .int .i64 0, .int .i64 n, .string ⟨#[]⟩], .bool true]) ∧ RD w' rb s q ln lv ∧ TR rb W w'
  no : nx = true → ∀ W n, RD W rb s q ln lv → Calls Tryz.prog 96 #[.pointer (some ⟨rb, 0, none⟩), .int .i64 n] W fun e w' => ∃ (p q r : Int) (t : ByteArray) (a' : Nat), e = .returned (.tuple #[.agg #[.int .i64 p, .int .i64 q, .int .i64 r, .string t], .bool false]) ∧ RD w' rb s a' ln lv ∧ TR rb W w'

theorem tail_10 (s : ByteArray) (ln : Int) (lv : Value) (rb f n : Nat) (hl : s.size ≤ 8796093022208) (hf : f ≤ s.size) (hn : n ≤ (Ln s f).length) (hd : ∀ c ∈ (Ln s f).take n, isDig c = true) (h1 : 1 ≤ n) : Tail s ln lv rb f (f + n) 10 (St ((Ln s f).take n)) (puF 10 1844674407370955162 18446744073709551615 ((Ln s f).take n) 0) (kB 22 (hdZ ((Ln s f).drop n))) := by
  have htop := Ln_top s n f hn hf
  refine ⟨fun W hW => ?_, fun W hW => ?_, fun hb W m hW => ?_, fun hb W m hW => ?_⟩
  · have := since_t hW f (by omega) htop hl
    rw [Ln_sub hn] at this
    exact this
  · have := pu_10_64 (St ((Ln s f).take n)) (by rw [St_size, List.length_take]; omega) (fun c hc => by rw [lo_St] at hc; obtain ⟨a1, a2, a3⟩ := dig_hex (hd c hc); omega) W hW.er
    rw [lo_St, if_neg (fun e => by have := congrArg List.length e; rw [List.length_take, Nat.min_eq_left hn] at this; simp at this; omega)] at this
    refine this.mono ?_
    rintro e w' ⟨h1, h2⟩
    exact ⟨h1, hW.below h2, Turn.of_below h2 _⟩
  · exact numberOf_yes hW m (by rw [Ln_drop s n f hn]; exact hb)
  · exact numberOf_no hW m (by rw [Ln_drop s n f hn]; exact hb)
theorem tail_16 (s : ByteArray) (ln : Int) (lv : Value) (rb f n : Nat) (hl : s.size ≤ 8796093022208) (hf : f ≤ s.size) (hn : n ≤ (Ln s f).length) (hd : ∀ c ∈ (Ln s f).take n, 0 ≤ hexZ (zOf c)) : Tail s ln lv rb f (f + n) 16 (St ((Ln s f).take n)) (if n = 0 then none else puF 16 1152921504606846976 18446744073709551615 ((Ln s f).take n) 0) (kB 22 (hdZ ((Ln s f).drop n))) := by
  have htop := Ln_top s n f hn hf
  refine ⟨fun W hW => ?_, fun W hW => ?_, fun hb W m hW => ?_, fun hb W m hW => ?_⟩
  · have := since_t hW f (by omega) htop hl
    rw [Ln_sub hn] at this
    exact this
  · have := pu_16_64 (St ((Ln s f).take n)) (by rw [St_size, List.length_take]; omega) (fun c hc => by rw [lo_St] at hc; exact ⟨hd c hc, hex_lt _⟩) W hW.er
    rw [lo_St] at this
    have e : (if (Ln s f).take n = [] then none else puF 16 1152921504606846976 18446744073709551615 ((Ln s f).take n) 0) = (if n = 0 then none else puF 16 1152921504606846976 18446744073709551615 ((Ln s f).take n) 0) := by
      by_cases h0 : n = 0
      · subst h0; rfl
      · rw [if_neg h0, if_neg (fun e => by have := congrArg List.length e; rw [List.length_take, Nat.min_eq_left hn] at this; simp at this; omega)]
    rw [e] at this
    refine this.mono ?_
    rintro e w' ⟨h1, h2⟩
    exact ⟨h1, hW.below h2, Turn.of_below h2 _⟩
  · exact numberOf_yes hW m (by rw [Ln_drop s n f hn]; exact hb)
  · exact numberOf_no hW m (by rw [Ln_drop s n f hn]; exact hb)
end
section
variable {w w1 w2 : World} {rb : Nat} {s : ByteArray} {a : Nat} {ln : Int} {lv : Value}

set_option maxHeartbeats 4000000 in
set_option maxRecDepth 10000 in
theorem number_A (h : RD w rb s a ln lv) (q n f : Nat) (T : ByteArray) (R : Option Int) (nx : Bool) (ht : Tail s ln lv rb f q 10 T R nx) (hq : a + n = q) (hf : f = a) (HK : Hid (Calls Tryz.prog 57 #[.pointer (some ⟨rb, 0, none⟩), .int .u8 48] (w.alloc tokZP) fun e w' => e = .returned (.bool false) ∧ RD w' rb s a ln lv ∧ TR rb (w.alloc tokZP) w')) (HS : Hid (∀ W, RD W rb s a ln lv → Calls Tryz.prog 54 #[.pointer (some ⟨rb, 0, none⟩), .int .u8 4] W fun e w' => e = .returned (.tuple #[]) ∧ RD w' rb s q ln lv ∧ TR rb W w'))
    (M : Option (Int × Nat)) (hM : M = if nx = true then none else R.map fun v => (v, n)) :
    Calls Tryz.prog 78 #[.pointer (some ⟨rb, 0, none⟩)] w fun e w' => TokE (M.map fun p => (⟨2, wrap64 p.1, []⟩, p.2)) rb s a ln lv w e w' := by
  have HR : Hid _ := ⟨h⟩
  have hne := h.lt
  have c1 := h.c1
  have hcv := conv_u64
  have HQ : Hid _ := ⟨hq⟩
  have HSi : Hid _ := ⟨ht.since⟩
  have HP0 := ht.parse
  subst hf
  cases R with
  | none =>
    have hM' : M = none := by rw [hM]; cases nx <;> simp
    rw [hM']
    have HP : Hid _ := ⟨HP0⟩
    clear h ht HP0 hM hM' hq
    go_enter Tryz.func78, Tryz.ntmps78
    go_wp2_with (first
      | (go_at_call 57; (with_reducible refine HK.out.mono ?_); rintro e w0 ⟨rfl, R0, T0⟩; have HT0 : Hid _ := ⟨T0⟩; have HR0 : Hid _ := ⟨R0⟩; clear R0 T0)
      | (go_at_call 54; (with_reducible refine (HS.out _ HR0.out).mono ?_); rintro e w1 ⟨rfl, R1, T1⟩; have HT1 : Hid _ := ⟨HT0.out.trans T1⟩; have HR1 : Hid _ := ⟨R1⟩; clear R1 T1)
      | (go_at_call 94; (with_reducible refine (HSi.out _ HR1.out).mono ?_); rintro e w2 ⟨rfl, R2, T2⟩; have HT2 : Hid _ := ⟨HT1.out.trans T2⟩; have HR2 : Hid _ := ⟨R2⟩; clear R2 T2)
      | (go_at_call 95; (with_reducible refine (HP.out _ HR2.out).mono ?_); rintro e w3 ⟨⟨x, N, rfl⟩, R3, T3⟩; have HT3 : Hid _ := ⟨HT2.out.trans T3⟩; have HR3 : Hid _ := ⟨R3⟩; clear R3 T3; obtain ⟨d0, d1, d2, d3, fz⟩ := TBP.of HR.out HT3.out; have f0 := fz 0; have f1 := fz 1; have f2 := fz 2; have f3 := fz 3; clear fz))
    refine bodyPost_ret (resS_number _ w3 w.heap.size _ _ _ _ rfl (TBP.of HR.out HT3.out)) rfl ?_
    exact ⟨_, _, _, _, _, rfl, HR3.out.set4 hne _ _ _ _, TR.set4 HT3.out _ _ _ _⟩
  | some v =>
    have HP : Hid _ := ⟨HP0⟩
    cases nx
    · rw [if_neg (by simp)] at hM
      rw [hM]
      have HO : Hid _ := ⟨ht.yes rfl⟩
      clear h ht HP0 hM hq
      go_enter Tryz.func78, Tryz.ntmps78
      go_wp2_with (first
        | (go_at_call 57; (with_reducible refine HK.out.mono ?_); rintro e w0 ⟨rfl, R0, T0⟩; have HT0 : Hid _ := ⟨T0⟩; have HR0 : Hid _ := ⟨R0⟩; clear R0 T0)
        | (go_at_call 54; (with_reducible refine (HS.out _ HR0.out).mono ?_); rintro e w1 ⟨rfl, R1, T1⟩; have HT1 : Hid _ := ⟨HT0.out.trans T1⟩; have HR1 : Hid _ := ⟨R1⟩; clear R1 T1)
        | (go_at_call 94; (with_reducible refine (HSi.out _ HR1.out).mono ?_); rintro e w2 ⟨rfl, R2, T2⟩; have HT2 : Hid _ := ⟨HT1.out.trans T2⟩; have HR2 : Hid _ := ⟨R2⟩; clear R2 T2)
        | (go_at_call 95; (with_reducible refine (HP.out _ HR2.out).mono ?_); rintro e w3 ⟨rfl, R3, T3⟩; have HT3 : Hid _ := ⟨HT2.out.trans T3⟩; have HR3 : Hid _ := ⟨R3⟩; clear R3 T3)
        | (go_at_call 96; (with_reducible refine (HO.out _ _ HR3.out).mono ?_); rintro e w4 ⟨rfl, R4, T4⟩; have HT4 : Hid _ := ⟨HT3.out.trans T4⟩; have HR4 : Hid _ := ⟨R4⟩; clear R4 T4; obtain ⟨d0, d1, d2, d3, fz⟩ := TBP.of HR.out HT4.out; have f0 := fz 0; have f1 := fz 1; have f2 := fz 2; have f3 := fz 3; clear fz))
      refine bodyPost_ret (resS_number _ w4 w.heap.size _ _ _ _ rfl (TBP.of HR.out HT4.out)) rfl ?_
      exact ⟨rfl, by rw [HQ.out]; exact HR4.out.set4 hne _ _ _ _, TR.set4 HT4.out _ _ _ _⟩
    · rw [if_pos rfl] at hM
      rw [hM]
      have HO : Hid _ := ⟨ht.no rfl⟩
      clear h ht HP0 hM hq
      go_enter Tryz.func78, Tryz.ntmps78
      go_wp2_with (first
        | (go_at_call 57; (with_reducible refine HK.out.mono ?_); rintro e w0 ⟨rfl, R0, T0⟩; have HT0 : Hid _ := ⟨T0⟩; have HR0 : Hid _ := ⟨R0⟩; clear R0 T0)
        | (go_at_call 54; (with_reducible refine (HS.out _ HR0.out).mono ?_); rintro e w1 ⟨rfl, R1, T1⟩; have HT1 : Hid _ := ⟨HT0.out.trans T1⟩; have HR1 : Hid _ := ⟨R1⟩; clear R1 T1)
        | (go_at_call 94; (with_reducible refine (HSi.out _ HR1.out).mono ?_); rintro e w2 ⟨rfl, R2, T2⟩; have HT2 : Hid _ := ⟨HT1.out.trans T2⟩; have HR2 : Hid _ := ⟨R2⟩; clear R2 T2)
        | (go_at_call 95; (with_reducible refine (HP.out _ HR2.out).mono ?_); rintro e w3 ⟨rfl, R3, T3⟩; have HT3 : Hid _ := ⟨HT2.out.trans T3⟩; have HR3 : Hid _ := ⟨R3⟩; clear R3 T3)
        | (go_at_call 96; (with_reducible refine (HO.out _ _ HR3.out).mono ?_); rintro e w4 ⟨p, q', r', t', a', rfl, R4, T4⟩; have HT4 : Hid _ := ⟨HT3.out.trans T4⟩; have HR4 : Hid _ := ⟨R4⟩; clear R4 T4; obtain ⟨d0, d1, d2, d3, fz⟩ := TBP.of HR.out HT4.out; have f0 := fz 0; have f1 := fz 1; have f2 := fz 2; have f3 := fz 3; clear fz))
      refine bodyPost_ret (resS_number _ w4 w.heap.size _ _ _ _ rfl (TBP.of HR.out HT4.out)) rfl ?_
      exact ⟨_, _, _, _, _, rfl, HR4.out.set4 hne _ _ _ _, TR.set4 HT4.out _ _ _ _⟩

set_option maxHeartbeats 4000000 in
set_option maxRecDepth 10000 in
theorem number_B (h : RD w rb s a ln lv) (q n f : Nat) (m : Nat) (T : ByteArray) (R : Option Int) (nx : Bool) (ht : Tail s ln lv rb f q 16 T R nx) (hq : a + n = q) (hT : (T.size : Int) = (m : Int)) (HK : Hid (Calls Tryz.prog 57 #[.pointer (some ⟨rb, 0, none⟩), .int .u8 48] (w.alloc tokZP) fun e w' => e = .returned (.bool true) ∧ RD w' rb s (a + 1) ln lv ∧ TR rb (w.alloc tokZP) w')) (HX : Hid (∀ W, RD W rb s (a + 1) ln lv → Calls Tryz.prog 57 #[.pointer (some ⟨rb, 0, none⟩), .int .u8 120] W fun e w' => e = .returned (.bool true) ∧ RD w' rb s f ln lv ∧ TR rb W w')) (HS : Hid (∀ W, RD W rb s f ln lv → Calls Tryz.prog 54 #[.pointer (some ⟨rb, 0, none⟩), .int .u8 8] W fun e w' => e = .returned (.tuple #[]) ∧ RD w' rb s q ln lv ∧ TR rb W w'))
    (M : Option (Int × Nat)) (hM : M = if 16 < m ∨ nx = true then none else R.map fun v => (v, n)) :
    Calls Tryz.prog 78 #[.pointer (some ⟨rb, 0, none⟩)] w fun e w' => TokE (M.map fun p => (⟨2, wrap64 p.1, []⟩, p.2)) rb s a ln lv w e w' := by
  have HR : Hid _ := ⟨h⟩
  have hne := h.lt
  have c1 := h.c1
  have hcv := conv_u64
  have HQ : Hid _ := ⟨hq⟩
  have HSi : Hid _ := ⟨ht.since⟩
  have HP0 := ht.parse
  cases R with
  | none =>
    have hM' : M = none := by rw [hM]; cases nx <;> simp
    rw [hM']
    have HP : Hid _ := ⟨HP0⟩
    clear h ht HP0 hM hM' hq
    go_enter Tryz.func78, Tryz.ntmps78
    go_wp2_with (first
      | (go_at_call_of 57 (Value.int IntKind.u8 48); (with_reducible refine HK.out.mono ?_); rintro e w0 ⟨rfl, R0, T0⟩; have HT0 : Hid _ := ⟨T0⟩; have HR0 : Hid _ := ⟨R0⟩; clear R0 T0)
      | (go_at_call_of 57 (Value.int IntKind.u8 120); (with_reducible refine (HX.out _ HR0.out).mono ?_); rintro e wx ⟨rfl, Rx, Tx⟩; have gx := Rx.c1; have HTx : Hid _ := ⟨HT0.out.trans Tx⟩; have HRx : Hid _ := ⟨Rx⟩; clear Rx Tx)
      | (go_at_call 54; (with_reducible refine (HS.out _ HRx.out).mono ?_); rintro e w1 ⟨rfl, R1, T1⟩; have HT1 : Hid _ := ⟨HTx.out.trans T1⟩; have HR1 : Hid _ := ⟨R1⟩; clear R1 T1)
      | (go_at_call 94; (with_reducible refine (HSi.out _ HR1.out).mono ?_); rintro e w2 ⟨rfl, R2, T2⟩; have HT2 : Hid _ := ⟨HT1.out.trans T2⟩; have HR2 : Hid _ := ⟨R2⟩; clear R2 T2)
      | (go_at_call 95; (with_reducible refine (HP.out _ HR2.out).mono ?_); rintro e w3 ⟨⟨x, N, rfl⟩, R3, T3⟩; have HT3 : Hid _ := ⟨HT2.out.trans T3⟩; have HR3 : Hid _ := ⟨R3⟩; clear R3 T3; obtain ⟨d0, d1, d2, d3, fz⟩ := TBP.of HR.out HT3.out; have f0 := fz 0; have f1 := fz 1; have f2 := fz 2; have f3 := fz 3; clear fz))
    refine bodyPost_ret (resS_number _ w3 w.heap.size _ _ _ _ rfl (TBP.of HR.out HT3.out)) rfl ?_
    exact ⟨_, _, _, _, _, rfl, HR3.out.set4 hne _ _ _ _, TR.set4 HT3.out _ _ _ _⟩
  | some v =>
    have HP : Hid _ := ⟨HP0⟩
    by_cases h16 : 16 < m
    · have h16i : (16 : Int) < (m : Int) := by omega
      rw [if_pos (.inl h16)] at hM
      rw [hM]
      clear h ht HP0 hM hq h16
      go_enter Tryz.func78, Tryz.ntmps78
      go_wp2_with (first
        | (go_at_call_of 57 (Value.int IntKind.u8 48); (with_reducible refine HK.out.mono ?_); rintro e w0 ⟨rfl, R0, T0⟩; have HT0 : Hid _ := ⟨T0⟩; have HR0 : Hid _ := ⟨R0⟩; clear R0 T0)
        | (go_at_call_of 57 (Value.int IntKind.u8 120); (with_reducible refine (HX.out _ HR0.out).mono ?_); rintro e wx ⟨rfl, Rx, Tx⟩; have gx := Rx.c1; have HTx : Hid _ := ⟨HT0.out.trans Tx⟩; have HRx : Hid _ := ⟨Rx⟩; clear Rx Tx)
        | (go_at_call 54; (with_reducible refine (HS.out _ HRx.out).mono ?_); rintro e w1 ⟨rfl, R1, T1⟩; have HT1 : Hid _ := ⟨HTx.out.trans T1⟩; have HR1 : Hid _ := ⟨R1⟩; clear R1 T1)
        | (go_at_call 94; (with_reducible refine (HSi.out _ HR1.out).mono ?_); rintro e w2 ⟨rfl, R2, T2⟩; have HT2 : Hid _ := ⟨HT1.out.trans T2⟩; have HR2 : Hid _ := ⟨R2⟩; clear R2 T2)
        | (go_at_call 95; (with_reducible refine (HP.out _ HR2.out).mono ?_); rintro e w3 ⟨rfl, R3, T3⟩; have HT3 : Hid _ := ⟨HT2.out.trans T3⟩; have HR3 : Hid _ := ⟨R3⟩; clear R3 T3; obtain ⟨d0, d1, d2, d3, fz⟩ := TBP.of HR.out HT3.out; have f0 := fz 0; have f1 := fz 1; have f2 := fz 2; have f3 := fz 3; clear fz))
      refine bodyPost_ret (resS_number _ w3 w.heap.size _ _ _ _ rfl (TBP.of HR.out HT3.out)) rfl ?_
      exact ⟨_, _, _, _, _, rfl, HR3.out.set4 hne _ _ _ _, TR.set4 HT3.out _ _ _ _⟩
    · have h16i : ¬ (16 : Int) < (m : Int) := by omega
      cases nx
      · rw [if_neg (by rintro (h | h); exact h16 h; cases h)] at hM
        rw [hM]
        have HO : Hid _ := ⟨ht.yes rfl⟩
        clear h ht HP0 hM hq h16
        go_enter Tryz.func78, Tryz.ntmps78
        go_wp2_with (first
          | (go_at_call_of 57 (Value.int IntKind.u8 48); (with_reducible refine HK.out.mono ?_); rintro e w0 ⟨rfl, R0, T0⟩; have HT0 : Hid _ := ⟨T0⟩; have HR0 : Hid _ := ⟨R0⟩; clear R0 T0)
          | (go_at_call_of 57 (Value.int IntKind.u8 120); (with_reducible refine (HX.out _ HR0.out).mono ?_); rintro e wx ⟨rfl, Rx, Tx⟩; have gx := Rx.c1; have HTx : Hid _ := ⟨HT0.out.trans Tx⟩; have HRx : Hid _ := ⟨Rx⟩; clear Rx Tx)
          | (go_at_call 54; (with_reducible refine (HS.out _ HRx.out).mono ?_); rintro e w1 ⟨rfl, R1, T1⟩; have HT1 : Hid _ := ⟨HTx.out.trans T1⟩; have HR1 : Hid _ := ⟨R1⟩; clear R1 T1)
          | (go_at_call 94; (with_reducible refine (HSi.out _ HR1.out).mono ?_); rintro e w2 ⟨rfl, R2, T2⟩; have HT2 : Hid _ := ⟨HT1.out.trans T2⟩; have HR2 : Hid _ := ⟨R2⟩; clear R2 T2)
          | (go_at_call 95; (with_reducible refine (HP.out _ HR2.out).mono ?_); rintro e w3 ⟨rfl, R3, T3⟩; have HT3 : Hid _ := ⟨HT2.out.trans T3⟩; have HR3 : Hid _ := ⟨R3⟩; clear R3 T3)
          | (go_at_call 96; (with_reducible refine (HO.out _ _ HR3.out).mono ?_); rintro e w4 ⟨rfl, R4, T4⟩; have HT4 : Hid _ := ⟨HT3.out.trans T4⟩; have HR4 : Hid _ := ⟨R4⟩; clear R4 T4; obtain ⟨d0, d1, d2, d3, fz⟩ := TBP.of HR.out HT4.out; have f0 := fz 0; have f1 := fz 1; have f2 := fz 2; have f3 := fz 3; clear fz))
        refine bodyPost_ret (resS_number _ w4 w.heap.size _ _ _ _ rfl (TBP.of HR.out HT4.out)) rfl ?_
        exact ⟨rfl, by rw [HQ.out]; exact HR4.out.set4 hne _ _ _ _, TR.set4 HT4.out _ _ _ _⟩
      · rw [if_pos (.inr rfl)] at hM
        rw [hM]
        have HO : Hid _ := ⟨ht.no rfl⟩
        clear h ht HP0 hM hq h16
        go_enter Tryz.func78, Tryz.ntmps78
        go_wp2_with (first
          | (go_at_call_of 57 (Value.int IntKind.u8 48); (with_reducible refine HK.out.mono ?_); rintro e w0 ⟨rfl, R0, T0⟩; have HT0 : Hid _ := ⟨T0⟩; have HR0 : Hid _ := ⟨R0⟩; clear R0 T0)
          | (go_at_call_of 57 (Value.int IntKind.u8 120); (with_reducible refine (HX.out _ HR0.out).mono ?_); rintro e wx ⟨rfl, Rx, Tx⟩; have gx := Rx.c1; have HTx : Hid _ := ⟨HT0.out.trans Tx⟩; have HRx : Hid _ := ⟨Rx⟩; clear Rx Tx)
          | (go_at_call 54; (with_reducible refine (HS.out _ HRx.out).mono ?_); rintro e w1 ⟨rfl, R1, T1⟩; have HT1 : Hid _ := ⟨HTx.out.trans T1⟩; have HR1 : Hid _ := ⟨R1⟩; clear R1 T1)
          | (go_at_call 94; (with_reducible refine (HSi.out _ HR1.out).mono ?_); rintro e w2 ⟨rfl, R2, T2⟩; have HT2 : Hid _ := ⟨HT1.out.trans T2⟩; have HR2 : Hid _ := ⟨R2⟩; clear R2 T2)
          | (go_at_call 95; (with_reducible refine (HP.out _ HR2.out).mono ?_); rintro e w3 ⟨rfl, R3, T3⟩; have HT3 : Hid _ := ⟨HT2.out.trans T3⟩; have HR3 : Hid _ := ⟨R3⟩; clear R3 T3)
          | (go_at_call 96; (with_reducible refine (HO.out _ _ HR3.out).mono ?_); rintro e w4 ⟨p, q', r', t', a', rfl, R4, T4⟩; have HT4 : Hid _ := ⟨HT3.out.trans T4⟩; have HR4 : Hid _ := ⟨R4⟩; clear R4 T4; obtain ⟨d0, d1, d2, d3, fz⟩ := TBP.of HR.out HT4.out; have f0 := fz 0; have f1 := fz 1; have f2 := fz 2; have f3 := fz 3; clear fz))
        refine bodyPost_ret (resS_number _ w4 w.heap.size _ _ _ _ rfl (TBP.of HR.out HT4.out)) rfl ?_
        exact ⟨_, _, _, _, _, rfl, HR4.out.set4 hne _ _ _ _, TR.set4 HT4.out _ _ _ _⟩

set_option maxHeartbeats 4000000 in
set_option maxRecDepth 10000 in
theorem number_C (h : RD w rb s a ln lv) (q n f : Nat) (T : ByteArray) (R : Option Int) (nx : Bool) (ht : Tail s ln lv rb f q 10 T R nx) (hq : a + n = q) (hf : f = a) (HK : Hid (Calls Tryz.prog 57 #[.pointer (some ⟨rb, 0, none⟩), .int .u8 48] (w.alloc tokZP) fun e w' => e = .returned (.bool true) ∧ RD w' rb s q ln lv ∧ TR rb (w.alloc tokZP) w')) (HX : Hid (∀ W, RD W rb s q ln lv → Calls Tryz.prog 57 #[.pointer (some ⟨rb, 0, none⟩), .int .u8 120] W fun e w' => e = .returned (.bool false) ∧ RD w' rb s q ln lv ∧ TR rb W w'))
    (M : Option (Int × Nat)) (hM : M = if nx = true then none else R.map fun v => (v, n)) :
    Calls Tryz.prog 78 #[.pointer (some ⟨rb, 0, none⟩)] w fun e w' => TokE (M.map fun p => (⟨2, wrap64 p.1, []⟩, p.2)) rb s a ln lv w e w' := by
  have HR : Hid _ := ⟨h⟩
  have hne := h.lt
  have c1 := h.c1
  have hcv := conv_u64
  have HQ : Hid _ := ⟨hq⟩
  have HSi : Hid _ := ⟨ht.since⟩
  have HP0 := ht.parse
  subst hf
  cases R with
  | none =>
    have hM' : M = none := by rw [hM]; cases nx <;> simp
    rw [hM']
    have HP : Hid _ := ⟨HP0⟩
    clear h ht HP0 hM hM' hq
    go_enter Tryz.func78, Tryz.ntmps78
    go_wp2_with (first
      | (go_at_call_of 57 (Value.int IntKind.u8 48); (with_reducible refine HK.out.mono ?_); rintro e w0 ⟨rfl, R0, T0⟩; have HT0 : Hid _ := ⟨T0⟩; have HR0 : Hid _ := ⟨R0⟩; clear R0 T0)
      | (go_at_call_of 57 (Value.int IntKind.u8 120); (with_reducible refine (HX.out _ HR0.out).mono ?_); rintro e w1 ⟨rfl, R1, T1⟩; have HT1 : Hid _ := ⟨HT0.out.trans T1⟩; have HR1 : Hid _ := ⟨R1⟩; clear R1 T1)
      | (go_at_call 94; (with_reducible refine (HSi.out _ HR1.out).mono ?_); rintro e w2 ⟨rfl, R2, T2⟩; have HT2 : Hid _ := ⟨HT1.out.trans T2⟩; have HR2 : Hid _ := ⟨R2⟩; clear R2 T2)
      | (go_at_call 95; (with_reducible refine (HP.out _ HR2.out).mono ?_); rintro e w3 ⟨⟨x, N, rfl⟩, R3, T3⟩; have HT3 : Hid _ := ⟨HT2.out.trans T3⟩; have HR3 : Hid _ := ⟨R3⟩; clear R3 T3; obtain ⟨d0, d1, d2, d3, fz⟩ := TBP.of HR.out HT3.out; have f0 := fz 0; have f1 := fz 1; have f2 := fz 2; have f3 := fz 3; clear fz))
    refine bodyPost_ret (resS_number _ w3 w.heap.size _ _ _ _ rfl (TBP.of HR.out HT3.out)) rfl ?_
    exact ⟨_, _, _, _, _, rfl, HR3.out.set4 hne _ _ _ _, TR.set4 HT3.out _ _ _ _⟩
  | some v =>
    have HP : Hid _ := ⟨HP0⟩
    cases nx
    · rw [if_neg (by simp)] at hM
      rw [hM]
      have HO : Hid _ := ⟨ht.yes rfl⟩
      clear h ht HP0 hM hq
      go_enter Tryz.func78, Tryz.ntmps78
      go_wp2_with (first
        | (go_at_call_of 57 (Value.int IntKind.u8 48); (with_reducible refine HK.out.mono ?_); rintro e w0 ⟨rfl, R0, T0⟩; have HT0 : Hid _ := ⟨T0⟩; have HR0 : Hid _ := ⟨R0⟩; clear R0 T0)
        | (go_at_call_of 57 (Value.int IntKind.u8 120); (with_reducible refine (HX.out _ HR0.out).mono ?_); rintro e w1 ⟨rfl, R1, T1⟩; have HT1 : Hid _ := ⟨HT0.out.trans T1⟩; have HR1 : Hid _ := ⟨R1⟩; clear R1 T1)
        | (go_at_call 94; (with_reducible refine (HSi.out _ HR1.out).mono ?_); rintro e w2 ⟨rfl, R2, T2⟩; have HT2 : Hid _ := ⟨HT1.out.trans T2⟩; have HR2 : Hid _ := ⟨R2⟩; clear R2 T2)
        | (go_at_call 95; (with_reducible refine (HP.out _ HR2.out).mono ?_); rintro e w3 ⟨rfl, R3, T3⟩; have HT3 : Hid _ := ⟨HT2.out.trans T3⟩; have HR3 : Hid _ := ⟨R3⟩; clear R3 T3)
        | (go_at_call 96; (with_reducible refine (HO.out _ _ HR3.out).mono ?_); rintro e w4 ⟨rfl, R4, T4⟩; have HT4 : Hid _ := ⟨HT3.out.trans T4⟩; have HR4 : Hid _ := ⟨R4⟩; clear R4 T4; obtain ⟨d0, d1, d2, d3, fz⟩ := TBP.of HR.out HT4.out; have f0 := fz 0; have f1 := fz 1; have f2 := fz 2; have f3 := fz 3; clear fz))
      refine bodyPost_ret (resS_number _ w4 w.heap.size _ _ _ _ rfl (TBP.of HR.out HT4.out)) rfl ?_
      exact ⟨rfl, by rw [HQ.out]; exact HR4.out.set4 hne _ _ _ _, TR.set4 HT4.out _ _ _ _⟩
    · rw [if_pos rfl] at hM
      rw [hM]
      have HO : Hid _ := ⟨ht.no rfl⟩
      clear h ht HP0 hM hq
      go_enter Tryz.func78, Tryz.ntmps78
      go_wp2_with (first
        | (go_at_call_of 57 (Value.int IntKind.u8 48); (with_reducible refine HK.out.mono ?_); rintro e w0 ⟨rfl, R0, T0⟩; have HT0 : Hid _ := ⟨T0⟩; have HR0 : Hid _ := ⟨R0⟩; clear R0 T0)
        | (go_at_call_of 57 (Value.int IntKind.u8 120); (with_reducible refine (HX.out _ HR0.out).mono ?_); rintro e w1 ⟨rfl, R1, T1⟩; have HT1 : Hid _ := ⟨HT0.out.trans T1⟩; have HR1 : Hid _ := ⟨R1⟩; clear R1 T1)
        | (go_at_call 94; (with_reducible refine (HSi.out _ HR1.out).mono ?_); rintro e w2 ⟨rfl, R2, T2⟩; have HT2 : Hid _ := ⟨HT1.out.trans T2⟩; have HR2 : Hid _ := ⟨R2⟩; clear R2 T2)
        | (go_at_call 95; (with_reducible refine (HP.out _ HR2.out).mono ?_); rintro e w3 ⟨rfl, R3, T3⟩; have HT3 : Hid _ := ⟨HT2.out.trans T3⟩; have HR3 : Hid _ := ⟨R3⟩; clear R3 T3)
        | (go_at_call 96; (with_reducible refine (HO.out _ _ HR3.out).mono ?_); rintro e w4 ⟨p, q', r', t', a', rfl, R4, T4⟩; have HT4 : Hid _ := ⟨HT3.out.trans T4⟩; have HR4 : Hid _ := ⟨R4⟩; clear R4 T4; obtain ⟨d0, d1, d2, d3, fz⟩ := TBP.of HR.out HT4.out; have f0 := fz 0; have f1 := fz 1; have f2 := fz 2; have f3 := fz 3; clear fz))
      refine bodyPost_ret (resS_number _ w4 w.heap.size _ _ _ _ rfl (TBP.of HR.out HT4.out)) rfl ?_
      exact ⟨_, _, _, _, _, rfl, HR4.out.set4 hne _ _ _ _, TR.set4 HT4.out _ _ _ _⟩

end
section
variable {w w1 w2 : World} {rb : Nat} {s : ByteArray} {a : Nat} {ln : Int} {lv : Value}

theorem u8z {c : UInt8} {n : Nat} (h : n < 256) : zOf c = (n : Int) ↔ c = UInt8.ofNat n := by
  constructor
  · intro e
    have : (c.toNat : Int) = (n : Int) := e
    exact nu8 (by omega) h
  · rintro rfl
    show ((UInt8.ofNat n).toNat : Int) = n
    simp; omega

theorem number_any (h : RD w rb s a ln lv) (hl : s.size ≤ 8796093022208) (ha : a ≤ s.size) {c : UInt8} {r : List UInt8} (hL : Ln s a = c :: r) (hc : isDig c = true) :
    Calls Tryz.prog 78 #[.pointer (some ⟨rb, 0, none⟩)] w fun e w' => TokE ((numM (c :: r)).map fun p => (⟨2, wrap64 p.1, []⟩, p.2)) rb s a ln lv w e w' := by
  obtain ⟨h1, h2, h3⟩ := Ln_cons hL
  by_cases h48 : c = 48
  · subst h48
    have HK : Hid _ := ⟨take_yes (h.alloc tokZP) (by omega) (b := 48) (by rw [hL]; rfl)⟩
    by_cases hx : hdZ r = 120
    · cases r with
      | nil => exact absurd hx (by decide)
      | cons d r' =>
        have hd : d = 120 := (u8z (n := 120) (by omega)).1 hx
        subst hd
        obtain ⟨g1, g2, g3⟩ := Ln_cons h3
        have HX : Hid (∀ W, RD W rb s (a + 1) ln lv → Calls Tryz.prog 57 #[.pointer (some ⟨rb, 0, none⟩), .int .u8 120] W fun e w' => e = .returned (.bool true) ∧ RD w' rb s (a + 2) ln lv ∧ TR rb W w') := ⟨fun W hW => take_yes hW (by omega) (by rw [h3]; rfl)⟩
        have hle := run_le 8 r'
        have HS : Hid (∀ W, RD W rb s (a + 2) ln lv → Calls Tryz.prog 54 #[.pointer (some ⟨rb, 0, none⟩), .int .u8 8] W fun e w' => e = .returned (.tuple #[]) ∧ RD w' rb s (a + 2 + runN 8 r') ln lv ∧ TR rb W w') := ⟨fun W hW => by
          have := skip_any hW 8 8 rfl (by omega) hl (by omega)
          rw [show Ln s (a + 2) = r' from g3] at this
          exact this⟩
        have ht := tail_16 s ln lv rb (a + 2) (runN 8 r') hl (by omega) (by rw [show Ln s (a + 2) = r' from g3]; exact hle) (fun x hx => by
          rw [show Ln s (a + 2) = r' from g3] at hx
          have := run_mem x hx
          rw [kB_hex] at this
          exact of_decide_eq_true this)
        rw [show Ln s (a + 2) = r' from g3] at ht
        refine number_B h _ (2 + runN 8 r') (a + 2) (runN 8 r') _ _ _ ht (by omega) (by rw [St_size, List.length_take, Nat.min_eq_left hle]) HK HX HS _ ?_
        rw [num_hex]
        generalize runN 8 r' = m
        by_cases hm0 : m = 0
        · rw [if_pos (.inl hm0), if_pos hm0]
          simp
        · rw [if_neg hm0]
          by_cases g : 16 < m ∨ kB 22 (hdZ (r'.drop m)) = true
          · rw [if_pos (.inr g), if_pos g]
          · rw [if_neg (by rintro (e | e); exact hm0 e; exact g e), if_neg g]
    · have HX : Hid (∀ W, RD W rb s (a + 1) ln lv → Calls Tryz.prog 57 #[.pointer (some ⟨rb, 0, none⟩), .int .u8 120] W fun e w' => e = .returned (.bool false) ∧ RD w' rb s (a + 1) ln lv ∧ TR rb W w') := ⟨fun W hW => take_no hW (by omega) (by rw [h3]; exact hx)⟩
      have ht := tail_10 s ln lv rb a 1 hl ha (by rw [hL]; simp) (fun x hx => by rw [hL] at hx; simp at hx; subst hx; rfl) (by omega)
      rw [hL] at ht
      refine number_C h (a + 1) 1 a _ _ _ ht rfl rfl HK HX _ ?_
      rw [num_nought r hx]
      rfl
  · have HK : Hid _ := ⟨take_no (h.alloc tokZP) (by omega) (b := 48) (by rw [hL]; exact fun e => h48 ((u8z (n := 48) (by omega)).1 e))⟩
    have hle := run_le 4 (c :: r)
    have HS : Hid (∀ W, RD W rb s a ln lv → Calls Tryz.prog 54 #[.pointer (some ⟨rb, 0, none⟩), .int .u8 4] W fun e w' => e = .returned (.tuple #[]) ∧ RD w' rb s (a + runN 4 (c :: r)) ln lv ∧ TR rb W w') := ⟨fun W hW => by
      have := skip_any hW 4 4 rfl (by omega) hl ha
      rw [hL] at this
      exact this⟩
    have ht := tail_10 s ln lv rb a (runN 4 (c :: r)) hl ha (by rw [hL]; exact hle) (fun x hx => by rw [hL] at hx; rw [← kB_dig]; exact run_mem x hx) (by rw [run_eq 4 isDig kB_dig, List.takeWhile_cons, hc]; simp)
    rw [hL] at ht
    exact number_A h _ _ a _ _ _ ht rfl rfl HK HS _ (num_dec c r hc h48)

/-- How a call that reads a byte of a text ends. -/
def BytE (m : Option (UInt8 × Nat)) (rb : Nat) (s : ByteArray) (a : Nat) (ln : Int) (lv : Value) (w : World) (e : Ending) (w' : World) : Prop :=
  match m with
  | none => ∃ (x : Int) (a' : Nat), e = .returned (.tuple #[.int .u8 x, .bool false]) ∧ RD w' rb s a' ln lv ∧ TR rb w w'
  | some p => e = .returned (.tuple #[.int .u8 (zOf p.1), .bool true]) ∧ RD w' rb s (a + p.2) ln lv ∧ TR rb w w'
def twoM (l : List UInt8) : Option (UInt8 × Nat) :=
  match l with
  | a :: b :: _ => if 0 ≤ hexZ (zOf a) ∧ 0 ≤ hexZ (zOf b) then some (UInt8.ofNat (16 * hexZ (zOf a) + hexZ (zOf b)).toNat, 2) else none
  | _ => none

theorem nil_eq (N : Nat) (W : World) : (binOp .eql 131 (.iface 155 (.pointer (some ⟨N, 0, none⟩))) .nilIface).run Tryz.prog W = .ok (.bool false) W := by
  kernel_rfl
end
section
variable {w w1 w2 : World} {rb : Nat} {s : ByteArray} {a : Nat} {ln : Int} {lv : Value}

/-- The first k bytes are digits of 16. -/
def HexTo (l : List UInt8) (k : Nat) : Prop := k ≤ l.length ∧ ∀ c ∈ l.take k, 0 ≤ hexZ (zOf c)
theorem hex_zero (l : List UInt8) : HexTo l 0 := ⟨Nat.zero_le _, fun c hc => by rw [List.take_zero] at hc; cases hc⟩
theorem byt_no {M : Option (UInt8 × Nat)} (h : M = none) {w w' : World} {x : Int} {a' : Nat} (R : RD w' rb s a' ln lv) (T : TR rb w w') : BytE M rb s a ln lv w (.returned (.tuple #[.int .u8 x, .bool false])) w' := by subst h; exact ⟨x, a', rfl, R, T⟩
theorem byt_yes {M : Option (UInt8 × Nat)} {p : UInt8 × Nat} (h : M = some p) {w w' : World} {x : Int} (hx : x = zOf p.1) {a' : Nat} (ha : a' = a + p.2) (R : RD w' rb s a' ln lv) (T : TR rb w w') : BytE M rb s a ln lv w (.returned (.tuple #[.int .u8 x, .bool true])) w' := by subst h; subst hx; subst ha; exact ⟨rfl, R, T⟩
theorem hex_no {l : List UInt8} {k : Nat} (h : HexTo l k) (hk : k < 2) (hb : kB 8 (hdZ (l.drop k)) = false) : twoM l = none := by
  match l, k, hk with
  | [], _, _ => rfl
  | [c], _, _ => rfl
  | c :: d :: r, 0, _ =>
    have h1 : kB 8 (zOf c) = false := hb
    rw [kB_hex] at h1
    have := of_decide_eq_false h1
    show (if _ ∧ _ then _ else none) = none
    rw [if_neg (fun g => this g.1)]
  | c :: d :: r, 1, _ =>
    have h1 : kB 8 (zOf d) = false := hb
    rw [kB_hex] at h1
    have := of_decide_eq_false h1
    show (if _ ∧ _ then _ else none) = none
    rw [if_neg (fun g => this g.2)]
theorem hex_step {l : List UInt8} {k : Nat} (h : HexTo l k) (hb : kB 8 (hdZ (l.drop k)) = true) : HexTo l (k + 1) := by
  cases hd : l.drop k with
  | nil => rw [hd, show hdZ [] = 10 from rfl, kB_lf 8 (by omega)] at hb; cases hb
  | cons c r =>
    have hkl : k < l.length := by
      apply Classical.byContradiction
      intro hn
      rw [List.drop_of_length_le (by omega)] at hd
      cases hd
    have hc : l[k] = c := by
      rw [List.drop_eq_getElem_cons hkl] at hd
      exact (List.cons.inj hd).1
    rw [hd] at hb
    have h1 : kB 8 (zOf c) = true := hb
    rw [kB_hex] at h1
    refine ⟨by omega, fun x hx => ?_⟩
    rw [List.take_succ_eq_append_getElem hkl] at hx
    rcases List.mem_append.1 hx with hx | hx
    · exact h.2 x hx
    · rw [List.mem_singleton.1 hx, hc]; exact of_decide_eq_true h1
theorem two_yes {l : List UInt8} (h : HexTo l 2) : ∃ c d r, l = c :: d :: r ∧ 0 ≤ hexZ (zOf c) ∧ 0 ≤ hexZ (zOf d) ∧ twoM l = some (UInt8.ofNat (16 * hexZ (zOf c) + hexZ (zOf d)).toNat, 2) := by
  match l, h with
  | [], h => have := h.1; simp at this
  | [c], h => have := h.1; simp at this
  | c :: d :: r, h =>
    have hc := h.2 c (by simp)
    have hd := h.2 d (by simp)
    refine ⟨c, d, r, rfl, hc, hd, ?_⟩
    show (if _ ∧ _ then _ else none) = _
    rw [if_pos ⟨hc, hd⟩]
theorem nil_nil (W : World) : (binOp .eql 131 .nilIface .nilIface).run Tryz.prog W = .ok (.bool true) W := by kernel_rfl

set_option maxHeartbeats 4000000 in
set_option maxRecDepth 10000 in
theorem twoDigits_any (h : RD w rb s a ln lv) (hl : s.size ≤ 8796093022208) (ha : a ≤ s.size) : Calls Tryz.prog 128 #[.pointer (some ⟨rb, 0, none⟩)] w fun e w' => BytE (twoM (Ln s a)) rb s a ln lv w e w' := by
  have HR : Hid _ := ⟨h⟩
  have c1 := h.c1
  obtain ⟨M, hM0⟩ : ∃ M, twoM (Ln s a) = M := ⟨_, rfl⟩
  rw [hM0]
  have HM0 : Hid _ := ⟨hM0⟩
  clear h hM0
  go_enter Tryz.func128, Tryz.ntmps128
  go_wp2
  clear c1
  go_loopw [12] (fun i wr => ∃ k : Nat, i = .int .i64 k ∧ k ≤ 2 ∧ Hid (RD wr rb s (a + k) ln lv ∧ TR rb w wr ∧ HexTo (Ln s a) k)) (fun i _ => 2 - (intOf i).toNat)
  case atStart => exact ⟨0, rfl, by omega, ⟨HR.out, TR.self _ _, hex_zero _⟩⟩
  case round =>
    obtain ⟨k, rfl, hk, HW⟩ := hrel
    obtain ⟨R1, T1, H1⟩ := HW.out
    have hak := Ln_top s k a H1.1 ha
    by_cases hk2 : k < 2
    · have hk2i : (k : Int) < 2 := by omega
      have hzb := hd_byte ((Ln s a).drop k)
      obtain ⟨z, hz⟩ : ∃ z, hdZ ((Ln s a).drop k) = z := ⟨_, rfl⟩
      have HN : Hid _ := ⟨next_t R1.drew hl hak (z := z) (by rw [Ln_drop s k a H1.1]; exact hz)⟩
      have HH : Hid (∀ W, RD W rb s (a + k + 1) ln lv → Calls Tryz.prog 93 #[.pointer (some ⟨rb, 2, none⟩), .int .u8 z, .int .u8 8] W fun e w' => e = .returned (.bool (kB 8 z)) ∧ w' = W) := ⟨fun W hW => has_t hW 8 8 z rfl (by omega) (by omega) rfl⟩
      cases hb : kB 8 z
      · rw [hb] at HH
        have HM : Hid (M = none) := ⟨by rw [← HM0.out]; exact hex_no H1 hk2 (by rw [hz]; exact hb)⟩
        have HT1 : Hid _ := ⟨T1⟩
        clear R1 T1 H1 HW hz hzb hb
        go_wp2
        go_region_held3 (fun v' => True) (trivial)
          ((first
            | (go_at_call 97; (with_reducible refine HN.out.mono ?_); rintro e u ⟨rfl, Ru, Tu⟩; have HRu : Hid _ := ⟨Ru⟩; have HTu : Hid _ := ⟨Tu⟩; clear Ru Tu)
            | (go_at_call 93; (with_reducible refine (HH.out _ HRu.out).mono ?_); rintro e w' ⟨rfl, hw'⟩; subst w')))
        go_wp2
        go_ret2
        exact byt_no HM.out HRu.out ((HT1.out.trans (Turn.of_below (Below.refl _ _).drew _)).trans HTu.out)
      · rw [hb] at HH
        have H2 := hex_step H1 (by rw [hz]; exact hb)
        have HH2 : Hid _ := ⟨H2⟩
        have HT1 : Hid _ := ⟨T1⟩
        clear R1 T1 H1 H2 HW hz hzb hb
        go_wp2
        go_region_held3 (fun v' => True) (trivial)
          ((first
            | (go_at_call 97; (with_reducible refine HN.out.mono ?_); rintro e u ⟨rfl, Ru, Tu⟩; have HRu : Hid _ := ⟨Ru⟩; have HTu : Hid _ := ⟨Tu⟩; clear Ru Tu)
            | (go_at_call 93; (with_reducible refine (HH.out _ HRu.out).mono ?_); rintro e w' ⟨rfl, hw'⟩; subst w')))
        go_wp2
        go_roundw
        case rel => exact ⟨k + 1, by go_num, by omega, ⟨HRu.out, (HT1.out.trans (Turn.of_below (Below.refl _ _).drew _)).trans HTu.out, HH2.out⟩⟩
        case measure => simp [intOf]; omega
    · obtain rfl : k = 2 := by omega
      obtain ⟨c, d, r, hL, hc, hd, hM⟩ := two_yes H1
      have hlc := hex_lt (zOf c)
      have hld := hex_lt (zOf d)
      have hsub := Ln_sub (s := s) (a := a) (n := 2) H1.1
      have HM : Hid (M = _) := ⟨HM0.out.symm.trans hM⟩
      rw [hL] at hsub
      have HS : Hid (∀ W, RD W rb s (a + 2) ln lv → Calls Tryz.prog 94 #[.pointer (some ⟨rb, 0, none⟩), .int .i64 a] W fun e w' => e = .returned (.string (St [c, d])) ∧ RD w' rb s (a + 2) ln lv ∧ TR rb W w') := ⟨fun W hW => by
        have := since_t hW a (by omega) hak hl
        rw [hsub] at this
        exact this⟩
      have hp : puF 16 1152921504606846976 255 [c, d] 0 = some (16 * hexZ (zOf c) + hexZ (zOf d)) := by
        show (if (1152921504606846976 : Int) ≤ 0 then none else if (255 : Int) < 0 * 16 + hexZ (zOf c) then none else if (1152921504606846976 : Int) ≤ 0 * 16 + hexZ (zOf c) then none else if (255 : Int) < (0 * 16 + hexZ (zOf c)) * 16 + hexZ (zOf d) then none else some ((0 * 16 + hexZ (zOf c)) * 16 + hexZ (zOf d))) = _
        rw [if_neg (by omega), if_neg (by omega), if_neg (by omega), if_neg (by omega)]
        congr 1
        omega
      have HP : Hid (∀ W, RD W rb s (a + 2) ln lv → Calls Tryz.prog 95 #[.string (St [c, d]), .int .i64 16, .int .i64 8] W fun e w' => e = .returned (.tuple #[.int .u64 (16 * hexZ (zOf c) + hexZ (zOf d)), .nilIface]) ∧ RD w' rb s (a + 2) ln lv ∧ TR rb W w') := ⟨fun W hW => by
        have := pu_16_8 (St [c, d]) (by rw [St_size]; simp) (fun x hx => by rw [lo_St] at hx; simp at hx; rcases hx with rfl | rfl <;> exact ⟨by assumption, hex_lt _⟩) W hW.er
        rw [lo_St, if_neg (by simp), hp] at this
        refine this.mono ?_
        rintro e w' ⟨h1, h2⟩
        exact ⟨h1, hW.below h2, Turn.of_below h2 _⟩⟩
      have HZ : Hid (zOf (UInt8.ofNat (16 * hexZ (zOf c) + hexZ (zOf d)).toNat) = 16 * hexZ (zOf c) + hexZ (zOf d)) := ⟨by
        show ((UInt8.ofNat (16 * hexZ (zOf c) + hexZ (zOf d)).toNat).toNat : Int) = _
        rw [UInt8.toNat_ofNat']
        omega⟩
      obtain ⟨v, hv⟩ : ∃ v, 16 * hexZ (zOf c) + hexZ (zOf d) = v := ⟨_, rfl⟩
      rw [hv] at HZ HP HM
      have v0 : 0 ≤ v := by omega
      have v1 : v ≤ 255 := by omega
      have hcv : ∀ W, (convert 86 5 (.int .u64 v)).run Tryz.prog W = .ok (.int .u8 v) W := fun W => by
        have : IntKind.u8.wrap v = v := by simp [IntKind.wrap, IntKind.bits, IntKind.signed]; omega
        simp [go_sem, this]
      have hnn := nil_nil
      have HR1 : Hid _ := ⟨R1⟩
      have HT1 : Hid _ := ⟨T1⟩
      clear R1 T1 H1 HW hsub hL hM hp hv hc hd hlc hld
      go_wp2_with (first
        | (go_at_call 94; (with_reducible refine (HS.out _ HR1.out).mono ?_); rintro e w1 ⟨rfl, R2, T2⟩; have HR2 : Hid _ := ⟨R2⟩; have HT2 : Hid _ := ⟨HT1.out.trans T2⟩; clear R2 T2)
        | (go_at_call 95; (with_reducible refine (HP.out _ HR2.out).mono ?_); rintro e w2 ⟨rfl, R3, T3⟩; have HR3 : Hid _ := ⟨R3⟩; have HT3 : Hid _ := ⟨HT2.out.trans T3⟩; clear R3 T3))
      go_quiet (fail)
      go_wp2
      go_ret2
      exact byt_yes HM.out HZ.out.symm rfl (HR3.out.drewN _) (HT3.out.drewN _)
end
section
variable {w w1 w2 : World} {rb : Nat} {s : ByteArray} {a : Nat} {ln : Int} {lv : Value}

theorem esc_c (c : UInt8) (r : List UInt8) : escM (c :: r) = if c = 92 ∨ c = 34 then some (c, 1) else if c = 110 then some (10, 1) else if c = 116 then some (9, 1) else if c = 48 then some (0, 1) else if c = 120 then (twoM r).map (fun p => (p.1, p.2 + 1)) else none := by
  cases r with
  | nil => rfl
  | cons d r =>
    cases r with
    | nil => rfl
    | cons e r =>
      have e2 : (twoM (d :: e :: r)).map (fun p => (p.1, p.2 + 1)) = if 0 ≤ hexZ (zOf d) ∧ 0 ≤ hexZ (zOf e) then some (UInt8.ofNat (16 * hexZ (zOf d) + hexZ (zOf e)).toNat, 3) else none := by
        show (if 0 ≤ hexZ (zOf d) ∧ 0 ≤ hexZ (zOf e) then some (UInt8.ofNat (16 * hexZ (zOf d) + hexZ (zOf e)).toNat, 2) else none).map (fun p => (p.1, p.2 + 1)) = _
        split <;> rfl
      rw [e2]
      rfl

set_option maxHeartbeats 4000000 in
set_option maxRecDepth 10000 in
theorem escape_any (h : RD w rb s a ln lv) (hl : s.size ≤ 8796093022208) (ha : a ≤ s.size) : Calls Tryz.prog 113 #[.pointer (some ⟨rb, 0, none⟩)] w fun e w' => BytE (escM (Ln s a)) rb s a ln lv w e w' := by
  obtain ⟨z, hz⟩ : ∃ z, hdZ (Ln s a) = z := ⟨_, rfl⟩
  have HN : Hid _ := ⟨next_t h hl ha hz⟩
  cases hL : Ln s a with
  | nil =>
    rw [hL] at hz
    have hz' : z = 10 := hz.symm
    subst hz'
    have HM : Hid (escM [] = none) := ⟨rfl⟩
    clear h hz hL
    go_enter Tryz.func113, Tryz.ntmps113
    go_wp2_with (first
      | (go_at_call 97; (with_reducible refine HN.out.mono ?_); rintro e w1 ⟨rfl, R1, T1⟩; have HR1 : Hid _ := ⟨R1⟩; have HT1 : Hid _ := ⟨T1⟩; clear R1 T1))
    go_ret2
    exact byt_no HM.out HR1.out HT1.out
  | cons c r =>
    rw [hL] at hz
    have hz' : zOf c = z := hz
    obtain ⟨h1, h2, h3⟩ := Ln_cons hL
    by_cases c92 : c = 92
    · have q92 : (z == 92) = true := by rw [← hz', c92]; rfl
      have HM : Hid (escM (c :: r) = some (c, 1)) := ⟨by rw [esc_c]; simp [c92]⟩
      clear h hz hL h1 h2 h3 c92
      go_enter Tryz.func113, Tryz.ntmps113
      go_wp2_with (first
        | (go_at_call 97; (with_reducible refine HN.out.mono ?_); rintro e w1 ⟨rfl, R1, T1⟩; have HR1 : Hid _ := ⟨R1⟩; have HT1 : Hid _ := ⟨T1⟩; clear R1 T1))
      go_ret2
      exact byt_yes HM.out hz'.symm rfl HR1.out HT1.out
    · have q92 : (z == 92) = false := by rw [← hz', beq_eq_false_iff_ne]; intro e; exact c92 ((u8z (n := 92) (by omega)).1 e)
      by_cases c34 : c = 34
      · have q34 : (z == 34) = true := by rw [← hz', c34]; rfl
        have HM : Hid (escM (c :: r) = some (c, 1)) := ⟨by rw [esc_c]; simp [c92, c34]⟩
        clear h hz hL h1 h2 h3 c92 c34
        go_enter Tryz.func113, Tryz.ntmps113
        go_wp2_with (first
          | (go_at_call 97; (with_reducible refine HN.out.mono ?_); rintro e w1 ⟨rfl, R1, T1⟩; have HR1 : Hid _ := ⟨R1⟩; have HT1 : Hid _ := ⟨T1⟩; clear R1 T1))
        go_ret2
        exact byt_yes HM.out hz'.symm rfl HR1.out HT1.out
      · have q34 : (z == 34) = false := by rw [← hz', beq_eq_false_iff_ne]; intro e; exact c34 ((u8z (n := 34) (by omega)).1 e)
        by_cases c110 : c = 110
        · have q110 : (z == 110) = true := by rw [← hz', c110]; rfl
          have HM : Hid (escM (c :: r) = some (10, 1)) := ⟨by rw [esc_c]; simp [c92, c34, c110]⟩
          clear h hz hL h1 h2 h3 c92 c34 c110
          go_enter Tryz.func113, Tryz.ntmps113
          go_wp2_with (first
            | (go_at_call 97; (with_reducible refine HN.out.mono ?_); rintro e w1 ⟨rfl, R1, T1⟩; have HR1 : Hid _ := ⟨R1⟩; have HT1 : Hid _ := ⟨T1⟩; clear R1 T1))
          go_ret2
          exact byt_yes HM.out rfl rfl HR1.out HT1.out
        · have q110 : (z == 110) = false := by rw [← hz', beq_eq_false_iff_ne]; intro e; exact c110 ((u8z (n := 110) (by omega)).1 e)
          by_cases c116 : c = 116
          · have q116 : (z == 116) = true := by rw [← hz', c116]; rfl
            have HM : Hid (escM (c :: r) = some (9, 1)) := ⟨by rw [esc_c]; simp [c92, c34, c110, c116]⟩
            clear h hz hL h1 h2 h3 c92 c34 c110 c116
            go_enter Tryz.func113, Tryz.ntmps113
            go_wp2_with (first
              | (go_at_call 97; (with_reducible refine HN.out.mono ?_); rintro e w1 ⟨rfl, R1, T1⟩; have HR1 : Hid _ := ⟨R1⟩; have HT1 : Hid _ := ⟨T1⟩; clear R1 T1))
            go_ret2
            exact byt_yes HM.out rfl rfl HR1.out HT1.out
          · have q116 : (z == 116) = false := by rw [← hz', beq_eq_false_iff_ne]; intro e; exact c116 ((u8z (n := 116) (by omega)).1 e)
            by_cases c48 : c = 48
            · have q48 : (z == 48) = true := by rw [← hz', c48]; rfl
              have HM : Hid (escM (c :: r) = some (0, 1)) := ⟨by rw [esc_c]; simp [c92, c34, c110, c116, c48]⟩
              clear h hz hL h1 h2 h3 c92 c34 c110 c116 c48
              go_enter Tryz.func113, Tryz.ntmps113
              go_wp2_with (first
                | (go_at_call 97; (with_reducible refine HN.out.mono ?_); rintro e w1 ⟨rfl, R1, T1⟩; have HR1 : Hid _ := ⟨R1⟩; have HT1 : Hid _ := ⟨T1⟩; clear R1 T1))
              go_ret2
              exact byt_yes HM.out rfl rfl HR1.out HT1.out
            · have q48 : (z == 48) = false := by rw [← hz', beq_eq_false_iff_ne]; intro e; exact c48 ((u8z (n := 48) (by omega)).1 e)
              by_cases c120 : c = 120
              · have q120 : (z == 120) = true := by rw [← hz', c120]; rfl
                have hE : escM (c :: r) = (twoM r).map (fun p => (p.1, p.2 + 1)) := by rw [esc_c]; simp [c92, c34, c110, c116, c48, c120]
                have HW0 : ∀ W, RD W rb s (a + 1) ln lv → Calls Tryz.prog 128 #[.pointer (some ⟨rb, 0, none⟩)] W fun e w' => BytE (twoM r) rb s (a + 1) ln lv W e w' := fun W hW => by
                  have := twoDigits_any hW hl (by omega)
                  rw [h3] at this
                  exact this
                cases ht : twoM r with
                | none =>
                  rw [ht] at hE HW0
                  have HM : Hid _ := ⟨hE⟩
                  have HW : Hid _ := ⟨HW0⟩
                  dsimp only [BytE] at HW
                  clear h hz hL h1 h2 h3 HW0 hE ht c92 c34 c110 c116 c48 c120
                  go_enter Tryz.func113, Tryz.ntmps113
                  go_wp2_with (first
                    | (go_at_call 97; (with_reducible refine HN.out.mono ?_); rintro e w1 ⟨rfl, R1, T1⟩; have HR1 : Hid _ := ⟨R1⟩; have HT1 : Hid _ := ⟨T1⟩; clear R1 T1)
                    | (go_at_call 128; (with_reducible refine (HW.out _ HR1.out).mono ?_); rintro e w2 ⟨x, a', rfl, R2, T2⟩; have HR2 : Hid _ := ⟨R2⟩; have HT2 : Hid _ := ⟨HT1.out.trans T2⟩; clear R2 T2))
                  go_ret2
                  exact byt_no HM.out HR2.out HT2.out
                | some p =>
                  obtain ⟨x, j⟩ := p
                  rw [ht] at hE HW0
                  have HM : Hid (escM (c :: r) = some (x, j + 1)) := ⟨hE⟩
                  have HW : Hid _ := ⟨HW0⟩
                  dsimp only [BytE] at HW
                  clear h hz hL h1 h2 h3 HW0 hE ht c92 c34 c110 c116 c48 c120
                  go_enter Tryz.func113, Tryz.ntmps113
                  go_wp2_with (first
                    | (go_at_call 97; (with_reducible refine HN.out.mono ?_); rintro e w1 ⟨rfl, R1, T1⟩; have HR1 : Hid _ := ⟨R1⟩; have HT1 : Hid _ := ⟨T1⟩; clear R1 T1)
                    | (go_at_call 128; (with_reducible refine (HW.out _ HR1.out).mono ?_); rintro e w2 ⟨rfl, R2, T2⟩; have HR2 : Hid _ := ⟨R2⟩; have HT2 : Hid _ := ⟨HT1.out.trans T2⟩; clear R2 T2))
                  go_ret2
                  exact byt_yes HM.out rfl (by simp only; omega) HR2.out HT2.out
              · have q120 : (z == 120) = false := by rw [← hz', beq_eq_false_iff_ne]; intro e; exact c120 ((u8z (n := 120) (by omega)).1 e)
                have HM : Hid (escM (c :: r) = none) := ⟨by rw [esc_c]; simp [c92, c34, c110, c116, c48, c120]⟩
                clear h hz hL h1 h2 h3 c92 c34 c110 c116 c48 c120
                go_enter Tryz.func113, Tryz.ntmps113
                go_wp2_with (first
                  | (go_at_call 97; (with_reducible refine HN.out.mono ?_); rintro e w1 ⟨rfl, R1, T1⟩; have HR1 : Hid _ := ⟨R1⟩; have HT1 : Hid _ := ⟨T1⟩; clear R1 T1))
                go_ret2
                exact byt_no HM.out HR1.out HT1.out

/-- A byte of a text, behind its first ", if it is none. -/
def textM (l : List UInt8) : Option (UInt8 × Nat) :=
  match l with
  | [] => none
  | c :: r => if c = 92 then (escM r).map (fun p => (p.1, p.2 + 1)) else if 32 ≤ zOf c ∧ zOf c ≤ 126 then some (c, 1) else none
theorem text_le {l : List UInt8} {x : UInt8} {j : Nat} (h : textM l = some (x, j)) : 1 ≤ j ∧ j ≤ l.length := by
  cases l with
  | nil => cases h
  | cons c r =>
    have h' : (if c = 92 then (escM r).map (fun p => (p.1, p.2 + 1)) else if 32 ≤ zOf c ∧ zOf c ≤ 126 then some (c, 1) else none) = some (x, j) := h
    split at h'
    · cases he : escM r with
      | none => rw [he] at h'; cases h'
      | some p =>
        obtain ⟨y, i⟩ := p
        rw [he] at h'
        obtain ⟨e1, e2, _⟩ := esc_le he
        simp only [Option.map_some, Option.some.injEq, Prod.mk.injEq] at h'
        obtain ⟨_, rfl⟩ := h'
        simp; omega
    · split at h'
      · simp only [Option.some.injEq, Prod.mk.injEq] at h'
        obtain ⟨_, rfl⟩ := h'
        simp
      · cases h'
theorem quo_text (n : Nat) (c : UInt8) (r acc : List UInt8) (i : Nat) (h : ¬ c = 34) : quoF (n + 1) (c :: r) acc i = match textM (c :: r) with | none => none | some (x, j) => quoF n ((c :: r).drop j) (acc ++ [x]) (i + j) := by
  show (if c = 34 then some (acc, i + 1) else if zOf c < 32 ∨ 126 < zOf c then none else if c = 92 then (match escM r with | none => none | some (x, k) => quoF n (r.drop k) (acc ++ [x]) (i + 1 + k)) else quoF n r (acc ++ [c]) (i + 1)) = _
  have e : textM (c :: r) = if c = 92 then (escM r).map (fun p => (p.1, p.2 + 1)) else if 32 ≤ zOf c ∧ zOf c ≤ 126 then some (c, 1) else none := rfl
  rw [if_neg h, e]
  by_cases h92 : c = 92
  · rw [if_pos h92, if_neg (by rw [h92]; decide), if_pos h92]
    cases escM r with
    | none => rfl
    | some p =>
      obtain ⟨x, k⟩ := p
      simp only [Option.map_some, List.drop_succ_cons]
      congr 1
      omega
  · rw [if_neg h92, if_neg h92]
    by_cases g : 32 ≤ zOf c ∧ zOf c ≤ 126
    · rw [if_pos g, if_neg (by omega)]
      rfl
    · rw [if_neg g, if_pos (by omega)]

set_option maxHeartbeats 4000000 in
set_option maxRecDepth 10000 in
theorem textByte_any (h : RD w rb s a ln lv) (hl : s.size ≤ 8796093022208) (ha : a ≤ s.size) : Calls Tryz.prog 99 #[.pointer (some ⟨rb, 0, none⟩)] w fun e w' => BytE (textM (Ln s a)) rb s a ln lv w e w' := by
  obtain ⟨z, hz⟩ : ∃ z, hdZ (Ln s a) = z := ⟨_, rfl⟩
  have HN : Hid _ := ⟨next_t h hl ha hz⟩
  have HSh0 := fun W => isShown_any z W
  cases hL : Ln s a with
  | nil =>
    rw [hL] at hz
    have hz' : z = 10 := hz.symm
    subst hz'
    have HSh : Hid (∀ W, Calls Tryz.prog 98 #[.int .u8 10] W fun e w' => e = .returned (.bool false) ∧ w' = W) := ⟨HSh0⟩
    have HM : Hid (textM [] = none) := ⟨rfl⟩
    clear h hz hL HSh0
    go_enter Tryz.func99, Tryz.ntmps99
    go_wp2_with (first
      | (go_at_call 97; (with_reducible refine HN.out.mono ?_); rintro e w1 ⟨rfl, R1, T1⟩; have HR1 : Hid _ := ⟨R1⟩; have HT1 : Hid _ := ⟨T1⟩; clear R1 T1)
      | (go_at_call 98; (with_reducible refine (HSh.out _).mono ?_); rintro e w' ⟨rfl, hw'⟩; subst w'))
    go_ret2
    exact byt_no HM.out HR1.out HT1.out
  | cons c r =>
    rw [hL] at hz
    have hz' : zOf c = z := hz
    obtain ⟨h1, h2, h3⟩ := Ln_cons hL
    have hT : textM (c :: r) = if c = 92 then (escM r).map (fun p => (p.1, p.2 + 1)) else if 32 ≤ zOf c ∧ zOf c ≤ 126 then some (c, 1) else none := rfl
    by_cases c92 : c = 92
    · have q92 : (z == 92) = true := by rw [← hz', c92]; rfl
      rw [if_pos c92] at hT
      have HW0 : ∀ W, RD W rb s (a + 1) ln lv → Calls Tryz.prog 113 #[.pointer (some ⟨rb, 0, none⟩)] W fun e w' => BytE (escM r) rb s (a + 1) ln lv W e w' := fun W hW => by
        have := escape_any hW hl (by omega)
        rw [h3] at this
        exact this
      cases ht : escM r with
      | none =>
        rw [ht] at hT HW0
        have HM : Hid _ := ⟨hT⟩
        have HW : Hid _ := ⟨HW0⟩
        dsimp only [BytE] at HW
        clear h hz hL h1 h2 h3 HW0 hT ht HSh0 c92
        go_enter Tryz.func99, Tryz.ntmps99
        go_wp2_with (first
          | (go_at_call 97; (with_reducible refine HN.out.mono ?_); rintro e w1 ⟨rfl, R1, T1⟩; have HR1 : Hid _ := ⟨R1⟩; have HT1 : Hid _ := ⟨T1⟩; clear R1 T1)
          | (go_at_call 113; (with_reducible refine (HW.out _ HR1.out).mono ?_); rintro e w2 ⟨x, a', rfl, R2, T2⟩; have HR2 : Hid _ := ⟨R2⟩; have HT2 : Hid _ := ⟨HT1.out.trans T2⟩; clear R2 T2))
        go_ret2
        exact byt_no HM.out HR2.out HT2.out
      | some p =>
        obtain ⟨x, j⟩ := p
        rw [ht] at hT HW0
        have HM : Hid (textM (c :: r) = some (x, j + 1)) := ⟨hT⟩
        have HW : Hid _ := ⟨HW0⟩
        dsimp only [BytE] at HW
        clear h hz hL h1 h2 h3 HW0 hT ht HSh0 c92
        go_enter Tryz.func99, Tryz.ntmps99
        go_wp2_with (first
          | (go_at_call 97; (with_reducible refine HN.out.mono ?_); rintro e w1 ⟨rfl, R1, T1⟩; have HR1 : Hid _ := ⟨R1⟩; have HT1 : Hid _ := ⟨T1⟩; clear R1 T1)
          | (go_at_call 113; (with_reducible refine (HW.out _ HR1.out).mono ?_); rintro e w2 ⟨rfl, R2, T2⟩; have HR2 : Hid _ := ⟨R2⟩; have HT2 : Hid _ := ⟨HT1.out.trans T2⟩; clear R2 T2))
        go_ret2
        exact byt_yes HM.out rfl (by simp only; omega) HR2.out HT2.out
    · have q92 : (z == 92) = false := by rw [← hz', beq_eq_false_iff_ne]; intro e; exact c92 ((u8z (n := 92) (by omega)).1 e)
      rw [if_neg c92, hz'] at hT
      by_cases c32 : z = 32
      · have q32 : (z == 32) = true := by rw [c32]; rfl
        rw [if_pos (by omega)] at hT
        have HM : Hid _ := ⟨hT⟩
        clear h hz hL h1 h2 h3 hT HSh0 c92 c32
        go_enter Tryz.func99, Tryz.ntmps99
        go_wp2_with (go_at_call 97; (with_reducible refine HN.out.mono ?_); rintro e w1 ⟨rfl, R1, T1⟩; have HR1 : Hid _ := ⟨R1⟩; have HT1 : Hid _ := ⟨T1⟩; clear R1 T1)
        go_ret2
        exact byt_yes HM.out hz'.symm rfl HR1.out HT1.out
      · have q32 : (z == 32) = false := by simpa using c32
        by_cases g : 32 < z ∧ z ≤ 126
        · rw [if_pos (by omega)] at hT
          have HSh : Hid (∀ W, Calls Tryz.prog 98 #[.int .u8 z] W fun e w' => e = .returned (.bool true) ∧ w' = W) := ⟨fun W => by
            have := HSh0 W
            rw [decide_eq_true g.1, decide_eq_true g.2] at this
            exact this⟩
          have HM : Hid _ := ⟨hT⟩
          clear h hz hL h1 h2 h3 hT HSh0 c92 c32 g
          go_enter Tryz.func99, Tryz.ntmps99
          go_wp2_with (first
            | (go_at_call 97; (with_reducible refine HN.out.mono ?_); rintro e w1 ⟨rfl, R1, T1⟩; have HR1 : Hid _ := ⟨R1⟩; have HT1 : Hid _ := ⟨T1⟩; clear R1 T1)
            | (go_at_call 98; (with_reducible refine (HSh.out _).mono ?_); rintro e w' ⟨rfl, hw'⟩; subst w'))
          go_ret2
          exact byt_yes HM.out hz'.symm rfl HR1.out HT1.out
        · rw [if_neg (by omega)] at hT
          have HSh : Hid (∀ W, Calls Tryz.prog 98 #[.int .u8 z] W fun e w' => e = .returned (.bool false) ∧ w' = W) := ⟨fun W => by
            have := HSh0 W
            have e0 : (decide (32 < z) && decide (z ≤ 126)) = false := by
              rw [← Bool.decide_and]; exact decide_eq_false g
            rw [e0] at this
            exact this⟩
          have HM : Hid _ := ⟨hT⟩
          clear h hz hL h1 h2 h3 hT HSh0 c92 c32 g
          go_enter Tryz.func99, Tryz.ntmps99
          go_wp2_with (first
            | (go_at_call 97; (with_reducible refine HN.out.mono ?_); rintro e w1 ⟨rfl, R1, T1⟩; have HR1 : Hid _ := ⟨R1⟩; have HT1 : Hid _ := ⟨T1⟩; clear R1 T1)
            | (go_at_call 98; (with_reducible refine (HSh.out _).mono ?_); rintro e w' ⟨rfl, hw'⟩; subst w'))
          go_ret2
          exact byt_no HM.out HR1.out HT1.out
end
section
variable {w w1 w2 : World} {rb : Nat} {s : ByteArray} {a : Nat} {ln : Int} {lv : Value}

theorem RD.belowB (h : RD w rb s a ln lv) {B : Nat} (hb : Below B w w1) (hB : rb < B) : RD w1 rb s a ln lv :=
  h.turn (S := fun k => B ≤ k) ⟨hb.os, hb.tape, hb.output, hb.size, fun k hk hn => hb.block k (by omega)⟩ (fun e => by omega) (fun k e => by have := h.hi; omega)
theorem TR.grow (h : TR rb w w1) {B : Nat} (hb : Below B w1 w2) (hB : w.heap.size ≤ B) : TR rb w w2 :=
  ⟨hb.os.trans h.os, hb.tape.trans h.tape, hb.output.trans h.output, Nat.le_trans h.size hb.size, fun k hk hn => (hb.block k (by omega)).trans (h.block k hk hn)⟩
theorem TBP.belowB {g : Nat} (h : TBP w g) {B : Nat} (hb : Below B w w1) (hB : g < B) : TBP w1 g :=
  h.turn (S := fun k => B ≤ k) ⟨hb.os, hb.tape, hb.output, hb.size, fun k hk hn => hb.block k (by omega)⟩ (fun e => by omega)

theorem tok_no {M : Option (Tok × Nat)} (h : M = none) {w w' : World} {p q r : Int} {t : ByteArray} {a' : Nat} (R : RD w' rb s a' ln lv) (T : TR rb w w') : TokE M rb s a ln lv w (.returned (.tuple #[.agg #[.int .i64 p, .int .i64 q, .int .i64 r, .string t], .bool false])) w' := by subst h; exact ⟨p, q, r, t, a', rfl, R, T⟩
theorem tok_yes {M : Option (Tok × Nat)} {x : Tok × Nat} (h : M = some x) {w w' : World} {k n : Int} {t : ByteArray} (hk : k = x.1.k) (hn : n = x.1.n) (ht : t = St x.1.t) {a' : Nat} (ha : a' = a + x.2) (R : RD w' rb s a' ln lv) (T : TR rb w w') : TokE M rb s a ln lv w (.returned (.tuple #[.agg #[.int .i64 k, .int .i64 0, .int .i64 n, .string t], .bool true])) w' := by subst h; subst hk; subst hn; subst ht; subst ha; exact ⟨rfl, R, T⟩

/-- So far: acc has been read; the rest from k on. -/
def QP (L : List UInt8) (M : Option (List UInt8 × Nat)) (acc : List UInt8) (k : Nat) : Prop := k ≤ L.length ∧ acc.length ≤ k ∧ ∃ n, L.length < k + n ∧ M = quoF n (L.drop k) acc (k + 1)
theorem QP.nil {L : List UInt8} {M : Option (List UInt8 × Nat)} {acc : List UInt8} {k : Nat} (h : QP L M acc k) (hn : L.drop k = []) : M = none := by
  obtain ⟨_, _, n, _, rfl⟩ := h
  rw [hn]
  cases n <;> rfl
theorem QP.stop {L : List UInt8} {M : Option (List UInt8 × Nat)} {acc : List UInt8} {k : Nat} (h : QP L M acc k) {r : List UInt8} (hn : L.drop k = 34 :: r) : M = some (acc, k + 2) := by
  obtain ⟨hk, _, n, h2, rfl⟩ := h
  rw [hn]
  cases n with
  | zero => omega
  | succ n => rfl
theorem QP.none {L : List UInt8} {M : Option (List UInt8 × Nat)} {acc : List UInt8} {k : Nat} (h : QP L M acc k) {c : UInt8} {r : List UInt8} (hn : L.drop k = c :: r) (h34 : ¬ c = 34) (ht : textM (c :: r) = Option.none) : M = Option.none := by
  obtain ⟨hk, _, n, h2, rfl⟩ := h
  rw [hn]
  cases n with
  | zero => omega
  | succ n => rw [quo_text n c r acc _ h34, ht]
theorem QP.step {L : List UInt8} {M : Option (List UInt8 × Nat)} {acc : List UInt8} {k : Nat} (h : QP L M acc k) {c : UInt8} {r : List UInt8} (hn : L.drop k = c :: r) (h34 : ¬ c = 34) {x : UInt8} {j : Nat} (ht : textM (c :: r) = some (x, j)) : QP L M (acc ++ [x]) (k + j) := by
  obtain ⟨hk, hacc, n, h2, rfl⟩ := h
  obtain ⟨j1, j2⟩ := text_le ht
  have hlen : (c :: r).length = L.length - k := by rw [← hn, List.length_drop]
  refine ⟨by omega, by simp; omega, ?_⟩
  rw [hn]
  cases n with
  | zero => omega
  | succ n =>
    refine ⟨n, by omega, ?_⟩
    rw [quo_text n c r acc _ h34, ht, ← List.drop_drop, hn]
    simp only
    congr 1
    omega

set_option maxHeartbeats 4000000 in
set_option maxRecDepth 10000 in
theorem quotedText_any (h : RD w rb s a ln lv) (hl : s.size ≤ 8796093022208) (ha : a ≤ s.size) : Calls Tryz.prog 80 #[.pointer (some ⟨rb, 0, none⟩)] w fun e w' => TokE ((quoM (34 :: Ln s a)).map fun p => (⟨3, 0, p.1⟩, p.2 - 1)) rb s a ln lv w e w' := by
  have HR : Hid _ := ⟨h⟩
  have hne := h.lt
  obtain ⟨M, hM⟩ : ∃ M, quoM (34 :: Ln s a) = M := ⟨_, rfl⟩
  have HM0 : Hid (QP (Ln s a) M [] 0) := ⟨Nat.zero_le _, Nat.zero_le _, (Ln s a).length + 2, by omega, by rw [← hM]; rfl⟩
  have hLn := Ln_len s a
  rw [hM]
  clear h hM
  go_enter Tryz.func80, Tryz.ntmps80
  go_wp2_with fail
  go_loopw [4] (fun v wr => ∃ (k : Nat) (acc : List UInt8), k ≤ (Ln s a).length ∧ acc.length ≤ k ∧ Hid (RD wr rb s (a + k) ln lv ∧ TR rb (w.alloc tokZP) wr ∧ Own wr (w.heap.size + 1) v (acc.map zOf) ∧ QP (Ln s a) M acc k)) (fun _ wr => a + s.size + 1 - atOf wr rb)
  case atStart => exact ⟨0, [], Nat.zero_le _, Nat.zero_le _, ⟨HR.out.alloc tokZP, TR.self _ _, Own.nil _ _, HM0.out⟩⟩
  case round =>
    obtain ⟨k, acc, hk, hacc, HW⟩ := hrel
    obtain ⟨R1, T1, O1, Q1⟩ := HW.out
    have hak := Ln_top s k a hk ha
    have hme : Hid _ := ⟨R1.atOf⟩
    have hbs : w.heap.size + 1 ≤ wr.heap.size := by have := T1.size; simpa using this
    have hLk := Ln_drop s k a hk
    clear HM0
    cases hD : (Ln s a).drop k with
    | nil =>
      have HN : Hid (M = none) := ⟨Q1.nil hD⟩
      have HK : Hid _ := ⟨take_no R1 (by omega) (b := 34) (by rw [hLk, hD]; decide)⟩
      have HX : Hid (∀ W, RD W rb s (a + k) ln lv → Calls Tryz.prog 99 #[.pointer (some ⟨rb, 0, none⟩)] W fun e w' => ∃ (x : Int) (a' : Nat), e = .returned (.tuple #[.int .u8 x, .bool false]) ∧ RD w' rb s a' ln lv ∧ TR rb W w') := ⟨fun W hW => by
        have := textByte_any hW hl hak
        rw [hLk, hD] at this
        exact this⟩
      have HT1 : Hid _ := ⟨T1⟩
      clear R1 T1 O1 Q1 HW hD hLk
      go_wp2_with (first
        | (go_at_call 57; (with_reducible refine HK.out.mono ?_); rintro e w1 ⟨rfl, R2, T2⟩; have HR2 : Hid _ := ⟨R2⟩; have HT2 : Hid _ := ⟨HT1.out.trans T2⟩; clear R2 T2)
        | (go_at_call 99; (with_reducible refine (HX.out _ HR2.out).mono ?_); rintro e w3 ⟨x, a', rfl, R3, T3⟩; have HR3 : Hid _ := ⟨R3⟩; have HT3 : Hid _ := ⟨HT2.out.trans T3⟩; clear R3 T3; obtain ⟨d0, d1, d2, d3, fz⟩ := TBP.of HR.out HT3.out; have f0 := fz 0; have f1 := fz 1; have f2 := fz 2; have f3 := fz 3; clear fz))
      refine bodyPost_ret (resS_quotedText _ w3 w.heap.size _ _ _ _ rfl (TBP.of HR.out HT3.out)) rfl ?_
      exact tok_no (by rw [HN.out]; rfl) (HR3.out.set4 hne _ _ _ _) (TR.set4 HT3.out _ _ _ _)
    | cons c r =>
      by_cases h34 : c = 34
      · subst h34
        have HN : Hid (M = some (acc, k + 2)) := ⟨Q1.stop hD⟩
        have HK : Hid _ := ⟨take_yes R1 (by omega) (b := 34) (by rw [hLk, hD]; rfl)⟩
        have HT1 : Hid _ := ⟨T1⟩
        have HO1 : Hid _ := ⟨O1⟩
        clear R1 T1 O1 Q1 HW hD hLk
        go_wp2_with (first
          | (go_at_call 57; (with_reducible refine HK.out.mono ?_); rintro e w3 ⟨rfl, R3, T3⟩; have k1 := own_conv (show Own w3 _ _ _ from T3.row HO1.out (fun k hk e => by have := (HO1.out.lt k hk).1; omega)); have HR3 : Hid _ := ⟨R3⟩; have HT3 : Hid _ := ⟨HT1.out.trans T3⟩; clear R3 T3; obtain ⟨d0, d1, d2, d3, fz⟩ := TBP.of HR.out HT3.out; have f0 := fz 0; have f1 := fz 1; have f2 := fz 2; have f3 := fz 3; clear fz))
        refine bodyPost_ret (resS_quotedText _ w3 w.heap.size _ _ _ _ rfl (TBP.of HR.out HT3.out)) rfl ?_
        exact tok_yes (x := (⟨3, 0, acc⟩, k + 1)) (by rw [HN.out]; rfl) rfl rfl (str_St acc) (by simp only; omega) (HR3.out.set4 hne _ _ _ _) (TR.set4 HT3.out _ _ _ _)
      · have HK : Hid _ := ⟨take_no R1 (by omega) (b := 34) (by rw [hLk, hD]; exact fun e => h34 ((u8z (n := 34) (by omega)).1 e))⟩
        have HX0 : ∀ W, RD W rb s (a + k) ln lv → Calls Tryz.prog 99 #[.pointer (some ⟨rb, 0, none⟩)] W fun e w' => BytE (textM (c :: r)) rb s (a + k) ln lv W e w' := fun W hW => by
          have := textByte_any hW hl hak
          rw [hLk, hD] at this
          exact this
        have HT1 : Hid _ := ⟨T1⟩
        cases ht : textM (c :: r) with
        | none =>
          have HN : Hid (M = none) := ⟨Q1.none hD h34 ht⟩
          rw [ht] at HX0
          have HX : Hid _ := ⟨HX0⟩
          dsimp only [BytE] at HX
          clear R1 T1 O1 Q1 HW hD hLk HX0 ht h34
          go_wp2_with (first
            | (go_at_call 57; (with_reducible refine HK.out.mono ?_); rintro e w1 ⟨rfl, R2, T2⟩; have HR2 : Hid _ := ⟨R2⟩; have HT2 : Hid _ := ⟨HT1.out.trans T2⟩; clear R2 T2)
            | (go_at_call 99; (with_reducible refine (HX.out _ HR2.out).mono ?_); rintro e w3 ⟨x, a', rfl, R3, T3⟩; have HR3 : Hid _ := ⟨R3⟩; have HT3 : Hid _ := ⟨HT2.out.trans T3⟩; clear R3 T3; obtain ⟨d0, d1, d2, d3, fz⟩ := TBP.of HR.out HT3.out; have f0 := fz 0; have f1 := fz 1; have f2 := fz 2; have f3 := fz 3; clear fz))
          refine bodyPost_ret (resS_quotedText _ w3 w.heap.size _ _ _ _ rfl (TBP.of HR.out HT3.out)) rfl ?_
          exact tok_no (by rw [HN.out]; rfl) (HR3.out.set4 hne _ _ _ _) (TR.set4 HT3.out _ _ _ _)
        | some p =>
          obtain ⟨x, j⟩ := p
          have HQ2 : Hid _ := ⟨Q1.step hD h34 ht⟩
          obtain ⟨j1, j2⟩ := text_le ht
          have hlen : (c :: r).length = (Ln s a).length - k := by rw [← hD, List.length_drop]
          have hkj : k + j ≤ (Ln s a).length := by omega
          rw [ht] at HX0
          have HX : Hid _ := ⟨HX0⟩
          dsimp only [BytE] at HX
          have HO1 : Hid _ := ⟨O1⟩
          clear R1 T1 O1 Q1 HW hD hLk HX0 ht h34 j2 hlen
          go_wp2_with (first
            | (go_at_call 57; (with_reducible refine HK.out.mono ?_); rintro e w1 ⟨rfl, R2, T2⟩; have HO2 : Hid (Own w1 (w.heap.size + 1) _ (acc.map zOf)) := ⟨T2.row HO1.out (fun k hk e => by have := (HO1.out.lt k hk).1; omega)⟩; have HR2 : Hid _ := ⟨R2⟩; have HT2 : Hid _ := ⟨HT1.out.trans T2⟩; clear R2 T2)
            | (go_at_call 99; (with_reducible refine (HX.out _ HR2.out).mono ?_); rintro e w3 ⟨rfl, R3, T3⟩; have HO3 : Hid (Own w3 (w.heap.size + 1) _ (acc.map zOf)) := ⟨T3.row HO2.out (fun k hk e => by have := (HO2.out.lt k hk).1; omega)⟩; have HR3 : Hid _ := ⟨R3⟩; have HT3 : Hid _ := ⟨HT2.out.trans T3⟩; have hb3 : w.heap.size + 1 ≤ w3.heap.size := (by have := HT3.out.size; simpa using this); clear R3 T3)
            | (at_builtin; (refine append_byte w3 rfl _ _ rfl (w.heap.size + 1) _ (acc.map zOf) rfl (by exact HO3.out) (zOf x) rfl (by rw [List.length_map]; omega) hb3 ?_; intro v2 w9 ho2 hb2)))
          have R9 := HR3.out.belowB hb2 (by omega)
          have T9 := TR.grow HT3.out hb2 (by simp)
          have hme2 : Hid _ := ⟨R9.atOf⟩
          have R9' : RD w9 rb s (a + (k + j)) ln lv := by rw [← Nat.add_assoc]; exact R9
          go_roundw
          case rel => exact ⟨k + j, acc ++ [x], hkj, by simp; omega, ⟨R9', T9, by rw [List.map_append]; exact ho2, HQ2.out⟩⟩
          case measure => rw [hme.out, hme2.out]; omega
end
end Go.Proofs.YtljmbgflcidokaaGreatDoor
