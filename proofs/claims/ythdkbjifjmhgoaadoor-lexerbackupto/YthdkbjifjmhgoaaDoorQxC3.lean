/- The program's cutting of all lines. -/
import Derived.Test.YthdkbjifjmhgoaaDoorQxC2
import Derived.WalkMore
namespace Go.Proofs.YthdkbjifjmhgoaaDoor
open Go.ChangeShapes Go.WideShapes Go.ChangeAt Go.RowKit
set_option linter.unusedVariables false
set_option linter.unusedSimpArgs false
section
variable {w w1 w2 : World} {rb : Nat} {s : ByteArray} {a : Nat} {ln : Int} {lv : Value}

theorem more_t (h : RD w rb s a ln lv) {b : Bool} (hb : decide (a < s.size) = b) : Calls Tryd.prog 30 #[.pointer (some ⟨rb, 0, none⟩)] w fun e w' => e = .returned (.bool b) ∧ RD w' rb s a ln lv ∧ TR rb w w' := by
  subst hb
  refine (more_any h).mono ?_
  rintro e w' ⟨he, m, rfl⟩
  exact ⟨he, h.drewN m, (TR.self _ _).draw m⟩
theorem peek_t (h : RD w rb s a ln lv) {z : Int} (hz : hdZ (Ln s a) = z) : Calls Tryd.prog 32 #[.pointer (some ⟨rb, 0, none⟩)] w fun e w' => e = .returned (.int .u8 z) ∧ RD w' rb s a ln lv ∧ TR rb w w' := by
  subst hz
  refine (peek_any h).mono ?_
  rintro e w' ⟨he, m, rfl⟩
  exact ⟨he, h.drewN m, (TR.self _ _).draw m⟩
theorem TL2.tr {base : Nat} (h : TL2 rb base w w1) (k : TR rb w1 w2) : TL2 rb base w w2 := Turn.trans' h k (fun i _ e => .inl e)
theorem TL2.t2 {base : Nat} (h : TL2 rb base w w1) (k : TL2 rb base w1 w2) : TL2 rb base w w2 := Turn.trans h k
theorem own_tr {base : Nat} {v : Value} {L : List TL} (h : OwnTP w base v L) (hb : rb < base) (k : TR rb w w1) : OwnTP w1 base v L := k.row h (fun i hi e => by have := (h.lt i hi).1; omega)

/-- How cut ends. -/
def CutE (C : Except Int (List TL)) (rb base : Nat) (s : ByteArray) (w : World) (e : Ending) (w' : World) : Prop :=
  match C with
  | .ok ts => e = .returned (.bool true) ∧ ∃ a ln lv, RD w' rb s a ln lv ∧ OwnTP w' base lv ts ∧ TL2 rb base w w'
  | .error k => e = .returned (.bool false) ∧ ∃ a lv, RD w' rb s a k lv ∧ TL2 rb base w w'
theorem cut_yes {C : Except Int (List TL)} {ts : List TL} (h : C = .ok ts) {base : Nat} {w w' : World} {a : Nat} {ln : Int} {lv : Value} (R : RD w' rb s a ln lv) (O : OwnTP w' base lv ts) (T : TL2 rb base w w') : CutE C rb base s w (.returned (.bool true)) w' := by subst h; exact ⟨rfl, a, ln, lv, R, O, T⟩
theorem cut_no {C : Except Int (List TL)} {k : Int} (h : C = .error k) {base : Nat} {w w' : World} {a : Nat} {lv : Value} (R : RD w' rb s a k lv) (T : TL2 rb base w w') : CutE C rb base s w (.returned (.bool false)) w' := by subst h; exact ⟨rfl, a, lv, R, T⟩

theorem hd_lf {l : List UInt8} (h : ∀ c ∈ l, ¬ c = 10) : (l = [] → hdZ l = 10) ∧ (∀ c r, l = c :: r → ¬ hdZ l = 10) := by
  constructor
  · rintro rfl; rfl
  · rintro c r rfl e
    exact h c (by simp) ((u8z (n := 10) (by omega)).1 e)

/-- What the inner loop knows. -/
structure InL (w0 w : World) (rb base : Nat) (s : ByteArray) (a : Nat) (J : Int) (acc : List TL) (X : Option (List Tok)) (b : Nat) (ts : List Tok) (lv : Value) : Prop where
  e : b + (Ln s b).length = a + (Ln s a).length
  r : RD w rb s b J lv
  o : OwnTP w base lv (acc ++ ts.map fun t => (t, J))
  t : TL2 rb base w0 w
  f : LF (Ln s b) X ts

set_option maxHeartbeats 8000000 in
set_option maxRecDepth 10000 in
theorem cut_any (h : RD w rb s 0 0 (.slice none 0 0)) (hl : s.size ≤ 65536) (base : Nat) (hb1 : rb < base) (hb2 : base ≤ w.heap.size) :
    Calls Tryd.prog 22 #[.pointer (some ⟨rb, 0, none⟩)] w fun e w' => CutE (cutF (linesM (lo s)) 1 []) rb base s w e w' := by
  have H0 : Hid _ := ⟨h⟩
  obtain ⟨C, hC0⟩ : ∃ C, cutF (linesM (lo s)) 1 [] = C := ⟨_, rfl⟩
  rw [hC0]
  have HC0 : Hid (C = cutF (linesM ((lo s).drop 0)) (0 + 1) []) := ⟨hC0.symm⟩
  clear h hC0
  go_enter Tryd.func22, Tryd.ntmps22
  go_wp2_with fail
  go_step3
  go_wp2_with fail
  go_step3
  go_wp2_with fail
  go_loopw [] (fun wr => ∃ (a j : Nat) (acc : List TL) (lv : Value), a ≤ s.size + 1 ∧ j ≤ a ∧ acc.length ≤ 2 * a ∧ Hid (RD wr rb s a (j : Int) lv ∧ OwnTP wr base lv acc ∧ TL2 rb base w wr ∧ C = cutF (linesM ((lo s).drop a)) (j + 1) acc)) (fun wr => s.size + 2 - atOf wr rb)
  case atStart => exact ⟨0, 0, [], _, by omega, by omega, by simp, ⟨H0.out, OwnTP.nil _ _, Turn.refl _ _, HC0.out⟩⟩
  case round =>
    obtain ⟨a, j, acc, lv, ha, hj, hacc, HW⟩ := hrel
    obtain ⟨R1, O1, T1, hC⟩ := HW.out
    clear HC0 H0
    have hmeO : Hid _ := ⟨R1.atOf⟩
    by_cases hlt : a < s.size
    · have HM : Hid _ := ⟨more_t R1 (decide_eq_true hlt)⟩
      obtain ⟨X, hX⟩ : ∃ X, X = lineF ((Ln s a).length + 1) (Ln s a) := ⟨_, rfl⟩
      have HX : Hid _ := ⟨cut_line hlt hC hX⟩
      have HLS : Hid (LF (Ln s a) X []) := ⟨by rw [hX]; exact LF.start _⟩
      have htop := Ln_top s _ a (Nat.le_refl _) (Nat.le_of_lt hlt)
      obtain ⟨ao, cp, hv, _⟩ := OwnTP.any O1
      subst hv
      have HO1 : Hid _ := ⟨O1⟩
      have HT1 : Hid _ := ⟨T1⟩
      have hw1 : IntKind.i64.wrap ((j : Int) + 1) = (j : Int) + 1 := by rw [IntKind.wrap_i64]; omega
      clear R1 O1 T1 hC HW hX
      go_wp2_with (go_at_call 30; (with_reducible refine HM.out.mono ?_); rintro e v1 ⟨rfl, R2, T2⟩; have k2 := R2.c2; have k3 := R2.c3; have z2 := R2.fz 258; have HR2 : Hid _ := ⟨R2⟩; have HT2 : Hid _ := ⟨T2⟩; clear R2 T2)
      have HI0 : Hid (InL w (v1.setCell ⟨rb, 258, none⟩ (.int .i64 ((j : Int) + 1))) rb base s a ((j : Int) + 1) acc X a [] (.slice ao acc.length cp)) := ⟨⟨rfl, HR2.out.setLine _, by
        have := own_tr (own_tr HO1.out hb1 HT2.out) hb1 ((TR.self rb v1).set 258 (.int .i64 ((j : Int) + 1)))
        simpa using this, TL2.tr (TL2.tr HT1.out HT2.out) ((TR.self rb v1).set 258 _), HLS.out⟩⟩
      generalize v1.setCell ⟨rb, 258, none⟩ (.int .i64 ((j : Int) + 1)) = v2 at *
      clear k2 k3 z2 HR2 HT2 HM HO1 HT1 HLS
      go_loopw [] (fun wr => ∃ (b : Nat) (ts : List Tok) (lv : Value), a ≤ b ∧ b ≤ s.size ∧ ts.length ≤ b - a ∧ Hid (InL w wr rb base s a ((j : Int) + 1) acc X b ts lv)) (fun wr => s.size + 1 - atOf wr rb)
      case atStart => exact ⟨a, [], _, Nat.le_refl _, by omega, by simp, HI0⟩
      case round =>
        obtain ⟨b, ts, lv, hab, hbs, hts, HW⟩ := hrel
        obtain ⟨eE, R1, O1, T1, F1⟩ := HW.out
        have hmeI : Hid _ := ⟨R1.atOf⟩
        have hbA : b ≤ a + (Ln s a).length := by omega
        have hle := run_le 1 (Ln s b)
        have HSk : Hid _ := ⟨skip_any R1 1 1 rfl (by omega) (by omega) hbs⟩
        have F2 := F1.blank
        have hbn := Ln_top s _ b hle hbs
        have hLn := Ln_drop s _ b hle
        have hlenD : ((Ln s b).drop (runN 1 (Ln s b))).length = (Ln s b).length - runN 1 (Ln s b) := List.length_drop
        obtain ⟨ao, cp, hv, _⟩ := OwnTP.any O1
        obtain ⟨cnt, hcnt⟩ : ∃ cnt, (acc ++ ts.map fun t => (t, (j : Int) + 1)).length = cnt := ⟨_, rfl⟩
        rw [hcnt] at hv
        subst hv
        have hcl : cnt = acc.length + ts.length := by rw [← hcnt]; simp
        have HO1 : Hid _ := ⟨O1⟩
        have HT1 : Hid _ := ⟨T1⟩
        have hbw : base ≤ wr.heap.size := Nat.le_trans hb2 T1.size
        have hacc2 : acc.length ≤ 131074 := by omega
        clear R1 O1 T1 HW HI0
        generalize hn : runN 1 (Ln s b) = n at *
        obtain ⟨q, hq⟩ : ∃ q, b + n = q := ⟨_, rfl⟩
        rw [hq] at HSk hbn hLn
        cases hD : (Ln s b).drop n with
        | nil =>
          rw [hD] at F2 hlenD hLn
          simp only [List.length_nil] at hlenD
          have HPk : Hid (∀ W, RD W rb s q ((j : Int) + 1) (.slice ao cnt cp) → Calls Tryd.prog 32 #[.pointer (some ⟨rb, 0, none⟩)] W fun e w' => e = .returned (.int .u8 10) ∧ RD w' rb s q ((j : Int) + 1) (.slice ao cnt cp) ∧ TR rb W w') := ⟨fun W hW => peek_t hW (by rw [hLn]; rfl)⟩
          have HTk : Hid (∀ W, RD W rb s q ((j : Int) + 1) (.slice ao cnt cp) → Calls Tryd.prog 34 #[.pointer (some ⟨rb, 0, none⟩), .int .u8 10] W fun e w' => e = .returned (.bool true) ∧ RD w' rb s (q + 1) ((j : Int) + 1) (.slice ao cnt cp) ∧ TR rb W w') := ⟨fun W hW => take_yes hW (by omega) (by rw [hLn]; rfl)⟩
          obtain ⟨bE, hbE⟩ : ∃ bE, q + 1 = bE := ⟨_, rfl⟩
          rw [hbE] at HTk
          have hE1 : bE = a + (Ln s a).length + 1 := by omega
          have hXs : X = some ts := F2.stop
          have HCn : Hid _ := ⟨HX.out.2 ts hXs⟩
          cases hts0 : ts with
          | nil =>
            subst hts0
            have hgt : ¬ (acc.length : Int) < (cnt : Int) := by simp only [List.length_nil] at hcl; omega
            have hlen : (acc ++ ([] : List Tok).map fun t => (t, (j : Int) + 1)) = acc := by simp
            have HE1 : Hid _ := ⟨hE1⟩
            clear F1 F2 hXs HX hE1 hlenD hn hcnt hcl eE hbE hq hLn hD
            go_wp2_with (first
              | (go_at_call 31; (with_reducible refine HSk.out.mono ?_); rintro e x1 ⟨rfl, R2, T2⟩; have HR2 : Hid _ := ⟨R2⟩; have HT2 : Hid _ := ⟨T2⟩; have HO2 : Hid _ := ⟨own_tr HO1.out hb1 T2⟩; clear R2 T2)
              | (go_at_call 32; (with_reducible refine (HPk.out _ HR2.out).mono ?_); rintro e x2 ⟨rfl, R3, T3⟩; have HR3 : Hid _ := ⟨R3⟩; have HT3 : Hid _ := ⟨HT2.out.trans T3⟩; have HO3 : Hid _ := ⟨own_tr HO2.out hb1 T3⟩; clear R3 T3)
              | (go_at_call 34; (with_reducible refine (HTk.out _ HR3.out).mono ?_); rintro e x5 ⟨rfl, R5, T5⟩; have k3 := R5.c3; have HR5 : Hid _ := ⟨R5⟩; have HT5 : Hid _ := ⟨HT3.out.trans T5⟩; have HO5 : Hid _ := ⟨own_tr HO3.out hb1 T5⟩; clear R5 T5))
            have R5' : RD x5 rb s (a + (Ln s a).length + 1) ((j + 1 : Nat) : Int) (.slice ao cnt cp) := by rw [← HE1.out]; exact HR5.out
            have hme2 : Hid _ := ⟨R5'.atOf⟩
            have O5' : OwnTP x5 base (.slice ao cnt cp) acc := by have := HO5.out; rw [hlen] at this; exact this
            go_roundw
            case rel => exact ⟨a + (Ln s a).length + 1, j + 1, acc, _, by omega, by omega, by omega, ⟨R5', O5', TL2.tr HT1.out HT5.out, by have := HCn.out; simpa using this⟩⟩
            case measure => rw [hmeO.out, hme2.out]; omega
          | cons t0 ts0 =>
            have hne : ¬ ts = [] := by rw [hts0]; simp
            have hgt : (acc.length : Int) < (cnt : Int) := by have : ts.length = ts0.length + 1 := (by rw [hts0]; rfl); omega
            have hAl : (acc ++ ts.map fun t => (t, (j : Int) + 1)).length ≤ 262144 := by simp; omega
            have HAd : Hid (∀ W, RD W rb s bE ((j : Int) + 1) (.slice ao cnt cp) → OwnTP W base (.slice ao cnt cp) (acc ++ ts.map fun t => (t, (j : Int) + 1)) → base ≤ W.heap.size → Calls Tryd.prog 35 #[.pointer (some ⟨rb, 0, none⟩), .agg #[.int .i64 6, .int .i64 0, .int .i64 0, .string ⟨#[]⟩]] W fun e w' => e = .returned (.tuple #[]) ∧ ∃ lv', RD w' rb s bE ((j : Int) + 1) lv' ∧ OwnTP w' base lv' ((acc ++ ts.map fun t => (t, (j : Int) + 1)) ++ [(⟨6, 0, []⟩, (j : Int) + 1)]) ∧ TL2 rb base W w') := ⟨fun W hW hO hbW => add_any hW _ base hO hb1 hbW (by omega) 6 0 0 []⟩
            have hfin : ((acc ++ ts.map fun t => (t, (j : Int) + 1)) ++ [(⟨6, 0, []⟩, (j : Int) + 1)]) = acc ++ (if ts = [] then [] else ts ++ [(⟨6, 0, []⟩ : Tok)]).map fun t => (t, ((j + 1 : Nat) : Int)) := by rw [if_neg hne]; simp
            have HE1 : Hid _ := ⟨hE1⟩
            clear F1 F2 hXs HX hts0 hne hE1 hlenD hn hcnt hcl eE hbE hq hLn hD
            go_wp2_with (first
              | (go_at_call 31; (with_reducible refine HSk.out.mono ?_); rintro e x1 ⟨rfl, R2, T2⟩; have HR2 : Hid _ := ⟨R2⟩; have HT2 : Hid _ := ⟨T2⟩; have HO2 : Hid _ := ⟨own_tr HO1.out hb1 T2⟩; clear R2 T2)
              | (go_at_call 32; (with_reducible refine (HPk.out _ HR2.out).mono ?_); rintro e x2 ⟨rfl, R3, T3⟩; have HR3 : Hid _ := ⟨R3⟩; have HT3 : Hid _ := ⟨HT2.out.trans T3⟩; have HO3 : Hid _ := ⟨own_tr HO2.out hb1 T3⟩; clear R3 T3)
              | (go_at_call 34; (with_reducible refine (HTk.out _ HR3.out).mono ?_); rintro e x5 ⟨rfl, R5, T5⟩; have k3 := R5.c3; have HR5 : Hid _ := ⟨R5⟩; have HT5 : Hid _ := ⟨HT3.out.trans T5⟩; have HO5 : Hid _ := ⟨own_tr HO3.out hb1 T5⟩; clear R5 T5)
              | (go_at_call 35; (with_reducible refine (HAd.out _ HR5.out HO5.out (Nat.le_trans hbw HT5.out.size)).mono ?_); rintro e x9 ⟨rfl, lv9, R9, O9, T9⟩))
            have R9' : RD x9 rb s (a + (Ln s a).length + 1) ((j + 1 : Nat) : Int) lv9 := by rw [← HE1.out]; exact R9
            have hme2 : Hid _ := ⟨R9'.atOf⟩
            rw [hfin] at O9
            go_roundw
            case rel => exact ⟨a + (Ln s a).length + 1, j + 1, _, lv9, by omega, by omega, by rw [← hfin]; simp; simp at hAl; omega, ⟨R9', O9, TL2.t2 (TL2.tr HT1.out HT5.out) T9, HCn.out⟩⟩
            case measure => rw [hmeO.out, hme2.out]; omega
        | cons c r =>
          rw [hD] at F2 hlenD hLn
          simp only [List.length_cons] at hlenD
          have hnb : ¬ (c = 32 ∨ c = 9) := blank_head (L := Ln s b) (by rw [hn]; exact hD)
          have hten := Ln_ten s q
          have hc10 : ¬ c = 10 := hten c (by rw [hLn]; simp)
          clear hten
          by_cases h35 : c = 35
          · subst h35
            have HPk : Hid (∀ W, RD W rb s q ((j : Int) + 1) (.slice ao cnt cp) → Calls Tryd.prog 32 #[.pointer (some ⟨rb, 0, none⟩)] W fun e w' => e = .returned (.int .u8 35) ∧ RD w' rb s q ((j : Int) + 1) (.slice ao cnt cp) ∧ TR rb W w') := ⟨fun W hW => peek_t hW (by rw [hLn]; rfl)⟩
            obtain ⟨q2, hq2⟩ : ∃ q2, q + (r.length + 1) = q2 := ⟨_, rfl⟩
            have hLq : Ln s q2 = [] := by
              have := Ln_drop s (r.length + 1) q (by rw [hLn]; simp)
              rw [hq2, hLn] at this
              rw [this]
              exact List.drop_of_length_le (by simp)
            have hq2s : q2 ≤ s.size := by
              have := Ln_top s (r.length + 1) q (by rw [hLn]; simp) hbn
              omega
            have HSl : Hid (∀ W, RD W rb s q ((j : Int) + 1) (.slice ao cnt cp) → Calls Tryd.prog 33 #[.pointer (some ⟨rb, 0, none⟩)] W fun e w' => e = .returned (.tuple #[]) ∧ RD w' rb s q2 ((j : Int) + 1) (.slice ao cnt cp) ∧ TR rb W w') := ⟨fun W hW => by
              have := skipLine_any hW (by omega) hbn
              rw [hLn, List.length_cons, hq2] at this
              exact this⟩
            have HTk : Hid (∀ W, RD W rb s q2 ((j : Int) + 1) (.slice ao cnt cp) → Calls Tryd.prog 34 #[.pointer (some ⟨rb, 0, none⟩), .int .u8 10] W fun e w' => e = .returned (.bool true) ∧ RD w' rb s (q2 + 1) ((j : Int) + 1) (.slice ao cnt cp) ∧ TR rb W w') := ⟨fun W hW => take_yes hW (by omega) (by rw [hLq]; rfl)⟩
            obtain ⟨bE, hbE⟩ : ∃ bE, q2 + 1 = bE := ⟨_, rfl⟩
            rw [hbE] at HTk
            have hE1 : bE = a + (Ln s a).length + 1 := by omega
            have hXs : X = some ts := F2.hash
            have HCn : Hid _ := ⟨HX.out.2 ts hXs⟩
            cases hts0 : ts with
            | nil =>
              subst hts0
              have hgt : ¬ (acc.length : Int) < (cnt : Int) := by simp only [List.length_nil] at hcl; omega
              have hlen : (acc ++ ([] : List Tok).map fun t => (t, (j : Int) + 1)) = acc := by simp
              have HE1 : Hid _ := ⟨hE1⟩
              clear F1 F2 hXs HX hE1 hlenD hn hcnt hcl eE hbE hq hLn hD hq2 hLq
              go_wp2_with (first
                | (go_at_call 31; (with_reducible refine HSk.out.mono ?_); rintro e x1 ⟨rfl, R2, T2⟩; have HR2 : Hid _ := ⟨R2⟩; have HT2 : Hid _ := ⟨T2⟩; have HO2 : Hid _ := ⟨own_tr HO1.out hb1 T2⟩; clear R2 T2)
                | (go_at_call 32; (with_reducible refine (HPk.out _ HR2.out).mono ?_); rintro e x2 ⟨rfl, R3, T3⟩; have HR3 : Hid _ := ⟨R3⟩; have HT3 : Hid _ := ⟨HT2.out.trans T3⟩; have HO3 : Hid _ := ⟨own_tr HO2.out hb1 T3⟩; clear R3 T3)
                | (go_at_call 33; (with_reducible refine (HSl.out _ HR3.out).mono ?_); rintro e x3 ⟨rfl, R4, T4⟩; have HR4 : Hid _ := ⟨R4⟩; have HT4 : Hid _ := ⟨HT3.out.trans T4⟩; have HO4 : Hid _ := ⟨own_tr HO3.out hb1 T4⟩; clear R4 T4)
                | (go_at_call 34; (with_reducible refine (HTk.out _ HR4.out).mono ?_); rintro e x5 ⟨rfl, R5, T5⟩; have k3 := R5.c3; have HR5 : Hid _ := ⟨R5⟩; have HT5 : Hid _ := ⟨HT4.out.trans T5⟩; have HO5 : Hid _ := ⟨own_tr HO4.out hb1 T5⟩; clear R5 T5))
              have R5' : RD x5 rb s (a + (Ln s a).length + 1) ((j + 1 : Nat) : Int) (.slice ao cnt cp) := by rw [← HE1.out]; exact HR5.out
              have hme2 : Hid _ := ⟨R5'.atOf⟩
              have O5' : OwnTP x5 base (.slice ao cnt cp) acc := by have := HO5.out; rw [hlen] at this; exact this
              go_roundw
              case rel => exact ⟨a + (Ln s a).length + 1, j + 1, acc, _, by omega, by omega, by omega, ⟨R5', O5', TL2.tr HT1.out HT5.out, by have := HCn.out; simpa using this⟩⟩
              case measure => rw [hmeO.out, hme2.out]; omega
            | cons t0 ts0 =>
              have hne : ¬ ts = [] := by rw [hts0]; simp
              have hgt : (acc.length : Int) < (cnt : Int) := by have : ts.length = ts0.length + 1 := (by rw [hts0]; rfl); omega
              have hAl : (acc ++ ts.map fun t => (t, (j : Int) + 1)).length ≤ 262144 := by simp; omega
              have HAd : Hid (∀ W, RD W rb s bE ((j : Int) + 1) (.slice ao cnt cp) → OwnTP W base (.slice ao cnt cp) (acc ++ ts.map fun t => (t, (j : Int) + 1)) → base ≤ W.heap.size → Calls Tryd.prog 35 #[.pointer (some ⟨rb, 0, none⟩), .agg #[.int .i64 6, .int .i64 0, .int .i64 0, .string ⟨#[]⟩]] W fun e w' => e = .returned (.tuple #[]) ∧ ∃ lv', RD w' rb s bE ((j : Int) + 1) lv' ∧ OwnTP w' base lv' ((acc ++ ts.map fun t => (t, (j : Int) + 1)) ++ [(⟨6, 0, []⟩, (j : Int) + 1)]) ∧ TL2 rb base W w') := ⟨fun W hW hO hbW => add_any hW _ base hO hb1 hbW (by omega) 6 0 0 []⟩
              have hfin : ((acc ++ ts.map fun t => (t, (j : Int) + 1)) ++ [(⟨6, 0, []⟩, (j : Int) + 1)]) = acc ++ (if ts = [] then [] else ts ++ [(⟨6, 0, []⟩ : Tok)]).map fun t => (t, ((j + 1 : Nat) : Int)) := by rw [if_neg hne]; simp
              have HE1 : Hid _ := ⟨hE1⟩
              clear F1 F2 hXs HX hts0 hne hE1 hlenD hn hcnt hcl eE hbE hq hLn hD hq2 hLq
              go_wp2_with (first
                | (go_at_call 31; (with_reducible refine HSk.out.mono ?_); rintro e x1 ⟨rfl, R2, T2⟩; have HR2 : Hid _ := ⟨R2⟩; have HT2 : Hid _ := ⟨T2⟩; have HO2 : Hid _ := ⟨own_tr HO1.out hb1 T2⟩; clear R2 T2)
                | (go_at_call 32; (with_reducible refine (HPk.out _ HR2.out).mono ?_); rintro e x2 ⟨rfl, R3, T3⟩; have HR3 : Hid _ := ⟨R3⟩; have HT3 : Hid _ := ⟨HT2.out.trans T3⟩; have HO3 : Hid _ := ⟨own_tr HO2.out hb1 T3⟩; clear R3 T3)
                | (go_at_call 33; (with_reducible refine (HSl.out _ HR3.out).mono ?_); rintro e x3 ⟨rfl, R4, T4⟩; have HR4 : Hid _ := ⟨R4⟩; have HT4 : Hid _ := ⟨HT3.out.trans T4⟩; have HO4 : Hid _ := ⟨own_tr HO3.out hb1 T4⟩; clear R4 T4)
                | (go_at_call 34; (with_reducible refine (HTk.out _ HR4.out).mono ?_); rintro e x5 ⟨rfl, R5, T5⟩; have k3 := R5.c3; have HR5 : Hid _ := ⟨R5⟩; have HT5 : Hid _ := ⟨HT4.out.trans T5⟩; have HO5 : Hid _ := ⟨own_tr HO4.out hb1 T5⟩; clear R5 T5)
                | (go_at_call 35; (with_reducible refine (HAd.out _ HR5.out HO5.out (Nat.le_trans hbw HT5.out.size)).mono ?_); rintro e x9 ⟨rfl, lv9, R9, O9, T9⟩))
              have R9' : RD x9 rb s (a + (Ln s a).length + 1) ((j + 1 : Nat) : Int) lv9 := by rw [← HE1.out]; exact R9
              have hme2 : Hid _ := ⟨R9'.atOf⟩
              rw [hfin] at O9
              go_roundw
              case rel => exact ⟨a + (Ln s a).length + 1, j + 1, _, lv9, by omega, by omega, by rw [← hfin]; simp; simp at hAl; omega, ⟨R9', O9, TL2.t2 (TL2.tr HT1.out HT5.out) T9, HCn.out⟩⟩
              case measure => rw [hmeO.out, hme2.out]; omega
          · obtain ⟨z, hz⟩ : ∃ z, zOf c = z := ⟨_, rfl⟩
            have q35 : (z == 35) = false := by rw [← hz, beq_eq_false_iff_ne]; intro e; exact h35 ((u8z (n := 35) (by omega)).1 e)
            have HPk : Hid (∀ W, RD W rb s q ((j : Int) + 1) (.slice ao cnt cp) → Calls Tryd.prog 32 #[.pointer (some ⟨rb, 0, none⟩)] W fun e w' => e = .returned (.int .u8 z) ∧ RD w' rb s q ((j : Int) + 1) (.slice ao cnt cp) ∧ TR rb W w') := ⟨fun W hW => peek_t hW (by rw [hLn]; exact hz)⟩
            have HTk : Hid (∀ W, RD W rb s q ((j : Int) + 1) (.slice ao cnt cp) → Calls Tryd.prog 34 #[.pointer (some ⟨rb, 0, none⟩), .int .u8 10] W fun e w' => e = .returned (.bool false) ∧ RD w' rb s q ((j : Int) + 1) (.slice ao cnt cp) ∧ TR rb W w') := ⟨fun W hW => take_no hW (by omega) (by rw [hLn]; exact fun e => hc10 ((u8z (n := 10) (by omega)).1 e))⟩
            have HTo0 : ∀ W, RD W rb s q ((j : Int) + 1) (.slice ao cnt cp) → Calls Tryd.prog 36 #[.pointer (some ⟨rb, 0, none⟩)] W fun e w' => TokE (oneM (c :: r)) rb s q ((j : Int) + 1) (.slice ao cnt cp) W e w' := fun W hW => by
              have := token_any hW (by omega) hbn
              rw [hLn] at this
              exact this
            cases ho : oneM (c :: r) with
            | none =>
              have hXn : X = none := F2.none h35 hnb ho
              have HCn : Hid _ := ⟨HX.out.1 hXn⟩
              rw [ho] at HTo0
              have HTo : Hid _ := ⟨HTo0⟩
              dsimp only [TokE] at HTo
              clear F1 F2 HX hXn HTo0 ho h35 hnb hc10 hz hlenD hn hcnt hcl eE hq hLn hD
              go_wp2_with (first
                | (go_at_call 31; (with_reducible refine HSk.out.mono ?_); rintro e x1 ⟨rfl, R2, T2⟩; have HR2 : Hid _ := ⟨R2⟩; have HT2 : Hid _ := ⟨T2⟩; have HO2 : Hid _ := ⟨own_tr HO1.out hb1 T2⟩; clear R2 T2)
                | (go_at_call 32; (with_reducible refine (HPk.out _ HR2.out).mono ?_); rintro e x2 ⟨rfl, R3, T3⟩; have HR3 : Hid _ := ⟨R3⟩; have HT3 : Hid _ := ⟨HT2.out.trans T3⟩; have HO3 : Hid _ := ⟨own_tr HO2.out hb1 T3⟩; clear R3 T3)
                | (go_at_call 34; (with_reducible refine (HTk.out _ HR3.out).mono ?_); rintro e x5 ⟨rfl, R5, T5⟩; have k3 := R5.c3; have HR5 : Hid _ := ⟨R5⟩; have HT5 : Hid _ := ⟨HT3.out.trans T5⟩; have HO5 : Hid _ := ⟨own_tr HO3.out hb1 T5⟩; clear R5 T5)
                | (go_at_call 36; (with_reducible refine (HTo.out _ HR5.out).mono ?_); rintro e x6 ⟨p', q', r', t', a', rfl, R6, T6⟩; have HR6 : Hid _ := ⟨R6⟩; have HT6 : Hid _ := ⟨HT5.out.trans T6⟩; clear R6 T6))
              first | go_ret | (rw [Exit.noGoto_ret]; go_ret)
              exact cut_no HCn.out (HR6.out.alloc _) (TL2.tr HT1.out (HT6.out.alloc _))
            | some p =>
              obtain ⟨⟨tk, tn, tt⟩, m⟩ := p
              have hm := one_len ho
              simp only [List.length_cons] at hm
              have HF3 : Hid _ := ⟨F2.step h35 hnb ho⟩
              have hm2 : m ≤ (Ln s q).length := by rw [hLn]; simp; omega
              have hLm := Ln_drop s m q hm2
              have hLmt := Ln_top s m q hm2 hbn
              have hlm : (Ln s (q + m)).length = (Ln s q).length - m := by rw [hLm, List.length_drop]
              have hlq : (Ln s q).length = r.length + 1 := by rw [hLn]; rfl
              rw [← hLn, ← hLm] at HF3
              rw [ho] at HTo0
              have HTo : Hid _ := ⟨HTo0⟩
              dsimp only [TokE] at HTo
              have hAl : (acc ++ ts.map fun t => (t, (j : Int) + 1)).length ≤ 262144 := by simp; omega
              have HAd : Hid (∀ W, RD W rb s (q + m) ((j : Int) + 1) (.slice ao cnt cp) → OwnTP W base (.slice ao cnt cp) (acc ++ ts.map fun t => (t, (j : Int) + 1)) → base ≤ W.heap.size → Calls Tryd.prog 35 #[.pointer (some ⟨rb, 0, none⟩), .agg #[.int .i64 tk, .int .i64 0, .int .i64 tn, .string (St tt)]] W fun e w' => e = .returned (.tuple #[]) ∧ ∃ lv', RD w' rb s (q + m) ((j : Int) + 1) lv' ∧ OwnTP w' base lv' ((acc ++ ts.map fun t => (t, (j : Int) + 1)) ++ [(⟨tk, tn, tt⟩, (j : Int) + 1)]) ∧ TL2 rb base W w') := ⟨fun W hW hO hbW => add_any hW _ base hO hb1 hbW (by omega) tk 0 tn tt⟩
              have HF : Hid (a ≤ q + m ∧ ts.length + 1 ≤ q + m - a ∧ q + m + (Ln s (q + m)).length = a + (Ln s a).length ∧ b < q + m) := ⟨by omega⟩
              clear F1 F2 HTo0 ho h35 hnb hc10 hz hLm hlenD hn hcnt hcl eE hq hLn hD hlm hlq hm hm2
              go_wp2_with (first
                | (go_at_call 31; (with_reducible refine HSk.out.mono ?_); rintro e x1 ⟨rfl, R2, T2⟩; have HR2 : Hid _ := ⟨R2⟩; have HT2 : Hid _ := ⟨T2⟩; have HO2 : Hid _ := ⟨own_tr HO1.out hb1 T2⟩; clear R2 T2)
                | (go_at_call 32; (with_reducible refine (HPk.out _ HR2.out).mono ?_); rintro e x2 ⟨rfl, R3, T3⟩; have HR3 : Hid _ := ⟨R3⟩; have HT3 : Hid _ := ⟨HT2.out.trans T3⟩; have HO3 : Hid _ := ⟨own_tr HO2.out hb1 T3⟩; clear R3 T3)
                | (go_at_call 34; (with_reducible refine (HTk.out _ HR3.out).mono ?_); rintro e x5 ⟨rfl, R5, T5⟩; have k3 := R5.c3; have HR5 : Hid _ := ⟨R5⟩; have HT5 : Hid _ := ⟨HT3.out.trans T5⟩; have HO5 : Hid _ := ⟨own_tr HO3.out hb1 T5⟩; clear R5 T5)
                | (go_at_call 36; (with_reducible refine (HTo.out _ HR5.out).mono ?_); rintro e x6 ⟨rfl, R6, T6⟩; have HR6 : Hid _ := ⟨R6.alloc (.cells #[.int .i64 tk, .int .i64 0, .int .i64 tn, .string (St tt)] 32)⟩; have HT6 : Hid _ := ⟨(HT5.out.trans T6).alloc (.cells #[.int .i64 tk, .int .i64 0, .int .i64 tn, .string (St tt)] 32)⟩; have HO6 : Hid (OwnTP (x6.alloc (.cells #[.int .i64 tk, .int .i64 0, .int .i64 tn, .string (St tt)] 32)) base (.slice ao cnt cp) (acc ++ ts.map fun t => (t, (j : Int) + 1))) := ⟨World.ownsRow.alloc (own_tr HO5.out hb1 T6) _⟩; clear R6 T6)
                | (go_at_call 35; (with_reducible refine (HAd.out _ HR6.out HO6.out (Nat.le_trans hbw HT6.out.size)).mono ?_); rintro e x9 ⟨rfl, lv9, R9, O9, T9⟩))
              have hme2 : Hid _ := ⟨R9.atOf⟩
              have O9' : OwnTP x9 base lv9 (acc ++ (ts ++ [(⟨tk, tn, tt⟩ : Tok)]).map fun t => (t, (j : Int) + 1)) := by
                rw [List.map_append, ← List.append_assoc]; exact O9
              go_roundw
              case rel => exact ⟨q + m, ts ++ [⟨tk, tn, tt⟩], lv9, HF.out.1, hLmt, by simp; exact HF.out.2.1, ⟨⟨HF.out.2.2.1, R9, O9', TL2.t2 (TL2.tr HT1.out HT6.out) T9, HF3.out⟩⟩⟩
              case measure => rw [hmeI.out, hme2.out]; have := HF.out.2.2.2; omega
    · have HM : Hid _ := ⟨more_t R1 (decide_eq_false hlt)⟩
      have HN : Hid (C = .ok acc) := ⟨by rw [hC, lines_end hlt]; rfl⟩
      have HO1 : Hid _ := ⟨O1⟩
      have HT1 : Hid _ := ⟨T1⟩
      clear R1 O1 T1 hC HW
      go_wp2_with (go_at_call 30; (with_reducible refine HM.out.mono ?_); rintro e v1 ⟨rfl, R2, T2⟩; have HR2 : Hid _ := ⟨R2⟩; have HT2 : Hid _ := ⟨T2⟩; clear R2 T2)
      go_ret
      exact cut_yes HN.out HR2.out (own_tr HO1.out hb1 HT2.out) (TL2.tr HT1.out HT2.out)
end
end Go.Proofs.YthdkbjifjmhgoaaDoor
