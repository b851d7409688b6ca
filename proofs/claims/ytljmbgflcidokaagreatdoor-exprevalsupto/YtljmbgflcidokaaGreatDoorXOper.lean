/- The reader: operand. -/
import Derived.Test.YtljmbgflcidokaaGreatDoorXAtoms
import Derived.Deep.RegionWith
namespace Go.Proofs.YtljmbgflcidokaaGreatDoor
open Go.ChangeShapes Go.WideShapes Go.ChangeAt Go.RowKit Go.Maps
set_option linter.unusedVariables false
set_option linter.unusedSimpArgs false

theorem onesN_more {L : List TL} {f a : Nat} (h : isOne L a = true) : onesN L (f + 1) a = 1 + onesN L f (a + 1) := by
  conv => lhs; unfold onesN
  rw [h]; rfl
theorem onesN_end {L : List TL} {f a : Nat} (h : isOne L a = false) : onesN L f a = 0 := by
  cases f with
  | zero => rfl
  | succ f => unfold onesN; rw [h]; rfl
theorem one_lt {L : List TL} {a : Nat} (h : isOne L a = true) : a < L.length := by
  unfold isOne at h
  simp only [Bool.or_eq_true] at h
  rcases h with (h | h) | h
  · exact sg_lt h
  · exact sg_lt h
  · exact sg_lt h
theorem oneV_ok {s : List UInt8} {v y : Vx} (hv : v.Ok) (h : oneV s v = some y) : y.Ok := by
  unfold oneV at h
  split at h
  · exact subV_ok (Vx.Ok.num 0) hv h
  · split at h
    · split at h
      · injection h with h; subst h; exact Vx.Ok.num _
      · cases h
    · injection h with h; subst h; exact hv
/-- What an operand's operators of one make of it. -/
def oneR (L : List TL) (a i : Nat) (v : Vx) (b : Nat) : Res := match onesF L a i v with | none => .error 110 | some y => .ok (y, b)
theorem oneR_zero (L : List TL) (a : Nat) (v : Vx) (b : Nat) : oneR L a 0 v b = .ok (v, b) := rfl
theorem oneR_succ (L : List TL) (a i : Nat) (v : Vx) (b : Nat) : oneR L a (i + 1) v b = match oneV (tk L (a + i)).t v with | none => .error 110 | some y => oneR L a i y b := by
  unfold oneR
  conv => lhs; unfold onesF
  cases oneV (tk L (a + i)).t v <;> rfl
theorem RX.tokAt {g : Gx} {w : World} {a dep ask : Nat} {pv : Value} (h : RX g w a dep ask pv) {k : Nat} (hk : k < g.L.length) : ∃ b off, g.ao = some ⟨b, off, none⟩ ∧ ¬ b = g.rb ∧ TokAt w b (off + k * 4) (g.L.getD k TL.none) := by
  obtain ⟨b, off, e1, e2, e3⟩ := h.tk.resolve_left (fun e => by rw [e] at hk; simp at hk)
  exact ⟨b, off, e1, e2, e3 k hk⟩

/-- The state of the loop over operators of one, from the last one on. -/
def L2 (g : Gx) (a dep b : Nat) (M : Res) (w : World) (B : Nat) (i : Nat) (er : Int) (v : Vx) (wr : World) : Prop :=
  VB wr B v.p v.m v.n ∧ VB wr w.heap.size ⟨#[]⟩ ⟨#[]⟩ 0 ∧ TX g.rb w wr ∧ w.heap.size < B ∧ (∃ ask pv, RX g wr b dep ask pv) ∧
  ((er = 0 ∧ v.Ok ∧ oneR g.L a i v b = M) ∨ (¬ er = 0 ∧ M = .error er))

set_option maxHeartbeats 8000000 in
set_option maxRecDepth 10000 in
theorem xoperand_any (g : Gx) (d : Nat) (inner : Nat → Res) (hF : Fwd g.L inner) (hA : AtC g d inner) : StepC g 36 #[.pointer (some ⟨g.rb, 0, none⟩)] d (operM g.K g.L inner) := by
  intro w a dep ask pv h hd hal
  have HW : Hid _ := ⟨h⟩
  have hrb := h.lt
  have hrb' : ¬ w.heap.size = g.rb := by omega
  have hhl := h.hl
  have X1 := h.alloc zV
  have c1 := X1.c1
  have HX1 : Hid _ := ⟨X1⟩
  have HV1 : Hid (VB (w.alloc zV) w.heap.size ⟨#[]⟩ ⟨#[]⟩ 0) := ⟨VB.new w _ _ _⟩
  have HS1 : Hid (∀ W b, RX g W b dep ask pv → Calls Tryz.prog 60 #[.pointer (some ⟨g.rb, 0, none⟩), .string ⟨#[45]⟩] W fun e w' => e = .returned (.bool (isSg g.L b [45])) ∧ Below W.heap.size W w') := ⟨fun W b hW => xsign_any hW [45] ⟨#[45]⟩ rfl⟩
  have HS2 : Hid (∀ W b, RX g W b dep ask pv → Calls Tryz.prog 60 #[.pointer (some ⟨g.rb, 0, none⟩), .string ⟨#[43]⟩] W fun e w' => e = .returned (.bool (isSg g.L b [43])) ∧ Below W.heap.size W w') := ⟨fun W b hW => xsign_any hW [43] ⟨#[43]⟩ rfl⟩
  have HS3 : Hid (∀ W b, RX g W b dep ask pv → Calls Tryz.prog 60 #[.pointer (some ⟨g.rb, 0, none⟩), .string ⟨#[126]⟩] W fun e w' => e = .returned (.bool (isSg g.L b [126])) ∧ Below W.heap.size W w') := ⟨fun W b hW => xsign_any hW [126] ⟨#[126]⟩ rfl⟩
  have HA : Hid (∀ W b, RX g W b dep ask pv → b ≤ g.L.length → Calls Tryz.prog 61 #[.pointer (some ⟨g.rb, 0, none⟩)] W fun e w' => SE (atomM g.K g.L inner b) g dep W e w') := ⟨fun W b hW hb => hA W b dep ask pv hW hd hb⟩
  have HF : Hid _ := ⟨atom_fwd (K := g.K) hF⟩
  obtain ⟨M, HM⟩ : ∃ M, Hid (operM g.K g.L inner a = M) := ⟨_, ⟨rfl⟩⟩
  rw [HM.out]
  clear hA h X1 hF
  go_enter Tryz.func36, Tryz.ntmps36
  go_wp2_with fail
  have HT1 : Hid (TX g.rb w (w.alloc zV)) := ⟨Turn.alloc (Turn.refl _ w) zV⟩
  generalize w.alloc zV = w1 at *
  clear c1
  go_loopw [] (fun wr => ∃ j k, k = a + j ∧ j ≤ 200 ∧ Hid (RX g wr k dep ask pv ∧ VB wr w.heap.size ⟨#[]⟩ ⟨#[]⟩ 0 ∧ TX g.rb w wr ∧ k ≤ g.L.length ∧ onesN g.L 201 a = j + onesN g.L (201 - j) k)) (fun wr => a + 202 - atN g.rb wr)
  case atStart => exact ⟨0, a, rfl, by omega, ⟨HX1.out, HV1.out, HT1.out, by omega, by simp⟩⟩
  case round =>
    obtain ⟨j, k, hk, hj, HR⟩ := hrel
    have HK : Hid _ := ⟨hk⟩
    clear hk
    have eb := atN_of HR.out.1
    obtain ⟨b1, hb1⟩ : ∃ x, isSg g.L k [45] = x := ⟨_, rfl⟩
    obtain ⟨b2, hb2⟩ : ∃ x, isSg g.L k [43] = x := ⟨_, rfl⟩
    obtain ⟨b3, hb3⟩ : ∃ x, isSg g.L k [126] = x := ⟨_, rfl⟩
    have hone : isOne g.L k = (b1 || b2 || b3) := by unfold isOne; rw [hb1, hb2, hb3]
    have HQ1 : Hid (∀ W, Below wr.heap.size wr W → _) := ⟨fun W hW => HS1.out W k (HR.out.1.bel hW)⟩
    have HQ2 : Hid (∀ W, Below wr.heap.size wr W → _) := ⟨fun W hW => HS2.out W k (HR.out.1.bel hW)⟩
    have HQ3 : Hid (∀ W, Below wr.heap.size wr W → _) := ⟨fun W hW => HS3.out W k (HR.out.1.bel hW)⟩
    rw [hb1] at HQ1
    rw [hb2] at HQ2
    rw [hb3] at HQ3
    have HBB : Hid (Below wr.heap.size wr wr) := ⟨Below.refl _ _⟩
    obtain ⟨q, hq⟩ : ∃ x, isOne g.L k = x := ⟨_, rfl⟩
    have HQ : Hid _ := ⟨hone.symm.trans hq⟩
    go_upto_region 2 with (fail)
    go_cut [22] from 13 to 21 (fun s22 wx => s22 = .bool q ∧ Hid (Below wr.heap.size wr wx))
    case first =>
      have e := HQ.out
      cases b1 <;> cases b2 <;> cases b3
      all_goals
        subst e
        go_wp2_with (first
          | (have _ := M2; go_at_call 60; (with_reducible refine (HQ3.out _ hc2).mono ?_); rintro e w4 ⟨he, hc3'⟩; subst he; have hc3 := bel_trans hc2 hc3')
          | (have _ := M1; go_at_call 60; (with_reducible refine (HQ2.out _ hc1).mono ?_); rintro e w3 ⟨he, hc2'⟩; subst he; have hc2 := bel_trans hc1 hc2'; have M2 := True.intro)
          | (go_at_call 60; (with_reducible refine (HQ1.out _ HBB.out).mono ?_); rintro e w2 ⟨he, hc1⟩; subst he; have M1 := True.intro))
        go_meet
        first | exact ⟨rfl, ⟨hc3⟩⟩ | exact ⟨rfl, ⟨hc2⟩⟩ | exact ⟨rfl, ⟨hc1⟩⟩
    case rest =>
      obtain ⟨hs22, HB⟩ := hcut
      subst hs22
      clear HQ1 HQ2 HQ3 HS1 HS2 HS3 hb1 hb2 hb3 hone HQ HBB
      have HX2 : Hid _ := ⟨HR.out.1.bel HB.out⟩
      have c1 := HX2.out.c1
      have z1 := HX2.out.fz
      have W2 := HR.out.2.1.bel HB.out HR.out.2.1.lt
      obtain ⟨f0, f1, f2, f3⟩ := id W2
      have T2 := TX.bel HR.out.2.2.1 HB.out
      cases q with
      | true =>
        have hlt := one_lt hq
        have hw1 : IntKind.i64.wrap ((k : Int) + 1) = (k : Int) + 1 := by rw [IntKind.wrap_i64]; omega
        have hw2 : IntKind.i64.wrap ((k : Int) + 1 - (a : Int)) = (k : Int) + 1 - (a : Int) := by rw [IntKind.wrap_i64]; have := HK.out; omega
        have X3 := HX2.out.setAt (k + 1) ((k : Int) + 1) (by omega) (by have := HX2.out.ak; omega)
        have T3 := TX.set T2 1 (.int .i64 ((k : Int) + 1))
        have W3 := W2.setAt g.rb 1 (fun e => hrb' e.symm) (.int .i64 ((k : Int) + 1))
        by_cases h2 : j = 200
        · have hg : (200 : Int) < (k : Int) + 1 - (a : Int) := by have := HK.out; omega
          have hm : M = .error 6 := by
            rw [← HM.out]
            unfold operM
            rw [HR.out.2.2.2.2, if_pos (by rw [h2, show 201 - 200 = 0 + 1 from rfl, onesN_more hq]; omega)]
          subst hm
          go_wp2
          refine bodyPost_ret (resV_operand _ _ w.heap.size _ _ _ rfl (W3.set _ _ _)) rfl ?_
          exact ⟨⟨⟨⟨#[]⟩, ⟨#[]⟩, 0⟩, rfl⟩, by decide, TX.set3 T3 (Nat.le_refl _) _ _ _, EB.turn (EB.of X3) (TX.set3' _ w.heap.size _ _ _) (fun e => hrb' e.symm)⟩
        · have hg : ¬ (200 : Int) < (k : Int) + 1 - (a : Int) := by have := HK.out; omega
          have ec := atN_of X3
          have hon : onesN g.L 201 a = (j + 1) + onesN g.L (201 - (j + 1)) (k + 1) := by
            rw [HR.out.2.2.2.2, show 201 - j = (201 - (j + 1)) + 1 by omega, onesN_more hq]
            omega
          go_wp2
          go_roundw
          case rel => exact ⟨j + 1, k + 1, by have := HK.out; omega, by omega, ⟨X3, W3, T3, by omega, hon⟩⟩
          case measure => rw [eb, ec]; have := HK.out; omega
      | false =>
        have hon : onesN g.L 201 a = j := by rw [HR.out.2.2.2.2, onesN_end hq]; rfl
        have hlen := HR.out.2.2.2.1
        have hM2 : M = match atomM g.K g.L inner k with | .error e => .error e | .ok (v, b) => oneR g.L a j v b := by
          rw [← HM.out]
          unfold operM
          rw [hon, if_neg (by omega), ← HK.out]
          cases atomM g.K g.L inner k with
          | error e => rfl
          | ok p => rfl
        have HA2 : Hid _ := ⟨HA.out wc k HX2.out hlen⟩
        have hw3 : IntKind.i64.wrap ((k : Int) - 1) = (k : Int) - 1 := by rw [IntKind.wrap_i64]; omega
        cases ham : atomM g.K g.L inner k with
        | error er =>
          rw [ham] at hM2 HA2
          have hm : M = .error er := hM2
          clear hM2
          subst hm
          go_wp2_with (go_at_call 61; (with_reducible refine HA2.out.mono ?_); rintro e w5 ⟨⟨x, he⟩, hne, T5, hEB⟩; subst he; have W5 := W2.tx T5 hrb'; have TT := T2.trans T5; clear T5)
          have hne' : (er == 0) = false := by simpa using hne
          have X6 := VB.new w5 x.p x.m x.n
          have W6 := W5.alloc (.cells #[.string x.p, .string x.m, .int .i64 x.n] 27)
          have T6 := Turn.alloc TT (.cells #[.string x.p, .string x.m, .int .i64 x.n] 27)
          have E6 := EB.turn (g := g) hEB ((Turn.refl (fun _ => False) w5).alloc (.cells #[.string x.p, .string x.m, .int .i64 x.n] 27)) (fun e => e)
          generalize w5.heap.size = B at *
          generalize w5.alloc (.cells #[.string x.p, .string x.m, .int .i64 x.n] 27) = w6 at *
          have HS0 : Hid (VB w6 B x.p x.m x.n ∧ VB w6 w.heap.size ⟨#[]⟩ ⟨#[]⟩ 0 ∧ TX g.rb w w6 ∧ EB g w6) := ⟨X6, W6, T6, E6⟩
          clear X6 W6 T6 E6 hEB W5 TT
          go_loopw [7, 8] (fun s7 s8 wr => s7 = .int .i64 er ∧ s8 = .int .i64 ((k : Int) - 1) ∧ wr = w6) (fun s7 s8 wr => 0)
          case atStart => exact ⟨rfl, rfl, rfl⟩
          case round =>
            obtain ⟨rfl, rfl, rfl⟩ := hrel
            obtain ⟨x0, x1, x2, x3⟩ := HS0.out.1
            obtain ⟨y0, y1, y2, y3⟩ := HS0.out.2.1
            by_cases hge : (a : Int) ≤ (k : Int) - 1
            · go_wp2
              refine bodyPost_ret (resV_operand _ _ w.heap.size _ _ _ rfl (HS0.out.2.1.set _ _ _)) rfl ?_
              exact ⟨⟨x, rfl⟩, hne, TX.set3 HS0.out.2.2.1 (Nat.le_refl _) _ _ _, EB.turn HS0.out.2.2.2 (TX.set3' wr w.heap.size _ _ _) (fun e => hrb' e.symm)⟩
            · go_wp2
              refine bodyPost_ret (resV_operand _ _ w.heap.size _ _ _ rfl (HS0.out.2.1.set _ _ _)) rfl ?_
              exact ⟨⟨x, rfl⟩, hne, TX.set3 HS0.out.2.2.1 (Nat.le_refl _) _ _ _, EB.turn HS0.out.2.2.2 (TX.set3' wr w.heap.size _ _ _) (fun e => hrb' e.symm)⟩
        | ok vb =>
          obtain ⟨v0, b⟩ := vb
          rw [ham] at hM2 HA2
          have hM3 : oneR g.L a j v0 b = M := hM2.symm
          have HM3 : Hid _ := ⟨hM3⟩
          have HJ : Hid (k = a + j ∧ j ≤ 200) := ⟨HK.out, hj⟩
          clear hM2 hM3
          go_wp2_with (go_at_call 61; (with_reducible refine HA2.out.mono ?_); rintro e w5 ⟨he, hvo, T5, ask5, pv5, X5⟩; subst he; have W5 := W2.tx T5 hrb'; have TT := T2.trans T5; have HX5 : Hid _ := ⟨X5⟩; clear T5 X5)
          generalize hBe : w5.heap.size = B at *
          have HS0 : Hid (L2 g a dep b M w B j 0 v0 (w5.alloc (.cells #[.string v0.p, .string v0.m, .int .i64 v0.n] 27))) := ⟨VB.at _ _ _ _ _ hBe.symm, W5.alloc _, Turn.alloc TT _, by rw [← hBe]; exact W5.lt, ⟨ask5, pv5, HX5.out.alloc _⟩, .inl ⟨rfl, hvo, HM3.out⟩⟩
          generalize w5.alloc (.cells #[.string v0.p, .string v0.m, .int .i64 v0.n] 27) = w6 at *
          clear hBe hvo HX5 W5 TT HA2 HM3
          go_loopw [7, 8] (fun s7 s8 wr => ∃ (er : Int) (v : Vx) (i : Nat) (z : Int), s7 = .int .i64 er ∧ s8 = .int .i64 z ∧ Hid (z = (a : Int) + (i : Int) - 1 ∧ i ≤ j) ∧ Hid (L2 g a dep b M w B i er v wr)) (fun s7 s8 wr => (intOf s8 + 1 - (a : Int)).toNat)
          case atStart => exact ⟨0, v0, j, (k : Int) - 1, rfl, rfl, ⟨by have := HJ.out; omega, Nat.le_refl _⟩, HS0⟩
          case round =>
            obtain ⟨er, v, i, z, rfl, rfl, HI, HL⟩ := hrel
            obtain ⟨x0, x1, x2, x3⟩ := HL.out.1
            obtain ⟨y0, y1, y2, y3⟩ := HL.out.2.1
            rcases HL.out.2.2.2.2.2 with ⟨her, hvo, hM⟩ | ⟨her, hM⟩
            · subst her
              cases i with
              | zero =>
                have hz : ¬ (a : Int) ≤ z := by have := HI.out; omega
                have hm : M = .ok (v, b) := by rw [← hM, oneR_zero]
                subst hm
                obtain ⟨ask3, pv3, X3⟩ := HL.out.2.2.2.2.1
                have HX3 : Hid _ := ⟨X3⟩
                clear X3
                go_wp2
                refine bodyPost_ret (resV_operand _ _ w.heap.size _ _ _ rfl (HL.out.2.1.set _ _ _)) rfl ?_
                exact ⟨rfl, hvo, TX.set3 HL.out.2.2.1 (Nat.le_refl _) _ _ _, ask3, pv3, HX3.out.set3 HW.out w.heap.size (Nat.le_refl _) y0 _ _ _⟩
              | succ i =>
                obtain ⟨kk, hkk⟩ : ∃ kk : Nat, kk = a + i := ⟨_, rfl⟩
                have HZ : Hid (z = (kk : Int) ∧ kk = a + i ∧ i + 1 ≤ j) := ⟨by have := HI.out; omega, hkk, HI.out.2⟩
                have hlt : kk < g.L.length := by have := HZ.out; have := HJ.out; omega
                obtain ⟨ask3, pv3, X3⟩ := HL.out.2.2.2.2.1
                obtain ⟨tb, toff, e1, e2, hT⟩ := X3.tokAt hlt
                have c0 := X3.drew.c0
                rw [e1] at c0
                have t3 : wr.drew.cell? ⟨tb, toff + kk * 4 + 3, none⟩ = some (.string (St (g.L.getD kk TL.none).1.t)) := hT.t
                have HO : Hid (∀ W, _) := ⟨fun W => one_any (g.L.getD kk TL.none).1.t v hvo W⟩
                have hst := oneR_succ g.L a i v b
                rw [← hkk] at hst
                unfold tk at hst
                have HX3 : Hid _ := ⟨X3⟩
                obtain ⟨y, er', hy, hy2⟩ := vE_any (oneV (g.L.getD kk TL.none).1.t v)
                have HY : Hid _ := ⟨hy2⟩
                rw [hy] at HO
                have HST : Hid _ := ⟨hst.symm.trans hM⟩
                clear hy hst hM X3 hT
                generalize (g.L.getD kk TL.none).1.t = tt at *
                obtain rfl : z = (kk : Int) := HZ.out.1
                have hge : (a : Int) ≤ (kk : Int) := by omega
                have hi0 : (0 : Int) ≤ (kk : Int) := by omega
                have hi1 : (kk : Int) < (g.L.length : Int) := by omega
                generalize g.L.length = len at *
                have k0 : wr.drew.cell? ⟨B, 0, none⟩ = some (.string v.p) := x0
                have k1 : wr.drew.cell? ⟨B, 1, none⟩ = some (.string v.m) := x1
                have k2 : wr.drew.cell? ⟨B, 2, none⟩ = some (.int .i64 v.n) := x2
                clear x0 x1 x2 x3 y0 y1 y2 y3 hkk
                go_upto_region 11 with (fail)
                have hwk : IntKind.i64.wrap ((kk : Int) - 1) = (kk : Int) - 1 := by rw [IntKind.wrap_i64]; omega
                have HZ2 : Hid ((kk : Int) - 1 = (a : Int) + (i : Int) - 1 ∧ i ≤ j) := ⟨by have := HZ.out; omega, by have := HZ.out; omega⟩
                have HR7 : Hid ((er' = 0 ∧ y.Ok ∧ oneR g.L a i y b = M) ∨ (¬ er' = 0 ∧ M = .error er')) := ⟨by
                  have e := HST.out
                  rcases HY.out with ⟨y', h1, h2, h3⟩ | ⟨h1, h2⟩
                  · rw [h1] at e
                    subst h2
                    exact .inl ⟨h3, oneV_ok hvo h1, e⟩
                  · rw [h1] at e
                    exact .inr ⟨by rw [h2]; decide, by rw [h2]; exact e.symm⟩⟩
                go_region_with (go_at_call 62; (with_reducible refine (HO.out _).mono ?_); rintro e w7 ⟨he, hb7⟩; subst he; have Z1 := (HL.out.1.drewN 1).bel (w := wr.drew) hb7 HL.out.1.lt; obtain ⟨x0, x1, x2, x3⟩ := id Z1)
                all_goals
                  have HLx : Hid (L2 g a dep b M w B i er' y (((w7.setCell ⟨B, 0, none⟩ (.string y.p)).setCell ⟨B, 1, none⟩ (.string y.m)).setCell ⟨B, 2, none⟩ (.int .i64 y.n))) := ⟨Z1.set _ _ _, ((((HL.out.2.1.drewN 1).bel (w := wr.drew) hb7 HL.out.2.1.lt).setAt _ 0 (by have := HL.out.2.2.2.1; omega) _).setAt _ 1 (by have := HL.out.2.2.2.1; omega) _).setAt _ 2 (by have := HL.out.2.2.2.1; omega) _, TX.set3 (TX.bel (HL.out.2.2.1.drewN 1) hb7) (by have := HL.out.2.2.2.1; omega) _ _ _, HL.out.2.2.2.1, ⟨ask3, pv3, (HX3.out.drew.bel hb7).set3 HW.out B (by have := HL.out.2.2.2.1; omega) x0 _ _ _⟩, HR7.out⟩
                  go_wp2
                  go_roundw
                  case rel => exact ⟨er', y, i, (kk : Int) - 1, rfl, rfl, HZ2, HLx⟩
                  case measure => simp [intOf]; omega
            · have her' : (er == 0) = false := by simpa using her
              subst hM
              obtain ⟨ask3, pv3, X3⟩ := HL.out.2.2.2.2.1
              have HX3 : Hid _ := ⟨X3⟩
              clear X3
              by_cases hge : (a : Int) ≤ z
              · go_wp2
                refine bodyPost_ret (resV_operand _ _ w.heap.size _ _ _ rfl (HL.out.2.1.set _ _ _)) rfl ?_
                exact ⟨⟨v, rfl⟩, her, TX.set3 HL.out.2.2.1 (Nat.le_refl _) _ _ _, EB.turn (EB.of HX3.out) (TX.set3' wr w.heap.size _ _ _) (fun e => hrb' e.symm)⟩
              · go_wp2
                refine bodyPost_ret (resV_operand _ _ w.heap.size _ _ _ rfl (HL.out.2.1.set _ _ _)) rfl ?_
                exact ⟨⟨v, rfl⟩, her, TX.set3 HL.out.2.2.1 (Nat.le_refl _) _ _ _, EB.turn (EB.of HX3.out) (TX.set3' wr w.heap.size _ _ _) (fun e => hrb' e.symm)⟩
end Go.Proofs.YtljmbgflcidokaaGreatDoor
