/- The steps of an expression that operators of two hold together. -/
import Derived.Test.YtljmbgflcidokaaGreatDoorXApply
namespace Go.Proofs.YtljmbgflcidokaaGreatDoor
open Go.ChangeShapes Go.WideShapes Go.ChangeAt Go.RowKit Go.Maps
set_option linter.unusedVariables false
set_option linter.unusedSimpArgs false

theorem levF_fuel {L : List TL} {n : Nat} {f : Nat → Res} (h : Fwd L f) : ∀ (f1 f2 : Nat) (v : Vx) (a : Nat), L.length < a + f1 → L.length < a + f2 → levF L n f f1 v a = levF L n f f2 v a
  | 0, f2, v, a, h1, h2 => by
    have hl : isLv L a n = false := by
      cases e : isLv L a n with
      | false => rfl
      | true => have := lv_lt e; omega
    cases f2 with
    | zero => rfl
    | succ f2 => unfold levF; rw [hl]; rfl
  | f1 + 1, 0, v, a, h1, h2 => by
    have hl : isLv L a n = false := by
      cases e : isLv L a n with
      | false => rfl
      | true => have := lv_lt e; omega
    unfold levF
    rw [hl]
    rfl
  | f1 + 1, f2 + 1, v, a, h1, h2 => by
    unfold levF
    cases hi : f (a + 1) with
    | error e => rfl
    | ok p =>
      obtain ⟨x, b⟩ := p
      simp only
      have := h _ _ _ hi
      cases twoV (tk L a).t v x with
      | none => rfl
      | some y =>
        simp only
        rw [levF_fuel h f1 f2 y b (by omega) (by omega)]
/-- One operator more. -/
theorem levF_step {L : List TL} {n : Nat} {f : Nat → Res} (h : Fwd L f) {v : Vx} {b : Nat} (hb : b ≤ L.length) (hl : isLv L b n = true) : levF L n f (L.length + 1 - b) v b = match applyM (tk L b).t v (f (b + 1)) with | .error e => .error e | .ok (y, c) => levF L n f (L.length + 1 - c) y c := by
  obtain ⟨k, hk⟩ : ∃ k, L.length + 1 - b = k + 1 := ⟨L.length - b, by omega⟩
  rw [hk]
  conv => lhs; unfold levF
  rw [hl]
  simp only [if_true]
  unfold applyM
  cases hi : f (b + 1) with
  | error e => rfl
  | ok p =>
    obtain ⟨x, c⟩ := p
    simp only
    have := h _ _ _ hi
    cases twoV (tk L b).t v x with
    | none => rfl
    | some y =>
      simp only
      exact levF_fuel h _ _ _ _ (by omega) (by omega)
theorem levF_end {L : List TL} {n : Nat} {f : Nat → Res} {v : Vx} {b : Nat} (hl : isLv L b n = false) (k : Nat) : levF L n f k v b = .ok (v, b) := by
  cases k with
  | zero => rfl
  | succ k => unfold levF; rw [hl]; rfl
theorem apply_fwd {L : List TL} {f : Nat → Res} (h : Fwd L f) {t : List UInt8} {v y : Vx} {b c : Nat} (he : applyM t v (f (b + 1)) = .ok (y, c)) : b + 1 < c ∧ c ≤ L.length := by
  unfold applyM at he
  cases hi : f (b + 1) with
  | error e => rw [hi] at he; cases he
  | ok p =>
    obtain ⟨x, c'⟩ := p
    rw [hi] at he
    simp only at he
    have := h _ _ _ hi
    cases ht : twoV t v x with
    | none => rw [ht] at he; cases he
    | some z =>
      rw [ht] at he
      injection he with he
      injection he with h1 h2
      omega
/-- Where a reader stands, as its block has it. -/
def atN (rb : Nat) (w : World) : Nat := match w.cell? ⟨rb, 1, none⟩ with | some v => (intOf v).toNat | none => 0
theorem atN_of {g : Gx} {w : World} {a dep ask : Nat} {pv : Value} (h : RX g w a dep ask pv) : atN g.rb w = a := by
  unfold atN
  rw [h.c1]
  simp [intOf]
/-- What an unsound end leaves of a reader. -/
def EB (g : Gx) (w : World) : Prop := ∃ x y, w.cell? ⟨g.rb, 1, none⟩ = some (.int .i64 x) ∧ w.cell? ⟨g.rb, 2, none⟩ = some (.int .i64 y) ∧ ∀ j, w.frozen? ⟨g.rb, j, none⟩ = false
theorem EB.turn {g : Gx} {w w' : World} (h : EB g w) {S : Nat → Prop} (ht : Turn S w w') (hS : ¬ S g.rb) : EB g w' := by
  obtain ⟨x, y, h1, h2, h3⟩ := h
  have hlt : g.rb < w.heap.size := World.block_lt_of_cell? w _ h1
  have e : ∀ o, w'.cell? ⟨g.rb, o, none⟩ = w.cell? ⟨g.rb, o, none⟩ := fun o => World.cell?_of_block (ht.block _ hlt hS)
  have e2 : ∀ o, w'.frozen? ⟨g.rb, o, none⟩ = w.frozen? ⟨g.rb, o, none⟩ := fun o => World.frozen?_of_block (w := w) (ht.block _ hlt hS)
  exact ⟨x, y, (e _).trans h1, (e _).trans h2, fun j => (e2 j).trans (h3 j)⟩
theorem TX.set3' (u : World) (B : Nat) (x y z : Value) : Turn (fun k => k = B) u (((u.setCell ⟨B, 0, none⟩ x).setCell ⟨B, 1, none⟩ y).setCell ⟨B, 2, none⟩ z) :=
  Turn.setCell (S := fun k => k = B) (Turn.setCell (S := fun k => k = B) (Turn.setCell (S := fun k => k = B) (Turn.refl _ u) ⟨B, 0, none⟩ rfl x) ⟨B, 1, none⟩ rfl y) ⟨B, 2, none⟩ rfl z
/-- The state of the loop: it goes on, or an error came up. -/
def LS (g : Gx) (n dep : Nat) (f : Nat → Res) (M : Res) (w : World) (B : Nat) (er : Int) (v : Vx) (wr : World) : Prop :=
  VB wr B v.p v.m v.n ∧ VB wr w.heap.size ⟨#[]⟩ ⟨#[]⟩ 0 ∧ TX g.rb w wr ∧ w.heap.size < B ∧
  ((er = 0 ∧ v.Ok ∧ ∃ b ask pv, RX g wr b dep ask pv ∧ b ≤ g.L.length ∧ levF g.L n f (g.L.length + 1 - b) v b = M) ∨ (¬ er = 0 ∧ M = .error er ∧ EB g wr))

set_option maxHeartbeats 4000000 in
set_option maxRecDepth 10000 in
theorem xlev_0 (g : Gx) (d : Nat) (f : Nat → Res) (hF : Fwd g.L f) (hC : StepC g 36 #[.pointer (some ⟨g.rb, 0, none⟩)] d f) : StepC g 63 #[.pointer (some ⟨g.rb + 3 + 3 * 0, 0, none⟩), .pointer (some ⟨g.rb + 1 + 3 * 0, 0, none⟩), .pointer (some ⟨g.rb + 2 + 3 * 0, 0, none⟩)] d (levM g.L 0 f) := by
  intro w a dep ask pv h hd hal
  have HW : Hid _ := ⟨h⟩
  have hrb := h.lt
  have HC : Hid (∀ W, RX g W a dep ask pv → Calls Tryz.prog 36 #[.pointer (some ⟨g.rb, 0, none⟩)] W fun e w' => SE (f a) g dep W e w') := ⟨fun W hW => hC W a dep ask pv hW hd hal⟩
  have HA : Hid (∀ W b ask pv v, RX g W b dep ask pv → v.Ok → isLv g.L b 0 = true → Calls Tryz.prog 65 #[.pointer (some ⟨g.rb, 0, none⟩), .agg #[.string v.p, .string v.m, .int .i64 v.n], .func (.func 36) #[.pointer (some ⟨g.rb, 0, none⟩)] #[]] W fun e w' => SE (applyM (tk g.L b).t v (f (b + 1))) g dep W e w') := ⟨fun W b ask pv v hW hv hl => by
    have hop : ∃ q, opOf (tk g.L b).t = some q := by
      unfold isLv lvOf at hl
      cases ho : opOf (tk g.L b).t with
      | none => rw [ho] at hl; simp at hl
      | some q => exact ⟨q, rfl⟩
    obtain ⟨q, hop⟩ := hop
    obtain ⟨j, hj, hsj, hq⟩ := opOf_some hop
    have htv : ∀ x y, twoV (tk g.L b).t x y = opG j x y := fun x y => twoV_of hop hq x y
    exact xapply_0 hW (by have := hW.hl; have := lv_lt hl; omega) j hj hsj htv v hv d f hd (by have := lv_lt hl; omega) hC⟩
  have HI : Hid (∀ W b ask pv, RX g W b dep ask pv → Calls Tryz.prog 64 #[.pointer (some ⟨g.rb, 0, none⟩), .int .i64 ((0 : Nat) : Int)] W fun e w' => e = .returned (.bool (isLv g.L b 0)) ∧ Below W.heap.size W w') := ⟨fun W b ask pv hW => xtwo_any hW 0⟩
  have HST : Hid (∀ W b ask pv, RX g W b dep ask pv → W.cell? ⟨g.rb + 3 + 3 * 0, 0, none⟩ = some (.func (.func 36) #[.pointer (some ⟨g.rb, 0, none⟩)] #[]) ∧ W.cell? ⟨g.rb + 1 + 3 * 0, 0, none⟩ = some (.pointer (some ⟨g.rb, 0, none⟩)) ∧ W.cell? ⟨g.rb + 2 + 3 * 0, 0, none⟩ = some (.int .i64 ((0 : Nat) : Int))) := ⟨fun W b ask pv hW => ⟨(hW.st 0 (by omega)).t, (hW.st 0 (by omega)).r, (hW.st 0 (by omega)).l⟩⟩
  obtain ⟨M, HM⟩ : ∃ M, Hid (levM g.L 0 f a = M) := ⟨_, ⟨rfl⟩⟩
  rw [HM.out]
  have HF : Hid _ := ⟨hF⟩
  have X1 := h.alloc zV
  have V3 : VB (w.alloc zV) w.heap.size ⟨#[]⟩ ⟨#[]⟩ 0 := VB.new w _ _ _
  obtain ⟨t0, _, _⟩ := HST.out _ _ _ _ X1
  have HX1 : Hid _ := ⟨X1⟩
  clear hC hF h X1
  generalize g.rb + 3 + 3 * 0 = q at *
  generalize g.rb + 1 + 3 * 0 = r at *
  generalize g.rb + 2 + 3 * 0 = l at *
  generalize hnn : ((0 : Nat) : Int) = lv at *
  clear hnn
  cases hf : f a with
  | error er =>
    rw [hf] at HC
    have hm : M = .error er := by rw [← HM.out]; unfold levM; rw [hf]
    subst hm
    clear HM HA HI hf
    go_enter Tryz.func63, Tryz.ntmps63
    go_wp2_with (go_at_call 36; (with_reducible refine (HC.out _ HX1.out).mono ?_); rintro e w2 ⟨⟨x, he⟩, hne, T2, hEB⟩; subst he; have W3 := V3.tx T2 (by omega); have TT : TX g.rb w w2 := (Turn.alloc (Turn.refl _ w) zV).trans T2; clear T2)
    have hne' : (er == 0) = false := by simpa using hne
    generalize hBe : w2.heap.size = B at *
    have X5 := VB.at w2 x.p x.m x.n B hBe.symm
    have W5 := W3.alloc (.cells #[.string x.p, .string x.m, .int .i64 x.n] 27)
    have T5 := TT.alloc (.cells #[.string x.p, .string x.m, .int .i64 x.n] 27)
    have E5 := EB.turn (g := g) hEB ((Turn.refl (fun _ => False) w2).alloc (.cells #[.string x.p, .string x.m, .int .i64 x.n] 27)) (fun e => e)
    generalize w2.alloc (.cells #[.string x.p, .string x.m, .int .i64 x.n] 27) = w3 at *
    have HS0 : Hid (VB w3 B x.p x.m x.n ∧ VB w3 w.heap.size ⟨#[]⟩ ⟨#[]⟩ 0 ∧ TX g.rb w w3 ∧ EB g w3) := ⟨X5, W5, T5, E5⟩
    clear X5 W5 T5 E5 hBe hEB W3 TT t0
    go_loopw [6] (fun s6 wr => s6 = .int .i64 er ∧ wr = w3) (fun s6 wr => 0)
    case atStart => exact ⟨rfl, rfl⟩
    case round =>
      obtain ⟨rfl, rfl⟩ := hrel
      obtain ⟨x0, x1, x2, x3⟩ := HS0.out.1
      obtain ⟨y0, y1, y2, y3⟩ := HS0.out.2.1
      go_wp2
      refine bodyPost_ret (resV_lev _ _ w.heap.size _ _ _ rfl (HS0.out.2.1.set _ _ _)) rfl ?_
      refine ⟨⟨x, rfl⟩, hne, TX.set3 HS0.out.2.2.1 (Nat.le_refl _) _ _ _, EB.turn HS0.out.2.2.2 (TX.set3' wr w.heap.size _ _ _) (fun e => by omega)⟩
  | ok vb =>
    obtain ⟨v0, b0⟩ := vb
    rw [hf] at HC
    have HM2 : Hid (levF g.L 0 f (g.L.length + 1 - b0) v0 b0 = M ∧ a < b0 ∧ b0 ≤ g.L.length) := ⟨by rw [← HM.out]; unfold levM; rw [hf], HF.out _ _ _ hf⟩
    clear HM hf
    go_enter Tryz.func63, Tryz.ntmps63
    go_wp2_with (go_at_call 36; (with_reducible refine (HC.out _ HX1.out).mono ?_); rintro e w2 ⟨he, hvo, T2, ask2, pv2, X2⟩; subst he; have HX2 : Hid _ := ⟨X2⟩; have W3 := V3.tx T2 (by omega); have TT : TX g.rb w w2 := (Turn.alloc (Turn.refl _ w) zV).trans T2; clear X2 T2)
    generalize hBe : w2.heap.size = B at *
    have HS0 : Hid (LS g 0 dep f M w B 0 v0 (w2.alloc (.cells #[.string v0.p, .string v0.m, .int .i64 v0.n] 27))) := ⟨VB.at _ _ _ _ _ hBe.symm, W3.alloc _, TT.alloc _, by rw [← hBe]; exact W3.lt, .inl ⟨rfl, hvo, b0, ask2, pv2, HX2.out.alloc _, HM2.out.2.2, HM2.out.1⟩⟩
    generalize w2.alloc (.cells #[.string v0.p, .string v0.m, .int .i64 v0.n] 27) = w3 at *
    clear t0 hvo HC HX1 V3 HX2 W3 TT HM2 hBe
    go_loopw [6] (fun s6 wr => ∃ er v, s6 = .int .i64 er ∧ Hid (LS g 0 dep f M w B er v wr)) (fun s6 wr => if intOf s6 = 0 then g.L.length + 2 - atN g.rb wr else 0)
    case atStart => exact ⟨0, v0, rfl, HS0⟩
    case round =>
      obtain ⟨er, v, rfl, HL⟩ := hrel
      obtain ⟨x0, x1, x2, x3⟩ := HL.out.1
      obtain ⟨y0, y1, y2, y3⟩ := HL.out.2.1
      rcases HL.out.2.2.2.2 with ⟨her, hvo, b, ask3, pv3, X3, hbl, hM⟩ | ⟨her, hM, hE⟩
      · subst her
        obtain ⟨q0, r0, l0⟩ := HST.out _ _ _ _ X3
        have HX3 : Hid _ := ⟨X3⟩
        have HM3 : Hid _ := ⟨hM⟩
        clear X3 hM
        cases hlv : isLv g.L b 0 with
        | false =>
          have HI3 : Hid _ := ⟨HI.out wr b ask3 pv3 HX3.out⟩
          rw [hlv] at HI3
          have hm : M = .ok (v, b) := by rw [← HM3.out]; exact levF_end hlv _
          subst hm
          go_wp2_with (go_at_call 64; (with_reducible refine HI3.out.mono ?_); rintro e w4 ⟨he, hb4⟩; subst he; have Y3 := HL.out.2.1.bel hb4 HL.out.2.1.lt; obtain ⟨y0, y1, y2, y3⟩ := id Y3; have Y1 := HL.out.1.bel hb4 HL.out.1.lt; obtain ⟨x0, x1, x2, x3⟩ := id Y1)
          refine bodyPost_ret (resV_lev _ _ w.heap.size _ _ _ rfl (Y3.set _ _ _)) rfl ?_
          refine ⟨rfl, hvo, TX.set3 (HL.out.2.2.1.bel hb4) (Nat.le_refl _) _ _ _, ask3, pv3, (HX3.out.bel hb4).set3 HW.out w.heap.size (Nat.le_refl _) Y3.c0 _ _ _⟩
        | true =>
          have HI3 : Hid _ := ⟨HI.out wr b ask3 pv3 HX3.out⟩
          rw [hlv] at HI3
          have HA3 : Hid (∀ W, Below wr.heap.size wr W → _) := ⟨fun W hW => HA.out W b ask3 pv3 v (HX3.out.bel hW) hvo hlv⟩
          have hst := levF_step (v := v) HF.out hbl hlv
          rw [HM3.out] at hst
          have eb := atN_of HX3.out
          cases hap : applyM (tk g.L b).t v (f (b + 1)) with
          | error er' =>
            rw [hap] at HA3 hst
            have hm : M = .error er' := hst
            subst hm
            go_wp2_with (first
              | (go_at_call 64; (with_reducible refine HI3.out.mono ?_); rintro e w4 ⟨he, hb4⟩; subst he; have Y3 := HL.out.2.1.bel hb4 HL.out.2.1.lt; have Y1 := HL.out.1.bel hb4 HL.out.1.lt; obtain ⟨x0, x1, x2, x3⟩ := id Y1; obtain ⟨q0, r0, l0⟩ := HST.out _ _ _ _ (HX3.out.bel hb4))
              | (go_at_call 65; (with_reducible refine (HA3.out _ hb4).mono ?_); rintro e w5 ⟨⟨x, he⟩, hne, T5, hEB⟩; subst he; have hBr : ¬ B = g.rb := (by have := HL.out.2.2.2.1; omega); have Z1 := Y1.tx T5 hBr; have Z3 := Y3.tx T5 (by omega); obtain ⟨x0, x1, x2, x3⟩ := id Z1))
            go_roundw
            case rel => exact ⟨er', x, rfl, ⟨Z1.set _ _ _, ((Z3.setAt _ 0 (by have := HL.out.2.2.2.1; omega) _).setAt _ 1 (by have := HL.out.2.2.2.1; omega) _).setAt _ 2 (by have := HL.out.2.2.2.1; omega) _, TX.set3 ((HL.out.2.2.1.bel hb4).trans T5) (by have := HL.out.2.2.2.1; omega) _ _ _, HL.out.2.2.2.1, .inr ⟨hne, rfl, EB.turn hEB (TX.set3' w5 B _ _ _) (fun e => hBr e.symm)⟩⟩⟩
            case measure => simp [intOf, hne, eb]; omega
          | ok yc =>
            obtain ⟨y, c⟩ := yc
            rw [hap] at HA3 hst
            have hcc := apply_fwd HF.out hap
            go_wp2_with (first
              | (go_at_call 64; (with_reducible refine HI3.out.mono ?_); rintro e w4 ⟨he, hb4⟩; subst he; have Y3 := HL.out.2.1.bel hb4 HL.out.2.1.lt; have Y1 := HL.out.1.bel hb4 HL.out.1.lt; obtain ⟨x0, x1, x2, x3⟩ := id Y1; obtain ⟨q0, r0, l0⟩ := HST.out _ _ _ _ (HX3.out.bel hb4))
              | (go_at_call 65; (with_reducible refine (HA3.out _ hb4).mono ?_); rintro e w5 ⟨he, hyo, T5, ask5, pv5, X5⟩; subst he; have hBr : ¬ B = g.rb := (by have := HL.out.2.2.2.1; omega); have Z1 := Y1.tx T5 hBr; have Z3 := Y3.tx T5 (by omega); obtain ⟨x0, x1, x2, x3⟩ := id Z1; have HX5 : Hid _ := ⟨X5⟩; clear X5))
            have X6 := HX5.out.set3 HW.out B (by have := HL.out.2.2.2.1; omega) Z1.c0 (.string y.p) (.string y.m) (.int .i64 y.n)
            have ec := atN_of X6
            go_roundw
            case rel => exact ⟨0, y, rfl, ⟨Z1.set _ _ _, ((Z3.setAt _ 0 (by have := HL.out.2.2.2.1; omega) _).setAt _ 1 (by have := HL.out.2.2.2.1; omega) _).setAt _ 2 (by have := HL.out.2.2.2.1; omega) _, TX.set3 ((HL.out.2.2.1.bel hb4).trans T5) (by have := HL.out.2.2.2.1; omega) _ _ _, HL.out.2.2.2.1, .inl ⟨rfl, hyo, c, ask5, pv5, X6, hcc.2, hst.symm⟩⟩⟩
            case measure => simp [intOf, eb, ec]; omega
      · have her' : (er == 0) = false := by simpa using her
        subst hM
        go_wp2
        refine bodyPost_ret (resV_lev _ _ w.heap.size _ _ _ rfl (HL.out.2.1.set _ _ _)) rfl ?_
        refine ⟨⟨v, rfl⟩, her, TX.set3 HL.out.2.2.1 (Nat.le_refl _) _ _ _, EB.turn hE (TX.set3' wr w.heap.size _ _ _) (fun e => by omega)⟩

set_option maxHeartbeats 4000000 in
set_option maxRecDepth 10000 in
theorem xlev_S (g : Gx) (n : Nat) (hn : n + 1 < 3) (d : Nat) (f : Nat → Res) (hF : Fwd g.L f) (hC : StepC g 63 #[.pointer (some ⟨g.rb + 3 + 3 * n, 0, none⟩), .pointer (some ⟨g.rb + 1 + 3 * n, 0, none⟩), .pointer (some ⟨g.rb + 2 + 3 * n, 0, none⟩)] d f) : StepC g 63 #[.pointer (some ⟨g.rb + 3 + 3 * (n + 1), 0, none⟩), .pointer (some ⟨g.rb + 1 + 3 * (n + 1), 0, none⟩), .pointer (some ⟨g.rb + 2 + 3 * (n + 1), 0, none⟩)] d (levM g.L (n + 1) f) := by
  intro w a dep ask pv h hd hal
  have HW : Hid _ := ⟨h⟩
  have hrb := h.lt
  have HC : Hid (∀ W, RX g W a dep ask pv → Calls Tryz.prog 63 #[.pointer (some ⟨g.rb + 3 + 3 * n, 0, none⟩), .pointer (some ⟨g.rb + 1 + 3 * n, 0, none⟩), .pointer (some ⟨g.rb + 2 + 3 * n, 0, none⟩)] W fun e w' => SE (f a) g dep W e w') := ⟨fun W hW => hC W a dep ask pv hW hd hal⟩
  have HA : Hid (∀ W b ask pv v, RX g W b dep ask pv → v.Ok → isLv g.L b (n + 1) = true → Calls Tryz.prog 65 #[.pointer (some ⟨g.rb, 0, none⟩), .agg #[.string v.p, .string v.m, .int .i64 v.n], .func (.func 63) #[] #[.pointer (some ⟨g.rb + 3 + 3 * n, 0, none⟩), .pointer (some ⟨g.rb + 1 + 3 * n, 0, none⟩), .pointer (some ⟨g.rb + 2 + 3 * n, 0, none⟩)]] W fun e w' => SE (applyM (tk g.L b).t v (f (b + 1))) g dep W e w') := ⟨fun W b ask pv v hW hv hl => by
    have hop : ∃ q, opOf (tk g.L b).t = some q := by
      unfold isLv lvOf at hl
      cases ho : opOf (tk g.L b).t with
      | none => rw [ho] at hl; simp at hl
      | some q => exact ⟨q, rfl⟩
    obtain ⟨q, hop⟩ := hop
    obtain ⟨j, hj, hsj, hq⟩ := opOf_some hop
    have htv : ∀ x y, twoV (tk g.L b).t x y = opG j x y := fun x y => twoV_of hop hq x y
    exact xapply_1 hW (by have := hW.hl; have := lv_lt hl; omega) j hj hsj htv v hv _ _ _ d f hd (by have := lv_lt hl; omega) hC⟩
  have HI : Hid (∀ W b ask pv, RX g W b dep ask pv → Calls Tryz.prog 64 #[.pointer (some ⟨g.rb, 0, none⟩), .int .i64 (((n + 1) : Nat) : Int)] W fun e w' => e = .returned (.bool (isLv g.L b (n + 1))) ∧ Below W.heap.size W w') := ⟨fun W b ask pv hW => xtwo_any hW (n + 1)⟩
  have HST : Hid (∀ W b ask pv, RX g W b dep ask pv → W.cell? ⟨g.rb + 3 + 3 * (n + 1), 0, none⟩ = some (.func (.func 63) #[] #[.pointer (some ⟨g.rb + 3 + 3 * n, 0, none⟩), .pointer (some ⟨g.rb + 1 + 3 * n, 0, none⟩), .pointer (some ⟨g.rb + 2 + 3 * n, 0, none⟩)]) ∧ W.cell? ⟨g.rb + 1 + 3 * (n + 1), 0, none⟩ = some (.pointer (some ⟨g.rb, 0, none⟩)) ∧ W.cell? ⟨g.rb + 2 + 3 * (n + 1), 0, none⟩ = some (.int .i64 (((n + 1) : Nat) : Int))) := ⟨fun W b ask pv hW => ⟨(hW.st (n + 1) (by omega)).t, (hW.st (n + 1) (by omega)).r, (hW.st (n + 1) (by omega)).l⟩⟩
  obtain ⟨M, HM⟩ : ∃ M, Hid (levM g.L (n + 1) f a = M) := ⟨_, ⟨rfl⟩⟩
  rw [HM.out]
  have HF : Hid _ := ⟨hF⟩
  have X1 := h.alloc zV
  have V3 : VB (w.alloc zV) w.heap.size ⟨#[]⟩ ⟨#[]⟩ 0 := VB.new w _ _ _
  obtain ⟨t0, _, _⟩ := HST.out _ _ _ _ X1
  have HX1 : Hid _ := ⟨X1⟩
  clear hC hF h X1
  generalize g.rb + 3 + 3 * n = q' at *
  generalize g.rb + 1 + 3 * n = r' at *
  generalize g.rb + 2 + 3 * n = l' at *
  generalize g.rb + 3 + 3 * (n + 1) = q at *
  generalize g.rb + 1 + 3 * (n + 1) = r at *
  generalize g.rb + 2 + 3 * (n + 1) = l at *
  generalize hnn : (((n + 1) : Nat) : Int) = lv at *
  clear hnn
  cases hf : f a with
  | error er =>
    rw [hf] at HC
    have hm : M = .error er := by rw [← HM.out]; unfold levM; rw [hf]
    subst hm
    clear HM HA HI hf
    go_enter Tryz.func63, Tryz.ntmps63
    go_wp2_with (go_at_call 63; (with_reducible refine (HC.out _ HX1.out).mono ?_); rintro e w2 ⟨⟨x, he⟩, hne, T2, hEB⟩; subst he; have W3 := V3.tx T2 (by omega); have TT : TX g.rb w w2 := (Turn.alloc (Turn.refl _ w) zV).trans T2; clear T2)
    have hne' : (er == 0) = false := by simpa using hne
    generalize hBe : w2.heap.size = B at *
    have X5 := VB.at w2 x.p x.m x.n B hBe.symm
    have W5 := W3.alloc (.cells #[.string x.p, .string x.m, .int .i64 x.n] 27)
    have T5 := TT.alloc (.cells #[.string x.p, .string x.m, .int .i64 x.n] 27)
    have E5 := EB.turn (g := g) hEB ((Turn.refl (fun _ => False) w2).alloc (.cells #[.string x.p, .string x.m, .int .i64 x.n] 27)) (fun e => e)
    generalize w2.alloc (.cells #[.string x.p, .string x.m, .int .i64 x.n] 27) = w3 at *
    have HS0 : Hid (VB w3 B x.p x.m x.n ∧ VB w3 w.heap.size ⟨#[]⟩ ⟨#[]⟩ 0 ∧ TX g.rb w w3 ∧ EB g w3) := ⟨X5, W5, T5, E5⟩
    clear X5 W5 T5 E5 hBe hEB W3 TT t0
    go_loopw [6] (fun s6 wr => s6 = .int .i64 er ∧ wr = w3) (fun s6 wr => 0)
    case atStart => exact ⟨rfl, rfl⟩
    case round =>
      obtain ⟨rfl, rfl⟩ := hrel
      obtain ⟨x0, x1, x2, x3⟩ := HS0.out.1
      obtain ⟨y0, y1, y2, y3⟩ := HS0.out.2.1
      go_wp2
      refine bodyPost_ret (resV_lev _ _ w.heap.size _ _ _ rfl (HS0.out.2.1.set _ _ _)) rfl ?_
      refine ⟨⟨x, rfl⟩, hne, TX.set3 HS0.out.2.2.1 (Nat.le_refl _) _ _ _, EB.turn HS0.out.2.2.2 (TX.set3' wr w.heap.size _ _ _) (fun e => by omega)⟩
  | ok vb =>
    obtain ⟨v0, b0⟩ := vb
    rw [hf] at HC
    have HM2 : Hid (levF g.L (n + 1) f (g.L.length + 1 - b0) v0 b0 = M ∧ a < b0 ∧ b0 ≤ g.L.length) := ⟨by rw [← HM.out]; unfold levM; rw [hf], HF.out _ _ _ hf⟩
    clear HM hf
    go_enter Tryz.func63, Tryz.ntmps63
    go_wp2_with (go_at_call 63; (with_reducible refine (HC.out _ HX1.out).mono ?_); rintro e w2 ⟨he, hvo, T2, ask2, pv2, X2⟩; subst he; have HX2 : Hid _ := ⟨X2⟩; have W3 := V3.tx T2 (by omega); have TT : TX g.rb w w2 := (Turn.alloc (Turn.refl _ w) zV).trans T2; clear X2 T2)
    generalize hBe : w2.heap.size = B at *
    have HS0 : Hid (LS g (n + 1) dep f M w B 0 v0 (w2.alloc (.cells #[.string v0.p, .string v0.m, .int .i64 v0.n] 27))) := ⟨VB.at _ _ _ _ _ hBe.symm, W3.alloc _, TT.alloc _, by rw [← hBe]; exact W3.lt, .inl ⟨rfl, hvo, b0, ask2, pv2, HX2.out.alloc _, HM2.out.2.2, HM2.out.1⟩⟩
    generalize w2.alloc (.cells #[.string v0.p, .string v0.m, .int .i64 v0.n] 27) = w3 at *
    clear t0 hvo HC HX1 V3 HX2 W3 TT HM2 hBe
    go_loopw [6] (fun s6 wr => ∃ er v, s6 = .int .i64 er ∧ Hid (LS g (n + 1) dep f M w B er v wr)) (fun s6 wr => if intOf s6 = 0 then g.L.length + 2 - atN g.rb wr else 0)
    case atStart => exact ⟨0, v0, rfl, HS0⟩
    case round =>
      obtain ⟨er, v, rfl, HL⟩ := hrel
      obtain ⟨x0, x1, x2, x3⟩ := HL.out.1
      obtain ⟨y0, y1, y2, y3⟩ := HL.out.2.1
      rcases HL.out.2.2.2.2 with ⟨her, hvo, b, ask3, pv3, X3, hbl, hM⟩ | ⟨her, hM, hE⟩
      · subst her
        obtain ⟨q0, r0, l0⟩ := HST.out _ _ _ _ X3
        have HX3 : Hid _ := ⟨X3⟩
        have HM3 : Hid _ := ⟨hM⟩
        clear X3 hM
        cases hlv : isLv g.L b (n + 1) with
        | false =>
          have HI3 : Hid _ := ⟨HI.out wr b ask3 pv3 HX3.out⟩
          rw [hlv] at HI3
          have hm : M = .ok (v, b) := by rw [← HM3.out]; exact levF_end hlv _
          subst hm
          go_wp2_with (go_at_call 64; (with_reducible refine HI3.out.mono ?_); rintro e w4 ⟨he, hb4⟩; subst he; have Y3 := HL.out.2.1.bel hb4 HL.out.2.1.lt; obtain ⟨y0, y1, y2, y3⟩ := id Y3; have Y1 := HL.out.1.bel hb4 HL.out.1.lt; obtain ⟨x0, x1, x2, x3⟩ := id Y1)
          refine bodyPost_ret (resV_lev _ _ w.heap.size _ _ _ rfl (Y3.set _ _ _)) rfl ?_
          refine ⟨rfl, hvo, TX.set3 (HL.out.2.2.1.bel hb4) (Nat.le_refl _) _ _ _, ask3, pv3, (HX3.out.bel hb4).set3 HW.out w.heap.size (Nat.le_refl _) Y3.c0 _ _ _⟩
        | true =>
          have HI3 : Hid _ := ⟨HI.out wr b ask3 pv3 HX3.out⟩
          rw [hlv] at HI3
          have HA3 : Hid (∀ W, Below wr.heap.size wr W → _) := ⟨fun W hW => HA.out W b ask3 pv3 v (HX3.out.bel hW) hvo hlv⟩
          have hst := levF_step (v := v) HF.out hbl hlv
          rw [HM3.out] at hst
          have eb := atN_of HX3.out
          cases hap : applyM (tk g.L b).t v (f (b + 1)) with
          | error er' =>
            rw [hap] at HA3 hst
            have hm : M = .error er' := hst
            subst hm
            go_wp2_with (first
              | (go_at_call 64; (with_reducible refine HI3.out.mono ?_); rintro e w4 ⟨he, hb4⟩; subst he; have Y3 := HL.out.2.1.bel hb4 HL.out.2.1.lt; have Y1 := HL.out.1.bel hb4 HL.out.1.lt; obtain ⟨x0, x1, x2, x3⟩ := id Y1; obtain ⟨q0, r0, l0⟩ := HST.out _ _ _ _ (HX3.out.bel hb4))
              | (go_at_call 65; (with_reducible refine (HA3.out _ hb4).mono ?_); rintro e w5 ⟨⟨x, he⟩, hne, T5, hEB⟩; subst he; have hBr : ¬ B = g.rb := (by have := HL.out.2.2.2.1; omega); have Z1 := Y1.tx T5 hBr; have Z3 := Y3.tx T5 (by omega); obtain ⟨x0, x1, x2, x3⟩ := id Z1))
            go_roundw
            case rel => exact ⟨er', x, rfl, ⟨Z1.set _ _ _, ((Z3.setAt _ 0 (by have := HL.out.2.2.2.1; omega) _).setAt _ 1 (by have := HL.out.2.2.2.1; omega) _).setAt _ 2 (by have := HL.out.2.2.2.1; omega) _, TX.set3 ((HL.out.2.2.1.bel hb4).trans T5) (by have := HL.out.2.2.2.1; omega) _ _ _, HL.out.2.2.2.1, .inr ⟨hne, rfl, EB.turn hEB (TX.set3' w5 B _ _ _) (fun e => hBr e.symm)⟩⟩⟩
            case measure => simp [intOf, hne, eb]; omega
          | ok yc =>
            obtain ⟨y, c⟩ := yc
            rw [hap] at HA3 hst
            have hcc := apply_fwd HF.out hap
            go_wp2_with (first
              | (go_at_call 64; (with_reducible refine HI3.out.mono ?_); rintro e w4 ⟨he, hb4⟩; subst he; have Y3 := HL.out.2.1.bel hb4 HL.out.2.1.lt; have Y1 := HL.out.1.bel hb4 HL.out.1.lt; obtain ⟨x0, x1, x2, x3⟩ := id Y1; obtain ⟨q0, r0, l0⟩ := HST.out _ _ _ _ (HX3.out.bel hb4))
              | (go_at_call 65; (with_reducible refine (HA3.out _ hb4).mono ?_); rintro e w5 ⟨he, hyo, T5, ask5, pv5, X5⟩; subst he; have hBr : ¬ B = g.rb := (by have := HL.out.2.2.2.1; omega); have Z1 := Y1.tx T5 hBr; have Z3 := Y3.tx T5 (by omega); obtain ⟨x0, x1, x2, x3⟩ := id Z1; have HX5 : Hid _ := ⟨X5⟩; clear X5))
            have X6 := HX5.out.set3 HW.out B (by have := HL.out.2.2.2.1; omega) Z1.c0 (.string y.p) (.string y.m) (.int .i64 y.n)
            have ec := atN_of X6
            go_roundw
            case rel => exact ⟨0, y, rfl, ⟨Z1.set _ _ _, ((Z3.setAt _ 0 (by have := HL.out.2.2.2.1; omega) _).setAt _ 1 (by have := HL.out.2.2.2.1; omega) _).setAt _ 2 (by have := HL.out.2.2.2.1; omega) _, TX.set3 ((HL.out.2.2.1.bel hb4).trans T5) (by have := HL.out.2.2.2.1; omega) _ _ _, HL.out.2.2.2.1, .inl ⟨rfl, hyo, c, ask5, pv5, X6, hcc.2, hst.symm⟩⟩⟩
            case measure => simp [intOf, eb, ec]; omega
      · have her' : (er == 0) = false := by simpa using her
        subst hM
        go_wp2
        refine bodyPost_ret (resV_lev _ _ w.heap.size _ _ _ rfl (HL.out.2.1.set _ _ _)) rfl ?_
        refine ⟨⟨v, rfl⟩, her, TX.set3 HL.out.2.2.1 (Nat.le_refl _) _ _ _, EB.turn hE (TX.set3' wr w.heap.size _ _ _) (fun e => by omega)⟩

end Go.Proofs.YtljmbgflcidokaaGreatDoor
