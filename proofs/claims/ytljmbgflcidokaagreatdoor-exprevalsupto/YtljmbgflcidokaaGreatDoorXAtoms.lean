/- The reader: bracket, atom. The reader: atom. -/
import Derived.Test.YtljmbgflcidokaaGreatDoorXLev
import Derived.Deep.RegionHeld3
namespace Go.Proofs.YtljmbgflcidokaaGreatDoor
open Go.ChangeShapes Go.WideShapes Go.ChangeAt Go.RowKit Go.Maps
set_option linter.unusedVariables false
set_option linter.unusedSimpArgs false

/-- What a bracket answers, behind its sign. -/
def brM (L : List TL) (inner : Nat → Res) (a : Nat) : Res :=
  match inner a with
  | .error e => .error e
  | .ok (v, b) => if isSg L b [41] = true then .ok (v, b + 1) else .error 110
/-- What a name's value is asked for. -/
def NameC (g : Gx) : Prop := ∀ (w : World) (a dep ask : Nat) (pv : Value) (i : Nat), RX g w a dep ask pv → ask < a → a ≤ g.L.length → i < g.L.length → ((g.L.getD i TL.none).1.k == 1) = true →
  Calls Tryz.prog 86 #[.pointer (some ⟨g.rb, 3, none⟩), .string (St (g.L.getD i TL.none).1.t)] w fun e w' => e = .returned (.agg #[.string (nameV g.K (St (g.L.getD i TL.none).1.t)).p, .string (nameV g.K (St (g.L.getD i TL.none).1.t)).m, .int .i64 (nameV g.K (St (g.L.getD i TL.none).1.t)).n]) ∧ TX g.rb w w' ∧ ∃ pv', RX g w' a dep (ask + 1) pv'
/-- A bracket's call. -/
def BrC (g : Gx) (d : Nat) (inner : Nat → Res) : Prop := ∀ (w : World) (a dep ask : Nat) (pv : Value), RX g w a dep ask pv → dep + d = 50 → a ≤ g.L.length → Calls Tryz.prog 85 #[.pointer (some ⟨g.rb, 0, none⟩)] w fun e w' => SE (brM g.L inner a) g dep w e w'

theorem EB.of {g : Gx} {w : World} {a dep ask : Nat} {pv : Value} (h : RX g w a dep ask pv) : EB g w := ⟨_, _, h.c1, h.c2, h.fz⟩

set_option maxHeartbeats 1000000 in
theorem xbracket_0 (g : Gx) (f : Nat → Res) (hf : ∀ a, f a = .error 6) : BrC g 0 f := by
  intro w a dep ask pv h hd hal
  have e : brM g.L f a = .error 6 := by unfold brM; rw [hf]
  rw [e]
  obtain rfl : dep = 50 := by omega
  have HW : Hid _ := ⟨h⟩
  have c2 := h.c2
  have z2 := h.fz 2
  have hrb := h.lt
  have hrb' : ¬ w.heap.size = g.rb := by omega
  have V2 : VB (w.alloc zV) w.heap.size ⟨#[]⟩ ⟨#[]⟩ 0 := VB.new w _ _ _
  clear h hf e
  go_enter Tryz.func85, Tryz.ntmps85
  go_wp2
  have X2 := HW.out.setDep 51 51 rfl
  refine bodyPost_ret (resV_bracket _ _ w.heap.size _ _ _ rfl (VB.at _ _ _ _ _ (by simp))) rfl ?_
  exact ⟨⟨⟨⟨#[]⟩, ⟨#[]⟩, 0⟩, rfl⟩, by decide, Turn.alloc (TX.set (Turn.refl _ w) 2 _) _, EB.of (X2.alloc _)⟩

set_option maxHeartbeats 2000000 in
theorem xbracket_S (g : Gx) (d : Nat) (f : Nat → Res) (hF : Fwd g.L f) (hC : StepC g 63 #[.pointer (some ⟨g.rb + 3 + 3 * 2, 0, none⟩), .pointer (some ⟨g.rb + 1 + 3 * 2, 0, none⟩), .pointer (some ⟨g.rb + 2 + 3 * 2, 0, none⟩)] d f) : BrC g (d + 1) f := by
  intro w a dep ask pv h hd hal
  have HW : Hid _ := ⟨h⟩
  have c2 := h.c2
  have z2 := h.fz 2
  have hrb := h.lt
  have hrb' : ¬ w.heap.size = g.rb := by omega
  have V2 : VB (w.alloc zV) w.heap.size ⟨#[]⟩ ⟨#[]⟩ 0 := VB.new w _ _ _
  have hw2 : IntKind.i64.wrap ((dep : Int) + 1) = ((dep + 1 : Nat) : Int) := by rw [IntKind.wrap_i64]; omega
  have hd5 : ¬ (50 : Int) < ((dep + 1 : Nat) : Int) := by omega
  have X2 := (h.setDep (dep + 1) ((dep + 1 : Nat) : Int) rfl)
  have c7 : (w.setCell ⟨g.rb, 2, none⟩ (.int .i64 ((dep + 1 : Nat) : Int))).cell? ⟨g.rb, 7, none⟩ = some (.func (.func 63) #[] #[.pointer (some ⟨g.rb + 3 + 3 * 2, 0, none⟩), .pointer (some ⟨g.rb + 1 + 3 * 2, 0, none⟩), .pointer (some ⟨g.rb + 2 + 3 * 2, 0, none⟩)]) := X2.c7
  have c7' : w.cell? ⟨g.rb, 7, none⟩ = some (.func (.func 63) #[] #[.pointer (some ⟨g.rb + 3 + 3 * 2, 0, none⟩), .pointer (some ⟨g.rb + 1 + 3 * 2, 0, none⟩), .pointer (some ⟨g.rb + 2 + 3 * 2, 0, none⟩)]) := h.c7
  have HX2 : Hid _ := ⟨X2.alloc zV⟩
  have HT2 : Hid (TX g.rb w ((w.setCell ⟨g.rb, 2, none⟩ (.int .i64 ((dep + 1 : Nat) : Int))).alloc zV)) := ⟨Turn.alloc (TX.set (Turn.refl _ w) 2 _) _⟩
  have HV2 : Hid (VB ((w.setCell ⟨g.rb, 2, none⟩ (.int .i64 ((dep + 1 : Nat) : Int))).alloc zV) w.heap.size ⟨#[]⟩ ⟨#[]⟩ 0) := ⟨VB.at _ _ _ _ _ (by simp)⟩
  have HC : Hid (∀ W, RX g W a (dep + 1) ask pv → Calls Tryz.prog 63 #[.pointer (some ⟨g.rb + 3 + 3 * 2, 0, none⟩), .pointer (some ⟨g.rb + 1 + 3 * 2, 0, none⟩), .pointer (some ⟨g.rb + 2 + 3 * 2, 0, none⟩)] W fun e w' => SE (f a) g (dep + 1) W e w') := ⟨fun W hW => hC W a (dep + 1) ask pv hW (by omega) hal⟩
  have HS : Hid (∀ W b ask pv, RX g W b (dep + 1) ask pv → Calls Tryz.prog 60 #[.pointer (some ⟨g.rb, 0, none⟩), .string ⟨#[41]⟩] W fun e w' => e = .returned (.bool (isSg g.L b [41])) ∧ Below W.heap.size W w') := ⟨fun W b ask pv hW => xsign_any hW [41] ⟨#[41]⟩ rfl⟩
  obtain ⟨M, HM⟩ : ∃ M, Hid (brM g.L f a = M) := ⟨_, ⟨rfl⟩⟩
  rw [HM.out]
  generalize g.rb + 3 + 3 * 2 = q at *
  generalize g.rb + 1 + 3 * 2 = r at *
  generalize g.rb + 2 + 3 * 2 = l at *
  have HHL : Hid _ := ⟨h.hl⟩
  clear hC h X2
  generalize hdi : ((dep + 1 : Nat) : Int) = di at *
  have HDI : Hid _ := ⟨hdi⟩
  clear hdi
  cases hf : f a with
  | error er =>
    rw [hf] at HC
    have hm : M = .error er := by rw [← HM.out]; unfold brM; rw [hf]
    subst hm
    clear HM hf HS
    go_enter Tryz.func85, Tryz.ntmps85
    go_wp2_with (go_at_call 63; (with_reducible refine (HC.out _ HX2.out).mono ?_); rintro e w3 ⟨⟨x, he⟩, hne, T3, ex, ey, E1, E2, E3⟩; subst he; have hne' : (er == 0) = false := (by simpa using hne); have W2 := HV2.out.tx T3 hrb'; obtain ⟨f0, f1, f2, f3⟩ := id W2; have lr : g.rb < w3.heap.size := World.block_lt_of_cell? w3 _ E1; have lw := W2.lt; have TT := HT2.out.trans T3)
    have EE : EB g ((w3.setCell ⟨g.rb, 1, none⟩ (.int .i64 (wrap64 (ex + 1)))).setCell ⟨g.rb, 2, none⟩ (.int .i64 (wrap64 (ey - 1)))) := ⟨wrap64 (ex + 1), wrap64 (ey - 1), by simp [go_sem, E1], by simp [go_sem, E2], fun jj => (World.frozen?_setCell _ _ _ _).trans ((World.frozen?_setCell _ _ _ _).trans (E3 jj))⟩
    refine bodyPost_ret (resV_bracket _ _ w.heap.size _ _ _ rfl ((((W2.setAt g.rb 1 (fun e => hrb' e.symm) _).setAt g.rb 2 (fun e => hrb' e.symm) _).set _ _ _).alloc _)) rfl ?_
    exact ⟨⟨x, rfl⟩, hne, Turn.alloc (TX.set3 (TX.set (TX.set TT 1 _) 2 _) (Nat.le_refl _) _ _ _) _, EB.turn (EB.turn EE (TX.set3' _ w.heap.size _ _ _) (fun e => hrb' e.symm)) ((Turn.refl (fun _ => False) _).alloc _) (fun e => e)⟩
  | ok vb =>
    obtain ⟨v, b⟩ := vb
    have hfw := hF _ _ _ hf
    rw [hf] at HC
    have HM2 : Hid (M = if isSg g.L b [41] = true then .ok (v, b + 1) else .error 110) := ⟨by rw [← HM.out]; unfold brM; rw [hf]⟩
    clear HM hf
    have hwb : IntKind.i64.wrap ((b : Int) + 1) = ((b + 1 : Nat) : Int) := by rw [IntKind.wrap_i64]; have := HHL.out; omega
    have hwd : IntKind.i64.wrap (di - 1) = ((dep : Nat) : Int) := by rw [IntKind.wrap_i64]; have := HDI.out; omega
    have hdi2 : ((dep + 1 : Nat) : Int) = di := HDI.out
    generalize hbi : ((b + 1 : Nat) : Int) = bi at *
    cases hsg : isSg g.L b [41] with
    | false =>
      have hm : M = .error 110 := by rw [HM2.out, hsg]; rfl
      subst hm
      clear HM2
      have HS2 : Hid _ := ⟨fun W ask pv hW => HS.out W b ask pv hW⟩
      rw [hsg] at HS2
      go_enter Tryz.func85, Tryz.ntmps85
      go_wp2_with (first
        | (go_at_call 63; (with_reducible refine (HC.out _ HX2.out).mono ?_); rintro e w3 ⟨he, hvo, T3, ask3, pv3, X3⟩; subst he; have HX3 : Hid _ := ⟨X3⟩; have W2 := HV2.out.tx T3 hrb'; have TT := HT2.out.trans T3; clear X3)
        | (go_at_call 60; (with_reducible refine (HS2.out _ ask3 pv3 (HX3.out.alloc _)).mono ?_); rintro e w4 ⟨he, hb4⟩; subst he; have HX4 : Hid _ := ⟨(HX3.out.alloc _).bel hb4⟩; have Y2 := (W2.alloc (.cells #[.string v.p, .string v.m, .int .i64 v.n] 27)).bel hb4 (W2.alloc _).lt; have Y4 := (VB.new w3 v.p v.m v.n).bel hb4 (VB.new w3 v.p v.m v.n).lt; obtain ⟨f0, f1, f2, f3⟩ := id Y2; obtain ⟨d0, d1, d2, d3⟩ := id Y4; have b1 := HX4.out.c1; have b2 := HX4.out.c2; have b3 := HX4.out.fz; have n4 : ¬ w3.heap.size = g.rb := (by have := HX3.out.lt; omega); have n5 : ¬ w3.heap.size = w.heap.size := (by have := W2.lt; omega); rw [hdi2] at b2; have T4 := TX.bel (Turn.alloc TT (.cells #[.string v.p, .string v.m, .int .i64 v.n] 27)) hb4))
      have X5 := ((HX4.out.setAt (b + 1) bi hbi.symm (by have := HX4.out.ak; omega)).setDep dep _ rfl)
      have Z2 := (Y2.setAt g.rb 1 (fun e => hrb' e.symm) (.int .i64 bi)).setAt g.rb 2 (fun e => hrb' e.symm) (.int .i64 (dep : Int))
      refine bodyPost_ret (resV_bracket _ _ w.heap.size _ _ _ rfl (Z2.set _ _ _)) rfl ?_
      exact ⟨⟨v, rfl⟩, by decide, TX.set3 (TX.set (TX.set T4 1 _) 2 _) (Nat.le_refl _) _ _ _, EB.turn (EB.of X5) (TX.set3' _ w.heap.size _ _ _) (fun e => hrb' e.symm)⟩
    | true =>
      have hm : M = .ok (v, b + 1) := by rw [HM2.out, hsg]; rfl
      subst hm
      clear HM2
      have HS2 : Hid _ := ⟨fun W ask pv hW => HS.out W b ask pv hW⟩
      rw [hsg] at HS2
      go_enter Tryz.func85, Tryz.ntmps85
      go_wp2_with (first
        | (go_at_call 63; (with_reducible refine (HC.out _ HX2.out).mono ?_); rintro e w3 ⟨he, hvo, T3, ask3, pv3, X3⟩; subst he; have HX3 : Hid _ := ⟨X3⟩; have W2 := HV2.out.tx T3 hrb'; have TT := HT2.out.trans T3; clear X3)
        | (go_at_call 60; (with_reducible refine (HS2.out _ ask3 pv3 (HX3.out.alloc _)).mono ?_); rintro e w4 ⟨he, hb4⟩; subst he; have HX4 : Hid _ := ⟨(HX3.out.alloc _).bel hb4⟩; have Y2 := (W2.alloc (.cells #[.string v.p, .string v.m, .int .i64 v.n] 27)).bel hb4 (W2.alloc _).lt; have Y4 := (VB.new w3 v.p v.m v.n).bel hb4 (VB.new w3 v.p v.m v.n).lt; obtain ⟨f0, f1, f2, f3⟩ := id Y2; obtain ⟨d0, d1, d2, d3⟩ := id Y4; have b1 := HX4.out.c1; have b2 := HX4.out.c2; have b3 := HX4.out.fz; have n4 : ¬ w3.heap.size = g.rb := (by have := HX3.out.lt; omega); have n5 : ¬ w3.heap.size = w.heap.size := (by have := W2.lt; omega); rw [hdi2] at b2; have T4 := TX.bel (Turn.alloc TT (.cells #[.string v.p, .string v.m, .int .i64 v.n] 27)) hb4))
      have X5 := ((HX4.out.setAt (b + 1) bi hbi.symm (by have := HX4.out.ak; omega)).setDep dep _ rfl)
      have Z2 := (Y2.setAt g.rb 1 (fun e => hrb' e.symm) (.int .i64 bi)).setAt g.rb 2 (fun e => hrb' e.symm) (.int .i64 (dep : Int))
      refine bodyPost_ret (resV_bracket _ _ w.heap.size _ _ _ rfl (Z2.set _ _ _)) rfl ?_
      exact ⟨rfl, hvo, TX.set3 (TX.set (TX.set T4 1 _) 2 _) (Nat.le_refl _) _ _ _, ask3, pv3, X5.set3 HW.out w.heap.size (Nat.le_refl _) Z2.c0 _ _ _⟩

/-- An atom's call. -/
def AtC (g : Gx) (d : Nat) (inner : Nat → Res) : Prop := ∀ (w : World) (a dep ask : Nat) (pv : Value), RX g w a dep ask pv → dep + d = 50 → a ≤ g.L.length → Calls Tryz.prog 61 #[.pointer (some ⟨g.rb, 0, none⟩)] w fun e w' => SE (atomM g.K g.L inner a) g dep w e w'
theorem nameV_ok {K : List Dx} (hK : ∀ d ∈ K, d.v.Ok) {s : ByteArray} (hs : s.size ≤ 140737488355328) : (nameV K s).Ok := by
  unfold nameV
  cases hf : K.find? (fun d => sB d.s s) with
  | none => exact ⟨by show s.size ≤ _; omega, by show es.size ≤ _; rw [es_size]; omega⟩
  | some d => exact (hK d (List.mem_of_find?_eq_some hf)).red

set_option maxHeartbeats 4000000 in
theorem xatom_any (g : Gx) (d : Nat) (inner : Nat → Res) (hB : BrC g d inner) (hN : NameC g) : AtC g d inner := by
  intro w a dep ask pv h hd hal
  have HW : Hid _ := ⟨h⟩
  have hrb := h.lt
  have hrb' : ¬ w.heap.size = g.rb := by omega
  have hhl := h.hl
  have HOT : Hid _ := ⟨ot_at h⟩
  have HOK : Hid _ := ⟨h.ok⟩
  have X1 := h.alloc zV
  have HV1 : Hid (VB (w.alloc zV) w.heap.size ⟨#[]⟩ ⟨#[]⟩ 0) := ⟨VB.new w _ _ _⟩
  have HS : Hid (Calls Tryz.prog 60 #[.pointer (some ⟨g.rb, 0, none⟩), .string ⟨#[40]⟩] (w.alloc zV) fun e w' => e = .returned (.bool (isSg g.L a [40])) ∧ Below (w.alloc zV).heap.size (w.alloc zV) w') := ⟨xsign_any X1 [40] ⟨#[40]⟩ rfl⟩
  have HX1 : Hid _ := ⟨X1⟩
  have HT : Hid (∀ W, RX g W a dep ask pv → Calls Tryz.prog 84 #[.pointer (some ⟨g.rb, 0, none⟩)] W fun e w' => e = .returned (.agg #[.int .i64 (g.L.getD a TL.none).1.k, .int .i64 (g.L.getD a TL.none).2, .int .i64 (g.L.getD a TL.none).1.n, .string (St (g.L.getD a TL.none).1.t)]) ∧ RX g w' (a + 1) dep ask pv ∧ TX g.rb W w') := ⟨fun W hW => xnext_any hW (by omega)⟩
  obtain ⟨M, HM⟩ : ∃ M, Hid (atomM g.K g.L inner a = M) := ⟨_, ⟨rfl⟩⟩
  rw [HM.out]
  cases hsg : isSg g.L a [40] with
  | true =>
    rw [hsg] at HS
    have hlt := sg_lt hsg
    have hm : M = brM g.L inner (a + 1) := by rw [← HM.out]; unfold atomM brM; rw [hsg]; rfl
    have HBR : Hid (∀ W, RX g W (a + 1) dep ask pv → Calls Tryz.prog 85 #[.pointer (some ⟨g.rb, 0, none⟩)] W fun e w' => SE M g dep W e w') := ⟨fun W hW => by rw [hm]; exact hB W (a + 1) dep ask pv hW hd (by omega)⟩
    clear hm HM hN hB h X1 HOT
    generalize g.L.getD a TL.none = p at *
    cases M with
    | error er =>
      go_enter Tryz.func61, Tryz.ntmps61
      go_wp2_with (first
        | (go_at_call 60; (with_reducible refine HS.out.mono ?_); rintro e w1 ⟨he, hb1⟩; subst he)
        | (go_at_call 84; (with_reducible refine (HT.out _ (HX1.out.bel hb1)).mono ?_); rintro e w2 ⟨he, X2, T2⟩; subst he; have HX2 : Hid _ := ⟨X2⟩; have W2 := (HV1.out.bel hb1 HV1.out.lt).tx T2 hrb'; have TT : TX g.rb w w2 := (TX.bel (Turn.alloc (Turn.refl _ w) zV) hb1).trans T2; clear X2 T2)
        | (go_at_call 85; (with_reducible refine (HBR.out _ (HX2.out.alloc _)).mono ?_); rintro e w3 ⟨⟨x, he⟩, hne, T3, hEB⟩; subst he; have W3 := (W2.alloc (.cells #[.int .i64 p.1.k, .int .i64 p.2, .int .i64 p.1.n, .string (St p.1.t)] 37)).tx T3 hrb'; obtain ⟨f0, f1, f2, f3⟩ := id W3; have T4 := (Turn.alloc TT (.cells #[.int .i64 p.1.k, .int .i64 p.2, .int .i64 p.1.n, .string (St p.1.t)] 37)).trans T3))
      refine bodyPost_ret (resV_atom _ _ w.heap.size _ _ _ rfl (W3.set _ _ _)) rfl ?_
      exact ⟨⟨x, rfl⟩, hne, TX.set3 T4 (Nat.le_refl _) _ _ _, EB.turn hEB (TX.set3' _ w.heap.size _ _ _) (fun e => hrb' e.symm)⟩
    | ok vb =>
      obtain ⟨v, b⟩ := vb
      go_enter Tryz.func61, Tryz.ntmps61
      go_wp2_with (first
        | (go_at_call 60; (with_reducible refine HS.out.mono ?_); rintro e w1 ⟨he, hb1⟩; subst he)
        | (go_at_call 84; (with_reducible refine (HT.out _ (HX1.out.bel hb1)).mono ?_); rintro e w2 ⟨he, X2, T2⟩; subst he; have HX2 : Hid _ := ⟨X2⟩; have W2 := (HV1.out.bel hb1 HV1.out.lt).tx T2 hrb'; have TT : TX g.rb w w2 := (TX.bel (Turn.alloc (Turn.refl _ w) zV) hb1).trans T2; clear X2 T2)
        | (go_at_call 85; (with_reducible refine (HBR.out _ (HX2.out.alloc _)).mono ?_); rintro e w3 ⟨he, hvo, T3, ask3, pv3, X3⟩; subst he; have HX3 : Hid _ := ⟨X3⟩; have W3 := (W2.alloc (.cells #[.int .i64 p.1.k, .int .i64 p.2, .int .i64 p.1.n, .string (St p.1.t)] 37)).tx T3 hrb'; obtain ⟨f0, f1, f2, f3⟩ := id W3; have T4 := (Turn.alloc TT (.cells #[.int .i64 p.1.k, .int .i64 p.2, .int .i64 p.1.n, .string (St p.1.t)] 37)).trans T3; clear X3))
      refine bodyPost_ret (resV_atom _ _ w.heap.size _ _ _ rfl (W3.set _ _ _)) rfl ?_
      exact ⟨rfl, hvo, TX.set3 T4 (Nat.le_refl _) _ _ _, ask3, pv3, HX3.out.set3 HW.out w.heap.size (Nat.le_refl _) W3.c0 _ _ _⟩
  | false =>
    rw [hsg] at HS
    have hm : M = if (tk g.L a).k == 2 then .ok (Vx.num (tk g.L a).n, a + 1) else if (tk g.L a).k == 1 then .ok (nameV g.K (St (tk g.L a).t), a + 1) else .error 110 := by rw [← HM.out]; unfold atomM; rw [hsg]; rfl
    unfold tk at hm
    have HNM : Hid (((g.L.getD a TL.none).1.k == 1) = true → ∀ W, RX g W (a + 1) dep ask pv → Calls Tryz.prog 86 #[.pointer (some ⟨g.rb, 3, none⟩), .string (St (g.L.getD a TL.none).1.t)] W fun e w' => e = .returned (.agg #[.string (nameV g.K (St (g.L.getD a TL.none).1.t)).p, .string (nameV g.K (St (g.L.getD a TL.none).1.t)).m, .int .i64 (nameV g.K (St (g.L.getD a TL.none).1.t)).n]) ∧ TX g.rb W w' ∧ ∃ pv', RX g w' (a + 1) dep (ask + 1) pv') := ⟨fun h1 W hW => by
      have hlt : a < g.L.length := tk_lt (fun x => by unfold tk at x; rw [x] at h1; cases h1)
      exact hN W (a + 1) dep ask pv a hW (by have := HW.out.ak; omega) (by omega) hlt h1⟩
    have HNO : Hid _ := ⟨nameV_ok HOK.out (s := St (g.L.getD a TL.none).1.t) (by rw [St_size]; exact HOT.out)⟩
    clear HM hN hB h X1 HOT HOK
    generalize g.L.getD a TL.none = p at *
    generalize hnv : nameV g.K (St p.1.t) = nv at *
    clear hnv
    cases h2 : (p.1.k == 2) with
    | true =>
      rw [h2] at hm
      have hm' : M = .ok (Vx.num p.1.n, a + 1) := hm
      clear hm
      subst hm'
      go_enter Tryz.func61, Tryz.ntmps61
      go_wp2_with (first
        | (go_at_call 60; (with_reducible refine HS.out.mono ?_); rintro e w1 ⟨he, hb1⟩; subst he)
        | (go_at_call 84; (with_reducible refine (HT.out _ (HX1.out.bel hb1)).mono ?_); rintro e w2 ⟨he, X2, T2⟩; subst he; have HX2 : Hid _ := ⟨X2⟩; have W2 := (HV1.out.bel hb1 HV1.out.lt).tx T2 hrb'; have lw := W2.lt; obtain ⟨f0, f1, f2, f3⟩ := id W2; have TT : TX g.rb w w2 := (TX.bel (Turn.alloc (Turn.refl _ w) zV) hb1).trans T2; clear X2 T2))
      refine bodyPost_ret (resV_atom _ _ w.heap.size _ _ _ rfl ((W2.set _ _ _).alloc _)) rfl ?_
      exact ⟨rfl, Vx.Ok.num _, Turn.alloc (TX.set3 TT (Nat.le_refl _) _ _ _) _, ask, pv, (HX2.out.set3 HW.out w.heap.size (Nat.le_refl _) W2.c0 _ _ _).alloc _⟩
    | false =>
      rw [h2] at hm
      cases h1 : (p.1.k == 1) with
      | false =>
        rw [h1] at hm
        have hm' : M = .error 110 := hm
        clear hm
        subst hm'
        go_enter Tryz.func61, Tryz.ntmps61
        go_wp2_with (first
          | (go_at_call 60; (with_reducible refine HS.out.mono ?_); rintro e w1 ⟨he, hb1⟩; subst he)
          | (go_at_call 84; (with_reducible refine (HT.out _ (HX1.out.bel hb1)).mono ?_); rintro e w2 ⟨he, X2, T2⟩; subst he; have HX2 : Hid _ := ⟨X2⟩; have W2 := (HV1.out.bel hb1 HV1.out.lt).tx T2 hrb'; have lw := W2.lt; obtain ⟨f0, f1, f2, f3⟩ := id W2; have TT : TX g.rb w w2 := (TX.bel (Turn.alloc (Turn.refl _ w) zV) hb1).trans T2; clear X2 T2))
        refine bodyPost_ret (resV_atom _ _ w.heap.size _ _ _ rfl ((W2.set _ _ _).alloc _)) rfl ?_
        exact ⟨⟨⟨⟨#[]⟩, ⟨#[]⟩, 0⟩, rfl⟩, by decide, Turn.alloc (TX.set3 TT (Nat.le_refl _) _ _ _) _, EB.of ((HX2.out.set3 HW.out w.heap.size (Nat.le_refl _) W2.c0 _ _ _).alloc _)⟩
      | true =>
        rw [h1] at hm
        have hm' : M = .ok (nv, a + 1) := hm
        clear hm
        subst hm'
        go_enter Tryz.func61, Tryz.ntmps61
        go_upto_region 8 with (first
          | (go_at_call 60; (with_reducible refine HS.out.mono ?_); rintro e w1 ⟨he, hb1⟩; subst he)
          | (go_at_call 84; (with_reducible refine (HT.out _ (HX1.out.bel hb1)).mono ?_); rintro e w2 ⟨he, X2, T2⟩; subst he; have HX2 : Hid _ := ⟨X2⟩; have W2 := (HV1.out.bel hb1 HV1.out.lt).tx T2 hrb'; have lw := W2.lt; have TT : TX g.rb w w2 := (TX.bel (Turn.alloc (Turn.refl _ w) zV) hb1).trans T2; clear X2 T2))
        have htb : ¬ w2.heap.size = g.rb := by have := HX2.out.lt; omega
        have htw : ¬ w2.heap.size = w.heap.size := by omega
        have T5 := TB.new w2 p w2.heap.size rfl
        have W5 := W2.alloc (.cells #[.int .i64 p.1.k, .int .i64 p.2, .int .i64 p.1.n, .string (St p.1.t)] 37)
        have HX5 : Hid _ := ⟨HX2.out.alloc (.cells #[.int .i64 p.1.k, .int .i64 p.2, .int .i64 p.1.n, .string (St p.1.t)] 37)⟩
        have TT5 := Turn.alloc TT (.cells #[.int .i64 p.1.k, .int .i64 p.2, .int .i64 p.1.n, .string (St p.1.t)] 37)
        generalize w2.heap.size = tb at *
        generalize w2.alloc (.cells #[.int .i64 p.1.k, .int .i64 p.2, .int .i64 p.1.n, .string (St p.1.t)] 37) = v5 at *
        have t3 : v5.drew.cell? ⟨tb, 3, none⟩ = some (.string (St p.1.t)) := T5.c3
        go_region_held3 (fun u => u.cell? ⟨tb, 3, none⟩ = some (.string (St p.1.t)))
          (first | (with_reducible assumption) | (with_reducible exact k3) | (with_reducible exact set3_cell htw k3))
          (first | (go_at_call 86; (with_reducible refine (HNM.out h1 _ HX5.out.drew).mono ?_); rintro e w3 ⟨he, T3, pv3, X3⟩; subst he; have HX3 : Hid _ := ⟨X3⟩; have W3 := (W5.drewN 1).tx (w := v5.drew) T3 hrb'; obtain ⟨f0, f1, f2, f3⟩ := id W3; have k3 : w3.cell? ⟨tb, 3, none⟩ = some (.string (St p.1.t)) := (T5.turn (S := fun k => k = g.rb) (((Turn.refl _ v5).drewN 1).trans T3) htb).c3; clear X3))
        go_wp2
        refine bodyPost_ret (resV_atom _ _ w.heap.size _ _ _ rfl (W3.set _ _ _)) rfl ?_
        exact ⟨rfl, HNO.out, TX.set3 ((TT5.drewN 1).trans T3) (Nat.le_refl _) _ _ _, ask + 1, pv3, HX3.out.set3 HW.out w.heap.size (Nat.le_refl _) W3.c0 _ _ _⟩
end Go.Proofs.YtljmbgflcidokaaGreatDoor
