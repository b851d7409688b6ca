/- The contract of Read, where symbols are read; and of what is too long. -/
import Derived.Test.YtpdcbokcoaienaaDoorSRead
namespace Go.Proofs.YtpdcbokcoaienaaDoor
open Go.ChangeShapes Go.WideShapes Go.ChangeAt Go.RowKit
set_option linter.unusedVariables false
set_option linter.unusedSimpArgs false

/-- All that lies in memory behind Write. -/
structure RWs (w u : World) (vy vs : Value) (ao : Option Addr) (c : Nat) (l : List Sym) (Y B : List Int) : Prop where
  cl : u.cell? ⟨w.heap.size, 0, none⟩ = some (.slice ao l.length c)
  lf : u.frozen? ⟨w.heap.size, 0, none⟩ = false
  e : u.cell? ⟨w.heap.size + 1, 0, none⟩ = some (.int .i64 0)
  ef : u.frozen? ⟨w.heap.size + 1, 0, none⟩ = false
  y : Own u (w.heap.size + 1 + 1) vy Y
  s : Own u (w.heap.size + 1 + 1) vs B
  o : OwnY u (w.heap.size + 1 + 1) (.slice ao l.length c) l
  bel : Below w.heap.size w u

theorem RWs.te {w u : World} {vy vs : Value} {ao : Option Addr} {c : Nat} {l : List Sym} {Y B : List Int} (h : RWs w u vy vs ao c l Y B) (x : Int) : Turn (fun k => k = w.heap.size + 1) u (u.setCell ⟨w.heap.size + 1, 0, none⟩ (.int .i64 x)) :=
  Turn.setCell (S := fun k => k = w.heap.size + 1) (Turn.refl _ _) ⟨w.heap.size + 1, 0, none⟩ rfl _
theorem RWs.k1 {w u : World} {vy vs : Value} {ao : Option Addr} {c : Nat} {l : List Sym} {Y B : List Int} (h : RWs w u vy vs ao c l Y B) (x : Int) : Sem.run Tryd.prog (convert 24 9 vy) (u.setCell ⟨w.heap.size + 1, 0, none⟩ (.int .i64 x)) = .ok (.string (strOfNums Y)) (u.setCell ⟨w.heap.size + 1, 0, none⟩ (.int .i64 x)) :=
  Own.cv (base := w.heap.size + 1 + 1) ((h.te x).row h.y (fun k hk e => by have := (h.y.lt k hk).1; omega)) _ (Below.refl _ _)
theorem RWs.k2 {w u : World} {vy vs : Value} {ao : Option Addr} {c : Nat} {l : List Sym} {Y B : List Int} (h : RWs w u vy vs ao c l Y B) (x : Int) : Sem.run Tryd.prog (convert 24 9 vs) (u.setCell ⟨w.heap.size + 1, 0, none⟩ (.int .i64 x)) = .ok (.string (strOfNums B)) (u.setCell ⟨w.heap.size + 1, 0, none⟩ (.int .i64 x)) :=
  Own.cv (base := w.heap.size + 1 + 1) ((h.te x).row h.s (fun k hk e => by have := (h.s.lt k hk).1; omega)) _ (Below.refl _ _)
theorem RWs.be {w u : World} {vy vs : Value} {ao : Option Addr} {c : Nat} {l : List Sym} {Y B : List Int} (h : RWs w u vy vs ao c l Y B) (x : Int) : Below w.heap.size w (u.setCell ⟨w.heap.size + 1, 0, none⟩ (.int .i64 x)) := h.bel.setCell (by show w.heap.size ≤ w.heap.size + 1; omega) _

set_option maxHeartbeats 8000000 in
set_option maxRecDepth 20000 in
theorem read_some (I : In) (w : World) (hi : InOk w I) (hf : Fz w) (first : Int) (l : List Sym) (hp : prsM I = some l) (Y B : List Int) (n x : Int)
    (W1 : ∀ a c a2 c2 w, Syms w a l → Strs w a2 I.ss → Fz w → Calls Tryd.prog 6 #[.slice a l.length c, .slice a2 I.ss.length c2] w fun e w' => WE2 Y B n x w e w') (S1 S2 : ByteArray)
    (C1 : ∀ W, Below w.heap.size w W → Sem.run Tryd.prog (convert 24 9 (.slice I.a1 I.n1 I.k1)) W = .ok (.string S1) W) (C2 : ∀ W, Below w.heap.size w W → Sem.run Tryd.prog (convert 24 9 (.slice I.a2 I.n2 I.k2)) W = .ok (.string S2) W) :
    Calls Tryd.prog 13 #[.slice I.a1 I.n1 I.k1, .slice I.a2 I.n2 I.k2, .int .i64 first, .slice I.a3 I.ss.length I.k3] w fun e w' => RdEnds (if (x == 0 && (n == first && ((strOfNums Y).toList == S1.toList && (strOfNums B).toList == S2.toList))) = true then some l else none) w e w' := by
  obtain ⟨R, h2, h3, h4, h5, hs⟩ := rd_start w I
  have SY := symbols_read R hi hf
  rw [hp] at SY
  have HSY : Hid _ := ⟨SY⟩
  have HC1 : Hid _ := ⟨C1⟩
  have HC2 : Hid _ := ⟨C2⟩
  have n0 : w.heap.size ≠ w.heap.size + 1 + 1 := by omega
  have n1 : w.heap.size + 1 ≠ w.heap.size + 1 + 1 := by omega
  have HV : Hid (∀ u, Turn (fun k => k = w.heap.size + 1 + 1) (rdW w I) u → u.cell? ⟨w.heap.size, 0, none⟩ = some (.slice none 0 0) ∧ u.cell? ⟨w.heap.size + 1, 0, none⟩ = some (.int .i64 0) ∧ u.frozen? ⟨w.heap.size, 0, none⟩ = false ∧ u.frozen? ⟨w.heap.size + 1, 0, none⟩ = false ∧ Below w.heap.size w u ∧ w.heap.size + 1 + 1 < u.heap.size) := ⟨fun u hu => by
    have hz := hu.size
    exact ⟨(World.cell?_of_block (a := ⟨w.heap.size, 0, none⟩) (hu.block w.heap.size (by omega) n0)).trans h2,
      (World.cell?_of_block (a := ⟨w.heap.size + 1, 0, none⟩) (hu.block (w.heap.size + 1) (by omega) n1)).trans h3,
      (World.frozen?_of_block (w := rdW w I) (a := ⟨w.heap.size, 0, none⟩) (hu.block w.heap.size (by omega) n0)).trans h4,
      (World.frozen?_of_block (w := rdW w I) (a := ⟨w.heap.size + 1, 0, none⟩) (hu.block (w.heap.size + 1) (by omega) n1)).trans h5,
      R.bel.trans (hu.below R.bel.size (fun k e => by omega)), by omega⟩⟩
  have HWR : Hid (∀ ao c u, OwnY u (rdW w I).heap.size (.slice ao l.length c) l → Turn (fun k => k = w.heap.size + 1 + 1) (rdW w I) u → Calls Tryd.prog 6 #[.slice ao l.length c, .slice I.a3 I.ss.length I.k3] (u.setCell ⟨w.heap.size, 0, none⟩ (.slice ao l.length c)) fun e w' => ∃ vy vs, e = .returned (.tuple #[vy, vs, .int .i64 n, .int .i64 x]) ∧ RWs w w' vy vs ao c l Y B) := ⟨fun ao c u ho hu => by
    obtain ⟨i2, i3, i4, i5, ib, iz⟩ := HV.out u hu
    have tS : Turn (fun k => k = w.heap.size) u (u.setCell ⟨w.heap.size, 0, none⟩ (.slice ao l.length c)) := Turn.setCell (S := fun k => k = w.heap.size) (Turn.refl _ _) ⟨w.heap.size, 0, none⟩ rfl _
    have ho2 : OwnY (u.setCell ⟨w.heap.size, 0, none⟩ (.slice ao l.length c)) (rdW w I).heap.size (.slice ao l.length c) l := tS.row ho (fun k hk e => by have := (ho.lt k hk).1; omega)
    have ib2 : Below w.heap.size w (u.setCell ⟨w.heap.size, 0, none⟩ (.slice ao l.length c)) := ib.setCell (by show w.heap.size ≤ w.heap.size; omega) _
    have hsy : Syms (u.setCell ⟨w.heap.size, 0, none⟩ (.slice ao l.length c)) ao l := by
      obtain ⟨ao', c', hv, _, _, hsy, _⟩ := OwnY.any ho2
      simp only [Value.slice.injEq] at hv
      obtain ⟨rfl, _, rfl⟩ := hv
      exact hsy
    refine (W1 ao c I.a3 I.k3 _ hsy (hi.r3.below ib2 (Nat.le_refl _)) (hf.bel ib2 hf.z)).mono ?_
    rintro e w' ⟨vy, vs, rfl, oy, os, hb⟩
    have hz2 : u.heap.size ≤ (u.setCell ⟨w.heap.size, 0, none⟩ (.slice ao l.length c)).heap.size := tS.size
    have ce : ∀ {p : Addr}, p.block < u.heap.size → w'.cell? p = (u.setCell ⟨w.heap.size, 0, none⟩ (.slice ao l.length c)).cell? p := fun hp => hb.cell (Nat.lt_of_lt_of_le hp hz2)
    have cf : ∀ {p : Addr}, p.block < u.heap.size → w'.frozen? p = (u.setCell ⟨w.heap.size, 0, none⟩ (.slice ao l.length c)).frozen? p := fun hp => hb.frozen (Nat.lt_of_lt_of_le hp hz2)
    refine ⟨vy, vs, rfl, (ce (p := ⟨w.heap.size, 0, none⟩) (by show w.heap.size < _; omega)).trans (by simp [go_sem, i2]), (cf (p := ⟨w.heap.size, 0, none⟩) (by show w.heap.size < _; omega)).trans ((World.frozen?_setCell _ _ _ _).trans i4),
      (ce (p := ⟨w.heap.size + 1, 0, none⟩) (by show w.heap.size + 1 < _; omega)).trans (by simp [go_sem, i3]), (cf (p := ⟨w.heap.size + 1, 0, none⟩) (by show w.heap.size + 1 < _; omega)).trans ((World.frozen?_setCell _ _ _ _).trans i5), oy.mono (by omega), os.mono (by omega), ?_, ib2.trans (hb.mono ib2.size)⟩
    have ho3 := (Turn.of_below hb (fun _ => False)).row ho2 (fun _ _ h => h)
    exact World.ownsRow.mono ho3 (by omega)⟩
  have hmf : ∀ (fn : Fn) (first cap : Array Value) (w : World), (Instr.makeFunc fn first cap).run Tryd.prog w = .ok (.func fn first cap) w := fun _ _ _ _ => rfl
  have t1 := hi.t1
  have t2 := hi.t2
  have tk : True := trivial
  clear SY hp hi hf R h2 h3 h4 h5 W1 C1 C2
  cases q1 : x == 0
  · simp only [Bool.false_and, Bool.false_eq_true, if_false]
    go_enter_defers Tryd.func13, Tryd.ntmps13
    go_wp2_with (first
      | (go_at_call 32; (with_reducible refine HSY.out.mono ?_); rintro e w1 hw1; obtain ⟨v1, rfl, o1, ht1⟩ := hw1; obtain ⟨ao, c1, hv1, _, _, _, _⟩ := OwnY.any o1; subst hv1; obtain ⟨i2, i3, i4, i5, ib, iz⟩ := HV.out _ ht1; have HO1 : Hid _ := ⟨o1⟩; clear o1)
      | (go_at_call 6; (with_reducible refine (HWR.out _ _ _ HO1.out ht1).mono ?_); rintro e w3 ⟨vy, vs, rfl, hrw⟩; have HRW : Hid _ := ⟨hrw⟩; have e3 := hrw.e; have f3 := hrw.ef; have e2 := hrw.cl; have f2 := hrw.lf; clear hrw i2 i3 i4 i5)
      | (go_at_call 34; have _t := tk; (with_reducible refine (equal_any _ _ _ _ _ (HRW.out.k1 x) (HC1.out _ (HRW.out.be x))).mono ?_); rintro e w' ⟨rfl, hw'⟩; subst w'; clear tk _t)
      | (go_at_call 34; (with_reducible refine (equal_any _ _ _ _ _ (HRW.out.k2 x) (HC2.out _ (HRW.out.be x))).mono ?_); rintro e w' ⟨rfl, hw'⟩; subst w')
      | (go_at_call 33; (with_reducible refine (insist_no _).mono ?_); rintro e w' ⟨rfl, hw'⟩; subst w'))
    have j0 : (w3.setCell ⟨w.heap.size + 1, 0, none⟩ (.int .i64 x)).cell? ⟨w.heap.size, 0, none⟩ = some (.slice ao l.length c1) := by simp [go_sem, e2]
    have j1 : (w3.setCell ⟨w.heap.size + 1, 0, none⟩ (.int .i64 x)).cell? ⟨w.heap.size + 1, 0, none⟩ = some (.int .i64 x) := by simp [go_sem, e3]
    have b4 := HRW.out.be x
    have z0 : (w3.setCell ⟨w.heap.size + 1, 0, none⟩ (.int .i64 x)).frozen? ⟨w.heap.size, 0, none⟩ = false := (World.frozen?_setCell _ _ _ _).trans f2
    have z1 : (w3.setCell ⟨w.heap.size + 1, 0, none⟩ (.int .i64 x)).frozen? ⟨w.heap.size + 1, 0, none⟩ = false := (World.frozen?_setCell _ _ _ _).trans f3
    generalize w3.setCell ⟨w.heap.size + 1, 0, none⟩ (.int .i64 x) = w4 at *
    refine leaves_cons (f := 31) (args := #[.pointer (some ⟨w.heap.size, 0, none⟩), .pointer (some ⟨w.heap.size + 1, 0, none⟩)]) (by simp) (by simp [go_sem]) ?_
    refine (catch_bad w.heap.size (w.heap.size + 1) ao l.length c1 x [] w4 j0 j1 z0 z1 (by omega)).mono ?_
    rintro e u' w'' ⟨rfl, rfl, rfl⟩
    have k1 : (((w4.setCell ⟨w.heap.size, 0, none⟩ (.slice none 0 0)).setCell ⟨w.heap.size + 1, 0, none⟩ (.int .i64 80)).drew).cell? ⟨w.heap.size, 0, none⟩ = some (.slice none 0 0) := by simp [go_sem, j0]
    have k2 : (((w4.setCell ⟨w.heap.size, 0, none⟩ (.slice none 0 0)).setCell ⟨w.heap.size + 1, 0, none⟩ (.int .i64 80)).drew).cell? ⟨w.heap.size + 1, 0, none⟩ = some (.int .i64 80) := by simp [go_sem, j1]
    exact ⟨_, res_read _ _ w.heap.size (w.heap.size + 1) none 0 0 80 (by kernel_rfl) (by kernel_rfl) k1 k2, rfl, ((b4.setCell (by show w.heap.size ≤ w.heap.size; omega) _).setCell (by show w.heap.size ≤ w.heap.size + 1; omega) _).drew⟩
  · cases q2 : n == first
    · simp only [Bool.true_and, Bool.false_and, Bool.false_eq_true, if_false]
      go_enter_defers Tryd.func13, Tryd.ntmps13
      go_wp2_with (first
        | (go_at_call 32; (with_reducible refine HSY.out.mono ?_); rintro e w1 hw1; obtain ⟨v1, rfl, o1, ht1⟩ := hw1; obtain ⟨ao, c1, hv1, _, _, _, _⟩ := OwnY.any o1; subst hv1; obtain ⟨i2, i3, i4, i5, ib, iz⟩ := HV.out _ ht1; have HO1 : Hid _ := ⟨o1⟩; clear o1)
        | (go_at_call 6; (with_reducible refine (HWR.out _ _ _ HO1.out ht1).mono ?_); rintro e w3 ⟨vy, vs, rfl, hrw⟩; have HRW : Hid _ := ⟨hrw⟩; have e3 := hrw.e; have f3 := hrw.ef; have e2 := hrw.cl; have f2 := hrw.lf; clear hrw i2 i3 i4 i5)
        | (go_at_call 34; have _t := tk; (with_reducible refine (equal_any _ _ _ _ _ (HRW.out.k1 x) (HC1.out _ (HRW.out.be x))).mono ?_); rintro e w' ⟨rfl, hw'⟩; subst w'; clear tk _t)
        | (go_at_call 34; (with_reducible refine (equal_any _ _ _ _ _ (HRW.out.k2 x) (HC2.out _ (HRW.out.be x))).mono ?_); rintro e w' ⟨rfl, hw'⟩; subst w')
        | (go_at_call 33; (with_reducible refine (insist_no _).mono ?_); rintro e w' ⟨rfl, hw'⟩; subst w'))
      have j0 : (w3.setCell ⟨w.heap.size + 1, 0, none⟩ (.int .i64 x)).cell? ⟨w.heap.size, 0, none⟩ = some (.slice ao l.length c1) := by simp [go_sem, e2]
      have j1 : (w3.setCell ⟨w.heap.size + 1, 0, none⟩ (.int .i64 x)).cell? ⟨w.heap.size + 1, 0, none⟩ = some (.int .i64 x) := by simp [go_sem, e3]
      have b4 := HRW.out.be x
      have z0 : (w3.setCell ⟨w.heap.size + 1, 0, none⟩ (.int .i64 x)).frozen? ⟨w.heap.size, 0, none⟩ = false := (World.frozen?_setCell _ _ _ _).trans f2
      have z1 : (w3.setCell ⟨w.heap.size + 1, 0, none⟩ (.int .i64 x)).frozen? ⟨w.heap.size + 1, 0, none⟩ = false := (World.frozen?_setCell _ _ _ _).trans f3
      generalize w3.setCell ⟨w.heap.size + 1, 0, none⟩ (.int .i64 x) = w4 at *
      refine leaves_cons (f := 31) (args := #[.pointer (some ⟨w.heap.size, 0, none⟩), .pointer (some ⟨w.heap.size + 1, 0, none⟩)]) (by simp) (by simp [go_sem]) ?_
      refine (catch_bad w.heap.size (w.heap.size + 1) ao l.length c1 x [] w4 j0 j1 z0 z1 (by omega)).mono ?_
      rintro e u' w'' ⟨rfl, rfl, rfl⟩
      have k1 : (((w4.setCell ⟨w.heap.size, 0, none⟩ (.slice none 0 0)).setCell ⟨w.heap.size + 1, 0, none⟩ (.int .i64 80)).drew).cell? ⟨w.heap.size, 0, none⟩ = some (.slice none 0 0) := by simp [go_sem, j0]
      have k2 : (((w4.setCell ⟨w.heap.size, 0, none⟩ (.slice none 0 0)).setCell ⟨w.heap.size + 1, 0, none⟩ (.int .i64 80)).drew).cell? ⟨w.heap.size + 1, 0, none⟩ = some (.int .i64 80) := by simp [go_sem, j1]
      exact ⟨_, res_read _ _ w.heap.size (w.heap.size + 1) none 0 0 80 (by kernel_rfl) (by kernel_rfl) k1 k2, rfl, ((b4.setCell (by show w.heap.size ≤ w.heap.size; omega) _).setCell (by show w.heap.size ≤ w.heap.size + 1; omega) _).drew⟩
    · cases q3 : (strOfNums Y).toList == S1.toList
      · simp only [Bool.true_and, Bool.false_and, Bool.false_eq_true, if_false]
        go_enter_defers Tryd.func13, Tryd.ntmps13
        go_wp2_with (first
          | (go_at_call 32; (with_reducible refine HSY.out.mono ?_); rintro e w1 hw1; obtain ⟨v1, rfl, o1, ht1⟩ := hw1; obtain ⟨ao, c1, hv1, _, _, _, _⟩ := OwnY.any o1; subst hv1; obtain ⟨i2, i3, i4, i5, ib, iz⟩ := HV.out _ ht1; have HO1 : Hid _ := ⟨o1⟩; clear o1)
          | (go_at_call 6; (with_reducible refine (HWR.out _ _ _ HO1.out ht1).mono ?_); rintro e w3 ⟨vy, vs, rfl, hrw⟩; have HRW : Hid _ := ⟨hrw⟩; have e3 := hrw.e; have f3 := hrw.ef; have e2 := hrw.cl; have f2 := hrw.lf; clear hrw i2 i3 i4 i5)
          | (go_at_call 34; have _t := tk; (with_reducible refine (equal_any _ _ _ _ _ (HRW.out.k1 x) (HC1.out _ (HRW.out.be x))).mono ?_); rintro e w' ⟨rfl, hw'⟩; subst w'; clear tk _t)
          | (go_at_call 34; (with_reducible refine (equal_any _ _ _ _ _ (HRW.out.k2 x) (HC2.out _ (HRW.out.be x))).mono ?_); rintro e w' ⟨rfl, hw'⟩; subst w')
          | (go_at_call 33; (with_reducible refine (insist_no _).mono ?_); rintro e w' ⟨rfl, hw'⟩; subst w'))
        have j0 : (w3.setCell ⟨w.heap.size + 1, 0, none⟩ (.int .i64 x)).cell? ⟨w.heap.size, 0, none⟩ = some (.slice ao l.length c1) := by simp [go_sem, e2]
        have j1 : (w3.setCell ⟨w.heap.size + 1, 0, none⟩ (.int .i64 x)).cell? ⟨w.heap.size + 1, 0, none⟩ = some (.int .i64 x) := by simp [go_sem, e3]
        have b4 := HRW.out.be x
        have z0 : (w3.setCell ⟨w.heap.size + 1, 0, none⟩ (.int .i64 x)).frozen? ⟨w.heap.size, 0, none⟩ = false := (World.frozen?_setCell _ _ _ _).trans f2
        have z1 : (w3.setCell ⟨w.heap.size + 1, 0, none⟩ (.int .i64 x)).frozen? ⟨w.heap.size + 1, 0, none⟩ = false := (World.frozen?_setCell _ _ _ _).trans f3
        generalize w3.setCell ⟨w.heap.size + 1, 0, none⟩ (.int .i64 x) = w4 at *
        refine leaves_cons (f := 31) (args := #[.pointer (some ⟨w.heap.size, 0, none⟩), .pointer (some ⟨w.heap.size + 1, 0, none⟩)]) (by simp) (by simp [go_sem]) ?_
        refine (catch_bad w.heap.size (w.heap.size + 1) ao l.length c1 x [] w4 j0 j1 z0 z1 (by omega)).mono ?_
        rintro e u' w'' ⟨rfl, rfl, rfl⟩
        have k1 : (((w4.setCell ⟨w.heap.size, 0, none⟩ (.slice none 0 0)).setCell ⟨w.heap.size + 1, 0, none⟩ (.int .i64 80)).drew).cell? ⟨w.heap.size, 0, none⟩ = some (.slice none 0 0) := by simp [go_sem, j0]
        have k2 : (((w4.setCell ⟨w.heap.size, 0, none⟩ (.slice none 0 0)).setCell ⟨w.heap.size + 1, 0, none⟩ (.int .i64 80)).drew).cell? ⟨w.heap.size + 1, 0, none⟩ = some (.int .i64 80) := by simp [go_sem, j1]
        exact ⟨_, res_read _ _ w.heap.size (w.heap.size + 1) none 0 0 80 (by kernel_rfl) (by kernel_rfl) k1 k2, rfl, ((b4.setCell (by show w.heap.size ≤ w.heap.size; omega) _).setCell (by show w.heap.size ≤ w.heap.size + 1; omega) _).drew⟩
      · cases q4 : (strOfNums B).toList == S2.toList
        · simp only [Bool.true_and, Bool.false_eq_true, if_false]
          go_enter_defers Tryd.func13, Tryd.ntmps13
          go_wp2_with (first
            | (go_at_call 32; (with_reducible refine HSY.out.mono ?_); rintro e w1 hw1; obtain ⟨v1, rfl, o1, ht1⟩ := hw1; obtain ⟨ao, c1, hv1, _, _, _, _⟩ := OwnY.any o1; subst hv1; obtain ⟨i2, i3, i4, i5, ib, iz⟩ := HV.out _ ht1; have HO1 : Hid _ := ⟨o1⟩; clear o1)
            | (go_at_call 6; (with_reducible refine (HWR.out _ _ _ HO1.out ht1).mono ?_); rintro e w3 ⟨vy, vs, rfl, hrw⟩; have HRW : Hid _ := ⟨hrw⟩; have e3 := hrw.e; have f3 := hrw.ef; have e2 := hrw.cl; have f2 := hrw.lf; clear hrw i2 i3 i4 i5)
            | (go_at_call 34; have _t := tk; (with_reducible refine (equal_any _ _ _ _ _ (HRW.out.k1 x) (HC1.out _ (HRW.out.be x))).mono ?_); rintro e w' ⟨rfl, hw'⟩; subst w'; clear tk _t)
            | (go_at_call 34; (with_reducible refine (equal_any _ _ _ _ _ (HRW.out.k2 x) (HC2.out _ (HRW.out.be x))).mono ?_); rintro e w' ⟨rfl, hw'⟩; subst w')
            | (go_at_call 33; (with_reducible refine (insist_no _).mono ?_); rintro e w' ⟨rfl, hw'⟩; subst w'))
          have j0 : (w3.setCell ⟨w.heap.size + 1, 0, none⟩ (.int .i64 x)).cell? ⟨w.heap.size, 0, none⟩ = some (.slice ao l.length c1) := by simp [go_sem, e2]
          have j1 : (w3.setCell ⟨w.heap.size + 1, 0, none⟩ (.int .i64 x)).cell? ⟨w.heap.size + 1, 0, none⟩ = some (.int .i64 x) := by simp [go_sem, e3]
          have b4 := HRW.out.be x
          have z0 : (w3.setCell ⟨w.heap.size + 1, 0, none⟩ (.int .i64 x)).frozen? ⟨w.heap.size, 0, none⟩ = false := (World.frozen?_setCell _ _ _ _).trans f2
          have z1 : (w3.setCell ⟨w.heap.size + 1, 0, none⟩ (.int .i64 x)).frozen? ⟨w.heap.size + 1, 0, none⟩ = false := (World.frozen?_setCell _ _ _ _).trans f3
          generalize w3.setCell ⟨w.heap.size + 1, 0, none⟩ (.int .i64 x) = w4 at *
          refine leaves_cons (f := 31) (args := #[.pointer (some ⟨w.heap.size, 0, none⟩), .pointer (some ⟨w.heap.size + 1, 0, none⟩)]) (by simp) (by simp [go_sem]) ?_
          refine (catch_bad w.heap.size (w.heap.size + 1) ao l.length c1 x [] w4 j0 j1 z0 z1 (by omega)).mono ?_
          rintro e u' w'' ⟨rfl, rfl, rfl⟩
          have k1 : (((w4.setCell ⟨w.heap.size, 0, none⟩ (.slice none 0 0)).setCell ⟨w.heap.size + 1, 0, none⟩ (.int .i64 80)).drew).cell? ⟨w.heap.size, 0, none⟩ = some (.slice none 0 0) := by simp [go_sem, j0]
          have k2 : (((w4.setCell ⟨w.heap.size, 0, none⟩ (.slice none 0 0)).setCell ⟨w.heap.size + 1, 0, none⟩ (.int .i64 80)).drew).cell? ⟨w.heap.size + 1, 0, none⟩ = some (.int .i64 80) := by simp [go_sem, j1]
          exact ⟨_, res_read _ _ w.heap.size (w.heap.size + 1) none 0 0 80 (by kernel_rfl) (by kernel_rfl) k1 k2, rfl, ((b4.setCell (by show w.heap.size ≤ w.heap.size; omega) _).setCell (by show w.heap.size ≤ w.heap.size + 1; omega) _).drew⟩
        · simp only [Bool.true_and, if_true]
          go_enter_defers Tryd.func13, Tryd.ntmps13
          go_wp2_with (first
            | (go_at_call 32; (with_reducible refine HSY.out.mono ?_); rintro e w1 hw1; obtain ⟨v1, rfl, o1, ht1⟩ := hw1; obtain ⟨ao, c1, hv1, _, _, _, _⟩ := OwnY.any o1; subst hv1; obtain ⟨i2, i3, i4, i5, ib, iz⟩ := HV.out _ ht1; have HO1 : Hid _ := ⟨o1⟩; clear o1)
            | (go_at_call 6; (with_reducible refine (HWR.out _ _ _ HO1.out ht1).mono ?_); rintro e w3 ⟨vy, vs, rfl, hrw⟩; have HRW : Hid _ := ⟨hrw⟩; have e3 := hrw.e; have f3 := hrw.ef; have e2 := hrw.cl; have f2 := hrw.lf; clear hrw i2 i3 i4 i5)
            | (go_at_call 34; have _t := tk; (with_reducible refine (equal_any _ _ _ _ _ (HRW.out.k1 x) (HC1.out _ (HRW.out.be x))).mono ?_); rintro e w' ⟨rfl, hw'⟩; subst w'; clear tk _t)
            | (go_at_call 34; (with_reducible refine (equal_any _ _ _ _ _ (HRW.out.k2 x) (HC2.out _ (HRW.out.be x))).mono ?_); rintro e w' ⟨rfl, hw'⟩; subst w')
            | (go_at_call 33; (with_reducible refine (insist_yes _).mono ?_); rintro e w' ⟨rfl, hw'⟩; subst w'))
          have tF : Turn (fun k => k = w.heap.size ∨ k = w.heap.size + 1) w3 (((w3.setCell ⟨w.heap.size + 1, 0, none⟩ (.int .i64 x)).setCell ⟨w.heap.size, 0, none⟩ (.slice ao l.length c1)).setCell ⟨w.heap.size + 1, 0, none⟩ (.int .i64 0)) := Turn.setCell (S := fun k => k = w.heap.size ∨ k = w.heap.size + 1) (Turn.setCell (S := fun k => k = w.heap.size ∨ k = w.heap.size + 1) (Turn.setCell (S := fun k => k = w.heap.size ∨ k = w.heap.size + 1) (Turn.refl _ _) ⟨w.heap.size + 1, 0, none⟩ (.inr rfl) _) ⟨w.heap.size, 0, none⟩ (.inl rfl) _) ⟨w.heap.size + 1, 0, none⟩ (.inr rfl) _
          have j0 : (((w3.setCell ⟨w.heap.size + 1, 0, none⟩ (.int .i64 x)).setCell ⟨w.heap.size, 0, none⟩ (.slice ao l.length c1)).setCell ⟨w.heap.size + 1, 0, none⟩ (.int .i64 0)).cell? ⟨w.heap.size, 0, none⟩ = some (.slice ao l.length c1) := by simp [go_sem, e2]
          have j1 : (((w3.setCell ⟨w.heap.size + 1, 0, none⟩ (.int .i64 x)).setCell ⟨w.heap.size, 0, none⟩ (.slice ao l.length c1)).setCell ⟨w.heap.size + 1, 0, none⟩ (.int .i64 0)).cell? ⟨w.heap.size + 1, 0, none⟩ = some (.int .i64 0) := by simp [go_sem, e3]
          refine leaves_cons (f := 31) (args := #[.pointer (some ⟨w.heap.size, 0, none⟩), .pointer (some ⟨w.heap.size + 1, 0, none⟩)]) (by simp) (by simp [go_sem]) ?_
          refine (catch_idle _ _ _).mono ?_
          rintro e u' w'' ⟨rfl, rfl, rfl⟩
          have hsy : OwnY _ w.heap.size (.slice ao l.length c1) l := OwnY.lower (tF.row HRW.out.o (fun k hk e => by have := (HRW.out.o.lt k hk).1; omega)) (by omega)
          exact ⟨_, res_read _ _ w.heap.size (w.heap.size + 1) ao l.length c1 0 (by kernel_rfl) (by kernel_rfl) j0 j1, ao, c1, rfl, hsy, HRW.out.bel.trans (tF.below HRW.out.bel.size (fun k e => by omega))⟩

set_option maxHeartbeats 2000000 in
set_option maxRecDepth 20000 in
theorem read_long (I : In) (w : World) (first : Int) (h : 1048576 < I.n1 ∨ 1048576 < I.n2) :
    Calls Tryd.prog 13 #[.slice I.a1 I.n1 I.k1, .slice I.a2 I.n2 I.k2, .int .i64 first, .slice I.a3 I.ss.length I.k3] w fun e w' => e = .returned (.tuple #[.slice none 0 0, .int .i64 6]) ∧ Below w.heap.size w w' := by
  have hmf : ∀ (fn : Fn) (first cap : Array Value) (w : World), (Instr.makeFunc fn first cap).run Tryd.prog w = .ok (.func fn first cap) w := fun _ _ _ _ => rfl
  have hB : Below w.heap.size w ((w.alloc (.cells #[.slice none 0 0] 22)).alloc (.cells #[.int .i64 6] 25)) := ((Below.refl _ _).alloc (Nat.le_refl _) _).alloc (by simp) _
  have HB : Hid _ := ⟨hB⟩
  have k1 : ((w.alloc (.cells #[.slice none 0 0] 22)).alloc (.cells #[.int .i64 6] 25)).cell? ⟨w.heap.size, 0, none⟩ = some (.slice none 0 0) := by simp [go_sem]
  have k2 : ((w.alloc (.cells #[.slice none 0 0] 22)).alloc (.cells #[.int .i64 6] 25)).cell? ⟨w.heap.size + 1, 0, none⟩ = some (.int .i64 6) := by simp [go_sem]
  have HK : Hid (_ ∧ _) := ⟨k1, k2⟩
  clear hB k1 k2
  by_cases h1 : 1048576 < I.n1
  · clear h
    go_enter_defers Tryd.func13, Tryd.ntmps13
    go_wp2
    exact ⟨_, res_read _ _ w.heap.size (w.heap.size + 1) none 0 0 6 (by kernel_rfl) (by kernel_rfl) HK.out.1 HK.out.2, rfl, HB.out⟩
  · have h2 : 1048576 < I.n2 := by omega
    clear h
    go_enter_defers Tryd.func13, Tryd.ntmps13
    go_wp2
    exact ⟨_, res_read _ _ w.heap.size (w.heap.size + 1) none 0 0 6 (by kernel_rfl) (by kernel_rfl) HK.out.1 HK.out.2, rfl, HB.out⟩
end Go.Proofs.YtpdcbokcoaienaaDoor
