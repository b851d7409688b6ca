/- The document's answer for values: plain, Add, Sub. The document's answer for values: Add. The document's answer for values: Sub, number. -/
import Derived.Test.YtljmbgflcidokaaGreatDoorXAdd
import Derived.Deep.Cut
import Derived.Deep.RegionHeld3
namespace Go.Proofs.YtljmbgflcidokaaGreatDoor
open Go.ChangeShapes Go.WideShapes Go.ChangeAt Go.RowKit
set_option linter.unusedVariables false
set_option linter.unusedSimpArgs false

abbrev yV : Obj := .cells #[.string ⟨#[]⟩, .string ⟨#[]⟩, .int .i64 0] 33
theorem VB.newY (w : World) (p m : ByteArray) (n : Int) : VB (w.alloc (.cells #[.string p, .string m, .int .i64 n] 33)) w.heap.size p m n := by
  refine ⟨by simp, by simp, by simp, fun j => ?_⟩
  simp only [World.frozen?]
  rw [heap_alloc_new]
  rfl
theorem VB.atY (w : World) (p m : ByteArray) (n : Int) (g : Nat) (hg : g = w.heap.size) : VB (w.alloc (.cells #[.string p, .string m, .int .i64 n] 33)) g p m n := by
  subst hg; exact VB.newY w p m n
theorem resY_Add (tmps : Array Value) (W : World) (g : Nat) (p m : ByteArray) (n : Int) (hp : tmps.getD 4 undef = .pointer (some ⟨g, 0, none⟩)) (h : VB W g p m n) :
    (results Tryz.f16 tmps).run Tryz.prog W = .ok (.tuple #[.agg #[.string p, .string m, .int .i64 n], tmps.getD 5 undef]) W := by
  have hp' : tmps[4]?.getD undef = .pointer (some ⟨g, 0, none⟩) := by simpa using hp
  simp [results, Tryz.results16, hp', asAddr, loadVar, isAgg, run_underlying Tryz.underlying33, go_sem, h.c0, h.c1, h.c2]
theorem resY_Sub (tmps : Array Value) (W : World) (g : Nat) (p m : ByteArray) (n : Int) (hp : tmps.getD 4 undef = .pointer (some ⟨g, 0, none⟩)) (h : VB W g p m n) :
    (results Tryz.f18 tmps).run Tryz.prog W = .ok (.tuple #[.agg #[.string p, .string m, .int .i64 n], tmps.getD 5 undef]) W := by
  have hp' : tmps[4]?.getD undef = .pointer (some ⟨g, 0, none⟩) := by simpa using hp
  simp [results, Tryz.results18, hp', asAddr, loadVar, isAgg, run_underlying Tryz.underlying33, go_sem, h.c0, h.c1, h.c2]
theorem resY_Two (tmps : Array Value) (W : World) (g : Nat) (p m : ByteArray) (n : Int) (hp : tmps.getD 6 undef = .pointer (some ⟨g, 0, none⟩)) (h : VB W g p m n) :
    (results Tryz.f20 tmps).run Tryz.prog W = .ok (.tuple #[.agg #[.string p, .string m, .int .i64 n], tmps.getD 7 undef]) W := by
  have hp' : tmps[6]?.getD undef = .pointer (some ⟨g, 0, none⟩) := by simpa using hp
  simp [results, Tryz.results20, hp', asAddr, loadVar, isAgg, run_underlying Tryz.underlying33, go_sem, h.c0, h.c1, h.c2]
theorem resY_plain (tmps : Array Value) (W : World) (g : Nat) (p m : ByteArray) (n : Int) (hp : tmps.getD 2 undef = .pointer (some ⟨g, 0, none⟩)) (h : VB W g p m n) :
    (results Tryz.f28 tmps).run Tryz.prog W = .ok (.agg #[.string p, .string m, .int .i64 n]) W := by
  have hp' : tmps[2]?.getD undef = .pointer (some ⟨g, 0, none⟩) := by simpa using hp
  simp [results, Tryz.results28, hp', asAddr, loadVar, isAgg, run_underlying Tryz.underlying33, go_sem, h.c0, h.c1, h.c2]

theorem yplain_any (p m : ByteArray) (n : Int) (w : World) : Calls Tryz.prog 28 #[.agg #[.string p, .string m, .int .i64 n]] w fun e w' => e = .returned (redV ⟨p, m, n⟩).val ∧ Below w.heap.size w w' := by
  unfold redV
  simp only
  have V1 := (VB.newY w p m n).alloc yV
  have V2 := VB.atY (w.alloc (.cells #[.string p, .string m, .int .i64 n] 33)) ⟨#[]⟩ ⟨#[]⟩ 0 (w.heap.size + 1) (by simp)
  have B0 : Below w.heap.size w ((w.alloc (.cells #[.string p, .string m, .int .i64 n] 33)).alloc yV) := bel_alloc (bel_alloc (Below.refl _ _) _) _
  have hx : ¬ w.heap.size + 1 = w.heap.size := by omega
  cases h : sB p m
  · have h' : (p.toList == m.toList) = false := h
    rw [if_neg (by simp), Vx.val_mk]
    go_enter Tryz.func28, Tryz.ntmps28
    go_upto_region 1 with (fail)
    generalize hG : (w.alloc (.cells #[.string p, .string m, .int .i64 n] 33)).alloc yV = v at *
    clear hG
    obtain ⟨d0, d1, d2, d3⟩ := id V1
    obtain ⟨f0, f1, f2, f3⟩ := id V2
    have HV : Hid _ := ⟨V2⟩
    have HB : Hid _ := ⟨B0⟩
    clear V1 V2 B0
    go_wp2
    refine bodyPost_ret (resY_plain _ _ (w.heap.size + 1) _ _ _ rfl (HV.out.set _ _ _)) rfl ⟨rfl, ?_⟩
    exact ((HB.out.setCell (by dsimp only; omega) _).setCell (by dsimp only; omega) _).setCell (by dsimp only; omega) _
  · have h' : (p.toList == m.toList) = true := h
    rw [if_pos rfl, Vx.val_mk]
    go_enter Tryz.func28, Tryz.ntmps28
    go_upto_region 1 with (fail)
    generalize hG : (w.alloc (.cells #[.string p, .string m, .int .i64 n] 33)).alloc yV = v at *
    clear hG
    obtain ⟨d0, d1, d2, d3⟩ := id V1
    obtain ⟨f0, f1, f2, f3⟩ := id V2
    have HV : Hid _ := ⟨V2⟩
    have HB : Hid _ := ⟨B0⟩
    clear V1 V2 B0
    go_wp2
    refine bodyPost_ret (resY_plain _ _ (w.heap.size + 1) _ _ _ rfl (((HV.out.setAt _ 0 (by omega) _).setAt _ 1 (by omega) _).set _ _ _)) rfl ⟨rfl, ?_⟩
    repeat (refine Below.setCell ?_ (by dsimp only; omega) _)
    exact HB.out

theorem S4.set1 {w u : World} {p m q k : ByteArray} {n i : Int} (h : S4 w u p m n q k i) (p1 m1 : ByteArray) (n1 : Int) :
    S4 w (((u.setCell ⟨w.heap.size, 0, none⟩ (.string p1)).setCell ⟨w.heap.size, 1, none⟩ (.string m1)).setCell ⟨w.heap.size, 2, none⟩ (.int .i64 n1)) p1 m1 n1 q k i := by
  obtain ⟨h1, h2, h3, h4⟩ := h
  refine ⟨h1.set p1 m1 n1, ((h2.setAt _ 0 (by omega) _).setAt _ 1 (by omega) _).setAt _ 2 (by omega) _, ((h3.setAt _ 0 (by omega) _).setAt _ 1 (by omega) _).setAt _ 2 (by omega) _, ?_⟩
  repeat (refine Below.setCell ?_ (by simp) _)
  exact h4
theorem S4.set2 {w u : World} {p m q k : ByteArray} {n i : Int} (h : S4 w u p m n q k i) (q1 k1 : ByteArray) (i1 : Int) :
    S4 w (((u.setCell ⟨w.heap.size + 1, 0, none⟩ (.string q1)).setCell ⟨w.heap.size + 1, 1, none⟩ (.string k1)).setCell ⟨w.heap.size + 1, 2, none⟩ (.int .i64 i1)) p m n q1 k1 i1 := by
  obtain ⟨h1, h2, h3, h4⟩ := h
  refine ⟨((h1.setAt _ 0 (by omega) _).setAt _ 1 (by omega) _).setAt _ 2 (by omega) _, h2.set q1 k1 i1, ((h3.setAt _ 0 (by omega) _).setAt _ 1 (by omega) _).setAt _ 2 (by omega) _, ?_⟩
  repeat (refine Below.setCell ?_ (by simp) _)
  exact h4
theorem S4.setC {w u : World} {p m q k : ByteArray} {n i : Int} (h : S4 w u p m n q k i) : S4 w ((u.setCell ⟨w.heap.size + 1, 0, none⟩ (.string ⟨#[]⟩)).setCell ⟨w.heap.size, 1, none⟩ (.string ⟨#[]⟩)) p ⟨#[]⟩ n ⟨#[]⟩ k i := by
  obtain ⟨h1, h2, h3, h4⟩ := h
  exact ⟨(h1.setAt _ 0 (by omega) _).set1 _, (h2.set0 _).setAt _ 1 (by omega) _, (h3.setAt _ 0 (by omega) _).setAt _ 1 (by omega) _, (h4.setCell (by simp) _).setCell (by simp) _⟩
set_option maxHeartbeats 4000000 in
theorem yadd_any (a b : Vx) (ha : a.Ok) (hb : b.Ok) (w : World) : Calls Tryz.prog 16 #[.agg #[.string a.p, .string a.m, .int .i64 a.n], .agg #[.string b.p, .string b.m, .int .i64 b.n]] w fun e w' => e = .returned (vE (addV a b)) ∧ Below w.heap.size w w' := by
  have oa := ha.red
  have ob := hb.red
  obtain ⟨M, hM⟩ : ∃ M, addV a b = M := ⟨_, rfl⟩
  rw [hM]
  unfold addV at hM
  obtain ⟨p, m, n⟩ := a
  obtain ⟨q, k, i⟩ := b
  have HA : Hid _ := ⟨yplain_any p m n⟩
  have HB : Hid _ := ⟨yplain_any q k i⟩
  generalize hra : redV ⟨p, m, n⟩ = ra at *
  generalize hrb : redV ⟨q, k, i⟩ = rb at *
  obtain ⟨p1, m1, n1⟩ := ra
  obtain ⟨q1, k1, i1⟩ := rb
  rw [Vx.val_mk] at HA HB
  have sp := oa.p
  have sm := oa.m
  have sq := ob.p
  have sk := ob.m
  clear hra hrb ha hb oa ob
  simp only at sp sm sq sk ⊢
  have V2 := (VB.newY w p m n).alloc (.cells #[.string q, .string k, .int .i64 i] 33) |>.alloc yV
  have V3 := (VB.atY (w.alloc (.cells #[.string p, .string m, .int .i64 n] 33)) q k i (w.heap.size + 1) (by simp)).alloc yV
  have V4 := (VB.atY ((w.alloc (.cells #[.string p, .string m, .int .i64 n] 33)).alloc (.cells #[.string q, .string k, .int .i64 i] 33)) ⟨#[]⟩ ⟨#[]⟩ 0 (w.heap.size + 1 + 1) (by simp))
  have B0 : Below w.heap.size w (((w.alloc (.cells #[.string p, .string m, .int .i64 n] 33)).alloc (.cells #[.string q, .string k, .int .i64 i] 33)).alloc yV) := bel_alloc (bel_alloc (bel_alloc (Below.refl _ _) _) _) _
  have HM : Hid _ := ⟨hM⟩
  clear hM
  go_enter Tryz.func16, Tryz.ntmps16
  go_upto_region 1 with (fail)
  generalize hG : ((w.alloc (.cells #[.string p, .string m, .int .i64 n] 33)).alloc (.cells #[.string q, .string k, .int .i64 i] 33)).alloc yV = v at *
  clear hG
  have HV : Hid (S4 w v p m n q k i) := ⟨V2, V3, V4, B0⟩
  clear V2 V3 V4 B0
  obtain ⟨d0, d1, d2, _⟩ := HV.out.1
  go_upto_region 2 with (go_at_call 28; (with_reducible refine (HA.out _).mono ?_); rintro e w1 ⟨rfl, hb1⟩; have HV1 := S4.bel HV.out hb1; clear hb1 HV d0 d1 d2; obtain ⟨d0, d1, d2, d3⟩ := HV1.1)
  have HV2 := S4.set1 HV1 p1 m1 n1
  clear d0 d1 d2 d3
  generalize ((w1.setCell ⟨w.heap.size, 0, none⟩ (.string p1)).setCell ⟨w.heap.size, 1, none⟩ (.string m1)).setCell ⟨w.heap.size, 2, none⟩ (.int .i64 n1) = v1 at *
  have HV : Hid _ := ⟨HV2⟩
  clear HV1 HV2
  obtain ⟨d0, d1, d2, _⟩ := HV.out.2.1
  go_upto_region 3 with (go_at_call 28; (with_reducible refine (HB.out _).mono ?_); rintro e w2 ⟨rfl, hb1⟩; have HV1 := S4.bel HV.out hb1; clear hb1 HV d0 d1 d2; obtain ⟨d0, d1, d2, d3⟩ := HV1.2.1)
  have HC := S4.set2 HV1 q1 k1 i1
  clear d0 d1 d2 d3
  generalize ((w2.setCell ⟨w.heap.size + 1, 0, none⟩ (.string q1)).setCell ⟨w.heap.size + 1, 1, none⟩ (.string k1)).setCell ⟨w.heap.size + 1, 2, none⟩ (.int .i64 i1) = v2 at *
  clear HV1 HA HB
  obtain ⟨ap, bm, hc1⟩ : ∃ x y, cutN p1 k1 = (x, y) := ⟨_, _, rfl⟩
  obtain ⟨am, bp, hc2⟩ : ∃ x y, cutN m1 q1 = (x, y) := ⟨_, _, rfl⟩
  have HC1 : Hid _ := ⟨hc1⟩
  have HC2 : Hid _ := ⟨hc2⟩
  clear hc1 hc2
  have HCH : Hid _ := ⟨HC⟩
  clear HC
  obtain ⟨T1, hT1⟩ : ∃ T, (!sB p1 es && sB p1 k1) = T := ⟨_, rfl⟩
  have HT1 : Hid _ := ⟨hT1⟩
  clear hT1
  go_cut [19] from 10 to 18 (fun s wx => s = .bool T1 ∧ Hid (S4 w wx p1 m1 n1 q1 k1 i1))
  case first =>
    obtain ⟨d0, d1, _, d3⟩ := HCH.out.1
    obtain ⟨e0, e1, _, e3⟩ := HCH.out.2.1
    have hT := HT1.out
    clear HT1
    cases g1 : sB p1 es
    all_goals cases g2 : sB p1 k1
    all_goals rw [g1, g2] at hT
    all_goals simp only [Bool.not_true, Bool.not_false, Bool.and_true, Bool.and_false, Bool.true_and, Bool.false_and] at hT
    all_goals have g1' := (emp_eq p1).trans g1
    all_goals have g2' : (p1.toList == k1.toList) = _ := g2
    all_goals clear g1 g2
    all_goals subst hT
    all_goals go_wp2_with (fail)
    all_goals go_meet
    all_goals exact ⟨rfl, HCH⟩
  case rest =>
  obtain ⟨hs, HC'⟩ := hcut
  subst hs
  clear HCH
  have HCH := HC'
  clear HC'
  go_upto_if 19 with (fail)
  go_cut [] from 20 to 21 (fun wx => Hid (S4 w wx ap m1 n1 q1 bm i1))
  case first =>
    obtain ⟨d0, d1, _, d3⟩ := HCH.out.1
    obtain ⟨e0, e1, _, e3⟩ := HCH.out.2.1
    cases T1
    · go_wp2_with (fail)
      go_meet
      have e := HC1.out
      have hT := HT1.out
      unfold cutN at e
      cases g2 : sB p1 k1
      · rw [if_neg (by rw [g2]; simp)] at e
        obtain ⟨rfl, rfl⟩ := Prod.mk.inj e
        exact ⟨HCH.out⟩
      · rw [if_pos g2] at e
        obtain ⟨rfl, rfl⟩ := Prod.mk.inj e
        rw [g2] at hT
        have g1 : sB p1 es = true := by cases h : sB p1 es <;> simp_all
        obtain rfl := (sB_iff _ _).1 g1
        obtain rfl := (sB_iff _ _).1 g2
        exact ⟨HCH.out⟩
    · go_wp2_with (fail)
      go_meet
      have e := HC1.out
      have hT := HT1.out
      unfold cutN at e
      rw [if_pos (by cases h : sB p1 k1 <;> simp_all)] at e
      obtain ⟨rfl, rfl⟩ := Prod.mk.inj e
      exact ⟨HCH.out.setA⟩
  case rest =>
    have HC := hcut.out
    clear hcut HCH
    have HCH : Hid _ := ⟨HC⟩
    clear HC
    clear HT1
    obtain ⟨T2, hT2⟩ : ∃ T, (!sB q1 es && sB q1 m1) = T := ⟨_, rfl⟩
    have HT2 : Hid _ := ⟨hT2⟩
    clear hT2
    go_upto_region 6 with (fail)
    go_cut [31] from 22 to 30 (fun s wx => s = .bool T2 ∧ Hid (S4 w wx ap m1 n1 q1 bm i1))
    case first =>
      obtain ⟨d0, d1, _, d3⟩ := HCH.out.1
      obtain ⟨e0, e1, _, e3⟩ := HCH.out.2.1
      have hT := HT2.out
      clear HT2
      cases g1 : sB q1 es
      all_goals cases g2 : sB q1 m1
      all_goals rw [g1, g2] at hT
      all_goals simp only [Bool.not_true, Bool.not_false, Bool.and_true, Bool.and_false, Bool.true_and, Bool.false_and] at hT
      all_goals have g1' := (emp_eq q1).trans g1
      all_goals have g2' : (q1.toList == m1.toList) = _ := g2
      all_goals clear g1 g2
      all_goals subst hT
      all_goals go_wp2_with (fail)
      all_goals go_meet
      all_goals exact ⟨rfl, HCH⟩
    case rest =>
    obtain ⟨hs, HC'⟩ := hcut
    subst hs
    clear HCH
    have HCH := HC'
    clear HC'
    go_upto_if 31 with (fail)
    go_cut [] from 32 to 33 (fun wx => Hid (S4 w wx ap am n1 bp bm i1))
    case first =>
      obtain ⟨d0, d1, _, d3⟩ := HCH.out.1
      obtain ⟨e0, e1, _, e3⟩ := HCH.out.2.1
      cases T2
      · go_wp2_with (fail)
        go_meet
        have e := HC2.out
        have hT := HT2.out
        unfold cutN at e
        rw [sB_comm] at e
        cases g2 : sB q1 m1
        · rw [if_neg (by rw [g2]; simp)] at e
          obtain ⟨rfl, rfl⟩ := Prod.mk.inj e
          exact ⟨HCH.out⟩
        · rw [if_pos g2] at e
          obtain ⟨rfl, rfl⟩ := Prod.mk.inj e
          rw [g2] at hT
          have g1 : sB q1 es = true := by cases h : sB q1 es <;> simp_all
          obtain rfl := (sB_iff _ _).1 g1
          obtain rfl := (sB_iff _ _).1 g2
          exact ⟨HCH.out⟩
      · go_wp2_with (fail)
        go_meet
        have e := HC2.out
        have hT := HT2.out
        unfold cutN at e
        rw [sB_comm] at e
        rw [if_pos (by cases h : sB q1 m1 <;> simp_all)] at e
        obtain ⟨rfl, rfl⟩ := Prod.mk.inj e
        exact ⟨HCH.out.setC⟩
    case rest =>
      have HC := hcut.out
      clear hcut HCH
      have d0 := HC.1.c0
      have d1 := HC.1.c1
      have d2 := HC.1.c2
      have e0 := HC.2.1.c0
      have e1 := HC.2.1.c1
      have e2 := HC.2.1.c2
      have HM2 : Hid (M = if twoN ap bp am bm = true then none else some ⟨ap ++ bp, am ++ bm, wrap64 (n1 + i1)⟩) := ⟨by
        rw [← HM.out]
        unfold addR
        simp only
        rw [HC1.out, HC2.out]⟩
      have HSZ : Hid (ap.size ≤ 281474976710656 ∧ bp.size ≤ 281474976710656 ∧ am.size ≤ 281474976710656 ∧ bm.size ≤ 281474976710656) := ⟨by
        have x1 := cut_ok sp sk
        have x2 := cut_ok sm sq
        rw [HC1.out] at x1
        rw [HC2.out] at x2
        exact ⟨x1.1, x2.2, x2.1, x1.2⟩⟩
      clear HM HC1 HC2 sp sm sq sk
      have HCH : Hid _ := ⟨HC⟩
      clear HC
      obtain ⟨T, hT⟩ : ∃ T, twoN ap bp am bm = T := ⟨_, rfl⟩
      have HT : Hid _ := ⟨hT⟩
      rw [hT] at HM2
      clear hT
      go_upto_region 9 with (fail)
      go_cut [51] from 34 to 50 (fun s wx => s = .bool T ∧ Hid (S4 w wx ap am n1 bp bm i1))
      case first =>
        have hT := HT.out
        clear HT HM2 HSZ
        unfold twoN at hT
        cases g1 : sB ap es
        all_goals cases g2 : sB bp es
        all_goals cases g3 : sB am es
        all_goals cases g4 : sB bm es
        all_goals rw [g1, g2, g3, g4] at hT
        all_goals simp only [Bool.not_true, Bool.not_false, Bool.and_true, Bool.and_false, Bool.or_true, Bool.or_false, Bool.true_or, Bool.false_or, Bool.true_and, Bool.false_and] at hT
        all_goals have g1' := (emp_eq ap).trans g1
        all_goals have g2' := (emp_eq bp).trans g2
        all_goals have g3' := (emp_eq am).trans g3
        all_goals have g4' := (emp_eq bm).trans g4
        all_goals clear g1 g2 g3 g4
        all_goals subst hT
        all_goals go_wp2_with (fail)
        all_goals go_meet
        all_goals exact ⟨rfl, HCH⟩
      case rest =>
        obtain ⟨hs, HC'⟩ := hcut
        subst hs
        have HC := HC'.out
        clear HC' HCH d0 d1 d2 e0 e1 e2 HT
        cases T
        · have hm : M = some ⟨ap ++ bp, am ++ bm, wrap64 (n1 + i1)⟩ := HM2.out
          have d0 := HC.1.c0
          have d1 := HC.1.c1
          have d2 := HC.1.c2
          have e0 := HC.2.1.c0
          have e1 := HC.2.1.c1
          have e2 := HC.2.1.c2
          have f0 := HC.2.2.1.c0
          have f1 := HC.2.2.1.c1
          have f2 := HC.2.2.1.c2
          have f3 := HC.2.2.1.fz
          obtain ⟨z1, z2, z3, z4⟩ := HSZ.out
          have hz1 : ¬ (9223372036854775807 : Int) < ((ap.size + bp.size : Nat) : Int) := by omega
          have hz2 : ¬ (9223372036854775807 : Int) < ((am.size + bm.size : Nat) : Int) := by omega
          have HCH : Hid _ := ⟨HC⟩
          clear HC HM2 HSZ z1 z2 z3 z4
          subst hm
          go_wp2
          refine bodyPost_ret (resY_Add _ _ (w.heap.size + 1 + 1) _ _ _ rfl (HCH.out.2.2.1.set _ _ _)) rfl ⟨by rw [vE_some]; rfl, ?_⟩
          exact ((HCH.out.2.2.2.setCell (by dsimp only; omega) _).setCell (by dsimp only; omega) _).setCell (by dsimp only; omega) _
        · have hm : M = none := HM2.out
          have f0 := HC.2.2.1.c0
          have f1 := HC.2.2.1.c1
          have f2 := HC.2.2.1.c2
          have f3 := HC.2.2.1.fz
          have HCH : Hid _ := ⟨HC⟩
          clear HC HM2 HSZ
          subst hm
          go_wp2
          refine bodyPost_ret (resY_Add _ _ (w.heap.size + 1 + 1) _ _ _ rfl (HCH.out.2.2.1.set _ _ _)) rfl ⟨by rw [vE_none]; rfl, ?_⟩
          exact ((HCH.out.2.2.2.setCell (by dsimp only; omega) _).setCell (by dsimp only; omega) _).setCell (by dsimp only; omega) _

theorem ysub_any (a b : Vx) (ha : a.Ok) (hb : b.Ok) (w : World) : Calls Tryz.prog 18 #[.agg #[.string a.p, .string a.m, .int .i64 a.n], .agg #[.string b.p, .string b.m, .int .i64 b.n]] w fun e w' => e = .returned (vE (subV a b)) ∧ Below w.heap.size w w' := by
  have HA : Hid _ := ⟨fun W => yadd_any a (turnV b) ha hb.turn W⟩
  obtain ⟨M, hM⟩ : ∃ M, addV a (turnV b) = M := ⟨_, rfl⟩
  have e : subV a b = M := hM
  rw [e]
  rw [hM] at HA
  clear hM e
  obtain ⟨p, m, n⟩ := a
  obtain ⟨q, k, i⟩ := b
  unfold turnV at HA
  simp only at HA ⊢
  have V4 := (VB.atY ((w.alloc (.cells #[.string p, .string m, .int .i64 n] 33)).alloc (.cells #[.string q, .string k, .int .i64 i] 33)) ⟨#[]⟩ ⟨#[]⟩ 0 (w.heap.size + 1 + 1) (by simp))
  have B0 : Below w.heap.size w (((w.alloc (.cells #[.string p, .string m, .int .i64 n] 33)).alloc (.cells #[.string q, .string k, .int .i64 i] 33)).alloc yV) := bel_alloc (bel_alloc (bel_alloc (Below.refl _ _) _) _) _
  cases M with
  | none =>
    rw [vE_none] at HA ⊢
    go_enter Tryz.func18, Tryz.ntmps18
    go_wp2_with (go_at_call 16; (with_reducible refine (HA.out _).mono ?_); rintro e w1 ⟨rfl, hb1⟩; have W4 := V4.bel hb1 V4.lt; obtain ⟨f0, f1, f2, f3⟩ := W4)
    refine bodyPost_ret (resY_Sub _ _ (w.heap.size + 1 + 1) _ _ _ rfl ((V4.bel hb1 V4.lt).set _ _ _)) rfl ⟨rfl, ?_⟩
    exact (((bel_trans B0 hb1).setCell (by dsimp only; omega) _).setCell (by dsimp only; omega) _).setCell (by dsimp only; omega) _
  | some x =>
    obtain ⟨x1, x2, x3⟩ := x
    rw [vE_some] at HA ⊢
    go_enter Tryz.func18, Tryz.ntmps18
    go_wp2_with (go_at_call 16; (with_reducible refine (HA.out _).mono ?_); rintro e w1 ⟨rfl, hb1⟩; have W4 := V4.bel hb1 V4.lt; obtain ⟨f0, f1, f2, f3⟩ := W4)
    refine bodyPost_ret (resY_Sub _ _ (w.heap.size + 1 + 1) _ _ _ rfl ((V4.bel hb1 V4.lt).set _ _ _)) rfl ⟨rfl, ?_⟩
    exact (((bel_trans B0 hb1).setCell (by dsimp only; omega) _).setCell (by dsimp only; omega) _).setCell (by dsimp only; omega) _

theorem fieldY0 (p m : ByteArray) (n : Int) (w : World) : (Instr.field 33 (.agg #[.string p, .string m, .int .i64 n]) 0).run Tryz.prog w = .ok (.string p) w := by
  kernel_rfl
theorem fieldY1 (p m : ByteArray) (n : Int) (w : World) : (Instr.field 33 (.agg #[.string p, .string m, .int .i64 n]) 1).run Tryz.prog w = .ok (.string m) w := by
  kernel_rfl
abbrev S1 (w v : World) (g : Nat) (p m : ByteArray) (n : Int) : Prop := VB v g p m n ∧ Below w.heap.size w v
theorem S1.bel {w v u : World} {g : Nat} {p m : ByteArray} {n : Int} (h : S1 w v g p m n) (hb : Below v.heap.size v u) : S1 w u g p m n := ⟨h.1.bel hb h.1.lt, bel_trans h.2 hb⟩
set_option maxRecDepth 20000 in
theorem ynumber_any (p m : ByteArray) (n : Int) (w : World) : Calls Tryz.prog 30 #[.agg #[.string p, .string m, .int .i64 n]] w fun e w' => e = .returned (.bool (sB p m)) ∧ Below w.heap.size w w' := by
  have HR : Hid _ := ⟨yplain_any p m n⟩
  have hr : ((redV ⟨p, m, n⟩).p.toList.isEmpty && (redV ⟨p, m, n⟩).m.toList.isEmpty) = sB p m := by
    rw [emp_eq, emp_eq]
    unfold redV
    simp only
    cases h : sB p m
    · rw [if_neg (by simp)]
      simp only
      cases h1 : sB p es
      · rfl
      · cases h2 : sB m es
        · rfl
        · rw [sB_iff] at h1 h2
          rw [h1, h2, sB_es] at h
          cases h
    · rw [if_pos rfl]
      simp only
      rw [sB_es]
      rfl
  rw [← hr]
  clear hr
  generalize redV ⟨p, m, n⟩ = r at *
  obtain ⟨p1, m1, n1⟩ := r
  rw [Vx.val_mk] at HR
  simp only
  have q0 := fieldY0 p1 m1 n1
  have q1 := fieldY1 p1 m1 n1
  have HV : Hid (S1 w (w.alloc (.cells #[.string p, .string m, .int .i64 n] 33)) w.heap.size p m n) := ⟨VB.newY w p m n, bel_alloc (Below.refl _ _) _⟩
  cases h1 : p1.toList.isEmpty
  all_goals go_enter Tryz.func30, Tryz.ntmps30
  all_goals go_upto_region 1 with (fail)
  all_goals generalize w.alloc (.cells #[.string p, .string m, .int .i64 n] 33) = v at *
  all_goals obtain ⟨d0, d1, d2, _⟩ := HV.out.1
  · go_wp2_with (go_at_call 28; (with_reducible refine (HR.out _).mono ?_); rintro e w1 ⟨rfl, hb1⟩; have HV1 : Hid _ := ⟨S1.bel HV.out hb1⟩; clear hb1 d0 d1 d2 HV)
    go_ret
    exact ⟨rfl, HV1.out.2⟩
  · cases h2 : m1.toList.isEmpty
    all_goals go_wp2_with (first
      | (have _ := HV1; go_at_call 28; (with_reducible refine (HR.out _).mono ?_); rintro e w2 ⟨rfl, hb1⟩; have HV2 : Hid _ := ⟨S1.bel HV1.out hb1⟩; clear hb1 d0 d1 d2 HV1)
      | (go_at_call 28; (with_reducible refine (HR.out _).mono ?_); rintro e w1 ⟨rfl, hb1⟩; have HV1 : Hid _ := ⟨S1.bel HV.out hb1⟩; clear hb1 d0 d1 d2 HV; obtain ⟨d0, d1, d2, _⟩ := HV1.out.1))
    all_goals go_ret
    all_goals exact ⟨by rw [h2]; rfl, HV2.out.2⟩
end Go.Proofs.YtljmbgflcidokaaGreatDoor
