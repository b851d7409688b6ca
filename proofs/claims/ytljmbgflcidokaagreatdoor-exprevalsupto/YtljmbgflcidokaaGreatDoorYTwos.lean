/- The document's answer for values: Two. The document's answer for values: Two, whole. -/
import Derived.Test.YtljmbgflcidokaaGreatDoorYSum
import Derived.Test.YtljmbgflcidokaaGreatDoorXTwo
namespace Go.Proofs.YtljmbgflcidokaaGreatDoor
open Go.ChangeShapes Go.WideShapes Go.ChangeAt Go.RowKit
set_option linter.unusedVariables false
set_option linter.unusedSimpArgs false


theorem vE_n1 (z : Int) : vE (some (Vx.num z)) = .tuple #[.agg #[.string ⟨#[]⟩, .string ⟨#[]⟩, .int .i64 z], .int .i64 0] := vE_some _ _ _
theorem S4.newY (w : World) (p m : ByteArray) (n : Int) (q k : ByteArray) (i : Int) : S4 w (((w.alloc (.cells #[.string p, .string m, .int .i64 n] 33)).alloc (.cells #[.string q, .string k, .int .i64 i] 33)).alloc yV) p m n q k i :=
  ⟨((VB.newY w p m n).alloc _).alloc _, (VB.atY _ q k i (w.heap.size + 1) (by simp)).alloc yV, VB.atY _ ⟨#[]⟩ ⟨#[]⟩ 0 (w.heap.size + 1 + 1) (by simp), bel_alloc (bel_alloc (bel_alloc (Below.refl _ _) _) _) _⟩
theorem S4.res {w v : World} {p m q k : ByteArray} {n i : Int} (h : S4 w v p m n q k i) (x : Value) (y : Value) (z : Value) : Below w.heap.size w (((v.setCell ⟨w.heap.size + 1 + 1, 0, none⟩ x).setCell ⟨w.heap.size + 1 + 1, 1, none⟩ y).setCell ⟨w.heap.size + 1 + 1, 2, none⟩ z) :=
  ((h.2.2.2.setCell (by dsimp only; omega) _).setCell (by dsimp only; omega) _).setCell (by dsimp only; omega) _
theorem twoN_ty (x : Int) : x.tdiv (-1) = 0 - x := by rw [Int.tdiv_neg, Int.tdiv_one]; omega

set_option maxRecDepth 20000 in
set_option maxHeartbeats 4000000 in
theorem ytwo_mul (p m : ByteArray) (n : Int) (q k : ByteArray) (i : Int) (w : World) : Calls Tryz.prog 20 #[.string ⟨#[42]⟩, .agg #[.string p, .string m, .int .i64 n], .agg #[.string q, .string k, .int .i64 i]] w fun e w' => e = .returned (vE (ofN mulN ⟨p, m, n⟩ ⟨q, k, i⟩)) ∧ Below w.heap.size w w' := by
  have HV0 : Hid _ := ⟨S4.newY w p m n q k i⟩
  have HNA : Hid _ := ⟨ynumber_any p m n⟩
  have HNB : Hid _ := ⟨ynumber_any q k i⟩
  unfold ofN
  simp only
  cases h : sB p m
  · rw [h] at HNA
    rw [Bool.false_and, if_neg (by simp), vE_none]
    go_enter Tryz.func20, Tryz.ntmps20
    go_upto_region 6 with (fail)
    generalize ((w.alloc (.cells #[.string p, .string m, .int .i64 n] 33)).alloc (.cells #[.string q, .string k, .int .i64 i] 33)).alloc yV = v at *
    obtain ⟨d0, d1, d2, _⟩ := HV0.out.1
    obtain ⟨e0, e1, e2, _⟩ := HV0.out.2.1
    obtain ⟨f0, f1, f2, f3⟩ := HV0.out.2.2.1
    go_wp2_with (first
      | (have _ := HV1; go_at_call 30; (with_reducible refine (HNB.out _).mono ?_); rintro e w2 ⟨rfl, hb1⟩; have HV2 : Hid _ := ⟨S4.bel HV1.out hb1⟩; clear hb1 d0 d1 d2 e0 e1 e2 f0 f1 f2 f3; obtain ⟨d0, d1, d2, _⟩ := HV2.out.1; obtain ⟨e0, e1, e2, _⟩ := HV2.out.2.1; obtain ⟨f0, f1, f2, f3⟩ := HV2.out.2.2.1)
      | (go_at_call 30; (with_reducible refine (HNA.out _).mono ?_); rintro e w1 ⟨rfl, hb1⟩; have HV1 : Hid _ := ⟨S4.bel HV0.out hb1⟩; clear hb1 d0 d1 d2 e0 e1 e2 f0 f1 f2 f3; obtain ⟨d0, d1, d2, _⟩ := HV1.out.1; obtain ⟨e0, e1, e2, _⟩ := HV1.out.2.1; obtain ⟨f0, f1, f2, f3⟩ := HV1.out.2.2.1))
    refine bodyPost_ret (resY_Two _ _ (w.heap.size + 1 + 1) _ _ _ rfl (HV1.out.2.2.1.set _ _ _)) rfl ⟨by rfl, S4.res HV1.out _ _ _⟩
  · rw [h] at HNA
    rw [Bool.true_and]
    clear h
    cases h : sB q k
    · rw [h] at HNB
      rw [if_neg (by simp), vE_none]
      go_enter Tryz.func20, Tryz.ntmps20
      go_upto_region 6 with (fail)
      generalize ((w.alloc (.cells #[.string p, .string m, .int .i64 n] 33)).alloc (.cells #[.string q, .string k, .int .i64 i] 33)).alloc yV = v at *
      obtain ⟨d0, d1, d2, _⟩ := HV0.out.1
      obtain ⟨e0, e1, e2, _⟩ := HV0.out.2.1
      obtain ⟨f0, f1, f2, f3⟩ := HV0.out.2.2.1
      go_wp2_with (first
        | (have _ := HV1; go_at_call 30; (with_reducible refine (HNB.out _).mono ?_); rintro e w2 ⟨rfl, hb1⟩; have HV2 : Hid _ := ⟨S4.bel HV1.out hb1⟩; clear hb1 d0 d1 d2 e0 e1 e2 f0 f1 f2 f3; obtain ⟨d0, d1, d2, _⟩ := HV2.out.1; obtain ⟨e0, e1, e2, _⟩ := HV2.out.2.1; obtain ⟨f0, f1, f2, f3⟩ := HV2.out.2.2.1)
        | (go_at_call 30; (with_reducible refine (HNA.out _).mono ?_); rintro e w1 ⟨rfl, hb1⟩; have HV1 : Hid _ := ⟨S4.bel HV0.out hb1⟩; clear hb1 d0 d1 d2 e0 e1 e2 f0 f1 f2 f3; obtain ⟨d0, d1, d2, _⟩ := HV1.out.1; obtain ⟨e0, e1, e2, _⟩ := HV1.out.2.1; obtain ⟨f0, f1, f2, f3⟩ := HV1.out.2.2.1))
      refine bodyPost_ret (resY_Two _ _ (w.heap.size + 1 + 1) _ _ _ rfl (HV2.out.2.2.1.set _ _ _)) rfl ⟨by rfl, S4.res HV2.out _ _ _⟩
    · rw [h] at HNB
      rw [if_pos (by simp)]
      clear h
      rw [show (mulN n i).map Vx.num = some (Vx.num _) from rfl, vE_n1]
      go_enter Tryz.func20, Tryz.ntmps20
      go_upto_region 6 with (fail)
      generalize ((w.alloc (.cells #[.string p, .string m, .int .i64 n] 33)).alloc (.cells #[.string q, .string k, .int .i64 i] 33)).alloc yV = v at *
      obtain ⟨d0, d1, d2, _⟩ := HV0.out.1
      obtain ⟨e0, e1, e2, _⟩ := HV0.out.2.1
      obtain ⟨f0, f1, f2, f3⟩ := HV0.out.2.2.1
      go_wp2_with (first
        | (have _ := HV1; go_at_call 30; (with_reducible refine (HNB.out _).mono ?_); rintro e w2 ⟨rfl, hb1⟩; have HV2 : Hid _ := ⟨S4.bel HV1.out hb1⟩; clear hb1 d0 d1 d2 e0 e1 e2 f0 f1 f2 f3; obtain ⟨d0, d1, d2, _⟩ := HV2.out.1; obtain ⟨e0, e1, e2, _⟩ := HV2.out.2.1; obtain ⟨f0, f1, f2, f3⟩ := HV2.out.2.2.1)
        | (go_at_call 30; (with_reducible refine (HNA.out _).mono ?_); rintro e w1 ⟨rfl, hb1⟩; have HV1 : Hid _ := ⟨S4.bel HV0.out hb1⟩; clear hb1 d0 d1 d2 e0 e1 e2 f0 f1 f2 f3; obtain ⟨d0, d1, d2, _⟩ := HV1.out.1; obtain ⟨e0, e1, e2, _⟩ := HV1.out.2.1; obtain ⟨f0, f1, f2, f3⟩ := HV1.out.2.2.1))
      refine bodyPost_ret (resY_Two _ _ (w.heap.size + 1 + 1) _ _ _ rfl (HV2.out.2.2.1.set _ _ _)) rfl ⟨by rfl, S4.res HV2.out _ _ _⟩
set_option maxRecDepth 20000 in
set_option maxHeartbeats 4000000 in
theorem ytwo_and (p m : ByteArray) (n : Int) (q k : ByteArray) (i : Int) (w : World) : Calls Tryz.prog 20 #[.string ⟨#[38]⟩, .agg #[.string p, .string m, .int .i64 n], .agg #[.string q, .string k, .int .i64 i]] w fun e w' => e = .returned (vE (ofN andN ⟨p, m, n⟩ ⟨q, k, i⟩)) ∧ Below w.heap.size w w' := by
  have HV0 : Hid _ := ⟨S4.newY w p m n q k i⟩
  have HNA : Hid _ := ⟨ynumber_any p m n⟩
  have HNB : Hid _ := ⟨ynumber_any q k i⟩
  unfold ofN
  simp only
  cases h : sB p m
  · rw [h] at HNA
    rw [Bool.false_and, if_neg (by simp), vE_none]
    go_enter Tryz.func20, Tryz.ntmps20
    go_upto_region 6 with (fail)
    generalize ((w.alloc (.cells #[.string p, .string m, .int .i64 n] 33)).alloc (.cells #[.string q, .string k, .int .i64 i] 33)).alloc yV = v at *
    obtain ⟨d0, d1, d2, _⟩ := HV0.out.1
    obtain ⟨e0, e1, e2, _⟩ := HV0.out.2.1
    obtain ⟨f0, f1, f2, f3⟩ := HV0.out.2.2.1
    go_wp2_with (first
      | (have _ := HV1; go_at_call 30; (with_reducible refine (HNB.out _).mono ?_); rintro e w2 ⟨rfl, hb1⟩; have HV2 : Hid _ := ⟨S4.bel HV1.out hb1⟩; clear hb1 d0 d1 d2 e0 e1 e2 f0 f1 f2 f3; obtain ⟨d0, d1, d2, _⟩ := HV2.out.1; obtain ⟨e0, e1, e2, _⟩ := HV2.out.2.1; obtain ⟨f0, f1, f2, f3⟩ := HV2.out.2.2.1)
      | (go_at_call 30; (with_reducible refine (HNA.out _).mono ?_); rintro e w1 ⟨rfl, hb1⟩; have HV1 : Hid _ := ⟨S4.bel HV0.out hb1⟩; clear hb1 d0 d1 d2 e0 e1 e2 f0 f1 f2 f3; obtain ⟨d0, d1, d2, _⟩ := HV1.out.1; obtain ⟨e0, e1, e2, _⟩ := HV1.out.2.1; obtain ⟨f0, f1, f2, f3⟩ := HV1.out.2.2.1))
    refine bodyPost_ret (resY_Two _ _ (w.heap.size + 1 + 1) _ _ _ rfl (HV1.out.2.2.1.set _ _ _)) rfl ⟨by rfl, S4.res HV1.out _ _ _⟩
  · rw [h] at HNA
    rw [Bool.true_and]
    clear h
    cases h : sB q k
    · rw [h] at HNB
      rw [if_neg (by simp), vE_none]
      go_enter Tryz.func20, Tryz.ntmps20
      go_upto_region 6 with (fail)
      generalize ((w.alloc (.cells #[.string p, .string m, .int .i64 n] 33)).alloc (.cells #[.string q, .string k, .int .i64 i] 33)).alloc yV = v at *
      obtain ⟨d0, d1, d2, _⟩ := HV0.out.1
      obtain ⟨e0, e1, e2, _⟩ := HV0.out.2.1
      obtain ⟨f0, f1, f2, f3⟩ := HV0.out.2.2.1
      go_wp2_with (first
        | (have _ := HV1; go_at_call 30; (with_reducible refine (HNB.out _).mono ?_); rintro e w2 ⟨rfl, hb1⟩; have HV2 : Hid _ := ⟨S4.bel HV1.out hb1⟩; clear hb1 d0 d1 d2 e0 e1 e2 f0 f1 f2 f3; obtain ⟨d0, d1, d2, _⟩ := HV2.out.1; obtain ⟨e0, e1, e2, _⟩ := HV2.out.2.1; obtain ⟨f0, f1, f2, f3⟩ := HV2.out.2.2.1)
        | (go_at_call 30; (with_reducible refine (HNA.out _).mono ?_); rintro e w1 ⟨rfl, hb1⟩; have HV1 : Hid _ := ⟨S4.bel HV0.out hb1⟩; clear hb1 d0 d1 d2 e0 e1 e2 f0 f1 f2 f3; obtain ⟨d0, d1, d2, _⟩ := HV1.out.1; obtain ⟨e0, e1, e2, _⟩ := HV1.out.2.1; obtain ⟨f0, f1, f2, f3⟩ := HV1.out.2.2.1))
      refine bodyPost_ret (resY_Two _ _ (w.heap.size + 1 + 1) _ _ _ rfl (HV2.out.2.2.1.set _ _ _)) rfl ⟨by rfl, S4.res HV2.out _ _ _⟩
    · rw [h] at HNB
      rw [if_pos (by simp)]
      clear h
      rw [show (andN n i).map Vx.num = some (Vx.num _) from rfl, vE_n1]
      go_enter Tryz.func20, Tryz.ntmps20
      go_upto_region 6 with (fail)
      generalize ((w.alloc (.cells #[.string p, .string m, .int .i64 n] 33)).alloc (.cells #[.string q, .string k, .int .i64 i] 33)).alloc yV = v at *
      obtain ⟨d0, d1, d2, _⟩ := HV0.out.1
      obtain ⟨e0, e1, e2, _⟩ := HV0.out.2.1
      obtain ⟨f0, f1, f2, f3⟩ := HV0.out.2.2.1
      go_wp2_with (first
        | (have _ := HV1; go_at_call 30; (with_reducible refine (HNB.out _).mono ?_); rintro e w2 ⟨rfl, hb1⟩; have HV2 : Hid _ := ⟨S4.bel HV1.out hb1⟩; clear hb1 d0 d1 d2 e0 e1 e2 f0 f1 f2 f3; obtain ⟨d0, d1, d2, _⟩ := HV2.out.1; obtain ⟨e0, e1, e2, _⟩ := HV2.out.2.1; obtain ⟨f0, f1, f2, f3⟩ := HV2.out.2.2.1)
        | (go_at_call 30; (with_reducible refine (HNA.out _).mono ?_); rintro e w1 ⟨rfl, hb1⟩; have HV1 : Hid _ := ⟨S4.bel HV0.out hb1⟩; clear hb1 d0 d1 d2 e0 e1 e2 f0 f1 f2 f3; obtain ⟨d0, d1, d2, _⟩ := HV1.out.1; obtain ⟨e0, e1, e2, _⟩ := HV1.out.2.1; obtain ⟨f0, f1, f2, f3⟩ := HV1.out.2.2.1))
      refine bodyPost_ret (resY_Two _ _ (w.heap.size + 1 + 1) _ _ _ rfl (HV2.out.2.2.1.set _ _ _)) rfl ⟨by rfl, S4.res HV2.out _ _ _⟩
set_option maxRecDepth 20000 in
set_option maxHeartbeats 4000000 in
theorem ytwo_or (p m : ByteArray) (n : Int) (q k : ByteArray) (i : Int) (w : World) : Calls Tryz.prog 20 #[.string ⟨#[124]⟩, .agg #[.string p, .string m, .int .i64 n], .agg #[.string q, .string k, .int .i64 i]] w fun e w' => e = .returned (vE (ofN orN ⟨p, m, n⟩ ⟨q, k, i⟩)) ∧ Below w.heap.size w w' := by
  have HV0 : Hid _ := ⟨S4.newY w p m n q k i⟩
  have HNA : Hid _ := ⟨ynumber_any p m n⟩
  have HNB : Hid _ := ⟨ynumber_any q k i⟩
  unfold ofN
  simp only
  cases h : sB p m
  · rw [h] at HNA
    rw [Bool.false_and, if_neg (by simp), vE_none]
    go_enter Tryz.func20, Tryz.ntmps20
    go_upto_region 6 with (fail)
    generalize ((w.alloc (.cells #[.string p, .string m, .int .i64 n] 33)).alloc (.cells #[.string q, .string k, .int .i64 i] 33)).alloc yV = v at *
    obtain ⟨d0, d1, d2, _⟩ := HV0.out.1
    obtain ⟨e0, e1, e2, _⟩ := HV0.out.2.1
    obtain ⟨f0, f1, f2, f3⟩ := HV0.out.2.2.1
    go_wp2_with (first
      | (have _ := HV1; go_at_call 30; (with_reducible refine (HNB.out _).mono ?_); rintro e w2 ⟨rfl, hb1⟩; have HV2 : Hid _ := ⟨S4.bel HV1.out hb1⟩; clear hb1 d0 d1 d2 e0 e1 e2 f0 f1 f2 f3; obtain ⟨d0, d1, d2, _⟩ := HV2.out.1; obtain ⟨e0, e1, e2, _⟩ := HV2.out.2.1; obtain ⟨f0, f1, f2, f3⟩ := HV2.out.2.2.1)
      | (go_at_call 30; (with_reducible refine (HNA.out _).mono ?_); rintro e w1 ⟨rfl, hb1⟩; have HV1 : Hid _ := ⟨S4.bel HV0.out hb1⟩; clear hb1 d0 d1 d2 e0 e1 e2 f0 f1 f2 f3; obtain ⟨d0, d1, d2, _⟩ := HV1.out.1; obtain ⟨e0, e1, e2, _⟩ := HV1.out.2.1; obtain ⟨f0, f1, f2, f3⟩ := HV1.out.2.2.1))
    refine bodyPost_ret (resY_Two _ _ (w.heap.size + 1 + 1) _ _ _ rfl (HV1.out.2.2.1.set _ _ _)) rfl ⟨by rfl, S4.res HV1.out _ _ _⟩
  · rw [h] at HNA
    rw [Bool.true_and]
    clear h
    cases h : sB q k
    · rw [h] at HNB
      rw [if_neg (by simp), vE_none]
      go_enter Tryz.func20, Tryz.ntmps20
      go_upto_region 6 with (fail)
      generalize ((w.alloc (.cells #[.string p, .string m, .int .i64 n] 33)).alloc (.cells #[.string q, .string k, .int .i64 i] 33)).alloc yV = v at *
      obtain ⟨d0, d1, d2, _⟩ := HV0.out.1
      obtain ⟨e0, e1, e2, _⟩ := HV0.out.2.1
      obtain ⟨f0, f1, f2, f3⟩ := HV0.out.2.2.1
      go_wp2_with (first
        | (have _ := HV1; go_at_call 30; (with_reducible refine (HNB.out _).mono ?_); rintro e w2 ⟨rfl, hb1⟩; have HV2 : Hid _ := ⟨S4.bel HV1.out hb1⟩; clear hb1 d0 d1 d2 e0 e1 e2 f0 f1 f2 f3; obtain ⟨d0, d1, d2, _⟩ := HV2.out.1; obtain ⟨e0, e1, e2, _⟩ := HV2.out.2.1; obtain ⟨f0, f1, f2, f3⟩ := HV2.out.2.2.1)
        | (go_at_call 30; (with_reducible refine (HNA.out _).mono ?_); rintro e w1 ⟨rfl, hb1⟩; have HV1 : Hid _ := ⟨S4.bel HV0.out hb1⟩; clear hb1 d0 d1 d2 e0 e1 e2 f0 f1 f2 f3; obtain ⟨d0, d1, d2, _⟩ := HV1.out.1; obtain ⟨e0, e1, e2, _⟩ := HV1.out.2.1; obtain ⟨f0, f1, f2, f3⟩ := HV1.out.2.2.1))
      refine bodyPost_ret (resY_Two _ _ (w.heap.size + 1 + 1) _ _ _ rfl (HV2.out.2.2.1.set _ _ _)) rfl ⟨by rfl, S4.res HV2.out _ _ _⟩
    · rw [h] at HNB
      rw [if_pos (by simp)]
      clear h
      rw [show (orN n i).map Vx.num = some (Vx.num _) from rfl, vE_n1]
      go_enter Tryz.func20, Tryz.ntmps20
      go_upto_region 6 with (fail)
      generalize ((w.alloc (.cells #[.string p, .string m, .int .i64 n] 33)).alloc (.cells #[.string q, .string k, .int .i64 i] 33)).alloc yV = v at *
      obtain ⟨d0, d1, d2, _⟩ := HV0.out.1
      obtain ⟨e0, e1, e2, _⟩ := HV0.out.2.1
      obtain ⟨f0, f1, f2, f3⟩ := HV0.out.2.2.1
      go_wp2_with (first
        | (have _ := HV1; go_at_call 30; (with_reducible refine (HNB.out _).mono ?_); rintro e w2 ⟨rfl, hb1⟩; have HV2 : Hid _ := ⟨S4.bel HV1.out hb1⟩; clear hb1 d0 d1 d2 e0 e1 e2 f0 f1 f2 f3; obtain ⟨d0, d1, d2, _⟩ := HV2.out.1; obtain ⟨e0, e1, e2, _⟩ := HV2.out.2.1; obtain ⟨f0, f1, f2, f3⟩ := HV2.out.2.2.1)
        | (go_at_call 30; (with_reducible refine (HNA.out _).mono ?_); rintro e w1 ⟨rfl, hb1⟩; have HV1 : Hid _ := ⟨S4.bel HV0.out hb1⟩; clear hb1 d0 d1 d2 e0 e1 e2 f0 f1 f2 f3; obtain ⟨d0, d1, d2, _⟩ := HV1.out.1; obtain ⟨e0, e1, e2, _⟩ := HV1.out.2.1; obtain ⟨f0, f1, f2, f3⟩ := HV1.out.2.2.1))
      refine bodyPost_ret (resY_Two _ _ (w.heap.size + 1 + 1) _ _ _ rfl (HV2.out.2.2.1.set _ _ _)) rfl ⟨by rfl, S4.res HV2.out _ _ _⟩
set_option maxRecDepth 20000 in
set_option maxHeartbeats 4000000 in
theorem ytwo_xor (p m : ByteArray) (n : Int) (q k : ByteArray) (i : Int) (w : World) : Calls Tryz.prog 20 #[.string ⟨#[94]⟩, .agg #[.string p, .string m, .int .i64 n], .agg #[.string q, .string k, .int .i64 i]] w fun e w' => e = .returned (vE (ofN xorN ⟨p, m, n⟩ ⟨q, k, i⟩)) ∧ Below w.heap.size w w' := by
  have HV0 : Hid _ := ⟨S4.newY w p m n q k i⟩
  have HNA : Hid _ := ⟨ynumber_any p m n⟩
  have HNB : Hid _ := ⟨ynumber_any q k i⟩
  unfold ofN
  simp only
  cases h : sB p m
  · rw [h] at HNA
    rw [Bool.false_and, if_neg (by simp), vE_none]
    go_enter Tryz.func20, Tryz.ntmps20
    go_upto_region 6 with (fail)
    generalize ((w.alloc (.cells #[.string p, .string m, .int .i64 n] 33)).alloc (.cells #[.string q, .string k, .int .i64 i] 33)).alloc yV = v at *
    obtain ⟨d0, d1, d2, _⟩ := HV0.out.1
    obtain ⟨e0, e1, e2, _⟩ := HV0.out.2.1
    obtain ⟨f0, f1, f2, f3⟩ := HV0.out.2.2.1
    go_wp2_with (first
      | (have _ := HV1; go_at_call 30; (with_reducible refine (HNB.out _).mono ?_); rintro e w2 ⟨rfl, hb1⟩; have HV2 : Hid _ := ⟨S4.bel HV1.out hb1⟩; clear hb1 d0 d1 d2 e0 e1 e2 f0 f1 f2 f3; obtain ⟨d0, d1, d2, _⟩ := HV2.out.1; obtain ⟨e0, e1, e2, _⟩ := HV2.out.2.1; obtain ⟨f0, f1, f2, f3⟩ := HV2.out.2.2.1)
      | (go_at_call 30; (with_reducible refine (HNA.out _).mono ?_); rintro e w1 ⟨rfl, hb1⟩; have HV1 : Hid _ := ⟨S4.bel HV0.out hb1⟩; clear hb1 d0 d1 d2 e0 e1 e2 f0 f1 f2 f3; obtain ⟨d0, d1, d2, _⟩ := HV1.out.1; obtain ⟨e0, e1, e2, _⟩ := HV1.out.2.1; obtain ⟨f0, f1, f2, f3⟩ := HV1.out.2.2.1))
    refine bodyPost_ret (resY_Two _ _ (w.heap.size + 1 + 1) _ _ _ rfl (HV1.out.2.2.1.set _ _ _)) rfl ⟨by rfl, S4.res HV1.out _ _ _⟩
  · rw [h] at HNA
    rw [Bool.true_and]
    clear h
    cases h : sB q k
    · rw [h] at HNB
      rw [if_neg (by simp), vE_none]
      go_enter Tryz.func20, Tryz.ntmps20
      go_upto_region 6 with (fail)
      generalize ((w.alloc (.cells #[.string p, .string m, .int .i64 n] 33)).alloc (.cells #[.string q, .string k, .int .i64 i] 33)).alloc yV = v at *
      obtain ⟨d0, d1, d2, _⟩ := HV0.out.1
      obtain ⟨e0, e1, e2, _⟩ := HV0.out.2.1
      obtain ⟨f0, f1, f2, f3⟩ := HV0.out.2.2.1
      go_wp2_with (first
        | (have _ := HV1; go_at_call 30; (with_reducible refine (HNB.out _).mono ?_); rintro e w2 ⟨rfl, hb1⟩; have HV2 : Hid _ := ⟨S4.bel HV1.out hb1⟩; clear hb1 d0 d1 d2 e0 e1 e2 f0 f1 f2 f3; obtain ⟨d0, d1, d2, _⟩ := HV2.out.1; obtain ⟨e0, e1, e2, _⟩ := HV2.out.2.1; obtain ⟨f0, f1, f2, f3⟩ := HV2.out.2.2.1)
        | (go_at_call 30; (with_reducible refine (HNA.out _).mono ?_); rintro e w1 ⟨rfl, hb1⟩; have HV1 : Hid _ := ⟨S4.bel HV0.out hb1⟩; clear hb1 d0 d1 d2 e0 e1 e2 f0 f1 f2 f3; obtain ⟨d0, d1, d2, _⟩ := HV1.out.1; obtain ⟨e0, e1, e2, _⟩ := HV1.out.2.1; obtain ⟨f0, f1, f2, f3⟩ := HV1.out.2.2.1))
      refine bodyPost_ret (resY_Two _ _ (w.heap.size + 1 + 1) _ _ _ rfl (HV2.out.2.2.1.set _ _ _)) rfl ⟨by rfl, S4.res HV2.out _ _ _⟩
    · rw [h] at HNB
      rw [if_pos (by simp)]
      clear h
      rw [show (xorN n i).map Vx.num = some (Vx.num _) from rfl, vE_n1]
      go_enter Tryz.func20, Tryz.ntmps20
      go_upto_region 6 with (fail)
      generalize ((w.alloc (.cells #[.string p, .string m, .int .i64 n] 33)).alloc (.cells #[.string q, .string k, .int .i64 i] 33)).alloc yV = v at *
      obtain ⟨d0, d1, d2, _⟩ := HV0.out.1
      obtain ⟨e0, e1, e2, _⟩ := HV0.out.2.1
      obtain ⟨f0, f1, f2, f3⟩ := HV0.out.2.2.1
      go_wp2_with (first
        | (have _ := HV1; go_at_call 30; (with_reducible refine (HNB.out _).mono ?_); rintro e w2 ⟨rfl, hb1⟩; have HV2 : Hid _ := ⟨S4.bel HV1.out hb1⟩; clear hb1 d0 d1 d2 e0 e1 e2 f0 f1 f2 f3; obtain ⟨d0, d1, d2, _⟩ := HV2.out.1; obtain ⟨e0, e1, e2, _⟩ := HV2.out.2.1; obtain ⟨f0, f1, f2, f3⟩ := HV2.out.2.2.1)
        | (go_at_call 30; (with_reducible refine (HNA.out _).mono ?_); rintro e w1 ⟨rfl, hb1⟩; have HV1 : Hid _ := ⟨S4.bel HV0.out hb1⟩; clear hb1 d0 d1 d2 e0 e1 e2 f0 f1 f2 f3; obtain ⟨d0, d1, d2, _⟩ := HV1.out.1; obtain ⟨e0, e1, e2, _⟩ := HV1.out.2.1; obtain ⟨f0, f1, f2, f3⟩ := HV1.out.2.2.1))
      refine bodyPost_ret (resY_Two _ _ (w.heap.size + 1 + 1) _ _ _ rfl (HV2.out.2.2.1.set _ _ _)) rfl ⟨by rfl, S4.res HV2.out _ _ _⟩
set_option maxRecDepth 20000 in
set_option maxHeartbeats 4000000 in
theorem ytwo_div (p m : ByteArray) (n : Int) (q k : ByteArray) (i : Int) (w : World) : Calls Tryz.prog 20 #[.string ⟨#[47]⟩, .agg #[.string p, .string m, .int .i64 n], .agg #[.string q, .string k, .int .i64 i]] w fun e w' => e = .returned (vE (ofN divN ⟨p, m, n⟩ ⟨q, k, i⟩)) ∧ Below w.heap.size w w' := by
  have HV0 : Hid _ := ⟨S4.newY w p m n q k i⟩
  have HNA : Hid _ := ⟨ynumber_any p m n⟩
  have HNB : Hid _ := ⟨ynumber_any q k i⟩
  unfold ofN
  simp only
  cases h : sB p m
  · rw [h] at HNA
    rw [Bool.false_and, if_neg (by simp), vE_none]
    go_enter Tryz.func20, Tryz.ntmps20
    go_upto_region 6 with (fail)
    generalize ((w.alloc (.cells #[.string p, .string m, .int .i64 n] 33)).alloc (.cells #[.string q, .string k, .int .i64 i] 33)).alloc yV = v at *
    obtain ⟨d0, d1, d2, _⟩ := HV0.out.1
    obtain ⟨e0, e1, e2, _⟩ := HV0.out.2.1
    obtain ⟨f0, f1, f2, f3⟩ := HV0.out.2.2.1
    go_wp2_with (first
      | (have _ := HV1; go_at_call 30; (with_reducible refine (HNB.out _).mono ?_); rintro e w2 ⟨rfl, hb1⟩; have HV2 : Hid _ := ⟨S4.bel HV1.out hb1⟩; clear hb1 d0 d1 d2 e0 e1 e2 f0 f1 f2 f3; obtain ⟨d0, d1, d2, _⟩ := HV2.out.1; obtain ⟨e0, e1, e2, _⟩ := HV2.out.2.1; obtain ⟨f0, f1, f2, f3⟩ := HV2.out.2.2.1)
      | (go_at_call 30; (with_reducible refine (HNA.out _).mono ?_); rintro e w1 ⟨rfl, hb1⟩; have HV1 : Hid _ := ⟨S4.bel HV0.out hb1⟩; clear hb1 d0 d1 d2 e0 e1 e2 f0 f1 f2 f3; obtain ⟨d0, d1, d2, _⟩ := HV1.out.1; obtain ⟨e0, e1, e2, _⟩ := HV1.out.2.1; obtain ⟨f0, f1, f2, f3⟩ := HV1.out.2.2.1))
    refine bodyPost_ret (resY_Two _ _ (w.heap.size + 1 + 1) _ _ _ rfl (HV1.out.2.2.1.set _ _ _)) rfl ⟨by rfl, S4.res HV1.out _ _ _⟩
  · rw [h] at HNA
    rw [Bool.true_and]
    clear h
    cases h : sB q k
    · rw [h] at HNB
      rw [if_neg (by simp), vE_none]
      go_enter Tryz.func20, Tryz.ntmps20
      go_upto_region 6 with (fail)
      generalize ((w.alloc (.cells #[.string p, .string m, .int .i64 n] 33)).alloc (.cells #[.string q, .string k, .int .i64 i] 33)).alloc yV = v at *
      obtain ⟨d0, d1, d2, _⟩ := HV0.out.1
      obtain ⟨e0, e1, e2, _⟩ := HV0.out.2.1
      obtain ⟨f0, f1, f2, f3⟩ := HV0.out.2.2.1
      go_wp2_with (first
        | (have _ := HV1; go_at_call 30; (with_reducible refine (HNB.out _).mono ?_); rintro e w2 ⟨rfl, hb1⟩; have HV2 : Hid _ := ⟨S4.bel HV1.out hb1⟩; clear hb1 d0 d1 d2 e0 e1 e2 f0 f1 f2 f3; obtain ⟨d0, d1, d2, _⟩ := HV2.out.1; obtain ⟨e0, e1, e2, _⟩ := HV2.out.2.1; obtain ⟨f0, f1, f2, f3⟩ := HV2.out.2.2.1)
        | (go_at_call 30; (with_reducible refine (HNA.out _).mono ?_); rintro e w1 ⟨rfl, hb1⟩; have HV1 : Hid _ := ⟨S4.bel HV0.out hb1⟩; clear hb1 d0 d1 d2 e0 e1 e2 f0 f1 f2 f3; obtain ⟨d0, d1, d2, _⟩ := HV1.out.1; obtain ⟨e0, e1, e2, _⟩ := HV1.out.2.1; obtain ⟨f0, f1, f2, f3⟩ := HV1.out.2.2.1))
      refine bodyPost_ret (resY_Two _ _ (w.heap.size + 1 + 1) _ _ _ rfl (HV2.out.2.2.1.set _ _ _)) rfl ⟨by rfl, S4.res HV2.out _ _ _⟩
    · rw [h] at HNB
      rw [if_pos (by simp)]
      clear h
      unfold divN
      by_cases h : i = 0
      · rw [if_pos h]
        subst h
        rw [show (none : Option Int).map Vx.num = none from rfl, vE_none]
        go_enter Tryz.func20, Tryz.ntmps20
        go_upto_region 6 with (fail)
        generalize ((w.alloc (.cells #[.string p, .string m, .int .i64 n] 33)).alloc (.cells #[.string q, .string k, .int .i64 0] 33)).alloc yV = v at *
        obtain ⟨d0, d1, d2, _⟩ := HV0.out.1
        obtain ⟨e0, e1, e2, _⟩ := HV0.out.2.1
        obtain ⟨f0, f1, f2, f3⟩ := HV0.out.2.2.1
        go_wp2_with (first
          | (have _ := HV1; go_at_call 30; (with_reducible refine (HNB.out _).mono ?_); rintro e w2 ⟨rfl, hb1⟩; have HV2 : Hid _ := ⟨S4.bel HV1.out hb1⟩; clear hb1 d0 d1 d2 e0 e1 e2 f0 f1 f2 f3; obtain ⟨d0, d1, d2, _⟩ := HV2.out.1; obtain ⟨e0, e1, e2, _⟩ := HV2.out.2.1; obtain ⟨f0, f1, f2, f3⟩ := HV2.out.2.2.1)
          | (go_at_call 30; (with_reducible refine (HNA.out _).mono ?_); rintro e w1 ⟨rfl, hb1⟩; have HV1 : Hid _ := ⟨S4.bel HV0.out hb1⟩; clear hb1 d0 d1 d2 e0 e1 e2 f0 f1 f2 f3; obtain ⟨d0, d1, d2, _⟩ := HV1.out.1; obtain ⟨e0, e1, e2, _⟩ := HV1.out.2.1; obtain ⟨f0, f1, f2, f3⟩ := HV1.out.2.2.1))
        refine bodyPost_ret (resY_Two _ _ (w.heap.size + 1 + 1) _ _ _ rfl (HV2.out.2.2.1.set _ _ _)) rfl ⟨by rfl, S4.res HV2.out _ _ _⟩
      · rw [if_neg h]
        have h1 : (i == 0) = false := by simpa using h
        rw [show (some (wrap64 (n.tdiv i))).map Vx.num = some (Vx.num _) from rfl, vE_n1]
        by_cases h2 : i = -1
        · subst h2
          rw [twoN_ty]
          go_enter Tryz.func20, Tryz.ntmps20
          go_upto_region 6 with (fail)
          generalize ((w.alloc (.cells #[.string p, .string m, .int .i64 n] 33)).alloc (.cells #[.string q, .string k, .int .i64 (-1)] 33)).alloc yV = v at *
          obtain ⟨d0, d1, d2, _⟩ := HV0.out.1
          obtain ⟨e0, e1, e2, _⟩ := HV0.out.2.1
          obtain ⟨f0, f1, f2, f3⟩ := HV0.out.2.2.1
          go_wp2_with (first
            | (have _ := HV1; go_at_call 30; (with_reducible refine (HNB.out _).mono ?_); rintro e w2 ⟨rfl, hb1⟩; have HV2 : Hid _ := ⟨S4.bel HV1.out hb1⟩; clear hb1 d0 d1 d2 e0 e1 e2 f0 f1 f2 f3; obtain ⟨d0, d1, d2, _⟩ := HV2.out.1; obtain ⟨e0, e1, e2, _⟩ := HV2.out.2.1; obtain ⟨f0, f1, f2, f3⟩ := HV2.out.2.2.1)
            | (go_at_call 30; (with_reducible refine (HNA.out _).mono ?_); rintro e w1 ⟨rfl, hb1⟩; have HV1 : Hid _ := ⟨S4.bel HV0.out hb1⟩; clear hb1 d0 d1 d2 e0 e1 e2 f0 f1 f2 f3; obtain ⟨d0, d1, d2, _⟩ := HV1.out.1; obtain ⟨e0, e1, e2, _⟩ := HV1.out.2.1; obtain ⟨f0, f1, f2, f3⟩ := HV1.out.2.2.1))
          refine bodyPost_ret (resY_Two _ _ (w.heap.size + 1 + 1) _ _ _ rfl (HV2.out.2.2.1.set _ _ _)) rfl ⟨by first | rfl | simp, S4.res HV2.out _ _ _⟩
        · have h3 : (i == -1) = false := by simpa using h2
          go_enter Tryz.func20, Tryz.ntmps20
          go_upto_region 6 with (fail)
          generalize ((w.alloc (.cells #[.string p, .string m, .int .i64 n] 33)).alloc (.cells #[.string q, .string k, .int .i64 i] 33)).alloc yV = v at *
          obtain ⟨d0, d1, d2, _⟩ := HV0.out.1
          obtain ⟨e0, e1, e2, _⟩ := HV0.out.2.1
          obtain ⟨f0, f1, f2, f3⟩ := HV0.out.2.2.1
          go_wp2_with (first
            | (have _ := HV1; go_at_call 30; (with_reducible refine (HNB.out _).mono ?_); rintro e w2 ⟨rfl, hb1⟩; have HV2 : Hid _ := ⟨S4.bel HV1.out hb1⟩; clear hb1 d0 d1 d2 e0 e1 e2 f0 f1 f2 f3; obtain ⟨d0, d1, d2, _⟩ := HV2.out.1; obtain ⟨e0, e1, e2, _⟩ := HV2.out.2.1; obtain ⟨f0, f1, f2, f3⟩ := HV2.out.2.2.1)
            | (go_at_call 30; (with_reducible refine (HNA.out _).mono ?_); rintro e w1 ⟨rfl, hb1⟩; have HV1 : Hid _ := ⟨S4.bel HV0.out hb1⟩; clear hb1 d0 d1 d2 e0 e1 e2 f0 f1 f2 f3; obtain ⟨d0, d1, d2, _⟩ := HV1.out.1; obtain ⟨e0, e1, e2, _⟩ := HV1.out.2.1; obtain ⟨f0, f1, f2, f3⟩ := HV1.out.2.2.1))
          refine bodyPost_ret (resY_Two _ _ (w.heap.size + 1 + 1) _ _ _ rfl (HV2.out.2.2.1.set _ _ _)) rfl ⟨by rfl, S4.res HV2.out _ _ _⟩
set_option maxRecDepth 20000 in
set_option maxHeartbeats 4000000 in
theorem ytwo_shl (p m : ByteArray) (n : Int) (q k : ByteArray) (i : Int) (w : World) : Calls Tryz.prog 20 #[.string ⟨#[60, 60]⟩, .agg #[.string p, .string m, .int .i64 n], .agg #[.string q, .string k, .int .i64 i]] w fun e w' => e = .returned (vE (ofN shlN ⟨p, m, n⟩ ⟨q, k, i⟩)) ∧ Below w.heap.size w w' := by
  have HV0 : Hid _ := ⟨S4.newY w p m n q k i⟩
  have HNA : Hid _ := ⟨ynumber_any p m n⟩
  have HNB : Hid _ := ⟨ynumber_any q k i⟩
  unfold ofN
  simp only
  cases h : sB p m
  · rw [h] at HNA
    rw [Bool.false_and, if_neg (by simp), vE_none]
    go_enter Tryz.func20, Tryz.ntmps20
    go_upto_region 6 with (fail)
    generalize ((w.alloc (.cells #[.string p, .string m, .int .i64 n] 33)).alloc (.cells #[.string q, .string k, .int .i64 i] 33)).alloc yV = v at *
    obtain ⟨d0, d1, d2, _⟩ := HV0.out.1
    obtain ⟨e0, e1, e2, _⟩ := HV0.out.2.1
    obtain ⟨f0, f1, f2, f3⟩ := HV0.out.2.2.1
    go_wp2_with (first
      | (have _ := HV1; go_at_call 30; (with_reducible refine (HNB.out _).mono ?_); rintro e w2 ⟨rfl, hb1⟩; have HV2 : Hid _ := ⟨S4.bel HV1.out hb1⟩; clear hb1 d0 d1 d2 e0 e1 e2 f0 f1 f2 f3; obtain ⟨d0, d1, d2, _⟩ := HV2.out.1; obtain ⟨e0, e1, e2, _⟩ := HV2.out.2.1; obtain ⟨f0, f1, f2, f3⟩ := HV2.out.2.2.1)
      | (go_at_call 30; (with_reducible refine (HNA.out _).mono ?_); rintro e w1 ⟨rfl, hb1⟩; have HV1 : Hid _ := ⟨S4.bel HV0.out hb1⟩; clear hb1 d0 d1 d2 e0 e1 e2 f0 f1 f2 f3; obtain ⟨d0, d1, d2, _⟩ := HV1.out.1; obtain ⟨e0, e1, e2, _⟩ := HV1.out.2.1; obtain ⟨f0, f1, f2, f3⟩ := HV1.out.2.2.1))
    refine bodyPost_ret (resY_Two _ _ (w.heap.size + 1 + 1) _ _ _ rfl (HV1.out.2.2.1.set _ _ _)) rfl ⟨by rfl, S4.res HV1.out _ _ _⟩
  · rw [h] at HNA
    rw [Bool.true_and]
    clear h
    cases h : sB q k
    · rw [h] at HNB
      rw [if_neg (by simp), vE_none]
      go_enter Tryz.func20, Tryz.ntmps20
      go_upto_region 6 with (fail)
      generalize ((w.alloc (.cells #[.string p, .string m, .int .i64 n] 33)).alloc (.cells #[.string q, .string k, .int .i64 i] 33)).alloc yV = v at *
      obtain ⟨d0, d1, d2, _⟩ := HV0.out.1
      obtain ⟨e0, e1, e2, _⟩ := HV0.out.2.1
      obtain ⟨f0, f1, f2, f3⟩ := HV0.out.2.2.1
      go_wp2_with (first
        | (have _ := HV1; go_at_call 30; (with_reducible refine (HNB.out _).mono ?_); rintro e w2 ⟨rfl, hb1⟩; have HV2 : Hid _ := ⟨S4.bel HV1.out hb1⟩; clear hb1 d0 d1 d2 e0 e1 e2 f0 f1 f2 f3; obtain ⟨d0, d1, d2, _⟩ := HV2.out.1; obtain ⟨e0, e1, e2, _⟩ := HV2.out.2.1; obtain ⟨f0, f1, f2, f3⟩ := HV2.out.2.2.1)
        | (go_at_call 30; (with_reducible refine (HNA.out _).mono ?_); rintro e w1 ⟨rfl, hb1⟩; have HV1 : Hid _ := ⟨S4.bel HV0.out hb1⟩; clear hb1 d0 d1 d2 e0 e1 e2 f0 f1 f2 f3; obtain ⟨d0, d1, d2, _⟩ := HV1.out.1; obtain ⟨e0, e1, e2, _⟩ := HV1.out.2.1; obtain ⟨f0, f1, f2, f3⟩ := HV1.out.2.2.1))
      refine bodyPost_ret (resY_Two _ _ (w.heap.size + 1 + 1) _ _ _ rfl (HV2.out.2.2.1.set _ _ _)) rfl ⟨by rfl, S4.res HV2.out _ _ _⟩
    · rw [h] at HNB
      rw [if_pos (by simp)]
      clear h
      unfold shlN
      cases h : isSh i
      · rw [if_neg (by simp), show (none : Option Int).map Vx.num = none from rfl, vE_none]
        unfold isSh at h
        rw [Bool.and_eq_false_iff, decide_eq_false_iff_not, decide_eq_false_iff_not] at h
        by_cases h1 : 0 ≤ i
        · have h2 : ¬ i ≤ 63 := h.resolve_left (fun e => e h1)
          clear h
          go_enter Tryz.func20, Tryz.ntmps20
          go_upto_region 6 with (fail)
          generalize ((w.alloc (.cells #[.string p, .string m, .int .i64 n] 33)).alloc (.cells #[.string q, .string k, .int .i64 i] 33)).alloc yV = v at *
          obtain ⟨d0, d1, d2, _⟩ := HV0.out.1
          obtain ⟨e0, e1, e2, _⟩ := HV0.out.2.1
          obtain ⟨f0, f1, f2, f3⟩ := HV0.out.2.2.1
          go_wp2_with (first
            | (have _ := HV1; go_at_call 30; (with_reducible refine (HNB.out _).mono ?_); rintro e w2 ⟨rfl, hb1⟩; have HV2 : Hid _ := ⟨S4.bel HV1.out hb1⟩; clear hb1 d0 d1 d2 e0 e1 e2 f0 f1 f2 f3; obtain ⟨d0, d1, d2, _⟩ := HV2.out.1; obtain ⟨e0, e1, e2, _⟩ := HV2.out.2.1; obtain ⟨f0, f1, f2, f3⟩ := HV2.out.2.2.1)
            | (go_at_call 30; (with_reducible refine (HNA.out _).mono ?_); rintro e w1 ⟨rfl, hb1⟩; have HV1 : Hid _ := ⟨S4.bel HV0.out hb1⟩; clear hb1 d0 d1 d2 e0 e1 e2 f0 f1 f2 f3; obtain ⟨d0, d1, d2, _⟩ := HV1.out.1; obtain ⟨e0, e1, e2, _⟩ := HV1.out.2.1; obtain ⟨f0, f1, f2, f3⟩ := HV1.out.2.2.1))
          refine bodyPost_ret (resY_Two _ _ (w.heap.size + 1 + 1) _ _ _ rfl (HV2.out.2.2.1.set _ _ _)) rfl ⟨by rfl, S4.res HV2.out _ _ _⟩
        · clear h
          go_enter Tryz.func20, Tryz.ntmps20
          go_upto_region 6 with (fail)
          generalize ((w.alloc (.cells #[.string p, .string m, .int .i64 n] 33)).alloc (.cells #[.string q, .string k, .int .i64 i] 33)).alloc yV = v at *
          obtain ⟨d0, d1, d2, _⟩ := HV0.out.1
          obtain ⟨e0, e1, e2, _⟩ := HV0.out.2.1
          obtain ⟨f0, f1, f2, f3⟩ := HV0.out.2.2.1
          go_wp2_with (first
            | (have _ := HV1; go_at_call 30; (with_reducible refine (HNB.out _).mono ?_); rintro e w2 ⟨rfl, hb1⟩; have HV2 : Hid _ := ⟨S4.bel HV1.out hb1⟩; clear hb1 d0 d1 d2 e0 e1 e2 f0 f1 f2 f3; obtain ⟨d0, d1, d2, _⟩ := HV2.out.1; obtain ⟨e0, e1, e2, _⟩ := HV2.out.2.1; obtain ⟨f0, f1, f2, f3⟩ := HV2.out.2.2.1)
            | (go_at_call 30; (with_reducible refine (HNA.out _).mono ?_); rintro e w1 ⟨rfl, hb1⟩; have HV1 : Hid _ := ⟨S4.bel HV0.out hb1⟩; clear hb1 d0 d1 d2 e0 e1 e2 f0 f1 f2 f3; obtain ⟨d0, d1, d2, _⟩ := HV1.out.1; obtain ⟨e0, e1, e2, _⟩ := HV1.out.2.1; obtain ⟨f0, f1, f2, f3⟩ := HV1.out.2.2.1))
          refine bodyPost_ret (resY_Two _ _ (w.heap.size + 1 + 1) _ _ _ rfl (HV2.out.2.2.1.set _ _ _)) rfl ⟨by rfl, S4.res HV2.out _ _ _⟩
      · rw [if_pos rfl, show (some (wrap64 (n * 2 ^ i.toNat))).map Vx.num = some (Vx.num _) from rfl, vE_n1]
        unfold isSh at h
        rw [Bool.and_eq_true, decide_eq_true_eq, decide_eq_true_eq] at h
        obtain ⟨h1, h2⟩ := h
        go_enter Tryz.func20, Tryz.ntmps20
        go_upto_region 6 with (fail)
        generalize ((w.alloc (.cells #[.string p, .string m, .int .i64 n] 33)).alloc (.cells #[.string q, .string k, .int .i64 i] 33)).alloc yV = v at *
        obtain ⟨d0, d1, d2, _⟩ := HV0.out.1
        obtain ⟨e0, e1, e2, _⟩ := HV0.out.2.1
        obtain ⟨f0, f1, f2, f3⟩ := HV0.out.2.2.1
        go_wp2_with (first
          | (have _ := HV1; go_at_call 30; (with_reducible refine (HNB.out _).mono ?_); rintro e w2 ⟨rfl, hb1⟩; have HV2 : Hid _ := ⟨S4.bel HV1.out hb1⟩; clear hb1 d0 d1 d2 e0 e1 e2 f0 f1 f2 f3; obtain ⟨d0, d1, d2, _⟩ := HV2.out.1; obtain ⟨e0, e1, e2, _⟩ := HV2.out.2.1; obtain ⟨f0, f1, f2, f3⟩ := HV2.out.2.2.1)
          | (go_at_call 30; (with_reducible refine (HNA.out _).mono ?_); rintro e w1 ⟨rfl, hb1⟩; have HV1 : Hid _ := ⟨S4.bel HV0.out hb1⟩; clear hb1 d0 d1 d2 e0 e1 e2 f0 f1 f2 f3; obtain ⟨d0, d1, d2, _⟩ := HV1.out.1; obtain ⟨e0, e1, e2, _⟩ := HV1.out.2.1; obtain ⟨f0, f1, f2, f3⟩ := HV1.out.2.2.1))
        refine bodyPost_ret (resY_Two _ _ (w.heap.size + 1 + 1) _ _ _ rfl (HV2.out.2.2.1.set _ _ _)) rfl ⟨by rfl, S4.res HV2.out _ _ _⟩
set_option maxRecDepth 20000 in
set_option maxHeartbeats 4000000 in
theorem ytwo_shr (p m : ByteArray) (n : Int) (q k : ByteArray) (i : Int) (w : World) : Calls Tryz.prog 20 #[.string ⟨#[62, 62]⟩, .agg #[.string p, .string m, .int .i64 n], .agg #[.string q, .string k, .int .i64 i]] w fun e w' => e = .returned (vE (ofN shrN ⟨p, m, n⟩ ⟨q, k, i⟩)) ∧ Below w.heap.size w w' := by
  have HV0 : Hid _ := ⟨S4.newY w p m n q k i⟩
  have HNA : Hid _ := ⟨ynumber_any p m n⟩
  have HNB : Hid _ := ⟨ynumber_any q k i⟩
  unfold ofN
  simp only
  cases h : sB p m
  · rw [h] at HNA
    rw [Bool.false_and, if_neg (by simp), vE_none]
    go_enter Tryz.func20, Tryz.ntmps20
    go_upto_region 6 with (fail)
    generalize ((w.alloc (.cells #[.string p, .string m, .int .i64 n] 33)).alloc (.cells #[.string q, .string k, .int .i64 i] 33)).alloc yV = v at *
    obtain ⟨d0, d1, d2, _⟩ := HV0.out.1
    obtain ⟨e0, e1, e2, _⟩ := HV0.out.2.1
    obtain ⟨f0, f1, f2, f3⟩ := HV0.out.2.2.1
    go_wp2_with (first
      | (have _ := HV1; go_at_call 30; (with_reducible refine (HNB.out _).mono ?_); rintro e w2 ⟨rfl, hb1⟩; have HV2 : Hid _ := ⟨S4.bel HV1.out hb1⟩; clear hb1 d0 d1 d2 e0 e1 e2 f0 f1 f2 f3; obtain ⟨d0, d1, d2, _⟩ := HV2.out.1; obtain ⟨e0, e1, e2, _⟩ := HV2.out.2.1; obtain ⟨f0, f1, f2, f3⟩ := HV2.out.2.2.1)
      | (go_at_call 30; (with_reducible refine (HNA.out _).mono ?_); rintro e w1 ⟨rfl, hb1⟩; have HV1 : Hid _ := ⟨S4.bel HV0.out hb1⟩; clear hb1 d0 d1 d2 e0 e1 e2 f0 f1 f2 f3; obtain ⟨d0, d1, d2, _⟩ := HV1.out.1; obtain ⟨e0, e1, e2, _⟩ := HV1.out.2.1; obtain ⟨f0, f1, f2, f3⟩ := HV1.out.2.2.1))
    refine bodyPost_ret (resY_Two _ _ (w.heap.size + 1 + 1) _ _ _ rfl (HV1.out.2.2.1.set _ _ _)) rfl ⟨by rfl, S4.res HV1.out _ _ _⟩
  · rw [h] at HNA
    rw [Bool.true_and]
    clear h
    cases h : sB q k
    · rw [h] at HNB
      rw [if_neg (by simp), vE_none]
      go_enter Tryz.func20, Tryz.ntmps20
      go_upto_region 6 with (fail)
      generalize ((w.alloc (.cells #[.string p, .string m, .int .i64 n] 33)).alloc (.cells #[.string q, .string k, .int .i64 i] 33)).alloc yV = v at *
      obtain ⟨d0, d1, d2, _⟩ := HV0.out.1
      obtain ⟨e0, e1, e2, _⟩ := HV0.out.2.1
      obtain ⟨f0, f1, f2, f3⟩ := HV0.out.2.2.1
      go_wp2_with (first
        | (have _ := HV1; go_at_call 30; (with_reducible refine (HNB.out _).mono ?_); rintro e w2 ⟨rfl, hb1⟩; have HV2 : Hid _ := ⟨S4.bel HV1.out hb1⟩; clear hb1 d0 d1 d2 e0 e1 e2 f0 f1 f2 f3; obtain ⟨d0, d1, d2, _⟩ := HV2.out.1; obtain ⟨e0, e1, e2, _⟩ := HV2.out.2.1; obtain ⟨f0, f1, f2, f3⟩ := HV2.out.2.2.1)
        | (go_at_call 30; (with_reducible refine (HNA.out _).mono ?_); rintro e w1 ⟨rfl, hb1⟩; have HV1 : Hid _ := ⟨S4.bel HV0.out hb1⟩; clear hb1 d0 d1 d2 e0 e1 e2 f0 f1 f2 f3; obtain ⟨d0, d1, d2, _⟩ := HV1.out.1; obtain ⟨e0, e1, e2, _⟩ := HV1.out.2.1; obtain ⟨f0, f1, f2, f3⟩ := HV1.out.2.2.1))
      refine bodyPost_ret (resY_Two _ _ (w.heap.size + 1 + 1) _ _ _ rfl (HV2.out.2.2.1.set _ _ _)) rfl ⟨by rfl, S4.res HV2.out _ _ _⟩
    · rw [h] at HNB
      rw [if_pos (by simp)]
      clear h
      unfold shrN
      cases h : isSh i
      · rw [if_neg (by simp), show (none : Option Int).map Vx.num = none from rfl, vE_none]
        unfold isSh at h
        rw [Bool.and_eq_false_iff, decide_eq_false_iff_not, decide_eq_false_iff_not] at h
        by_cases h1 : 0 ≤ i
        · have h2 : ¬ i ≤ 63 := h.resolve_left (fun e => e h1)
          clear h
          go_enter Tryz.func20, Tryz.ntmps20
          go_upto_region 6 with (fail)
          generalize ((w.alloc (.cells #[.string p, .string m, .int .i64 n] 33)).alloc (.cells #[.string q, .string k, .int .i64 i] 33)).alloc yV = v at *
          obtain ⟨d0, d1, d2, _⟩ := HV0.out.1
          obtain ⟨e0, e1, e2, _⟩ := HV0.out.2.1
          obtain ⟨f0, f1, f2, f3⟩ := HV0.out.2.2.1
          go_wp2_with (first
            | (have _ := HV1; go_at_call 30; (with_reducible refine (HNB.out _).mono ?_); rintro e w2 ⟨rfl, hb1⟩; have HV2 : Hid _ := ⟨S4.bel HV1.out hb1⟩; clear hb1 d0 d1 d2 e0 e1 e2 f0 f1 f2 f3; obtain ⟨d0, d1, d2, _⟩ := HV2.out.1; obtain ⟨e0, e1, e2, _⟩ := HV2.out.2.1; obtain ⟨f0, f1, f2, f3⟩ := HV2.out.2.2.1)
            | (go_at_call 30; (with_reducible refine (HNA.out _).mono ?_); rintro e w1 ⟨rfl, hb1⟩; have HV1 : Hid _ := ⟨S4.bel HV0.out hb1⟩; clear hb1 d0 d1 d2 e0 e1 e2 f0 f1 f2 f3; obtain ⟨d0, d1, d2, _⟩ := HV1.out.1; obtain ⟨e0, e1, e2, _⟩ := HV1.out.2.1; obtain ⟨f0, f1, f2, f3⟩ := HV1.out.2.2.1))
          refine bodyPost_ret (resY_Two _ _ (w.heap.size + 1 + 1) _ _ _ rfl (HV2.out.2.2.1.set _ _ _)) rfl ⟨by rfl, S4.res HV2.out _ _ _⟩
        · clear h
          go_enter Tryz.func20, Tryz.ntmps20
          go_upto_region 6 with (fail)
          generalize ((w.alloc (.cells #[.string p, .string m, .int .i64 n] 33)).alloc (.cells #[.string q, .string k, .int .i64 i] 33)).alloc yV = v at *
          obtain ⟨d0, d1, d2, _⟩ := HV0.out.1
          obtain ⟨e0, e1, e2, _⟩ := HV0.out.2.1
          obtain ⟨f0, f1, f2, f3⟩ := HV0.out.2.2.1
          go_wp2_with (first
            | (have _ := HV1; go_at_call 30; (with_reducible refine (HNB.out _).mono ?_); rintro e w2 ⟨rfl, hb1⟩; have HV2 : Hid _ := ⟨S4.bel HV1.out hb1⟩; clear hb1 d0 d1 d2 e0 e1 e2 f0 f1 f2 f3; obtain ⟨d0, d1, d2, _⟩ := HV2.out.1; obtain ⟨e0, e1, e2, _⟩ := HV2.out.2.1; obtain ⟨f0, f1, f2, f3⟩ := HV2.out.2.2.1)
            | (go_at_call 30; (with_reducible refine (HNA.out _).mono ?_); rintro e w1 ⟨rfl, hb1⟩; have HV1 : Hid _ := ⟨S4.bel HV0.out hb1⟩; clear hb1 d0 d1 d2 e0 e1 e2 f0 f1 f2 f3; obtain ⟨d0, d1, d2, _⟩ := HV1.out.1; obtain ⟨e0, e1, e2, _⟩ := HV1.out.2.1; obtain ⟨f0, f1, f2, f3⟩ := HV1.out.2.2.1))
          refine bodyPost_ret (resY_Two _ _ (w.heap.size + 1 + 1) _ _ _ rfl (HV2.out.2.2.1.set _ _ _)) rfl ⟨by rfl, S4.res HV2.out _ _ _⟩
      · rw [if_pos rfl, show (some (wrap64 ((n % 18446744073709551616) / 2 ^ i.toNat))).map Vx.num = some (Vx.num _) from rfl, vE_n1]
        unfold isSh at h
        rw [Bool.and_eq_true, decide_eq_true_eq, decide_eq_true_eq] at h
        obtain ⟨h1, h2⟩ := h
        go_enter Tryz.func20, Tryz.ntmps20
        go_upto_region 6 with (fail)
        generalize ((w.alloc (.cells #[.string p, .string m, .int .i64 n] 33)).alloc (.cells #[.string q, .string k, .int .i64 i] 33)).alloc yV = v at *
        obtain ⟨d0, d1, d2, _⟩ := HV0.out.1
        obtain ⟨e0, e1, e2, _⟩ := HV0.out.2.1
        obtain ⟨f0, f1, f2, f3⟩ := HV0.out.2.2.1
        go_wp2_with (first
          | (have _ := HV1; go_at_call 30; (with_reducible refine (HNB.out _).mono ?_); rintro e w2 ⟨rfl, hb1⟩; have HV2 : Hid _ := ⟨S4.bel HV1.out hb1⟩; clear hb1 d0 d1 d2 e0 e1 e2 f0 f1 f2 f3; obtain ⟨d0, d1, d2, _⟩ := HV2.out.1; obtain ⟨e0, e1, e2, _⟩ := HV2.out.2.1; obtain ⟨f0, f1, f2, f3⟩ := HV2.out.2.2.1)
          | (go_at_call 30; (with_reducible refine (HNA.out _).mono ?_); rintro e w1 ⟨rfl, hb1⟩; have HV1 : Hid _ := ⟨S4.bel HV0.out hb1⟩; clear hb1 d0 d1 d2 e0 e1 e2 f0 f1 f2 f3; obtain ⟨d0, d1, d2, _⟩ := HV1.out.1; obtain ⟨e0, e1, e2, _⟩ := HV1.out.2.1; obtain ⟨f0, f1, f2, f3⟩ := HV1.out.2.2.1))
        refine bodyPost_ret (resY_Two _ _ (w.heap.size + 1 + 1) _ _ _ rfl (HV2.out.2.2.1.set _ _ _)) rfl ⟨by rfl, S4.res HV2.out _ _ _⟩

set_option maxRecDepth 20000 in
set_option maxHeartbeats 4000000 in
theorem ytwo_add (p m : ByteArray) (n : Int) (q k : ByteArray) (i : Int) (ha : (⟨p, m, n⟩ : Vx).Ok) (hb : (⟨q, k, i⟩ : Vx).Ok) (w : World) : Calls Tryz.prog 20 #[.string ⟨#[43]⟩, .agg #[.string p, .string m, .int .i64 n], .agg #[.string q, .string k, .int .i64 i]] w fun e w' => e = .returned (vE (addV ⟨p, m, n⟩ ⟨q, k, i⟩)) ∧ Below w.heap.size w w' := by
  have HV0 : Hid _ := ⟨S4.newY w p m n q k i⟩
  have HA : Hid _ := ⟨yadd_any _ _ ha hb⟩
  clear ha hb
  generalize addV ⟨p, m, n⟩ ⟨q, k, i⟩ = M at *
  simp only at HA
  cases M with
  | none =>
    rw [vE_none] at HA ⊢
    go_enter Tryz.func20, Tryz.ntmps20
    go_upto_region 3 with (fail)
    generalize ((w.alloc (.cells #[.string p, .string m, .int .i64 n] 33)).alloc (.cells #[.string q, .string k, .int .i64 i] 33)).alloc yV = v at *
    obtain ⟨d0, d1, d2, _⟩ := HV0.out.1
    obtain ⟨e0, e1, e2, _⟩ := HV0.out.2.1
    obtain ⟨f0, f1, f2, f3⟩ := HV0.out.2.2.1
    go_wp2_with (go_at_call 16; (with_reducible refine (HA.out _).mono ?_); rintro e w1 ⟨rfl, hb1⟩; have HV1 : Hid _ := ⟨S4.bel HV0.out hb1⟩; clear hb1 d0 d1 d2 e0 e1 e2 f0 f1 f2 f3; obtain ⟨f0, f1, f2, f3⟩ := HV1.out.2.2.1)
    refine bodyPost_ret (resY_Two _ _ (w.heap.size + 1 + 1) _ _ _ rfl (HV1.out.2.2.1.set _ _ _)) rfl ⟨rfl, S4.res HV1.out _ _ _⟩
  | some x =>
    obtain ⟨x1, x2, x3⟩ := x
    rw [vE_some] at HA ⊢
    go_enter Tryz.func20, Tryz.ntmps20
    go_upto_region 3 with (fail)
    generalize ((w.alloc (.cells #[.string p, .string m, .int .i64 n] 33)).alloc (.cells #[.string q, .string k, .int .i64 i] 33)).alloc yV = v at *
    obtain ⟨d0, d1, d2, _⟩ := HV0.out.1
    obtain ⟨e0, e1, e2, _⟩ := HV0.out.2.1
    obtain ⟨f0, f1, f2, f3⟩ := HV0.out.2.2.1
    go_wp2_with (go_at_call 16; (with_reducible refine (HA.out _).mono ?_); rintro e w1 ⟨rfl, hb1⟩; have HV1 : Hid _ := ⟨S4.bel HV0.out hb1⟩; clear hb1 d0 d1 d2 e0 e1 e2 f0 f1 f2 f3; obtain ⟨f0, f1, f2, f3⟩ := HV1.out.2.2.1)
    refine bodyPost_ret (resY_Two _ _ (w.heap.size + 1 + 1) _ _ _ rfl (HV1.out.2.2.1.set _ _ _)) rfl ⟨rfl, S4.res HV1.out _ _ _⟩
set_option maxRecDepth 20000 in
set_option maxHeartbeats 4000000 in
theorem ytwo_sub (p m : ByteArray) (n : Int) (q k : ByteArray) (i : Int) (ha : (⟨p, m, n⟩ : Vx).Ok) (hb : (⟨q, k, i⟩ : Vx).Ok) (w : World) : Calls Tryz.prog 20 #[.string ⟨#[45]⟩, .agg #[.string p, .string m, .int .i64 n], .agg #[.string q, .string k, .int .i64 i]] w fun e w' => e = .returned (vE (subV ⟨p, m, n⟩ ⟨q, k, i⟩)) ∧ Below w.heap.size w w' := by
  have HV0 : Hid _ := ⟨S4.newY w p m n q k i⟩
  have HA : Hid _ := ⟨ysub_any _ _ ha hb⟩
  clear ha hb
  generalize subV ⟨p, m, n⟩ ⟨q, k, i⟩ = M at *
  simp only at HA
  cases M with
  | none =>
    rw [vE_none] at HA ⊢
    go_enter Tryz.func20, Tryz.ntmps20
    go_upto_region 5 with (fail)
    generalize ((w.alloc (.cells #[.string p, .string m, .int .i64 n] 33)).alloc (.cells #[.string q, .string k, .int .i64 i] 33)).alloc yV = v at *
    obtain ⟨d0, d1, d2, _⟩ := HV0.out.1
    obtain ⟨e0, e1, e2, _⟩ := HV0.out.2.1
    obtain ⟨f0, f1, f2, f3⟩ := HV0.out.2.2.1
    go_wp2_with (go_at_call 18; (with_reducible refine (HA.out _).mono ?_); rintro e w1 ⟨rfl, hb1⟩; have HV1 : Hid _ := ⟨S4.bel HV0.out hb1⟩; clear hb1 d0 d1 d2 e0 e1 e2 f0 f1 f2 f3; obtain ⟨f0, f1, f2, f3⟩ := HV1.out.2.2.1)
    refine bodyPost_ret (resY_Two _ _ (w.heap.size + 1 + 1) _ _ _ rfl (HV1.out.2.2.1.set _ _ _)) rfl ⟨rfl, S4.res HV1.out _ _ _⟩
  | some x =>
    obtain ⟨x1, x2, x3⟩ := x
    rw [vE_some] at HA ⊢
    go_enter Tryz.func20, Tryz.ntmps20
    go_upto_region 5 with (fail)
    generalize ((w.alloc (.cells #[.string p, .string m, .int .i64 n] 33)).alloc (.cells #[.string q, .string k, .int .i64 i] 33)).alloc yV = v at *
    obtain ⟨d0, d1, d2, _⟩ := HV0.out.1
    obtain ⟨e0, e1, e2, _⟩ := HV0.out.2.1
    obtain ⟨f0, f1, f2, f3⟩ := HV0.out.2.2.1
    go_wp2_with (go_at_call 18; (with_reducible refine (HA.out _).mono ?_); rintro e w1 ⟨rfl, hb1⟩; have HV1 : Hid _ := ⟨S4.bel HV0.out hb1⟩; clear hb1 d0 d1 d2 e0 e1 e2 f0 f1 f2 f3; obtain ⟨f0, f1, f2, f3⟩ := HV1.out.2.2.1)
    refine bodyPost_ret (resY_Two _ _ (w.heap.size + 1 + 1) _ _ _ rfl (HV1.out.2.2.1.set _ _ _)) rfl ⟨rfl, S4.res HV1.out _ _ _⟩
set_option maxRecDepth 20000 in
set_option maxHeartbeats 4000000 in
theorem ytwo_none (S : ByteArray) (h0 : (S.toList == [43]) = false) (h1 : (S.toList == [45]) = false) (h2 : (S.toList == [42]) = false) (h3 : (S.toList == [47]) = false) (h4 : (S.toList == [60, 60]) = false) (h5 : (S.toList == [62, 62]) = false) (h6 : (S.toList == [38]) = false) (h7 : (S.toList == [124]) = false) (h8 : (S.toList == [94]) = false) (p m : ByteArray) (n : Int) (q k : ByteArray) (i : Int) (w : World) : Calls Tryz.prog 20 #[.string S, .agg #[.string p, .string m, .int .i64 n], .agg #[.string q, .string k, .int .i64 i]] w fun e w' => e = .returned (vE (none)) ∧ Below w.heap.size w w' := by
  have HV0 : Hid _ := ⟨S4.newY w p m n q k i⟩
  have HNA : Hid _ := ⟨ynumber_any p m n⟩
  have HNB : Hid _ := ⟨ynumber_any q k i⟩
  rw [vE_none]
  cases h : sB p m
  · rw [h] at HNA
    go_enter Tryz.func20, Tryz.ntmps20
    go_upto_region 6 with (fail)
    generalize ((w.alloc (.cells #[.string p, .string m, .int .i64 n] 33)).alloc (.cells #[.string q, .string k, .int .i64 i] 33)).alloc yV = v at *
    obtain ⟨d0, d1, d2, _⟩ := HV0.out.1
    obtain ⟨e0, e1, e2, _⟩ := HV0.out.2.1
    obtain ⟨f0, f1, f2, f3⟩ := HV0.out.2.2.1
    go_wp2_with (first
      | (have _ := HV1; go_at_call 30; (with_reducible refine (HNB.out _).mono ?_); rintro e w2 ⟨rfl, hb1⟩; have HV2 : Hid _ := ⟨S4.bel HV1.out hb1⟩; clear hb1 d0 d1 d2 e0 e1 e2 f0 f1 f2 f3; obtain ⟨d0, d1, d2, _⟩ := HV2.out.1; obtain ⟨e0, e1, e2, _⟩ := HV2.out.2.1; obtain ⟨f0, f1, f2, f3⟩ := HV2.out.2.2.1)
      | (go_at_call 30; (with_reducible refine (HNA.out _).mono ?_); rintro e w1 ⟨rfl, hb1⟩; have HV1 : Hid _ := ⟨S4.bel HV0.out hb1⟩; clear hb1 d0 d1 d2 e0 e1 e2 f0 f1 f2 f3; obtain ⟨d0, d1, d2, _⟩ := HV1.out.1; obtain ⟨e0, e1, e2, _⟩ := HV1.out.2.1; obtain ⟨f0, f1, f2, f3⟩ := HV1.out.2.2.1))
    refine bodyPost_ret (resY_Two _ _ (w.heap.size + 1 + 1) _ _ _ rfl (HV1.out.2.2.1.set _ _ _)) rfl ⟨by rfl, S4.res HV1.out _ _ _⟩
  · rw [h] at HNA
    clear h
    cases h : sB q k
    all_goals rw [h] at HNB
    all_goals clear h
    · skip
      go_enter Tryz.func20, Tryz.ntmps20
      go_upto_region 6 with (fail)
      generalize ((w.alloc (.cells #[.string p, .string m, .int .i64 n] 33)).alloc (.cells #[.string q, .string k, .int .i64 i] 33)).alloc yV = v at *
      obtain ⟨d0, d1, d2, _⟩ := HV0.out.1
      obtain ⟨e0, e1, e2, _⟩ := HV0.out.2.1
      obtain ⟨f0, f1, f2, f3⟩ := HV0.out.2.2.1
      go_wp2_with (first
        | (have _ := HV1; go_at_call 30; (with_reducible refine (HNB.out _).mono ?_); rintro e w2 ⟨rfl, hb1⟩; have HV2 : Hid _ := ⟨S4.bel HV1.out hb1⟩; clear hb1 d0 d1 d2 e0 e1 e2 f0 f1 f2 f3; obtain ⟨d0, d1, d2, _⟩ := HV2.out.1; obtain ⟨e0, e1, e2, _⟩ := HV2.out.2.1; obtain ⟨f0, f1, f2, f3⟩ := HV2.out.2.2.1)
        | (go_at_call 30; (with_reducible refine (HNA.out _).mono ?_); rintro e w1 ⟨rfl, hb1⟩; have HV1 : Hid _ := ⟨S4.bel HV0.out hb1⟩; clear hb1 d0 d1 d2 e0 e1 e2 f0 f1 f2 f3; obtain ⟨d0, d1, d2, _⟩ := HV1.out.1; obtain ⟨e0, e1, e2, _⟩ := HV1.out.2.1; obtain ⟨f0, f1, f2, f3⟩ := HV1.out.2.2.1))
      refine bodyPost_ret (resY_Two _ _ (w.heap.size + 1 + 1) _ _ _ rfl (HV2.out.2.2.1.set _ _ _)) rfl ⟨by rfl, S4.res HV2.out _ _ _⟩
    · skip
      go_enter Tryz.func20, Tryz.ntmps20
      go_upto_region 6 with (fail)
      generalize ((w.alloc (.cells #[.string p, .string m, .int .i64 n] 33)).alloc (.cells #[.string q, .string k, .int .i64 i] 33)).alloc yV = v at *
      obtain ⟨d0, d1, d2, _⟩ := HV0.out.1
      obtain ⟨e0, e1, e2, _⟩ := HV0.out.2.1
      obtain ⟨f0, f1, f2, f3⟩ := HV0.out.2.2.1
      go_wp2_with (first
        | (have _ := HV1; go_at_call 30; (with_reducible refine (HNB.out _).mono ?_); rintro e w2 ⟨rfl, hb1⟩; have HV2 : Hid _ := ⟨S4.bel HV1.out hb1⟩; clear hb1 d0 d1 d2 e0 e1 e2 f0 f1 f2 f3; obtain ⟨d0, d1, d2, _⟩ := HV2.out.1; obtain ⟨e0, e1, e2, _⟩ := HV2.out.2.1; obtain ⟨f0, f1, f2, f3⟩ := HV2.out.2.2.1)
        | (go_at_call 30; (with_reducible refine (HNA.out _).mono ?_); rintro e w1 ⟨rfl, hb1⟩; have HV1 : Hid _ := ⟨S4.bel HV0.out hb1⟩; clear hb1 d0 d1 d2 e0 e1 e2 f0 f1 f2 f3; obtain ⟨d0, d1, d2, _⟩ := HV1.out.1; obtain ⟨e0, e1, e2, _⟩ := HV1.out.2.1; obtain ⟨f0, f1, f2, f3⟩ := HV1.out.2.2.1))
      refine bodyPost_ret (resY_Two _ _ (w.heap.size + 1 + 1) _ _ _ rfl (HV2.out.2.2.1.set _ _ _)) rfl ⟨by rfl, S4.res HV2.out _ _ _⟩
theorem St_beq (s t : List UInt8) (h : s ≠ t) : ((St s).toList == t) = false := by
  rw [St_is]
  exact decide_eq_false h
theorem ytwo_any (s : List UInt8) (a b : Vx) (ha : a.Ok) (hb : b.Ok) (w : World) : Calls Tryz.prog 20 #[.string (St s), .agg #[.string a.p, .string a.m, .int .i64 a.n], .agg #[.string b.p, .string b.m, .int .i64 b.n]] w fun e w' => e = .returned (vE (twoV s a b)) ∧ Below w.heap.size w w' := by
  obtain ⟨p, m, n⟩ := a
  obtain ⟨q, k, i⟩ := b
  by_cases e1 : s = [43]
  · subst e1; exact ytwo_add p m n q k i ha hb w
  by_cases e2 : s = [45]
  · subst e2; exact ytwo_sub p m n q k i ha hb w

  by_cases e3 : s = [42]
  · subst e3; exact ytwo_mul p m n q k i w
  by_cases e4 : s = [47]
  · subst e4; exact ytwo_div p m n q k i w
  by_cases e5 : s = [60, 60]
  · subst e5; exact ytwo_shl p m n q k i w
  by_cases e6 : s = [62, 62]
  · subst e6; exact ytwo_shr p m n q k i w
  by_cases e7 : s = [38]
  · subst e7; exact ytwo_and p m n q k i w
  by_cases e8 : s = [124]
  · subst e8; exact ytwo_or p m n q k i w
  by_cases e9 : s = [94]
  · subst e9; exact ytwo_xor p m n q k i w
  have e : twoV s ⟨p, m, n⟩ ⟨q, k, i⟩ = none := by
    have : opOf s = none := by
      unfold opOf opsL
      rw [Option.map_eq_none_iff, List.find?_eq_none]
      intro x hx
      simp only [List.mem_cons, List.not_mem_nil, or_false] at hx
      rcases hx with rfl | rfl | rfl | rfl | rfl | rfl | rfl | rfl | rfl <;> simp <;> intro h <;> subst h <;> contradiction
    unfold twoV
    rw [this]
  rw [e]
  exact ytwo_none (St s) (St_beq _ _ e1) (St_beq _ _ e2) (St_beq _ _ e3) (St_beq _ _ e4) (St_beq _ _ e5) (St_beq _ _ e6) (St_beq _ _ e7) (St_beq _ _ e8) (St_beq _ _ e9) p m n q k i w
end Go.Proofs.YtljmbgflcidokaaGreatDoor
