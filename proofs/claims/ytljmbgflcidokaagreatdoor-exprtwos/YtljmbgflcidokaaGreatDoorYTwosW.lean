/- Law ExprTwos: the walk. -/
import Derived.Test.YtljmbgflcidokaaGreatDoorYVal
import Derived.Deep.Cut
import Derived.Deep.RegionHeld3
import Derived.Deep.RegionWith
namespace Go.Proofs.YtljmbgflcidokaaGreatDoor
open Go.ChangeShapes Go.WideShapes Go.ChangeAt Go.RowKit
set_option linter.unusedVariables false
set_option linter.unusedSimpArgs false

theorem bel_eq {v u : World} (h : u = v) : Below v.heap.size v u := by subst h; exact Below.refl _ _
abbrev C6 (w v : World) (p m : ByteArray) (n : Int) (q k : ByteArray) (i : Int) (g1 g2 : Nat) (x1 y1 : ByteArray) (z1 : Int) (g3 g4 : Nat) (x2 y2 : ByteArray) (z2 : Int) (g5 g6 : Nat) (x3 y3 : ByteArray) (z3 : Int) : Prop := v.cell? ⟨w.heap.size, 0, none⟩ = some (.string p) ∧ v.cell? ⟨w.heap.size, 1, none⟩ = some (.string m) ∧ v.cell? ⟨w.heap.size, 2, none⟩ = some (.int .i64 n) ∧ v.cell? ⟨g1, 0, none⟩ = some (.string x1) ∧ v.cell? ⟨g1, 1, none⟩ = some (.string y1) ∧ v.cell? ⟨g1, 2, none⟩ = some (.int .i64 z1) ∧ v.cell? ⟨g2, 0, none⟩ = some (.string x1) ∧ v.cell? ⟨g2, 1, none⟩ = some (.string y1) ∧ v.cell? ⟨g2, 2, none⟩ = some (.int .i64 z1) ∧ v.cell? ⟨g3, 0, none⟩ = some (.string x2) ∧ v.cell? ⟨g3, 1, none⟩ = some (.string y2) ∧ v.cell? ⟨g3, 2, none⟩ = some (.int .i64 z2) ∧ v.cell? ⟨g4, 0, none⟩ = some (.string x2) ∧ v.cell? ⟨g4, 1, none⟩ = some (.string y2) ∧ v.cell? ⟨g4, 2, none⟩ = some (.int .i64 z2) ∧ v.cell? ⟨g5, 0, none⟩ = some (.string x3) ∧ v.cell? ⟨g5, 1, none⟩ = some (.string y3) ∧ v.cell? ⟨g5, 2, none⟩ = some (.int .i64 z3) ∧ v.cell? ⟨g6, 0, none⟩ = some (.string x3) ∧ v.cell? ⟨g6, 1, none⟩ = some (.string y3) ∧ v.cell? ⟨g6, 2, none⟩ = some (.int .i64 z3) ∧ Hid (Below w.heap.size w v)
theorem C6.bel {w v : World} {p m : ByteArray} {n : Int} {q k : ByteArray} {i : Int} {g1 g2 : Nat} {x1 y1 : ByteArray} {z1 : Int} {g3 g4 : Nat} {x2 y2 : ByteArray} {z2 : Int} {g5 g6 : Nat} {x3 y3 : ByteArray} {z3 : Int} {u : World} (h : C6 w v p m n q k i g1 g2 x1 y1 z1 g3 g4 x2 y2 z2 g5 g6 x3 y3 z3) (hb : Below v.heap.size v u) : C6 w u p m n q k i g1 g2 x1 y1 z1 g3 g4 x2 y2 z2 g5 g6 x3 y3 z3 :=
  ⟨to_bel hb h.1, to_bel hb h.2.1, to_bel hb h.2.2.1, to_bel hb h.2.2.2.1, to_bel hb h.2.2.2.2.1, to_bel hb h.2.2.2.2.2.1, to_bel hb h.2.2.2.2.2.2.1, to_bel hb h.2.2.2.2.2.2.2.1, to_bel hb h.2.2.2.2.2.2.2.2.1, to_bel hb h.2.2.2.2.2.2.2.2.2.1, to_bel hb h.2.2.2.2.2.2.2.2.2.2.1, to_bel hb h.2.2.2.2.2.2.2.2.2.2.2.1, to_bel hb h.2.2.2.2.2.2.2.2.2.2.2.2.1, to_bel hb h.2.2.2.2.2.2.2.2.2.2.2.2.2.1, to_bel hb h.2.2.2.2.2.2.2.2.2.2.2.2.2.2.1, to_bel hb h.2.2.2.2.2.2.2.2.2.2.2.2.2.2.2.1, to_bel hb h.2.2.2.2.2.2.2.2.2.2.2.2.2.2.2.2.1, to_bel hb h.2.2.2.2.2.2.2.2.2.2.2.2.2.2.2.2.2.1, to_bel hb h.2.2.2.2.2.2.2.2.2.2.2.2.2.2.2.2.2.2.1, to_bel hb h.2.2.2.2.2.2.2.2.2.2.2.2.2.2.2.2.2.2.2.1, to_bel hb h.2.2.2.2.2.2.2.2.2.2.2.2.2.2.2.2.2.2.2.2.1, ⟨bel_trans h.2.2.2.2.2.2.2.2.2.2.2.2.2.2.2.2.2.2.2.2.2.out hb⟩⟩
theorem C6.below {w v : World} {p m : ByteArray} {n : Int} {q k : ByteArray} {i : Int} {g1 g2 : Nat} {x1 y1 : ByteArray} {z1 : Int} {g3 g4 : Nat} {x2 y2 : ByteArray} {z2 : Int} {g5 g6 : Nat} {x3 y3 : ByteArray} {z3 : Int} (h : C6 w v p m n q k i g1 g2 x1 y1 z1 g3 g4 x2 y2 z2 g5 g6 x3 y3 z3) : Below w.heap.size w v := h.2.2.2.2.2.2.2.2.2.2.2.2.2.2.2.2.2.2.2.2.2.out
theorem cells6 {w v : World} {p m : ByteArray} {n : Int} {q k : ByteArray} {i : Int} {g1 g2 : Nat} {x1 y1 : ByteArray} {z1 : Int} {g3 g4 : Nat} {x2 y2 : ByteArray} {z2 : Int} {g5 g6 : Nat} {x3 y3 : ByteArray} {z3 : Int} (h : S2 w v p m n q k i ∧ VB v g1 x1 y1 z1 ∧ VB v g2 x1 y1 z1 ∧ VB v g3 x2 y2 z2 ∧ VB v g4 x2 y2 z2 ∧ VB v g5 x3 y3 z3 ∧ VB v g6 x3 y3 z3) : C6 w v p m n q k i g1 g2 x1 y1 z1 g3 g4 x2 y2 z2 g5 g6 x3 y3 z3 := ⟨h.1.1.c0, h.1.1.c1, h.1.1.c2, h.2.1.c0, h.2.1.c1, h.2.1.c2, h.2.2.1.c0, h.2.2.1.c1, h.2.2.1.c2, h.2.2.2.1.c0, h.2.2.2.1.c1, h.2.2.2.1.c2, h.2.2.2.2.1.c0, h.2.2.2.2.1.c1, h.2.2.2.2.1.c2, h.2.2.2.2.2.1.c0, h.2.2.2.2.2.1.c1, h.2.2.2.2.2.1.c2, h.2.2.2.2.2.2.c0, h.2.2.2.2.2.2.c1, h.2.2.2.2.2.2.c2, ⟨h.1.2.2⟩⟩

set_option maxRecDepth 20000 in
set_option maxHeartbeats 8000000 in
theorem exprTwos_walk (w : World) (hE : Er w) (S : ByteArray) (hS : S.size ≤ 140737488355328) (p m : ByteArray) (n : Int) (q k : ByteArray) (i : Int) (ha : (⟨p, m, n⟩ : Vx).Ok) (hb : (⟨q, k, i⟩ : Vx).Ok) (hn : i64 n) : Calls Tryz.prog 4 #[.string S, .agg #[.string p, .string m, .int .i64 n], .agg #[.string q, .string k, .int .i64 i]] w fun e w' => e = .returned (.bool true) ∧ Below w.heap.size w w' := by
  have HP1 : Hid _ := ⟨add_any ⟨p, m, n⟩ ⟨q, k, i⟩ ha hb⟩
  have HY1 : Hid _ := ⟨yadd_any ⟨p, m, n⟩ ⟨q, k, i⟩ ha hb⟩
  obtain ⟨x1, y1, z1, r1, hM1⟩ := vE_ex (addV ⟨p, m, n⟩ ⟨q, k, i⟩)
  rw [hM1] at HP1 HY1
  simp only at HP1 HY1
  clear hM1
  have HP2 : Hid _ := ⟨sub_any ⟨p, m, n⟩ ⟨q, k, i⟩ ha hb⟩
  have HY2 : Hid _ := ⟨ysub_any ⟨p, m, n⟩ ⟨q, k, i⟩ ha hb⟩
  obtain ⟨x2, y2, z2, r2, hM2⟩ := vE_ex (subV ⟨p, m, n⟩ ⟨q, k, i⟩)
  rw [hM2] at HP2 HY2
  simp only at HP2 HY2
  clear hM2
  have HP3 : Hid _ := ⟨two_any (lo S) (by rw [← St_size, St_lo]; exact hS) ⟨p, m, n⟩ ⟨q, k, i⟩ ha hb⟩
  have HY3 : Hid _ := ⟨ytwo_any (lo S) ⟨p, m, n⟩ ⟨q, k, i⟩ ha hb⟩
  obtain ⟨x3, y3, z3, r3, hM3⟩ := vE_ex (twoV (lo S) ⟨p, m, n⟩ ⟨q, k, i⟩)
  rw [hM3] at HP3 HY3
  simp only at HP3 HY3
  rw [St_lo] at HP3 HY3
  clear hM3
  have HTP : Hid (∀ v, Below w.heap.size w v → Calls Tryz.prog 21 #[.agg #[.string p, .string m, .int .i64 n]] v fun e w' => e = .returned (.string (textV ⟨p, m, n⟩)) ∧ Below v.heap.size v w') := ⟨fun v h => text_any p m n ha hn v (hE.bel h)⟩
  have HTY : Hid (∀ v, Calls Tryz.prog 22 #[.agg #[.string p, .string m, .int .i64 n]] v fun e w' => e = .returned (.string (textV ⟨p, m, n⟩)) ∧ Below v.heap.size v w') := ⟨fun v => ytext_any p m n ha hn v⟩
  have HK : Hid (∀ v, Below w.heap.size w v → Calls Tryz.prog 14 #[] v fun e w' => e = .returned (.bool true) ∧ Below v.heap.size v w') := ⟨fun v h => knows_any v (hE.bel h)⟩
  have HVal : Hid _ := ⟨valY_any⟩
  generalize textV ⟨p, m, n⟩ = X at *
  clear ha hb hn hE hS
  have H0 : Hid (S2 w ((w.alloc (.cells #[.string p, .string m, .int .i64 n] 33)).alloc (.cells #[.string q, .string k, .int .i64 i] 33)) p m n q k i) := ⟨(VB.newY w p m n).alloc _, VB.atY _ q k i (w.heap.size + 1) (by simp), bel_alloc (bel_alloc (Below.refl _ _) _) _⟩
  go_enter Tryz.func4, Tryz.ntmps4
  go_upto_region 1 with (fail)
  generalize (w.alloc (.cells #[.string p, .string m, .int .i64 n] 33)).alloc (.cells #[.string q, .string k, .int .i64 i] 33) = v0 at *
  go_cut [7, 8] from 19 to 26 (fun s t wx => ∃ g, s = .pointer (some ⟨g, 0, none⟩) ∧ t = .int .i64 r1 ∧ Hid (S2 w wx p m n q k i ∧ VB wx g x1 y1 z1))
  case first =>
    clear HTP HTY HK HP2 HP3 HY1 HY2 HY3
    have D := hid (S2.bel H0.out (Below.refl _ _).drew)
    obtain ⟨d0, d1, d2, _⟩ := D.out.1
    obtain ⟨e0, e1, e2, _⟩ := D.out.2.1
    have d0a := up_alloc d0 zV
    have d1a := up_alloc d1 zV
    have d2a := up_alloc d2 zV
    have e0a := up_alloc e0 zV
    have e1a := up_alloc e1 zV
    have e2a := up_alloc e2 zV
    have DA := hid (S2.bel H0.out (bel_alloc (Below.refl _ _) zV).drew)
    obtain ⟨d0b, d1b, d2b, _⟩ := DA.out.1
    obtain ⟨e0b, e1b, e2b, _⟩ := DA.out.2.1
    go_region_with (first
      | (go_at_call 15; (with_reducible refine (HP1.out _).mono ?_); rintro e w3 ⟨rfl, hb3⟩; (first | (have Zq := Z.bel hb3 Z.lt; have BZq : Hid _ := ⟨bel_trans BZ.out hb3⟩; have E3 : Hid (S2 w w3 p m n q k i) := ⟨S2.bel E2.out hb3⟩; clear Z BZ; have Z := Zq; have BZ := BZq; clear Zq BZq) | (have E3 : Hid (S2 w w3 p m n q k i) := ⟨S2.bel E2.out hb3⟩) | (have E3 : Hid (S2 w w3 p m n q k i) := ⟨S2.bel E2.out (bel_trans (bel_alloc (Below.refl _ _) _) hb3)⟩; have Z : VB w3 _ ⟨#[]⟩ ⟨#[]⟩ 0 := (VB.new _ ⟨#[]⟩ ⟨#[]⟩ 0).bel hb3 (by simp); have BZ : Hid _ := ⟨bel_trans (bel_alloc (Below.refl _ _) _) hb3⟩; have EZ := E2)); clear hb3; try (obtain ⟨f0, f1, f2, f3⟩ := id Z))
      | (have _ := E1; go_at_call 12; (with_reducible refine (HVal.out _ _ _ _).mono ?_); rintro e w2 ⟨rfl, hb2⟩; (first | (have Zq := Z.bel hb2 Z.lt; have BZq : Hid _ := ⟨bel_trans BZ.out hb2⟩; have E2 : Hid (S2 w w2 p m n q k i) := ⟨S2.bel E1.out hb2⟩; clear Z BZ; have Z := Zq; have BZ := BZq; clear Zq BZq) | (have E2 : Hid (S2 w w2 p m n q k i) := ⟨S2.bel E1.out hb2⟩) | (have E2 : Hid (S2 w w2 p m n q k i) := ⟨S2.bel E1.out (bel_trans (bel_alloc (Below.refl _ _) _) hb2)⟩; have Z : VB w2 _ ⟨#[]⟩ ⟨#[]⟩ 0 := (VB.new _ ⟨#[]⟩ ⟨#[]⟩ 0).bel hb2 (by simp); have BZ : Hid _ := ⟨bel_trans (bel_alloc (Below.refl _ _) _) hb2⟩; have EZ := E1)); clear hb2; obtain ⟨d0, d1, d2, _⟩ := E2.out.1; obtain ⟨e0, e1, e2, _⟩ := E2.out.2.1; have d0a := up_alloc d0 zV; have d1a := up_alloc d1 zV; have d2a := up_alloc d2 zV; have e0a := up_alloc e0 zV; have e1a := up_alloc e1 zV; have e2a := up_alloc e2 zV)
      | (go_at_call 12; (with_reducible refine (HVal.out _ _ _ _).mono ?_); rintro e w1 ⟨rfl, hb1⟩; (first | (have Zq := Z.bel hb1 Z.lt; have BZq : Hid _ := ⟨bel_trans BZ.out hb1⟩; have E1 : Hid (S2 w w1 p m n q k i) := ⟨S2.bel D.out hb1⟩; clear Z BZ; have Z := Zq; have BZ := BZq; clear Zq BZq) | (have E1 : Hid (S2 w w1 p m n q k i) := ⟨S2.bel D.out hb1⟩) | (have E1 : Hid (S2 w w1 p m n q k i) := ⟨S2.bel D.out (bel_trans (bel_alloc (Below.refl _ _) _) hb1)⟩; have Z : VB w1 _ ⟨#[]⟩ ⟨#[]⟩ 0 := (VB.new _ ⟨#[]⟩ ⟨#[]⟩ 0).bel hb1 (by simp); have BZ : Hid _ := ⟨bel_trans (bel_alloc (Below.refl _ _) _) hb1⟩; have EZ := D) | (have E1 : Hid (S2 w w1 p m n q k i) := ⟨S2.bel H0.out (bel_trans (bel_alloc (Below.refl _ _) _).drew hb1)⟩; have Z : VB w1 _ ⟨#[]⟩ ⟨#[]⟩ 0 := ((VB.new _ ⟨#[]⟩ ⟨#[]⟩ 0).drewN 1).bel hb1 (by simp [World.drew]); have BZ : Hid _ := ⟨bel_trans (bel_alloc (Below.refl _ _) _).drew hb1⟩; have EZ := H0)); clear hb1; obtain ⟨d0, d1, d2, _⟩ := E1.out.1; obtain ⟨e0, e1, e2, _⟩ := E1.out.2.1; have d0a := up_alloc d0 zV; have d1a := up_alloc d1 zV; have d2a := up_alloc d2 zV; have e0a := up_alloc e0 zV; have e1a := up_alloc e1 zV; have e2a := up_alloc e2 zV))
    all_goals
      go_wp2_with (fail)
      go_meet
      first | exact ⟨w3.heap.size, rfl, rfl, ⟨⟨S2.bel E3.out (bel_alloc (Below.refl _ _) _), VB.at _ _ _ _ _ rfl⟩⟩⟩ | exact ⟨_, rfl, rfl, ⟨⟨S2.bel EZ.out (((BZ.out.setCell (Nat.le_refl _) _).setCell (Nat.le_refl _) _).setCell (Nat.le_refl _) _), Z.set _ _ _⟩⟩⟩
  case rest =>
  obtain ⟨g1, hs, ht, H1⟩ := hcut
  subst hs ht
  clear H0 HP1
  go_upto_region 2 with (fail)
  go_cut [9, 10] from 27 to 32 (fun s t wx => ∃ g, s = .pointer (some ⟨g, 0, none⟩) ∧ t = .int .i64 r1 ∧ Hid (S2 w wx p m n q k i ∧ VB wx g1 x1 y1 z1 ∧ VB wx g x1 y1 z1))
  case first =>
    clear HTP HTY HK HVal HP2 HP3 HY2 HY3
    obtain ⟨d0, d1, d2, _⟩ := H1.out.1.1
    obtain ⟨e0, e1, e2, _⟩ := H1.out.1.2.1
    go_wp2_with (go_at_call 16; (with_reducible refine (HY1.out _).mono ?_); rintro e w3 ⟨rfl, hb3⟩; have E3 : Hid (S2 w w3 p m n q k i ∧ VB w3 g1 x1 y1 z1) := ⟨⟨S2.bel H1.out.1 hb3, H1.out.2.bel hb3 H1.out.2.lt⟩⟩; clear hb3)
    go_meet
    exact ⟨w3.heap.size, rfl, rfl, ⟨⟨S2.bel E3.out.1 (bel_alloc (Below.refl _ _) _), E3.out.2.bel (bel_alloc (Below.refl _ _) _) E3.out.2.lt, VB.atY _ _ _ _ _ rfl⟩⟩⟩
  case rest =>
  obtain ⟨g2, hs, ht, H2⟩ := hcut
  subst hs ht
  clear H1 HY1
  go_upto_region 3 with (fail)
  go_cut [11, 12] from 33 to 40 (fun s t wx => ∃ g, s = .pointer (some ⟨g, 0, none⟩) ∧ t = .int .i64 r2 ∧ Hid (S2 w wx p m n q k i ∧ VB wx g1 x1 y1 z1 ∧ VB wx g2 x1 y1 z1 ∧ VB wx g x2 y2 z2))
  case first =>
    clear HTP HTY HK HP3 HY2 HY3
    have D := hid ((And.intro (S2.bel H2.out.1 (Below.refl _ _).drew) (And.intro (H2.out.2.1.bel (Below.refl _ _).drew H2.out.2.1.lt) (H2.out.2.2.bel (Below.refl _ _).drew H2.out.2.2.lt))))
    obtain ⟨d0, d1, d2, _⟩ := D.out.1.1
    obtain ⟨e0, e1, e2, _⟩ := D.out.1.2.1
    have d0a := up_alloc d0 zV
    have d1a := up_alloc d1 zV
    have d2a := up_alloc d2 zV
    have e0a := up_alloc e0 zV
    have e1a := up_alloc e1 zV
    have e2a := up_alloc e2 zV
    have DA := hid ((And.intro (S2.bel H2.out.1 (bel_alloc (Below.refl _ _) zV).drew) (And.intro (H2.out.2.1.bel (bel_alloc (Below.refl _ _) zV).drew H2.out.2.1.lt) (H2.out.2.2.bel (bel_alloc (Below.refl _ _) zV).drew H2.out.2.2.lt))))
    obtain ⟨d0b, d1b, d2b, _⟩ := DA.out.1.1
    obtain ⟨e0b, e1b, e2b, _⟩ := DA.out.1.2.1
    go_region_with (first
      | (go_at_call 17; (with_reducible refine (HP2.out _).mono ?_); rintro e w3 ⟨rfl, hb3⟩; (first | (have Zq := Z.bel hb3 Z.lt; have BZq : Hid _ := ⟨bel_trans BZ.out hb3⟩; have E3 : Hid (S2 w w3 p m n q k i ∧ VB w3 g1 x1 y1 z1 ∧ VB w3 g2 x1 y1 z1) := ⟨⟨S2.bel E2.out.1 hb3, E2.out.2.1.bel hb3 E2.out.2.1.lt, E2.out.2.2.bel hb3 E2.out.2.2.lt⟩⟩; clear Z BZ; have Z := Zq; have BZ := BZq; clear Zq BZq) | (have E3 : Hid (S2 w w3 p m n q k i ∧ VB w3 g1 x1 y1 z1 ∧ VB w3 g2 x1 y1 z1) := ⟨⟨S2.bel E2.out.1 hb3, E2.out.2.1.bel hb3 E2.out.2.1.lt, E2.out.2.2.bel hb3 E2.out.2.2.lt⟩⟩) | (have E3 : Hid (S2 w w3 p m n q k i ∧ VB w3 g1 x1 y1 z1 ∧ VB w3 g2 x1 y1 z1) := ⟨⟨S2.bel E2.out.1 (bel_trans (bel_alloc (Below.refl _ _) _) hb3), E2.out.2.1.bel (bel_trans (bel_alloc (Below.refl _ _) _) hb3) E2.out.2.1.lt, E2.out.2.2.bel (bel_trans (bel_alloc (Below.refl _ _) _) hb3) E2.out.2.2.lt⟩⟩; have Z : VB w3 _ ⟨#[]⟩ ⟨#[]⟩ 0 := (VB.new _ ⟨#[]⟩ ⟨#[]⟩ 0).bel hb3 (by simp); have BZ : Hid _ := ⟨bel_trans (bel_alloc (Below.refl _ _) _) hb3⟩; have EZ := E2)); clear hb3; try (obtain ⟨f0, f1, f2, f3⟩ := id Z))
      | (have _ := E1; go_at_call 12; (with_reducible refine (HVal.out _ _ _ _).mono ?_); rintro e w2 ⟨rfl, hb2⟩; (first | (have Zq := Z.bel hb2 Z.lt; have BZq : Hid _ := ⟨bel_trans BZ.out hb2⟩; have E2 : Hid (S2 w w2 p m n q k i ∧ VB w2 g1 x1 y1 z1 ∧ VB w2 g2 x1 y1 z1) := ⟨⟨S2.bel E1.out.1 hb2, E1.out.2.1.bel hb2 E1.out.2.1.lt, E1.out.2.2.bel hb2 E1.out.2.2.lt⟩⟩; clear Z BZ; have Z := Zq; have BZ := BZq; clear Zq BZq) | (have E2 : Hid (S2 w w2 p m n q k i ∧ VB w2 g1 x1 y1 z1 ∧ VB w2 g2 x1 y1 z1) := ⟨⟨S2.bel E1.out.1 hb2, E1.out.2.1.bel hb2 E1.out.2.1.lt, E1.out.2.2.bel hb2 E1.out.2.2.lt⟩⟩) | (have E2 : Hid (S2 w w2 p m n q k i ∧ VB w2 g1 x1 y1 z1 ∧ VB w2 g2 x1 y1 z1) := ⟨⟨S2.bel E1.out.1 (bel_trans (bel_alloc (Below.refl _ _) _) hb2), E1.out.2.1.bel (bel_trans (bel_alloc (Below.refl _ _) _) hb2) E1.out.2.1.lt, E1.out.2.2.bel (bel_trans (bel_alloc (Below.refl _ _) _) hb2) E1.out.2.2.lt⟩⟩; have Z : VB w2 _ ⟨#[]⟩ ⟨#[]⟩ 0 := (VB.new _ ⟨#[]⟩ ⟨#[]⟩ 0).bel hb2 (by simp); have BZ : Hid _ := ⟨bel_trans (bel_alloc (Below.refl _ _) _) hb2⟩; have EZ := E1)); clear hb2; obtain ⟨d0, d1, d2, _⟩ := E2.out.1.1; obtain ⟨e0, e1, e2, _⟩ := E2.out.1.2.1; have d0a := up_alloc d0 zV; have d1a := up_alloc d1 zV; have d2a := up_alloc d2 zV; have e0a := up_alloc e0 zV; have e1a := up_alloc e1 zV; have e2a := up_alloc e2 zV)
      | (go_at_call 12; (with_reducible refine (HVal.out _ _ _ _).mono ?_); rintro e w1 ⟨rfl, hb1⟩; (first | (have Zq := Z.bel hb1 Z.lt; have BZq : Hid _ := ⟨bel_trans BZ.out hb1⟩; have E1 : Hid (S2 w w1 p m n q k i ∧ VB w1 g1 x1 y1 z1 ∧ VB w1 g2 x1 y1 z1) := ⟨⟨S2.bel D.out.1 hb1, D.out.2.1.bel hb1 D.out.2.1.lt, D.out.2.2.bel hb1 D.out.2.2.lt⟩⟩; clear Z BZ; have Z := Zq; have BZ := BZq; clear Zq BZq) | (have E1 : Hid (S2 w w1 p m n q k i ∧ VB w1 g1 x1 y1 z1 ∧ VB w1 g2 x1 y1 z1) := ⟨⟨S2.bel D.out.1 hb1, D.out.2.1.bel hb1 D.out.2.1.lt, D.out.2.2.bel hb1 D.out.2.2.lt⟩⟩) | (have E1 : Hid (S2 w w1 p m n q k i ∧ VB w1 g1 x1 y1 z1 ∧ VB w1 g2 x1 y1 z1) := ⟨⟨S2.bel D.out.1 (bel_trans (bel_alloc (Below.refl _ _) _) hb1), D.out.2.1.bel (bel_trans (bel_alloc (Below.refl _ _) _) hb1) D.out.2.1.lt, D.out.2.2.bel (bel_trans (bel_alloc (Below.refl _ _) _) hb1) D.out.2.2.lt⟩⟩; have Z : VB w1 _ ⟨#[]⟩ ⟨#[]⟩ 0 := (VB.new _ ⟨#[]⟩ ⟨#[]⟩ 0).bel hb1 (by simp); have BZ : Hid _ := ⟨bel_trans (bel_alloc (Below.refl _ _) _) hb1⟩; have EZ := D) | (have E1 : Hid (S2 w w1 p m n q k i ∧ VB w1 g1 x1 y1 z1 ∧ VB w1 g2 x1 y1 z1) := ⟨⟨S2.bel H2.out.1 (bel_trans (bel_alloc (Below.refl _ _) _).drew hb1), H2.out.2.1.bel (bel_trans (bel_alloc (Below.refl _ _) _).drew hb1) H2.out.2.1.lt, H2.out.2.2.bel (bel_trans (bel_alloc (Below.refl _ _) _).drew hb1) H2.out.2.2.lt⟩⟩; have Z : VB w1 _ ⟨#[]⟩ ⟨#[]⟩ 0 := ((VB.new _ ⟨#[]⟩ ⟨#[]⟩ 0).drewN 1).bel hb1 (by simp [World.drew]); have BZ : Hid _ := ⟨bel_trans (bel_alloc (Below.refl _ _) _).drew hb1⟩; have EZ := H2)); clear hb1; obtain ⟨d0, d1, d2, _⟩ := E1.out.1.1; obtain ⟨e0, e1, e2, _⟩ := E1.out.1.2.1; have d0a := up_alloc d0 zV; have d1a := up_alloc d1 zV; have d2a := up_alloc d2 zV; have e0a := up_alloc e0 zV; have e1a := up_alloc e1 zV; have e2a := up_alloc e2 zV))
    all_goals
      go_wp2_with (fail)
      go_meet
      first | exact ⟨w3.heap.size, rfl, rfl, ⟨⟨S2.bel E3.out.1 (bel_alloc (Below.refl _ _) _), E3.out.2.1.bel (bel_alloc (Below.refl _ _) _) E3.out.2.1.lt, E3.out.2.2.bel (bel_alloc (Below.refl _ _) _) E3.out.2.2.lt, VB.at _ _ _ _ _ rfl⟩⟩⟩ | exact ⟨_, rfl, rfl, ⟨⟨S2.bel EZ.out.1 (((BZ.out.setCell (Nat.le_refl _) _).setCell (Nat.le_refl _) _).setCell (Nat.le_refl _) _), EZ.out.2.1.bel (((BZ.out.setCell (Nat.le_refl _) _).setCell (Nat.le_refl _) _).setCell (Nat.le_refl _) _) EZ.out.2.1.lt, EZ.out.2.2.bel (((BZ.out.setCell (Nat.le_refl _) _).setCell (Nat.le_refl _) _).setCell (Nat.le_refl _) _) EZ.out.2.2.lt, Z.set _ _ _⟩⟩⟩
  case rest =>
  obtain ⟨g3, hs, ht, H3⟩ := hcut
  subst hs ht
  clear H2 HP2
  go_upto_region 4 with (fail)
  go_cut [13, 14] from 41 to 46 (fun s t wx => ∃ g, s = .pointer (some ⟨g, 0, none⟩) ∧ t = .int .i64 r2 ∧ Hid (S2 w wx p m n q k i ∧ VB wx g1 x1 y1 z1 ∧ VB wx g2 x1 y1 z1 ∧ VB wx g3 x2 y2 z2 ∧ VB wx g x2 y2 z2))
  case first =>
    clear HTP HTY HK HVal HP3 HY3
    obtain ⟨d0, d1, d2, _⟩ := H3.out.1.1
    obtain ⟨e0, e1, e2, _⟩ := H3.out.1.2.1
    go_wp2_with (go_at_call 18; (with_reducible refine (HY2.out _).mono ?_); rintro e w3 ⟨rfl, hb3⟩; have E3 : Hid (S2 w w3 p m n q k i ∧ VB w3 g1 x1 y1 z1 ∧ VB w3 g2 x1 y1 z1 ∧ VB w3 g3 x2 y2 z2) := ⟨⟨S2.bel H3.out.1 hb3, H3.out.2.1.bel hb3 H3.out.2.1.lt, H3.out.2.2.1.bel hb3 H3.out.2.2.1.lt, H3.out.2.2.2.bel hb3 H3.out.2.2.2.lt⟩⟩; clear hb3)
    go_meet
    exact ⟨w3.heap.size, rfl, rfl, ⟨⟨S2.bel E3.out.1 (bel_alloc (Below.refl _ _) _), E3.out.2.1.bel (bel_alloc (Below.refl _ _) _) E3.out.2.1.lt, E3.out.2.2.1.bel (bel_alloc (Below.refl _ _) _) E3.out.2.2.1.lt, E3.out.2.2.2.bel (bel_alloc (Below.refl _ _) _) E3.out.2.2.2.lt, VB.atY _ _ _ _ _ rfl⟩⟩⟩
  case rest =>
  obtain ⟨g4, hs, ht, H4⟩ := hcut
  subst hs ht
  clear H3 HY2
  go_upto_region 5 with (fail)
  go_cut [15, 16] from 47 to 55 (fun s t wx => ∃ g, s = .pointer (some ⟨g, 0, none⟩) ∧ t = .int .i64 r3 ∧ Hid (S2 w wx p m n q k i ∧ VB wx g1 x1 y1 z1 ∧ VB wx g2 x1 y1 z1 ∧ VB wx g3 x2 y2 z2 ∧ VB wx g4 x2 y2 z2 ∧ VB wx g x3 y3 z3))
  case first =>
    clear HTP HTY HK HY3
    have D := hid ((And.intro (S2.bel H4.out.1 (Below.refl _ _).drew) (And.intro (H4.out.2.1.bel (Below.refl _ _).drew H4.out.2.1.lt) (And.intro (H4.out.2.2.1.bel (Below.refl _ _).drew H4.out.2.2.1.lt) (And.intro (H4.out.2.2.2.1.bel (Below.refl _ _).drew H4.out.2.2.2.1.lt) (H4.out.2.2.2.2.bel (Below.refl _ _).drew H4.out.2.2.2.2.lt))))))
    obtain ⟨d0, d1, d2, _⟩ := D.out.1.1
    obtain ⟨e0, e1, e2, _⟩ := D.out.1.2.1
    have d0a := up_alloc d0 zV
    have d1a := up_alloc d1 zV
    have d2a := up_alloc d2 zV
    have e0a := up_alloc e0 zV
    have e1a := up_alloc e1 zV
    have e2a := up_alloc e2 zV
    have DA := hid ((And.intro (S2.bel H4.out.1 (bel_alloc (Below.refl _ _) zV).drew) (And.intro (H4.out.2.1.bel (bel_alloc (Below.refl _ _) zV).drew H4.out.2.1.lt) (And.intro (H4.out.2.2.1.bel (bel_alloc (Below.refl _ _) zV).drew H4.out.2.2.1.lt) (And.intro (H4.out.2.2.2.1.bel (bel_alloc (Below.refl _ _) zV).drew H4.out.2.2.2.1.lt) (H4.out.2.2.2.2.bel (bel_alloc (Below.refl _ _) zV).drew H4.out.2.2.2.2.lt))))))
    obtain ⟨d0b, d1b, d2b, _⟩ := DA.out.1.1
    obtain ⟨e0b, e1b, e2b, _⟩ := DA.out.1.2.1
    go_region_with (first
      | (go_at_call 19; (with_reducible refine (HP3.out _).mono ?_); rintro e w3 ⟨rfl, hb3⟩; (first | (have Zq := Z.bel hb3 Z.lt; have BZq : Hid _ := ⟨bel_trans BZ.out hb3⟩; have E3 : Hid (S2 w w3 p m n q k i ∧ VB w3 g1 x1 y1 z1 ∧ VB w3 g2 x1 y1 z1 ∧ VB w3 g3 x2 y2 z2 ∧ VB w3 g4 x2 y2 z2) := ⟨⟨S2.bel E2.out.1 hb3, E2.out.2.1.bel hb3 E2.out.2.1.lt, E2.out.2.2.1.bel hb3 E2.out.2.2.1.lt, E2.out.2.2.2.1.bel hb3 E2.out.2.2.2.1.lt, E2.out.2.2.2.2.bel hb3 E2.out.2.2.2.2.lt⟩⟩; clear Z BZ; have Z := Zq; have BZ := BZq; clear Zq BZq) | (have E3 : Hid (S2 w w3 p m n q k i ∧ VB w3 g1 x1 y1 z1 ∧ VB w3 g2 x1 y1 z1 ∧ VB w3 g3 x2 y2 z2 ∧ VB w3 g4 x2 y2 z2) := ⟨⟨S2.bel E2.out.1 hb3, E2.out.2.1.bel hb3 E2.out.2.1.lt, E2.out.2.2.1.bel hb3 E2.out.2.2.1.lt, E2.out.2.2.2.1.bel hb3 E2.out.2.2.2.1.lt, E2.out.2.2.2.2.bel hb3 E2.out.2.2.2.2.lt⟩⟩) | (have E3 : Hid (S2 w w3 p m n q k i ∧ VB w3 g1 x1 y1 z1 ∧ VB w3 g2 x1 y1 z1 ∧ VB w3 g3 x2 y2 z2 ∧ VB w3 g4 x2 y2 z2) := ⟨⟨S2.bel E2.out.1 (bel_trans (bel_alloc (Below.refl _ _) _) hb3), E2.out.2.1.bel (bel_trans (bel_alloc (Below.refl _ _) _) hb3) E2.out.2.1.lt, E2.out.2.2.1.bel (bel_trans (bel_alloc (Below.refl _ _) _) hb3) E2.out.2.2.1.lt, E2.out.2.2.2.1.bel (bel_trans (bel_alloc (Below.refl _ _) _) hb3) E2.out.2.2.2.1.lt, E2.out.2.2.2.2.bel (bel_trans (bel_alloc (Below.refl _ _) _) hb3) E2.out.2.2.2.2.lt⟩⟩; have Z : VB w3 _ ⟨#[]⟩ ⟨#[]⟩ 0 := (VB.new _ ⟨#[]⟩ ⟨#[]⟩ 0).bel hb3 (by simp); have BZ : Hid _ := ⟨bel_trans (bel_alloc (Below.refl _ _) _) hb3⟩; have EZ := E2)); clear hb3; try (obtain ⟨f0, f1, f2, f3⟩ := id Z))
      | (have _ := E1; go_at_call 12; (with_reducible refine (HVal.out _ _ _ _).mono ?_); rintro e w2 ⟨rfl, hb2⟩; (first | (have Zq := Z.bel hb2 Z.lt; have BZq : Hid _ := ⟨bel_trans BZ.out hb2⟩; have E2 : Hid (S2 w w2 p m n q k i ∧ VB w2 g1 x1 y1 z1 ∧ VB w2 g2 x1 y1 z1 ∧ VB w2 g3 x2 y2 z2 ∧ VB w2 g4 x2 y2 z2) := ⟨⟨S2.bel E1.out.1 hb2, E1.out.2.1.bel hb2 E1.out.2.1.lt, E1.out.2.2.1.bel hb2 E1.out.2.2.1.lt, E1.out.2.2.2.1.bel hb2 E1.out.2.2.2.1.lt, E1.out.2.2.2.2.bel hb2 E1.out.2.2.2.2.lt⟩⟩; clear Z BZ; have Z := Zq; have BZ := BZq; clear Zq BZq) | (have E2 : Hid (S2 w w2 p m n q k i ∧ VB w2 g1 x1 y1 z1 ∧ VB w2 g2 x1 y1 z1 ∧ VB w2 g3 x2 y2 z2 ∧ VB w2 g4 x2 y2 z2) := ⟨⟨S2.bel E1.out.1 hb2, E1.out.2.1.bel hb2 E1.out.2.1.lt, E1.out.2.2.1.bel hb2 E1.out.2.2.1.lt, E1.out.2.2.2.1.bel hb2 E1.out.2.2.2.1.lt, E1.out.2.2.2.2.bel hb2 E1.out.2.2.2.2.lt⟩⟩) | (have E2 : Hid (S2 w w2 p m n q k i ∧ VB w2 g1 x1 y1 z1 ∧ VB w2 g2 x1 y1 z1 ∧ VB w2 g3 x2 y2 z2 ∧ VB w2 g4 x2 y2 z2) := ⟨⟨S2.bel E1.out.1 (bel_trans (bel_alloc (Below.refl _ _) _) hb2), E1.out.2.1.bel (bel_trans (bel_alloc (Below.refl _ _) _) hb2) E1.out.2.1.lt, E1.out.2.2.1.bel (bel_trans (bel_alloc (Below.refl _ _) _) hb2) E1.out.2.2.1.lt, E1.out.2.2.2.1.bel (bel_trans (bel_alloc (Below.refl _ _) _) hb2) E1.out.2.2.2.1.lt, E1.out.2.2.2.2.bel (bel_trans (bel_alloc (Below.refl _ _) _) hb2) E1.out.2.2.2.2.lt⟩⟩; have Z : VB w2 _ ⟨#[]⟩ ⟨#[]⟩ 0 := (VB.new _ ⟨#[]⟩ ⟨#[]⟩ 0).bel hb2 (by simp); have BZ : Hid _ := ⟨bel_trans (bel_alloc (Below.refl _ _) _) hb2⟩; have EZ := E1)); clear hb2; obtain ⟨d0, d1, d2, _⟩ := E2.out.1.1; obtain ⟨e0, e1, e2, _⟩ := E2.out.1.2.1; have d0a := up_alloc d0 zV; have d1a := up_alloc d1 zV; have d2a := up_alloc d2 zV; have e0a := up_alloc e0 zV; have e1a := up_alloc e1 zV; have e2a := up_alloc e2 zV)
      | (go_at_call 12; (with_reducible refine (HVal.out _ _ _ _).mono ?_); rintro e w1 ⟨rfl, hb1⟩; (first | (have Zq := Z.bel hb1 Z.lt; have BZq : Hid _ := ⟨bel_trans BZ.out hb1⟩; have E1 : Hid (S2 w w1 p m n q k i ∧ VB w1 g1 x1 y1 z1 ∧ VB w1 g2 x1 y1 z1 ∧ VB w1 g3 x2 y2 z2 ∧ VB w1 g4 x2 y2 z2) := ⟨⟨S2.bel D.out.1 hb1, D.out.2.1.bel hb1 D.out.2.1.lt, D.out.2.2.1.bel hb1 D.out.2.2.1.lt, D.out.2.2.2.1.bel hb1 D.out.2.2.2.1.lt, D.out.2.2.2.2.bel hb1 D.out.2.2.2.2.lt⟩⟩; clear Z BZ; have Z := Zq; have BZ := BZq; clear Zq BZq) | (have E1 : Hid (S2 w w1 p m n q k i ∧ VB w1 g1 x1 y1 z1 ∧ VB w1 g2 x1 y1 z1 ∧ VB w1 g3 x2 y2 z2 ∧ VB w1 g4 x2 y2 z2) := ⟨⟨S2.bel D.out.1 hb1, D.out.2.1.bel hb1 D.out.2.1.lt, D.out.2.2.1.bel hb1 D.out.2.2.1.lt, D.out.2.2.2.1.bel hb1 D.out.2.2.2.1.lt, D.out.2.2.2.2.bel hb1 D.out.2.2.2.2.lt⟩⟩) | (have E1 : Hid (S2 w w1 p m n q k i ∧ VB w1 g1 x1 y1 z1 ∧ VB w1 g2 x1 y1 z1 ∧ VB w1 g3 x2 y2 z2 ∧ VB w1 g4 x2 y2 z2) := ⟨⟨S2.bel D.out.1 (bel_trans (bel_alloc (Below.refl _ _) _) hb1), D.out.2.1.bel (bel_trans (bel_alloc (Below.refl _ _) _) hb1) D.out.2.1.lt, D.out.2.2.1.bel (bel_trans (bel_alloc (Below.refl _ _) _) hb1) D.out.2.2.1.lt, D.out.2.2.2.1.bel (bel_trans (bel_alloc (Below.refl _ _) _) hb1) D.out.2.2.2.1.lt, D.out.2.2.2.2.bel (bel_trans (bel_alloc (Below.refl _ _) _) hb1) D.out.2.2.2.2.lt⟩⟩; have Z : VB w1 _ ⟨#[]⟩ ⟨#[]⟩ 0 := (VB.new _ ⟨#[]⟩ ⟨#[]⟩ 0).bel hb1 (by simp); have BZ : Hid _ := ⟨bel_trans (bel_alloc (Below.refl _ _) _) hb1⟩; have EZ := D) | (have E1 : Hid (S2 w w1 p m n q k i ∧ VB w1 g1 x1 y1 z1 ∧ VB w1 g2 x1 y1 z1 ∧ VB w1 g3 x2 y2 z2 ∧ VB w1 g4 x2 y2 z2) := ⟨⟨S2.bel H4.out.1 (bel_trans (bel_alloc (Below.refl _ _) _).drew hb1), H4.out.2.1.bel (bel_trans (bel_alloc (Below.refl _ _) _).drew hb1) H4.out.2.1.lt, H4.out.2.2.1.bel (bel_trans (bel_alloc (Below.refl _ _) _).drew hb1) H4.out.2.2.1.lt, H4.out.2.2.2.1.bel (bel_trans (bel_alloc (Below.refl _ _) _).drew hb1) H4.out.2.2.2.1.lt, H4.out.2.2.2.2.bel (bel_trans (bel_alloc (Below.refl _ _) _).drew hb1) H4.out.2.2.2.2.lt⟩⟩; have Z : VB w1 _ ⟨#[]⟩ ⟨#[]⟩ 0 := ((VB.new _ ⟨#[]⟩ ⟨#[]⟩ 0).drewN 1).bel hb1 (by simp [World.drew]); have BZ : Hid _ := ⟨bel_trans (bel_alloc (Below.refl _ _) _).drew hb1⟩; have EZ := H4)); clear hb1; obtain ⟨d0, d1, d2, _⟩ := E1.out.1.1; obtain ⟨e0, e1, e2, _⟩ := E1.out.1.2.1; have d0a := up_alloc d0 zV; have d1a := up_alloc d1 zV; have d2a := up_alloc d2 zV; have e0a := up_alloc e0 zV; have e1a := up_alloc e1 zV; have e2a := up_alloc e2 zV))
    all_goals
      go_wp2_with (fail)
      go_meet
      first | exact ⟨w3.heap.size, rfl, rfl, ⟨⟨S2.bel E3.out.1 (bel_alloc (Below.refl _ _) _), E3.out.2.1.bel (bel_alloc (Below.refl _ _) _) E3.out.2.1.lt, E3.out.2.2.1.bel (bel_alloc (Below.refl _ _) _) E3.out.2.2.1.lt, E3.out.2.2.2.1.bel (bel_alloc (Below.refl _ _) _) E3.out.2.2.2.1.lt, E3.out.2.2.2.2.bel (bel_alloc (Below.refl _ _) _) E3.out.2.2.2.2.lt, VB.at _ _ _ _ _ rfl⟩⟩⟩ | exact ⟨_, rfl, rfl, ⟨⟨S2.bel EZ.out.1 (((BZ.out.setCell (Nat.le_refl _) _).setCell (Nat.le_refl _) _).setCell (Nat.le_refl _) _), EZ.out.2.1.bel (((BZ.out.setCell (Nat.le_refl _) _).setCell (Nat.le_refl _) _).setCell (Nat.le_refl _) _) EZ.out.2.1.lt, EZ.out.2.2.1.bel (((BZ.out.setCell (Nat.le_refl _) _).setCell (Nat.le_refl _) _).setCell (Nat.le_refl _) _) EZ.out.2.2.1.lt, EZ.out.2.2.2.1.bel (((BZ.out.setCell (Nat.le_refl _) _).setCell (Nat.le_refl _) _).setCell (Nat.le_refl _) _) EZ.out.2.2.2.1.lt, EZ.out.2.2.2.2.bel (((BZ.out.setCell (Nat.le_refl _) _).setCell (Nat.le_refl _) _).setCell (Nat.le_refl _) _) EZ.out.2.2.2.2.lt, Z.set _ _ _⟩⟩⟩
  case rest =>
  obtain ⟨g5, hs, ht, H5⟩ := hcut
  subst hs ht
  clear H4 HP3
  go_upto_region 6 with (fail)
  go_cut [17, 18] from 56 to 62 (fun s t wx => ∃ g, s = .pointer (some ⟨g, 0, none⟩) ∧ t = .int .i64 r3 ∧ Hid (S2 w wx p m n q k i ∧ VB wx g1 x1 y1 z1 ∧ VB wx g2 x1 y1 z1 ∧ VB wx g3 x2 y2 z2 ∧ VB wx g4 x2 y2 z2 ∧ VB wx g5 x3 y3 z3 ∧ VB wx g x3 y3 z3))
  case first =>
    clear HTP HTY HK HVal
    obtain ⟨d0, d1, d2, _⟩ := H5.out.1.1
    obtain ⟨e0, e1, e2, _⟩ := H5.out.1.2.1
    go_wp2_with (go_at_call 20; (with_reducible refine (HY3.out _).mono ?_); rintro e w3 ⟨rfl, hb3⟩; have E3 : Hid (S2 w w3 p m n q k i ∧ VB w3 g1 x1 y1 z1 ∧ VB w3 g2 x1 y1 z1 ∧ VB w3 g3 x2 y2 z2 ∧ VB w3 g4 x2 y2 z2 ∧ VB w3 g5 x3 y3 z3) := ⟨⟨S2.bel H5.out.1 hb3, H5.out.2.1.bel hb3 H5.out.2.1.lt, H5.out.2.2.1.bel hb3 H5.out.2.2.1.lt, H5.out.2.2.2.1.bel hb3 H5.out.2.2.2.1.lt, H5.out.2.2.2.2.1.bel hb3 H5.out.2.2.2.2.1.lt, H5.out.2.2.2.2.2.bel hb3 H5.out.2.2.2.2.2.lt⟩⟩; clear hb3)
    go_meet
    exact ⟨w3.heap.size, rfl, rfl, ⟨⟨S2.bel E3.out.1 (bel_alloc (Below.refl _ _) _), E3.out.2.1.bel (bel_alloc (Below.refl _ _) _) E3.out.2.1.lt, E3.out.2.2.1.bel (bel_alloc (Below.refl _ _) _) E3.out.2.2.1.lt, E3.out.2.2.2.1.bel (bel_alloc (Below.refl _ _) _) E3.out.2.2.2.1.lt, E3.out.2.2.2.2.1.bel (bel_alloc (Below.refl _ _) _) E3.out.2.2.2.2.1.lt, E3.out.2.2.2.2.2.bel (bel_alloc (Below.refl _ _) _) E3.out.2.2.2.2.2.lt, VB.atY _ _ _ _ _ rfl⟩⟩⟩
  case rest =>
  obtain ⟨g6, hs, ht, H6⟩ := hcut
  subst hs ht
  clear H5 HY3
  go_upto_region 7 with (fail)
  have q1 : ∀ v, (binOp .eql 27 (.agg #[.string x1, .string y1, .int .i64 z1]) (.agg #[.string x1, .string y1, .int .i64 z1])).run Tryz.prog v = .ok (.bool true) v := fun v => by rw [eqlV]; simp
  have q2 : ∀ v, (binOp .eql 27 (.agg #[.string x2, .string y2, .int .i64 z2]) (.agg #[.string x2, .string y2, .int .i64 z2])).run Tryz.prog v = .ok (.bool true) v := fun v => by rw [eqlV]; simp
  have q3 : ∀ v, (binOp .eql 27 (.agg #[.string x3, .string y3, .int .i64 z3]) (.agg #[.string x3, .string y3, .int .i64 z3])).run Tryz.prog v = .ok (.bool true) v := fun v => by rw [eqlV]; simp
  have K0 := cells6 ((And.intro (S2.bel H6.out.1 (Below.refl _ _).drew) (And.intro (H6.out.2.1.bel (Below.refl _ _).drew H6.out.2.1.lt) (And.intro (H6.out.2.2.1.bel (Below.refl _ _).drew H6.out.2.2.1.lt) (And.intro (H6.out.2.2.2.1.bel (Below.refl _ _).drew H6.out.2.2.2.1.lt) (And.intro (H6.out.2.2.2.2.1.bel (Below.refl _ _).drew H6.out.2.2.2.2.1.lt) (And.intro (H6.out.2.2.2.2.2.1.bel (Below.refl _ _).drew H6.out.2.2.2.2.2.1.lt) (H6.out.2.2.2.2.2.2.bel (Below.refl _ _).drew H6.out.2.2.2.2.2.2.lt))))))))
  clear H6
  go_region_held3 (fun v => C6 w v p m n q k i g1 g2 x1 y1 z1 g3 g4 x2 y2 z2 g5 g6 x3 y3 z3)
    (first | (with_reducible assumption) | exact C6.bel (by with_reducible assumption) hb)
    (first
      | (go_at_call 12; (with_reducible refine (HVal.out _ _ _ _).mono ?_); rintro e wp ⟨rfl, hb⟩)
      | (go_at_call 13; refine (num_any _ _).mono ?_; rintro e wp ⟨rfl, hw'⟩; have hb := bel_eq hw'; clear hw')
      | (go_at_call 21; refine (HTP.out _ (C6.below (by with_reducible assumption))).mono ?_; rintro e wp ⟨rfl, hb⟩)
      | (go_at_call 22; refine (HTY.out _).mono ?_; rintro e wp ⟨rfl, hb⟩)
      | (go_at_call 14; refine (HK.out _ (C6.below (by with_reducible assumption))).mono ?_; rintro e wp ⟨rfl, hb⟩))
  go_wp2
  go_ret
  rename_i hS
  exact ⟨rfl, C6.below hS⟩
end Go.Proofs.YtljmbgflcidokaaGreatDoor
