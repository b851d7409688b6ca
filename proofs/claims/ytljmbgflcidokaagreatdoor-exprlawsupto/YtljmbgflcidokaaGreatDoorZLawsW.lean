/- Law ExprLaws: the walk. -/
import Derived.Test.YtljmbgflcidokaaGreatDoorZPre
import Derived.Test.YtljmbgflcidokaaGreatDoorYVal
import Derived.Deep.Cut
import Derived.Deep.CutRange
import Derived.Deep.RegionHeld3
import Derived.Deep.RegionWith
namespace Go.Proofs.YtljmbgflcidokaaGreatDoor
open Go.ChangeShapes Go.WideShapes Go.ChangeAt Go.RowKit
set_option linter.unusedVariables false
set_option linter.unusedSimpArgs false

theorem neqV (p m q k : ByteArray) (n i : Int) (w : World) : (binOp .neq 27 (.agg #[.string p, .string m, .int .i64 n]) (.agg #[.string q, .string k, .int .i64 i])).run Tryz.prog w = .ok (.bool (!(p.toList == q.toList && (m.toList == k.toList && (n == i && true))))) w := by
  simp [go_sem]
  by_cases h1 : p.toList = q.toList
  · by_cases h2 : m.toList = k.toList
    · by_cases h3 : n = i <;> simp [h1, h2, h3]
    · simp [h1, h2]
  · simp [h1]
theorem vE_ok (M : Option Vx) (hM : ∀ v, M = some v → v.Ok) : ∃ p m n r, vE M = .tuple #[.agg #[.string p, .string m, .int .i64 n], .int .i64 r] ∧ (⟨p, m, n⟩ : Vx).Ok ∧ ((r = 0 ∧ M = some ⟨p, m, n⟩) ∨ (r = 110 ∧ M = none)) := by
  cases M with
  | none => exact ⟨⟨#[]⟩, ⟨#[]⟩, 0, 110, vE_none, ⟨by show (0 : Nat) ≤ _; omega, by show (0 : Nat) ≤ _; omega⟩, .inr ⟨rfl, rfl⟩⟩
  | some x => obtain ⟨x1, x2, x3⟩ := x; exact ⟨x1, x2, x3, 0, vE_some _ _ _, hM _ rfl, .inl ⟨rfl, rfl⟩⟩
theorem zero_okV : Vx.zero.Ok := Vx.Ok.num 0
theorem hid' {p : Prop} (h : p) : Hid p := ⟨h⟩

set_option maxRecDepth 20000 in
set_option maxHeartbeats 16000000 in
theorem exprLaws_walk (w : World) (hE : Er w) (p m : ByteArray) (n : Int) (q k : ByteArray) (i : Int) (ha : (⟨p, m, n⟩ : Vx).Ok) (hb : (⟨q, k, i⟩ : Vx).Ok) (ao : Option Addr) (c : Nat) (L : List TL) (hL : L.length ≤ 1048576) (hsm : ∀ x ∈ L, x.1.t.length ≤ 1048576) (hr : Toks w ao L) : Calls Tryz.prog 6 #[.agg #[.string p, .string m, .int .i64 n], .agg #[.string q, .string k, .int .i64 i], .slice ao L.length c] w fun e w' => e = .returned (.bool true) ∧ Below w.heap.size w w' := by
  have HA1 : Hid _ := ⟨add_any ⟨p, m, n⟩ ⟨q, k, i⟩ ha hb⟩
  have HA2 : Hid _ := ⟨add_any ⟨q, k, i⟩ ⟨p, m, n⟩ hb ha⟩
  rw [addV_comm] at HA2
  obtain ⟨x1, y1, z1, r1, hM1, hO1, hc1⟩ := vE_ok (addV ⟨p, m, n⟩ ⟨q, k, i⟩) (fun v h => addV_ok ha hb h)
  rw [hM1] at HA1 HA2
  have HS : Hid _ := ⟨sub_any ⟨x1, y1, z1⟩ ⟨q, k, i⟩ hO1 hb⟩
  obtain ⟨x2, y2, z2, r2, hM2, hO2, hc2⟩ := vE_ok (subV ⟨x1, y1, z1⟩ ⟨q, k, i⟩) (fun v h => subV_ok hO1 hb h)
  rw [hM2] at HS
  have HA3 : Hid _ := ⟨add_any ⟨p, m, n⟩ Vx.zero ha zero_okV⟩
  obtain ⟨x3, y3, z3, r3, hM3, hO3, hc3⟩ := vE_ok (addV ⟨p, m, n⟩ Vx.zero) (fun v h => addV_ok ha zero_okV h)
  rw [hM3] at HA3
  obtain ⟨rfl, hz3⟩ : r3 = 0 ∧ addV ⟨p, m, n⟩ Vx.zero = some ⟨x3, y3, z3⟩ := by
    rcases hc3 with h | ⟨_, h⟩
    · exact h
    · rw [add_zero] at h; cases h
  have heq : r1 = 0 → r2 = 0 → x2 = x3 ∧ y2 = y3 ∧ z2 = z3 := fun e1 e2 => by
    have f1 := hc1.resolve_right (fun h => by rw [e1] at h; exact absurd h.1 (by decide))
    have f2 := hc2.resolve_right (fun h => by rw [e2] at h; exact absurd h.1 (by decide))
    have := add_sub f1.2 f2.2
    rw [hz3] at this
    injection this with this
    injection this with g1 g2 g3
    exact ⟨g1.symm, g2.symm, g3.symm⟩
  have hq1 : r1 = 0 ∨ r1 = 110 := hc1.elim (fun h => .inl h.1) (fun h => .inr h.1)
  have hq2 : r2 = 0 ∨ r2 = 110 := hc2.elim (fun h => .inl h.1) (fun h => .inr h.1)
  simp only [Vx.zero] at HA1 HA2 HS HA3
  unfold es at HA3
  have HTok : Hid (∀ W, Below w.heap.size w W → Calls Tryz.prog 8 #[.slice ao L.length c] W fun e w' => ∃ v, e = .returned v ∧ OwnTP w' W.heap.size v L ∧ Below W.heap.size W w') := ⟨fun W h => tokens_any ao c L W (by omega) (hr.below h (Nat.le_refl _))⟩
  have HK : Hid (∀ v, Below w.heap.size w v → Calls Tryz.prog 14 #[] v fun e w' => e = .returned (.bool true) ∧ Below v.heap.size v w') := ⟨fun v h => knows_any v (hE.bel h)⟩
  have HVal : Hid _ := ⟨valY_any⟩
  have HIN : Hid (∀ (W : World) (base : Nat) (v : Value), OwnTP W base v L → ∃ ao cp, v = .slice ao L.length cp ∧ EvIn W ao L none []) := ⟨fun W base v h => EvIn.own h (by omega) (fun x hx => by have := hsm x hx; omega)⟩
  have HE1 : Hid (∀ (W : World) (ao : Option Addr) (cp : Nat), EvIn W ao L none [] → Calls Tryz.prog 9 #[.slice ao L.length cp, .int .i64 0, .slice none 0 0] W fun e w' => e = .returned (evE (evI [] L 0)) ∧ Below W.heap.size W w') := ⟨fun W ao cp h => eval_nil h⟩
  have HIN2 : Hid (∀ (W : World) (base : Nat) (v : Value), OwnTP W base v ([tkO] ++ L ++ [tkC]) → ∃ ao cp, v = .slice ao (L.length + 2) cp ∧ EvIn W ao (inB L) none []) := ⟨fun W base v h => by
    have h' : OwnTP W base v (inB L) := by rw [show inB L = [tkO] ++ L ++ [tkC] by unfold inB; simp]; exact h
    have := EvIn.own h' (by rw [inB_len]; omega) (fun x hx => by
      unfold inB at hx
      simp only [List.mem_cons, List.mem_append, List.not_mem_nil, or_false] at hx
      rcases hx with rfl | hx | rfl
      · decide
      · have := hsm x hx; omega
      · decide)
    rwa [inB_len] at this⟩
  have HE2 : Hid (∀ (W : World) (ao : Option Addr) (cp : Nat), EvIn W ao (inB L) none [] → Calls Tryz.prog 9 #[.slice ao (L.length + 2) cp, .int .i64 0, .slice none 0 0] W fun e w' => e = .returned (evE (evI [] (inB L) 0)) ∧ Below W.heap.size W w') := ⟨fun W ao cp h => by
    have := eval_nil (cp := cp) h
    rwa [inB_len] at this⟩
  have q1 : ∀ v, (binOp .neq 27 (.agg #[.string x1, .string y1, .int .i64 z1]) (.agg #[.string x1, .string y1, .int .i64 z1])).run Tryz.prog v = .ok (.bool false) v := fun v => by rw [neqV]; simp
  have q3 : ∀ v, (binOp .neq 27 (.agg #[.string x3, .string y3, .int .i64 z3]) (.agg #[.string x3, .string y3, .int .i64 z3])).run Tryz.prog v = .ok (.bool false) v := fun v => by rw [neqV]; simp
  have hrr : (r1 != r1) = false := by simp
  have HNZ : Hid (∀ e, evI [] L 0 = .error e → ¬ e = 0) := ⟨fun e h => nz_eval h⟩
  have HBR : Hid (∀ v, evI [] L 0 = .ok (v, L.length) → evI [] (inB L) 0 = .ok (v, L.length + 2) ∨ evI [] (inB L) 0 = .error 6) := ⟨fun v h => by
    have e1 : ∀ X : List TL, evI [] X 0 = evalM [] X 0 := fun X => by unfold evI; rw [if_neg (by omega)]; rfl
    rw [e1] at h ⊢
    exact brackets h⟩
  clear hM1 hM2 hM3 hO1 hO2 hO3 hc1 hc2 hc3 hz3 ha hb hE hr hsm
  have HL : Hid (L.length ≤ 1048576) := ⟨hL⟩
  clear hL
  have H0 : Hid (S2 w ((w.alloc (.cells #[.string p, .string m, .int .i64 n] 33)).alloc (.cells #[.string q, .string k, .int .i64 i] 33)) p m n q k i) := ⟨(VB.newY w p m n).alloc _, VB.atY _ q k i (w.heap.size + 1) (by simp), bel_alloc (bel_alloc (Below.refl _ _) _) _⟩
  go_enter Tryz.func6, Tryz.ntmps6
  go_upto_region 1 with (fail)
  generalize (w.alloc (.cells #[.string p, .string m, .int .i64 n] 33)).alloc (.cells #[.string q, .string k, .int .i64 i] 33) = v0 at *
  go_cut [7, 8] from 22 to 29 (fun s t wx => ∃ g, s = .pointer (some ⟨g, 0, none⟩) ∧ t = .int .i64 r1 ∧ Hid (S2 w wx p m n q k i ∧ VB wx g x1 y1 z1))
  case first =>
    clear HA2 HS HA3 HTok HK HIN HE1 HIN2 HE2 HNZ HBR HL q1 q3
    have D := hid' (S2.bel H0.out (Below.refl _ _).drew)
    obtain ⟨d0, d1, d2, _⟩ := D.out.1
    obtain ⟨e0, e1, e2, _⟩ := D.out.2.1
    have d0a := up_alloc d0 zV
    have d1a := up_alloc d1 zV
    have d2a := up_alloc d2 zV
    have e0a := up_alloc e0 zV
    have e1a := up_alloc e1 zV
    have e2a := up_alloc e2 zV
    have DA := hid' (S2.bel H0.out (bel_alloc (Below.refl _ _) zV).drew)
    obtain ⟨d0b, d1b, d2b, _⟩ := DA.out.1
    obtain ⟨e0b, e1b, e2b, _⟩ := DA.out.2.1
    go_region_with (first
      | (have _ := E2; go_at_call 15; (with_reducible refine (HA1.out _).mono ?_); rintro e w3 ⟨rfl, hb3⟩; (first | (have Zq := Z.bel hb3 Z.lt; have BZq : Hid _ := ⟨bel_trans BZ.out hb3⟩; have E3 : Hid (S2 w w3 p m n q k i) := ⟨S2.bel E2.out hb3⟩; clear Z BZ; have Z := Zq; have BZ := BZq; clear Zq BZq) | (have E3 : Hid (S2 w w3 p m n q k i) := ⟨S2.bel E2.out hb3⟩) | (have E3 : Hid (S2 w w3 p m n q k i) := ⟨S2.bel E2.out (bel_trans (bel_alloc (Below.refl _ _) _) hb3)⟩; have Z : VB w3 _ ⟨#[]⟩ ⟨#[]⟩ 0 := (VB.new _ ⟨#[]⟩ ⟨#[]⟩ 0).bel hb3 (by simp); have BZ : Hid _ := ⟨bel_trans (bel_alloc (Below.refl _ _) _) hb3⟩; have EZ := E2)); clear hb3; try (obtain ⟨t0, t1, t2, t3⟩ := id Z))
      | (have _ := E1; go_at_call 12; (with_reducible refine (HVal.out _ _ _ _).mono ?_); rintro e w2 ⟨rfl, hb2⟩; (first | (have Zq := Z.bel hb2 Z.lt; have BZq : Hid _ := ⟨bel_trans BZ.out hb2⟩; have E2 : Hid (S2 w w2 p m n q k i) := ⟨S2.bel E1.out hb2⟩; clear Z BZ; have Z := Zq; have BZ := BZq; clear Zq BZq) | (have E2 : Hid (S2 w w2 p m n q k i) := ⟨S2.bel E1.out hb2⟩) | (have E2 : Hid (S2 w w2 p m n q k i) := ⟨S2.bel E1.out (bel_trans (bel_alloc (Below.refl _ _) _) hb2)⟩; have Z : VB w2 _ ⟨#[]⟩ ⟨#[]⟩ 0 := (VB.new _ ⟨#[]⟩ ⟨#[]⟩ 0).bel hb2 (by simp); have BZ : Hid _ := ⟨bel_trans (bel_alloc (Below.refl _ _) _) hb2⟩; have EZ := E1)); clear hb2; obtain ⟨d0, d1, d2, _⟩ := E2.out.1; obtain ⟨e0, e1, e2, _⟩ := E2.out.2.1; have d0a := up_alloc d0 zV; have d1a := up_alloc d1 zV; have d2a := up_alloc d2 zV; have e0a := up_alloc e0 zV; have e1a := up_alloc e1 zV; have e2a := up_alloc e2 zV)
      | (go_at_call 12; (with_reducible refine (HVal.out _ _ _ _).mono ?_); rintro e w1 ⟨rfl, hb1⟩; (first | (have Zq := Z.bel hb1 Z.lt; have BZq : Hid _ := ⟨bel_trans BZ.out hb1⟩; have E1 : Hid (S2 w w1 p m n q k i) := ⟨S2.bel D.out hb1⟩; clear Z BZ; have Z := Zq; have BZ := BZq; clear Zq BZq) | (have E1 : Hid (S2 w w1 p m n q k i) := ⟨S2.bel D.out hb1⟩) | (have E1 : Hid (S2 w w1 p m n q k i) := ⟨S2.bel D.out (bel_trans (bel_alloc (Below.refl _ _) _) hb1)⟩; have Z : VB w1 _ ⟨#[]⟩ ⟨#[]⟩ 0 := (VB.new _ ⟨#[]⟩ ⟨#[]⟩ 0).bel hb1 (by simp); have BZ : Hid _ := ⟨bel_trans (bel_alloc (Below.refl _ _) _) hb1⟩; have EZ := D) | (have E1 : Hid (S2 w w1 p m n q k i) := ⟨S2.bel H0.out (bel_trans (bel_alloc (Below.refl _ _) _).drew hb1)⟩; have Z : VB w1 _ ⟨#[]⟩ ⟨#[]⟩ 0 := ((VB.new _ ⟨#[]⟩ ⟨#[]⟩ 0).drewN 1).bel hb1 (by simp [World.drew]); have BZ : Hid _ := ⟨bel_trans (bel_alloc (Below.refl _ _) _).drew hb1⟩; have EZ := H0)); clear hb1; obtain ⟨d0, d1, d2, _⟩ := E1.out.1; obtain ⟨e0, e1, e2, _⟩ := E1.out.2.1; have d0a := up_alloc d0 zV; have d1a := up_alloc d1 zV; have d2a := up_alloc d2 zV; have e0a := up_alloc e0 zV; have e1a := up_alloc e1 zV; have e2a := up_alloc e2 zV))
    all_goals
      go_wp2_with (fail)
      go_meet
      first | exact ⟨w3.heap.size, rfl, rfl, ⟨⟨S2.bel E3.out (bel_alloc (Below.refl _ _) _), VB.at _ _ _ _ _ rfl⟩⟩⟩ | exact ⟨_, rfl, rfl, ⟨⟨S2.bel EZ.out (((BZ.out.setCell (Nat.le_refl _) _).setCell (Nat.le_refl _) _).setCell (Nat.le_refl _) _), Z.set _ _ _⟩⟩⟩
  case rest =>
  obtain ⟨g1, hs, ht, H1⟩ := hcut
  subst hs ht
  clear H0 HA1
  go_upto_region 2 with (fail)
  go_cut [9, 10] from 30 to 37 (fun s t wx => ∃ g, s = .pointer (some ⟨g, 0, none⟩) ∧ t = .int .i64 r1 ∧ Hid (S2 w wx p m n q k i ∧ VB wx g1 x1 y1 z1 ∧ VB wx g x1 y1 z1))
  case first =>
    clear HS HA3 HTok HK HIN HE1 HIN2 HE2 HNZ HBR HL q1 q3
    have D := hid' ((And.intro (S2.bel H1.out.1 (Below.refl _ _).drew) (H1.out.2.bel (Below.refl _ _).drew H1.out.2.lt)))
    obtain ⟨d0, d1, d2, _⟩ := D.out.1.1
    obtain ⟨e0, e1, e2, _⟩ := D.out.1.2.1
    have d0a := up_alloc d0 zV
    have d1a := up_alloc d1 zV
    have d2a := up_alloc d2 zV
    have e0a := up_alloc e0 zV
    have e1a := up_alloc e1 zV
    have e2a := up_alloc e2 zV
    have DA := hid' ((And.intro (S2.bel H1.out.1 (bel_alloc (Below.refl _ _) zV).drew) (H1.out.2.bel (bel_alloc (Below.refl _ _) zV).drew H1.out.2.lt)))
    obtain ⟨d0b, d1b, d2b, _⟩ := DA.out.1.1
    obtain ⟨e0b, e1b, e2b, _⟩ := DA.out.1.2.1
    go_region_with (first
      | (have _ := E2; go_at_call 15; (with_reducible refine (HA2.out _).mono ?_); rintro e w3 ⟨rfl, hb3⟩; (first | (have Zq := Z.bel hb3 Z.lt; have BZq : Hid _ := ⟨bel_trans BZ.out hb3⟩; have E3 : Hid (S2 w w3 p m n q k i ∧ VB w3 g1 x1 y1 z1) := ⟨⟨S2.bel E2.out.1 hb3, E2.out.2.bel hb3 E2.out.2.lt⟩⟩; clear Z BZ; have Z := Zq; have BZ := BZq; clear Zq BZq) | (have E3 : Hid (S2 w w3 p m n q k i ∧ VB w3 g1 x1 y1 z1) := ⟨⟨S2.bel E2.out.1 hb3, E2.out.2.bel hb3 E2.out.2.lt⟩⟩) | (have E3 : Hid (S2 w w3 p m n q k i ∧ VB w3 g1 x1 y1 z1) := ⟨⟨S2.bel E2.out.1 (bel_trans (bel_alloc (Below.refl _ _) _) hb3), E2.out.2.bel (bel_trans (bel_alloc (Below.refl _ _) _) hb3) E2.out.2.lt⟩⟩; have Z : VB w3 _ ⟨#[]⟩ ⟨#[]⟩ 0 := (VB.new _ ⟨#[]⟩ ⟨#[]⟩ 0).bel hb3 (by simp); have BZ : Hid _ := ⟨bel_trans (bel_alloc (Below.refl _ _) _) hb3⟩; have EZ := E2)); clear hb3; try (obtain ⟨t0, t1, t2, t3⟩ := id Z))
      | (have _ := E1; go_at_call 12; (with_reducible refine (HVal.out _ _ _ _).mono ?_); rintro e w2 ⟨rfl, hb2⟩; (first | (have Zq := Z.bel hb2 Z.lt; have BZq : Hid _ := ⟨bel_trans BZ.out hb2⟩; have E2 : Hid (S2 w w2 p m n q k i ∧ VB w2 g1 x1 y1 z1) := ⟨⟨S2.bel E1.out.1 hb2, E1.out.2.bel hb2 E1.out.2.lt⟩⟩; clear Z BZ; have Z := Zq; have BZ := BZq; clear Zq BZq) | (have E2 : Hid (S2 w w2 p m n q k i ∧ VB w2 g1 x1 y1 z1) := ⟨⟨S2.bel E1.out.1 hb2, E1.out.2.bel hb2 E1.out.2.lt⟩⟩) | (have E2 : Hid (S2 w w2 p m n q k i ∧ VB w2 g1 x1 y1 z1) := ⟨⟨S2.bel E1.out.1 (bel_trans (bel_alloc (Below.refl _ _) _) hb2), E1.out.2.bel (bel_trans (bel_alloc (Below.refl _ _) _) hb2) E1.out.2.lt⟩⟩; have Z : VB w2 _ ⟨#[]⟩ ⟨#[]⟩ 0 := (VB.new _ ⟨#[]⟩ ⟨#[]⟩ 0).bel hb2 (by simp); have BZ : Hid _ := ⟨bel_trans (bel_alloc (Below.refl _ _) _) hb2⟩; have EZ := E1)); clear hb2; obtain ⟨d0, d1, d2, _⟩ := E2.out.1.1; obtain ⟨e0, e1, e2, _⟩ := E2.out.1.2.1; have d0a := up_alloc d0 zV; have d1a := up_alloc d1 zV; have d2a := up_alloc d2 zV; have e0a := up_alloc e0 zV; have e1a := up_alloc e1 zV; have e2a := up_alloc e2 zV)
      | (go_at_call 12; (with_reducible refine (HVal.out _ _ _ _).mono ?_); rintro e w1 ⟨rfl, hb1⟩; (first | (have Zq := Z.bel hb1 Z.lt; have BZq : Hid _ := ⟨bel_trans BZ.out hb1⟩; have E1 : Hid (S2 w w1 p m n q k i ∧ VB w1 g1 x1 y1 z1) := ⟨⟨S2.bel D.out.1 hb1, D.out.2.bel hb1 D.out.2.lt⟩⟩; clear Z BZ; have Z := Zq; have BZ := BZq; clear Zq BZq) | (have E1 : Hid (S2 w w1 p m n q k i ∧ VB w1 g1 x1 y1 z1) := ⟨⟨S2.bel D.out.1 hb1, D.out.2.bel hb1 D.out.2.lt⟩⟩) | (have E1 : Hid (S2 w w1 p m n q k i ∧ VB w1 g1 x1 y1 z1) := ⟨⟨S2.bel D.out.1 (bel_trans (bel_alloc (Below.refl _ _) _) hb1), D.out.2.bel (bel_trans (bel_alloc (Below.refl _ _) _) hb1) D.out.2.lt⟩⟩; have Z : VB w1 _ ⟨#[]⟩ ⟨#[]⟩ 0 := (VB.new _ ⟨#[]⟩ ⟨#[]⟩ 0).bel hb1 (by simp); have BZ : Hid _ := ⟨bel_trans (bel_alloc (Below.refl _ _) _) hb1⟩; have EZ := D) | (have E1 : Hid (S2 w w1 p m n q k i ∧ VB w1 g1 x1 y1 z1) := ⟨⟨S2.bel H1.out.1 (bel_trans (bel_alloc (Below.refl _ _) _).drew hb1), H1.out.2.bel (bel_trans (bel_alloc (Below.refl _ _) _).drew hb1) H1.out.2.lt⟩⟩; have Z : VB w1 _ ⟨#[]⟩ ⟨#[]⟩ 0 := ((VB.new _ ⟨#[]⟩ ⟨#[]⟩ 0).drewN 1).bel hb1 (by simp [World.drew]); have BZ : Hid _ := ⟨bel_trans (bel_alloc (Below.refl _ _) _).drew hb1⟩; have EZ := H1)); clear hb1; obtain ⟨d0, d1, d2, _⟩ := E1.out.1.1; obtain ⟨e0, e1, e2, _⟩ := E1.out.1.2.1; have d0a := up_alloc d0 zV; have d1a := up_alloc d1 zV; have d2a := up_alloc d2 zV; have e0a := up_alloc e0 zV; have e1a := up_alloc e1 zV; have e2a := up_alloc e2 zV))
    all_goals
      go_wp2_with (fail)
      go_meet
      first | exact ⟨w3.heap.size, rfl, rfl, ⟨⟨S2.bel E3.out.1 (bel_alloc (Below.refl _ _) _), E3.out.2.bel (bel_alloc (Below.refl _ _) _) E3.out.2.lt, VB.at _ _ _ _ _ rfl⟩⟩⟩ | exact ⟨_, rfl, rfl, ⟨⟨S2.bel EZ.out.1 (((BZ.out.setCell (Nat.le_refl _) _).setCell (Nat.le_refl _) _).setCell (Nat.le_refl _) _), EZ.out.2.bel (((BZ.out.setCell (Nat.le_refl _) _).setCell (Nat.le_refl _) _).setCell (Nat.le_refl _) _) EZ.out.2.lt, Z.set _ _ _⟩⟩⟩
  case rest =>
  obtain ⟨g2, hs, ht, H2⟩ := hcut
  subst hs ht
  clear H1 HA2
  obtain ⟨a0, a1, a2, _⟩ := id H2.out.2.1
  obtain ⟨b0, b1, b2, _⟩ := id H2.out.2.2
  go_upto_if 50 with (go_at_call 13; refine (num_any _ _).mono ?_; rintro e w' ⟨rfl, hw'⟩; subst w')
  clear a0 a1 a2 b0 b1 b2 hrr q1
  go_cut [11, 12, 13, 14] from 51 to 77 (fun s11 s12 s13 s14 wx => Hid (Below w.heap.size w wx))
  case first =>
    clear HTok HK HIN HE1 HIN2 HE2 HNZ HBR HL
    rcases hq1 with rfl | rfl
    · go_upto_region 6 with (fail)
      have H2' : Hid (S2 w wc p m n q k i ∧ VB wc g1 x1 y1 z1) := ⟨⟨H2.out.1, H2.out.2.1⟩⟩
      go_cut [11, 12] from 51 to 57 (fun s t wx => ∃ g, s = .pointer (some ⟨g, 0, none⟩) ∧ t = .int .i64 r2 ∧ Hid (S2 w wx p m n q k i ∧ VB wx g1 x1 y1 z1 ∧ VB wx g x2 y2 z2))
      case first =>
        clear H2 HA3 q3 heq
        have D := hid' ((And.intro (S2.bel H2'.out.1 (Below.refl _ _).drew) (H2'.out.2.bel (Below.refl _ _).drew H2'.out.2.lt)))
        obtain ⟨d0, d1, d2, _⟩ := D.out.1.1
        obtain ⟨e0, e1, e2, _⟩ := D.out.1.2.1
        obtain ⟨f0, f1, f2, _⟩ := id D.out.2
        have d0a := up_alloc d0 zV
        have d1a := up_alloc d1 zV
        have d2a := up_alloc d2 zV
        have e0a := up_alloc e0 zV
        have e1a := up_alloc e1 zV
        have e2a := up_alloc e2 zV
        have f0a := up_alloc f0 zV
        have f1a := up_alloc f1 zV
        have f2a := up_alloc f2 zV
        have DA := hid' ((And.intro (S2.bel H2'.out.1 (bel_alloc (Below.refl _ _) zV).drew) (H2'.out.2.bel (bel_alloc (Below.refl _ _) zV).drew H2'.out.2.lt)))
        obtain ⟨d0b, d1b, d2b, _⟩ := DA.out.1.1
        obtain ⟨e0b, e1b, e2b, _⟩ := DA.out.1.2.1
        obtain ⟨f0b, f1b, f2b, _⟩ := id DA.out.2
        go_region_with (first
          | (have _ := E1; go_at_call 17; (with_reducible refine (HS.out _).mono ?_); rintro e w2 ⟨rfl, hb2⟩; (first | (have Zq := Z.bel hb2 Z.lt; have BZq : Hid _ := ⟨bel_trans BZ.out hb2⟩; have E2 : Hid (S2 w w2 p m n q k i ∧ VB w2 g1 x1 y1 z1) := ⟨⟨S2.bel E1.out.1 hb2, E1.out.2.bel hb2 E1.out.2.lt⟩⟩; clear Z BZ; have Z := Zq; have BZ := BZq; clear Zq BZq) | (have E2 : Hid (S2 w w2 p m n q k i ∧ VB w2 g1 x1 y1 z1) := ⟨⟨S2.bel E1.out.1 hb2, E1.out.2.bel hb2 E1.out.2.lt⟩⟩) | (have E2 : Hid (S2 w w2 p m n q k i ∧ VB w2 g1 x1 y1 z1) := ⟨⟨S2.bel E1.out.1 (bel_trans (bel_alloc (Below.refl _ _) _) hb2), E1.out.2.bel (bel_trans (bel_alloc (Below.refl _ _) _) hb2) E1.out.2.lt⟩⟩; have Z : VB w2 _ ⟨#[]⟩ ⟨#[]⟩ 0 := (VB.new _ ⟨#[]⟩ ⟨#[]⟩ 0).bel hb2 (by simp); have BZ : Hid _ := ⟨bel_trans (bel_alloc (Below.refl _ _) _) hb2⟩; have EZ := E1)); clear hb2; try (obtain ⟨t0, t1, t2, t3⟩ := id Z))
          | (go_at_call 12; (with_reducible refine (HVal.out _ _ _ _).mono ?_); rintro e w1 ⟨rfl, hb1⟩; (first | (have Zq := Z.bel hb1 Z.lt; have BZq : Hid _ := ⟨bel_trans BZ.out hb1⟩; have E1 : Hid (S2 w w1 p m n q k i ∧ VB w1 g1 x1 y1 z1) := ⟨⟨S2.bel D.out.1 hb1, D.out.2.bel hb1 D.out.2.lt⟩⟩; clear Z BZ; have Z := Zq; have BZ := BZq; clear Zq BZq) | (have E1 : Hid (S2 w w1 p m n q k i ∧ VB w1 g1 x1 y1 z1) := ⟨⟨S2.bel D.out.1 hb1, D.out.2.bel hb1 D.out.2.lt⟩⟩) | (have E1 : Hid (S2 w w1 p m n q k i ∧ VB w1 g1 x1 y1 z1) := ⟨⟨S2.bel D.out.1 (bel_trans (bel_alloc (Below.refl _ _) _) hb1), D.out.2.bel (bel_trans (bel_alloc (Below.refl _ _) _) hb1) D.out.2.lt⟩⟩; have Z : VB w1 _ ⟨#[]⟩ ⟨#[]⟩ 0 := (VB.new _ ⟨#[]⟩ ⟨#[]⟩ 0).bel hb1 (by simp); have BZ : Hid _ := ⟨bel_trans (bel_alloc (Below.refl _ _) _) hb1⟩; have EZ := D) | (have E1 : Hid (S2 w w1 p m n q k i ∧ VB w1 g1 x1 y1 z1) := ⟨⟨S2.bel H2'.out.1 (bel_trans (bel_alloc (Below.refl _ _) _).drew hb1), H2'.out.2.bel (bel_trans (bel_alloc (Below.refl _ _) _).drew hb1) H2'.out.2.lt⟩⟩; have Z : VB w1 _ ⟨#[]⟩ ⟨#[]⟩ 0 := ((VB.new _ ⟨#[]⟩ ⟨#[]⟩ 0).drewN 1).bel hb1 (by simp [World.drew]); have BZ : Hid _ := ⟨bel_trans (bel_alloc (Below.refl _ _) _).drew hb1⟩; have EZ := H2')); clear hb1; obtain ⟨d0, d1, d2, _⟩ := E1.out.1.1; obtain ⟨e0, e1, e2, _⟩ := E1.out.1.2.1; obtain ⟨f0, f1, f2, _⟩ := id E1.out.2; have d0a := up_alloc d0 zV; have d1a := up_alloc d1 zV; have d2a := up_alloc d2 zV; have e0a := up_alloc e0 zV; have e1a := up_alloc e1 zV; have e2a := up_alloc e2 zV; have f0a := up_alloc f0 zV; have f1a := up_alloc f1 zV; have f2a := up_alloc f2 zV))
        all_goals
          go_wp2_with (fail)
          go_meet
          first | exact ⟨w2.heap.size, rfl, rfl, ⟨⟨S2.bel E2.out.1 (bel_alloc (Below.refl _ _) _), E2.out.2.bel (bel_alloc (Below.refl _ _) _) E2.out.2.lt, VB.at _ _ _ _ _ rfl⟩⟩⟩ | exact ⟨_, rfl, rfl, ⟨⟨S2.bel EZ.out.1 (((BZ.out.setCell (Nat.le_refl _) _).setCell (Nat.le_refl _) _).setCell (Nat.le_refl _) _), EZ.out.2.bel (((BZ.out.setCell (Nat.le_refl _) _).setCell (Nat.le_refl _) _).setCell (Nat.le_refl _) _) EZ.out.2.lt, Z.set _ _ _⟩⟩⟩
      case rest =>
      obtain ⟨g3, hs, ht, H3⟩ := hcut
      subst hs ht
      obtain ⟨d0, d1, d2, _⟩ := H3.out.1.1
      rcases hq2 with rfl | rfl
      · obtain ⟨rfl, rfl, rfl⟩ := heq rfl rfl
        go_wp2_with (first
          | (go_at_call 12; (with_reducible refine (HVal.out _ _ _ _).mono ?_); rintro e u1 ⟨rfl, hb1⟩; have E1 := hid' (And.intro (H3.out.2.2.bel hb1 H3.out.2.2.lt) (bel_trans H3.out.1.2.2 hb1)); clear hb1)
          | (go_at_call 15; (with_reducible refine (HA3.out _).mono ?_); rintro e u2 ⟨rfl, hb2⟩; have E2 := hid' (And.intro (E1.out.1.bel hb2 E1.out.1.lt) (bel_trans E1.out.2 hb2)); obtain ⟨c0, c1, c2, _⟩ := id E2.out.1; have c0a := up_alloc c0 (.cells #[.string x2, .string y2, .int .i64 z2] 27); have c1a := up_alloc c1 (.cells #[.string x2, .string y2, .int .i64 z2] 27); have c2a := up_alloc c2 (.cells #[.string x2, .string y2, .int .i64 z2] 27); clear hb2)
          | (go_at_call 13; refine (num_any _ _).mono ?_; rintro e w' ⟨rfl, hw'⟩; subst w'))
        go_meet
        exact ⟨bel_alloc E2.out.2 _⟩
      · go_wp2_with (first
          | (go_at_call 12; (with_reducible refine (HVal.out _ _ _ _).mono ?_); rintro e u1 ⟨rfl, hb1⟩; have E1 := hid' (And.intro (H3.out.2.2.bel hb1 H3.out.2.2.lt) (bel_trans H3.out.1.2.2 hb1)); clear hb1)
          | (go_at_call 15; (with_reducible refine (HA3.out _).mono ?_); rintro e u2 ⟨rfl, hb2⟩; have E2 := hid' (And.intro (E1.out.1.bel hb2 E1.out.1.lt) (bel_trans E1.out.2 hb2)); obtain ⟨c0, c1, c2, _⟩ := id E2.out.1; clear hb2)
          | (go_at_call 13; refine (num_any _ _).mono ?_; rintro e w' ⟨rfl, hw'⟩; subst w'))
        go_meet
        exact ⟨bel_alloc E2.out.2 _⟩
    · go_wp2_with (fail)
      go_meet
      exact ⟨H2.out.1.2.2⟩
  case rest =>
  have HBc : Hid (Below w.heap.size w wc) := hcut
  clear hcut H2 HS HA3 HVal heq hq1 hq2 q3
  obtain ⟨M, hM⟩ : ∃ M, evI [] L 0 = M := ⟨_, rfl⟩
  rw [hM] at HE1 HNZ HBR
  clear hM
  cases M with
  | error er =>
    simp only [evE] at HE1
    have hz : (er != 0) = true := bne_iff_ne.2 (HNZ.out er rfl)
    go_wp2_with (first
      | (go_at_call 8; refine (HTok.out _ HBc.out).mono ?_; rintro e w1 ⟨v1, he, o1, hb1⟩; subst he; obtain ⟨a1, c1, hv, hin⟩ := HIN.out _ _ _ o1; subst hv; have HI1 := hid' hin; have HB1 := hid' (bel_trans HBc.out hb1); clear hin o1 hb1)
      | (go_at_call 9; refine (HE1.out _ _ _ HI1.out).mono ?_; rintro e w2 ⟨he, hb2⟩; subst he; have HB2 := hid' (bel_trans HB1.out hb2); clear hb2)
      | (go_at_call 13; refine (num_any _ _).mono ?_; rintro e w' ⟨rfl, hw'⟩; subst w')
      | (go_at_call 14; refine (HK.out _ (bel_alloc HB2.out _)).mono ?_; rintro e wp ⟨rfl, hb⟩))
    go_ret
    exact ⟨rfl, bel_trans (bel_alloc HB2.out _) hb⟩
  | ok vb =>
    obtain ⟨⟨v1, v2, v3⟩, b⟩ := vb
    simp only [evE] at HE1
    by_cases hbl : b = L.length
    · subst hbl
      have hll : ((L.length : Int) != (L.length : Int)) = false := by simp
      have hw2 : IntKind.i64.wrap ((L.length : Int) + 2) = (L.length : Int) + 2 := by rw [IntKind.wrap_i64]; have := HL.out; omega
      have q4 : ∀ v, (binOp .eql 27 (.agg #[.string v1, .string v2, .int .i64 v3]) (.agg #[.string v1, .string v2, .int .i64 v3])).run Tryz.prog v = .ok (.bool true) v := fun v => by rw [eqlV]; simp
      have hbr := HBR.out _ rfl
      go_upto_region 13 with (first
        | (go_at_call 8; refine (HTok.out _ HBc.out).mono ?_; rintro e w1 ⟨v1, he, o1, hb1⟩; subst he; obtain ⟨a1, c1, hv, hin⟩ := HIN.out _ _ _ o1; subst hv; have HI1 := hid' hin; have HB1 := hid' (bel_trans HBc.out hb1); clear hin o1 hb1)
        | (go_at_call 9; refine (HE1.out _ _ _ HI1.out).mono ?_; rintro e w2 ⟨he, hb2⟩; subst he; have HB2 := hid' (bel_trans HB1.out hb2); clear hb2)
        | (go_at_call 13; refine (num_any _ _).mono ?_; rintro e w' ⟨rfl, hw'⟩; subst w'))
      have VA := VB.new w2 v1 v2 v3
      have BA : Below w.heap.size w (w2.alloc (.cells #[.string v1, .string v2, .int .i64 v3] 27)) := bel_alloc HB2.out _
      generalize w2.heap.size = gv at *
      generalize w2.alloc (.cells #[.string v1, .string v2, .int .i64 v3] 27) = wA at *
      have hgv := VA.lt
      have HVA := hid' VA
      have HBA := hid' BA
      clear VA BA
      go_upto_region 14 with (first
        | (go_at_call 8; refine (HTok.out _ (bel_alloc HBA.out _)).mono ?_; rintro e w3 ⟨v3', he, o3, hb3⟩; subst he; obtain ⟨a3, c3, hv3, _, _, ht3, hn3⟩ := OwnTP.any o3; subst hv3; have R3 : OwnTP w3 wA.heap.size (.slice (some ⟨wA.heap.size, 0, none⟩) 1 1) [tkO] := OwnTP.bel (World.ownsRow_lit wA #[.int .i64 4, .int .i64 0, .int .i64 0, .string ⟨#[40]⟩] 1 (Nat.le_refl _) (by decide) rfl) hb3; have HR3 := hid' (And.intro R3 (And.intro ht3 hn3)); have HV3 := hid' (VB.bel (VB.alloc HVA.out _) hb3 (by simp; omega)); have HB3 := hid' (And.intro (bel_trans (bel_alloc HBA.out _) hb3) (Nat.le_trans (bel_alloc (Below.refl _ _) _ : Below wA.heap.size wA _).size hb3.size)); clear R3 ht3 hn3 o3 hb3)
        | (at_builtin; refine append_toksP w3 rfl _ _ rfl wA.heap.size _ [tkO] rfl HR3.out.1 a3 c3 L rfl HR3.out.2.1 HR3.out.2.2 (by have := HL.out; simp; omega) HB3.out.2 ?_; intro v4 w4 o4 hb4; have HO4 := hid' o4; have HV4 := hid' (VB.bel HV3.out hb4 hgv); have HB4 := hid' (And.intro (HB3.out.1.trans (hb4.mono HBA.out.size)) (Nat.le_trans HB3.out.2 hb4.size)); clear o4 hb4))
      have HIN3 : Hid (∀ W v, OwnTP W wA.heap.size v ([tkO] ++ L ++ [(⟨4, 0, [41]⟩, 0)]) → ∃ ao cp, v = .slice ao (L.length + 2) cp ∧ EvIn W ao (inB L) none []) := ⟨fun W v h => HIN2.out W _ v h⟩
      have hlen4 : ([tkO] ++ L).length + 1 ≤ 2199023255552 := by have := HL.out; simp; omega
      clear HE1 HIN HIN2 HBR HNZ HTok hll
      rcases hbr with e2 | e2
      · rw [e2] at HE2
        simp only [evE] at HE2
        rw [show ((L.length + 2 : Nat) : Int) = (L.length : Int) + 2 by omega] at HE2
        have h06 : ((0 : Int) == 6) = false := by decide
        go_wp2_with (first
          | (at_builtin; refine append_tokP w4 rfl _ _ rfl wA.heap.size _ ([tkO] ++ L) 4 0 0 [41] ⟨#[41]⟩ rfl HO4.out rfl _ rfl rfl hlen4 HB4.out.2 ?_; intro v5 w5 o5 hb5; obtain ⟨a5, c5, hv5, hi5⟩ := HIN3.out _ _ o5; subst hv5; have HI5 := hid' hi5; have HV5 := hid' (VB.bel HV4.out hb5 hgv); have HB5 := hid' (HB4.out.1.trans (hb5.mono HBA.out.size)); clear o5 hb5 hi5)
          | (go_at_call 9; refine (HE2.out _ _ _ HI5.out).mono ?_; rintro e w6 ⟨he, hb6⟩; subst he; have HV6 := hid' (HV5.out.bel hb6 HV5.out.lt); have HB6 := hid' (bel_trans HB5.out hb6); obtain ⟨c0, c1', c2, _⟩ := id HV6.out; have c0a := up_alloc c0 (.cells #[.string v1, .string v2, .int .i64 v3] 27); have c1a := up_alloc c1' (.cells #[.string v1, .string v2, .int .i64 v3] 27); have c2a := up_alloc c2 (.cells #[.string v1, .string v2, .int .i64 v3] 27); clear hb6)
          | (go_at_call 13; refine (num_any _ _).mono ?_; rintro e w' ⟨rfl, hw'⟩; subst w')
          | (go_at_call 14; refine (HK.out _ (bel_alloc HB6.out _)).mono ?_; rintro e wp ⟨rfl, hb⟩))
        go_ret
        exact ⟨rfl, bel_trans (bel_alloc HB6.out _) hb⟩
      · rw [e2] at HE2
        simp only [evE] at HE2
        go_wp2_with (first
          | (at_builtin; refine append_tokP w4 rfl _ _ rfl wA.heap.size _ ([tkO] ++ L) 4 0 0 [41] ⟨#[41]⟩ rfl HO4.out rfl _ rfl rfl hlen4 HB4.out.2 ?_; intro v5 w5 o5 hb5; obtain ⟨a5, c5, hv5, hi5⟩ := HIN3.out _ _ o5; subst hv5; have HI5 := hid' hi5; have HB5 := hid' (HB4.out.1.trans (hb5.mono HBA.out.size)); clear o5 hb5 hi5)
          | (go_at_call 9; refine (HE2.out _ _ _ HI5.out).mono ?_; rintro e w6 ⟨he, hb6⟩; subst he; have HB6 := hid' (bel_trans HB5.out hb6); clear hb6)
          | (go_at_call 13; refine (num_any _ _).mono ?_; rintro e w' ⟨rfl, hw'⟩; subst w')
          | (go_at_call 14; refine (HK.out _ (bel_alloc HB6.out _)).mono ?_; rintro e wp ⟨rfl, hb⟩))
        go_ret
        exact ⟨rfl, bel_trans (bel_alloc HB6.out _) hb⟩
    · have hne : ((b : Int) != (L.length : Int)) = true := bne_iff_ne.2 (by omega)
      go_wp2_with (first
        | (go_at_call 8; refine (HTok.out _ HBc.out).mono ?_; rintro e w1 ⟨v1, he, o1, hb1⟩; subst he; obtain ⟨a1, c1, hv, hin⟩ := HIN.out _ _ _ o1; subst hv; have HI1 := hid' hin; have HB1 := hid' (bel_trans HBc.out hb1); clear hin o1 hb1)
        | (go_at_call 9; refine (HE1.out _ _ _ HI1.out).mono ?_; rintro e w2 ⟨he, hb2⟩; subst he; have HB2 := hid' (bel_trans HB1.out hb2); clear hb2)
        | (go_at_call 13; refine (num_any _ _).mono ?_; rintro e w' ⟨rfl, hw'⟩; subst w')
        | (go_at_call 14; refine (HK.out _ (bel_alloc HB2.out _)).mono ?_; rintro e wp ⟨rfl, hb⟩))
      go_ret
      exact ⟨rfl, bel_trans (bel_alloc HB2.out _) hb⟩
end Go.Proofs.YtljmbgflcidokaaGreatDoor
