/- Sums and differences of values. -/
import Derived.Test.YtljmbgflcidokaaGreatDoorXVal
import Derived.Deep.Cut
import Derived.Deep.CutRange
import Derived.Deep.RegionWith
namespace Go.Proofs.YtljmbgflcidokaaGreatDoor
open Go.ChangeShapes Go.WideShapes Go.ChangeAt Go.RowKit
set_option linter.unusedVariables false
set_option linter.unusedSimpArgs false

/-- Names that may be joined. -/
structure Vx.Ok (v : Vx) : Prop where
  p : v.p.size ≤ 281474976710656
  m : v.m.size ≤ 281474976710656
theorem es_size : es.size = 0 := rfl
theorem Vx.Ok.num (n : Int) : (Vx.num n).Ok := ⟨by show es.size ≤ _; rw [es_size]; omega, by show es.size ≤ _; rw [es_size]; omega⟩
theorem Vx.Ok.red {v : Vx} (h : v.Ok) : (redV v).Ok := by
  unfold redV
  split
  · exact Vx.Ok.num v.n
  · exact h
theorem Vx.Ok.turn {v : Vx} (h : v.Ok) : (turnV v).Ok := ⟨h.m, h.p⟩
theorem cat_left (a : ByteArray) : a ++ es = a := by
  apply ByteArray.ext
  simp [es]
theorem cat_right (a : ByteArray) : es ++ a = a := by
  apply ByteArray.ext
  simp [es]
/-- What a sum answers. -/
def vE : Option Vx → Value
  | some v => .tuple #[v.val, .int .i64 0]
  | none => .tuple #[Vx.zero.val, .int .i64 110]
theorem vE_some (p m : ByteArray) (n : Int) : vE (some ⟨p, m, n⟩) = .tuple #[.agg #[.string p, .string m, .int .i64 n], .int .i64 0] := by unfold vE; simp only; rw [Vx.val_mk]
theorem vE_none : vE none = .tuple #[.agg #[.string ⟨#[]⟩, .string ⟨#[]⟩, .int .i64 0], .int .i64 110] := by unfold vE; simp only; unfold Vx.zero; rw [Vx.val_mk]; rfl
theorem cut_ok {a b : ByteArray} (ha : a.size ≤ 281474976710656) (hb : b.size ≤ 281474976710656) : (cutN a b).1.size ≤ 281474976710656 ∧ (cutN a b).2.size ≤ 281474976710656 := by
  unfold cutN
  split
  · exact ⟨by show es.size ≤ _; rw [es_size]; omega, by show es.size ≤ _; rw [es_size]; omega⟩
  · exact ⟨ha, hb⟩
theorem addR_ok {a b v : Vx} (ha : a.Ok) (hb : b.Ok) (h : addR a b = some v) : v.Ok := by
  unfold addR at h
  have h1 := cut_ok ha.p hb.m
  have h2 := cut_ok ha.m hb.p
  generalize cutN a.p b.m = x at *
  generalize cutN a.m b.p = y at *
  obtain ⟨x1, x2⟩ := x
  obtain ⟨y1, y2⟩ := y
  simp only at h h1 h2
  split at h
  · cases h
  · rename_i hn
    injection h with h
    subst h
    unfold twoN at hn
    have e1 : x1 = es ∨ y2 = es := by
      cases g1 : sB x1 es
      · cases g2 : sB y2 es
        · rw [g1, g2] at hn; simp at hn
        · exact .inr ((sB_iff _ _).1 g2)
      · exact .inl ((sB_iff _ _).1 g1)
    have e2 : y1 = es ∨ x2 = es := by
      cases g1 : sB y1 es
      · cases g2 : sB x2 es
        · rw [g1, g2] at hn; simp at hn
        · exact .inr ((sB_iff _ _).1 g2)
      · exact .inl ((sB_iff _ _).1 g1)
    refine ⟨?_, ?_⟩
    · show (x1 ++ y2).size ≤ _
      rcases e1 with rfl | rfl
      · rw [cat_right]; exact h2.2
      · rw [cat_left]; exact h1.1
    · show (y1 ++ x2).size ≤ _
      rcases e2 with rfl | rfl
      · rw [cat_right]; exact h1.2
      · rw [cat_left]; exact h2.1
theorem addV_ok {a b v : Vx} (ha : a.Ok) (hb : b.Ok) (h : addV a b = some v) : v.Ok := addR_ok ha.red hb.red h
theorem subV_ok {a b v : Vx} (ha : a.Ok) (hb : b.Ok) (h : subV a b = some v) : v.Ok := addV_ok ha hb.turn h

theorem sB_es : sB es es = true := by rw [sB_iff]
theorem emp_eq (s : ByteArray) : s.toList.isEmpty = sB s es := by
  unfold sB
  have : es.toList = [] := by rw [ByteArray.toList_eq]; rfl
  rw [this]
  cases s.toList <;> rfl
/-- The blocks of a sum. -/
abbrev S4 (w v : World) (p m : ByteArray) (n : Int) (q k : ByteArray) (i : Int) : Prop := VB v w.heap.size p m n ∧ VB v (w.heap.size + 1) q k i ∧ VB v (w.heap.size + 1 + 1) ⟨#[]⟩ ⟨#[]⟩ 0 ∧ Below w.heap.size w v
theorem S4.bel {w v u : World} {p m q k : ByteArray} {n i : Int} (h : S4 w v p m n q k i) (hb : Below v.heap.size v u) : S4 w u p m n q k i :=
  ⟨h.1.bel hb h.1.lt, h.2.1.bel hb h.2.1.lt, h.2.2.1.bel hb h.2.2.1.lt, bel_trans h.2.2.2 hb⟩
theorem S4.drew {w v : World} {p m q k : ByteArray} {n i : Int} (h : S4 w v p m n q k i) : S4 w v.drew p m n q k i := h.bel (Below.refl _ _).drew
theorem S4.set {w u : World} {p m q k : ByteArray} {n i : Int} (h : S4 w u p m n q k i) (p1 m1 : ByteArray) (n1 : Int) (q1 k1 : ByteArray) (i1 : Int) :
    S4 w ((((((u.setCell ⟨w.heap.size, 0, none⟩ (.string p1)).setCell ⟨w.heap.size, 1, none⟩ (.string m1)).setCell ⟨w.heap.size, 2, none⟩ (.int .i64 n1)).setCell ⟨w.heap.size + 1, 0, none⟩ (.string q1)).setCell ⟨w.heap.size + 1, 1, none⟩ (.string k1)).setCell ⟨w.heap.size + 1, 2, none⟩ (.int .i64 i1)) p1 m1 n1 q1 k1 i1 := by
  obtain ⟨h1, h2, h3, h4⟩ := h
  refine ⟨?_, ?_, ?_, ?_⟩
  · exact (((h1.set p1 m1 n1).setAt _ 0 (by omega) _).setAt _ 1 (by omega) _).setAt _ 2 (by omega) _
  · exact (((h2.setAt _ 0 (by omega) _).setAt _ 1 (by omega) _).setAt _ 2 (by omega) _).set q1 k1 i1
  · exact (((((h3.setAt _ 0 (by omega) _).setAt _ 1 (by omega) _).setAt _ 2 (by omega) _).setAt _ 0 (by omega) _).setAt _ 1 (by omega) _).setAt _ 2 (by omega) _
  · repeat (refine Below.setCell ?_ (by simp) _)
    exact h4
theorem S4.setA {w u : World} {p m q k : ByteArray} {n i : Int} (h : S4 w u p m n q k i) : S4 w ((u.setCell ⟨w.heap.size, 0, none⟩ (.string ⟨#[]⟩)).setCell ⟨w.heap.size + 1, 1, none⟩ (.string ⟨#[]⟩)) ⟨#[]⟩ m n q ⟨#[]⟩ i := by
  obtain ⟨h1, h2, h3, h4⟩ := h
  exact ⟨(h1.set0 _).setAt _ 1 (by omega) _, (h2.setAt _ 0 (by omega) _).set1 _, (h3.setAt _ 0 (by omega) _).setAt _ 1 (by omega) _, (h4.setCell (by simp) _).setCell (by simp) _⟩
theorem S4.setB {w u : World} {p m q k : ByteArray} {n i : Int} (h : S4 w u p m n q k i) : S4 w ((u.setCell ⟨w.heap.size, 1, none⟩ (.string ⟨#[]⟩)).setCell ⟨w.heap.size + 1, 0, none⟩ (.string ⟨#[]⟩)) p ⟨#[]⟩ n ⟨#[]⟩ k i := by
  obtain ⟨h1, h2, h3, h4⟩ := h
  exact ⟨(h1.set1 _).setAt _ 0 (by omega) _, (h2.setAt _ 1 (by omega) _).set0 _, (h3.setAt _ 1 (by omega) _).setAt _ 0 (by omega) _, (h4.setCell (by simp) _).setCell (by simp) _⟩
set_option maxHeartbeats 4000000 in
theorem add_any (a b : Vx) (ha : a.Ok) (hb : b.Ok) (w : World) : Calls Tryz.prog 15 #[.agg #[.string a.p, .string a.m, .int .i64 a.n], .agg #[.string b.p, .string b.m, .int .i64 b.n]] w fun e w' => e = .returned (vE (addV a b)) ∧ Below w.heap.size w w' := by
  have oa := ha.red
  have ob := hb.red
  obtain ⟨M, hM⟩ : ∃ M, addV a b = M := ⟨_, rfl⟩
  rw [hM]
  unfold addV at hM
  obtain ⟨p, m, n⟩ := a
  obtain ⟨q, k, i⟩ := b
  have HA : Hid _ := ⟨reduced_any p m n⟩
  have HB : Hid _ := ⟨reduced_any q k i⟩
  generalize hra : redV ⟨p, m, n⟩ = ra at *
  generalize hrb : redV ⟨q, k, i⟩ = rb at *
  obtain ⟨p1, m1, n1⟩ := ra
  obtain ⟨q1, k1, i1⟩ := rb
  rw [Vx.val_mk] at HA HB
  have sp := oa.p
  have sm := oa.m
  have sq := ob.p
  have sk := ob.m
  clear hra hrb ha hb oa ob
  simp only at sp sm sq sk ⊢
  have V2 := (VB.new w p m n).alloc (.cells #[.string q, .string k, .int .i64 i] 27) |>.alloc zV
  have V3 := (VB.at (w.alloc (.cells #[.string p, .string m, .int .i64 n] 27)) q k i (w.heap.size + 1) (by simp)).alloc zV
  have V4 := (VB.at ((w.alloc (.cells #[.string p, .string m, .int .i64 n] 27)).alloc (.cells #[.string q, .string k, .int .i64 i] 27)) ⟨#[]⟩ ⟨#[]⟩ 0 (w.heap.size + 1 + 1) (by simp))
  have B0 : Below w.heap.size w (((w.alloc (.cells #[.string p, .string m, .int .i64 n] 27)).alloc (.cells #[.string q, .string k, .int .i64 i] 27)).alloc zV) := bel_alloc (bel_alloc (bel_alloc (Below.refl _ _) _) _) _
  have HM : Hid _ := ⟨hM⟩
  clear hM
  go_enter Tryz.func15, Tryz.ntmps15
  go_upto_region 1 with (fail)
  generalize hG : ((w.alloc (.cells #[.string p, .string m, .int .i64 n] 27)).alloc (.cells #[.string q, .string k, .int .i64 i] 27)).alloc zV = v at *
  clear hG
  have HV : Hid (S4 w v p m n q k i) := ⟨V2, V3, V4, B0⟩
  clear V2 V3 V4 B0
  go_cut [] from 6 to 9 (fun wx => Hid (S4 w wx p1 m1 n1 q1 k1 i1))
  case first =>
    have D2 : VB v.drew w.heap.size p m n := HV.out.1.drewN 1
    have D3 : VB v.drew (w.heap.size + 1) q k i := HV.out.2.1.drewN 1
    obtain ⟨d0, d1, d2, _⟩ := D2
    obtain ⟨e0, e1, e2, _⟩ := D3
    go_region_with (first
      | (have _ := M1; go_at_call 27; (with_reducible refine (HB.out _).mono ?_); rintro e w2 ⟨rfl, hb2⟩; have HV2 := S4.bel HV1.out hb2; clear hb2; obtain ⟨d0, d1, d2, d3⟩ := HV2.1; obtain ⟨e0, e1, e2, e3⟩ := HV2.2.1)
      | (go_at_call 27; (with_reducible refine (HA.out _).mono ?_); rintro e w1 ⟨rfl, hb1⟩; have M1 := True.intro; have HV1 : Hid _ := ⟨S4.bel (S4.drew HV.out) hb1⟩; clear hb1; obtain ⟨d0, d1, d2, _⟩ := HV1.out.1; obtain ⟨e0, e1, e2, _⟩ := HV1.out.2.1))
    all_goals
      go_wp2_with (fail)
      go_meet
      exact ⟨HV2.set p1 m1 n1 q1 k1 i1⟩
  case rest =>
    have HC := hcut.out
    clear hcut HA HB HV
    obtain ⟨t1, ht1⟩ : ∃ t, (p1.toList == k1.toList) = t := ⟨_, rfl⟩
    obtain ⟨ap, bm, hc1⟩ : ∃ x y, cutN p1 k1 = (x, y) := ⟨_, _, rfl⟩
    obtain ⟨am, bp, hc2⟩ : ∃ x y, cutN m1 q1 = (x, y) := ⟨_, _, rfl⟩
    have HC1 : Hid _ := ⟨hc1⟩
    have HC2 : Hid _ := ⟨hc2⟩
    clear hc1 hc2
    have d0 := HC.1.c0
    have d1 := HC.1.c1
    have d3 := HC.1.fz
    have e0 := HC.2.1.c0
    have e1 := HC.2.1.c1
    have e3 := HC.2.1.fz
    have HCH : Hid _ := ⟨HC⟩
    clear HC
    go_upto_if 14 with (fail)
    go_cut [] from 15 to 16 (fun wx => Hid (S4 w wx ap m1 n1 q1 bm i1))
    case first =>
      cases t1
      · have e := HC1.out
        unfold cutN at e
        rw [if_neg (by unfold sB; rw [ht1]; simp)] at e
        obtain ⟨rfl, rfl⟩ := Prod.mk.inj e
        go_wp2_with (fail)
        go_meet
        exact ⟨HCH.out⟩
      · have e := HC1.out
        unfold cutN at e
        rw [if_pos (by unfold sB; rw [ht1])] at e
        obtain ⟨rfl, rfl⟩ := Prod.mk.inj e
        go_wp2_with (fail)
        go_meet
        exact ⟨HCH.out.setA⟩
    case rest =>
      have HC := hcut.out
      clear hcut HCH d0 d1 d3 e0 e1 e3
      obtain ⟨t2, ht2⟩ : ∃ t, (m1.toList == q1.toList) = t := ⟨_, rfl⟩
      have d1 := HC.1.c1
      have d3 := HC.1.fz
      have e0 := HC.2.1.c0
      have e3 := HC.2.1.fz
      have HCH : Hid _ := ⟨HC⟩
      clear HC
      go_upto_if 21 with (fail)
      go_cut [] from 22 to 23 (fun wx => Hid (S4 w wx ap am n1 bp bm i1))
      case first =>
        cases t2
        · have e := HC2.out
          unfold cutN at e
          rw [if_neg (by unfold sB; rw [ht2]; simp)] at e
          obtain ⟨rfl, rfl⟩ := Prod.mk.inj e
          go_wp2_with (fail)
          go_meet
          exact ⟨HCH.out⟩
        · have e := HC2.out
          unfold cutN at e
          rw [if_pos (by unfold sB; rw [ht2])] at e
          obtain ⟨rfl, rfl⟩ := Prod.mk.inj e
          go_wp2_with (fail)
          go_meet
          exact ⟨HCH.out.setB⟩
      case rest =>
        have HC := hcut.out
        clear hcut HCH d1 d3 e0 e3
        have d0 := HC.1.c0
        have d1 := HC.1.c1
        have d2 := HC.1.c2
        have e0 := HC.2.1.c0
        have e1 := HC.2.1.c1
        have e2 := HC.2.1.c2
        have HM2 : Hid (M = if twoN ap bp am bm = true then none else some ⟨ap ++ bp, am ++ bm, wrap64 (n1 + i1)⟩) := ⟨by
          rw [← HM.out]
          unfold addR
          simp only
          rw [HC1.out, HC2.out]⟩
        have HSZ : Hid (ap.size ≤ 281474976710656 ∧ bp.size ≤ 281474976710656 ∧ am.size ≤ 281474976710656 ∧ bm.size ≤ 281474976710656) := ⟨by
          have x1 := cut_ok sp sk
          have x2 := cut_ok sm sq
          rw [HC1.out] at x1
          rw [HC2.out] at x2
          exact ⟨x1.1, x2.2, x2.1, x1.2⟩⟩
        clear HM HC1 HC2 ht1 ht2 sp sm sq sk
        have HCH : Hid _ := ⟨HC⟩
        clear HC
        obtain ⟨T, hT⟩ : ∃ T, twoN ap bp am bm = T := ⟨_, rfl⟩
        have HT : Hid _ := ⟨hT⟩
        rw [hT] at HM2
        clear hT
        go_upto_region 6 with (fail)
        go_cut [41] from 24 to 40 (fun s wx => s = .bool T ∧ Hid (S4 w wx ap am n1 bp bm i1))
        case first =>
          have hT := HT.out
          clear HT HM2 HSZ
          unfold twoN at hT
          cases g1 : sB ap es
          all_goals cases g2 : sB bp es
          all_goals cases g3 : sB am es
          all_goals cases g4 : sB bm es
          all_goals rw [g1, g2, g3, g4] at hT
          all_goals simp only [Bool.not_true, Bool.not_false, Bool.and_true, Bool.and_false, Bool.or_true, Bool.or_false, Bool.true_or, Bool.false_or, Bool.true_and, Bool.false_and] at hT
          all_goals have g1' := (emp_eq ap).trans g1
          all_goals have g2' := (emp_eq bp).trans g2
          all_goals have g3' := (emp_eq am).trans g3
          all_goals have g4' := (emp_eq bm).trans g4
          all_goals clear g1 g2 g3 g4
          all_goals subst hT
          all_goals go_wp2_with (fail)
          all_goals go_meet
          all_goals exact ⟨rfl, HCH⟩
        case rest =>
          obtain ⟨hs, HC'⟩ := hcut
          subst hs
          have HC := HC'.out
          clear HC' HCH d0 d1 d2 e0 e1 e2 HT
          cases T
          · have hm : M = some ⟨ap ++ bp, am ++ bm, wrap64 (n1 + i1)⟩ := HM2.out
            have d0 := HC.1.c0
            have d1 := HC.1.c1
            have d2 := HC.1.c2
            have e0 := HC.2.1.c0
            have e1 := HC.2.1.c1
            have e2 := HC.2.1.c2
            have f0 := HC.2.2.1.c0
            have f1 := HC.2.2.1.c1
            have f2 := HC.2.2.1.c2
            have f3 := HC.2.2.1.fz
            obtain ⟨z1, z2, z3, z4⟩ := HSZ.out
            have hz1 : ¬ (9223372036854775807 : Int) < ((ap.size + bp.size : Nat) : Int) := by omega
            have hz2 : ¬ (9223372036854775807 : Int) < ((am.size + bm.size : Nat) : Int) := by omega
            have HCH : Hid _ := ⟨HC⟩
            clear HC HM2 HSZ z1 z2 z3 z4
            subst hm
            go_wp2
            refine bodyPost_ret (resV_Add _ _ (w.heap.size + 1 + 1) _ _ _ rfl (HCH.out.2.2.1.set _ _ _)) rfl ⟨by rw [vE_some]; rfl, ?_⟩
            exact ((HCH.out.2.2.2.setCell (by dsimp only; omega) _).setCell (by dsimp only; omega) _).setCell (by dsimp only; omega) _
          · have hm : M = none := HM2.out
            have f0 := HC.2.2.1.c0
            have f1 := HC.2.2.1.c1
            have f2 := HC.2.2.1.c2
            have f3 := HC.2.2.1.fz
            have HCH : Hid _ := ⟨HC⟩
            clear HC HM2 HSZ
            subst hm
            go_wp2
            refine bodyPost_ret (resV_Add _ _ (w.heap.size + 1 + 1) _ _ _ rfl (HCH.out.2.2.1.set _ _ _)) rfl ⟨by rw [vE_none]; rfl, ?_⟩
            exact ((HCH.out.2.2.2.setCell (by dsimp only; omega) _).setCell (by dsimp only; omega) _).setCell (by dsimp only; omega) _

theorem sub_any (a b : Vx) (ha : a.Ok) (hb : b.Ok) (w : World) : Calls Tryz.prog 17 #[.agg #[.string a.p, .string a.m, .int .i64 a.n], .agg #[.string b.p, .string b.m, .int .i64 b.n]] w fun e w' => e = .returned (vE (subV a b)) ∧ Below w.heap.size w w' := by
  have HA : Hid _ := ⟨fun W => add_any a (turnV b) ha hb.turn W⟩
  obtain ⟨M, hM⟩ : ∃ M, addV a (turnV b) = M := ⟨_, rfl⟩
  have e : subV a b = M := hM
  rw [e]
  rw [hM] at HA
  clear hM e
  obtain ⟨p, m, n⟩ := a
  obtain ⟨q, k, i⟩ := b
  unfold turnV at HA
  simp only at HA ⊢
  have V4 := (VB.at ((w.alloc (.cells #[.string p, .string m, .int .i64 n] 27)).alloc (.cells #[.string q, .string k, .int .i64 i] 27)) ⟨#[]⟩ ⟨#[]⟩ 0 (w.heap.size + 1 + 1) (by simp))
  have B0 : Below w.heap.size w (((w.alloc (.cells #[.string p, .string m, .int .i64 n] 27)).alloc (.cells #[.string q, .string k, .int .i64 i] 27)).alloc zV) := bel_alloc (bel_alloc (bel_alloc (Below.refl _ _) _) _) _
  cases M with
  | none =>
    rw [vE_none] at HA ⊢
    go_enter Tryz.func17, Tryz.ntmps17
    go_wp2_with (go_at_call 15; (with_reducible refine (HA.out _).mono ?_); rintro e w1 ⟨rfl, hb1⟩; have W4 := V4.bel hb1 V4.lt; obtain ⟨f0, f1, f2, f3⟩ := W4)
    refine bodyPost_ret (resV_Sub _ _ (w.heap.size + 1 + 1) _ _ _ rfl ((V4.bel hb1 V4.lt).set _ _ _)) rfl ⟨rfl, ?_⟩
    exact (((bel_trans B0 hb1).setCell (by dsimp only; omega) _).setCell (by dsimp only; omega) _).setCell (by dsimp only; omega) _
  | some x =>
    obtain ⟨x1, x2, x3⟩ := x
    rw [vE_some] at HA ⊢
    go_enter Tryz.func17, Tryz.ntmps17
    go_wp2_with (go_at_call 15; (with_reducible refine (HA.out _).mono ?_); rintro e w1 ⟨rfl, hb1⟩; have W4 := V4.bel hb1 V4.lt; obtain ⟨f0, f1, f2, f3⟩ := W4)
    refine bodyPost_ret (resV_Sub _ _ (w.heap.size + 1 + 1) _ _ _ rfl ((V4.bel hb1 V4.lt).set _ _ _)) rfl ⟨rfl, ?_⟩
    exact (((bel_trans B0 hb1).setCell (by dsimp only; omega) _).setCell (by dsimp only; omega) _).setCell (by dsimp only; omega) _
end Go.Proofs.YtljmbgflcidokaaGreatDoor
