/- DecodeJoined: the law's own walk. -/
import Derived.Test.YtbcfcbnlfbhgjaaDJoin
namespace Go.Proofs.Ytbcfcbnlfbhgjaa
open Go.ChangeShapes Go.WideShapes Go.ChangeAt Go.RowKit
set_option linter.unusedVariables false
set_option linter.unusedSimpArgs false

theorem joined_row {w : World} {base g k cap l0 l1 : Nat} {z0 z1 : Nat → Int} (h : Own w base (.slice (some ⟨g, 0, none⟩) k cap) (lst z0 l0 ++ lst z1 l1)) (hk : k = l0 + l1) (h0 : ∀ i, 0 ≤ z0 i ∧ z0 i < 256) (h1 : ∀ i, 0 ≤ z1 i ∧ z1 i < 256)
    (hc : k ≤ cap) (hcap : cap ≤ 9223372036854775807) : IsRow w (some ⟨g, 0, none⟩) (l0 + l1) cap (joinB l0 z0 z1) := by
  subst hk
  refine ⟨?_, fun i => by unfold joinB; split <;> first | exact h0 _ | exact h1 _, hc, hcap, fun e => by cases e⟩
  by_cases hz : l0 + l1 = 0
  · exact .inl hz
  · refine .inr ⟨g, 0, rfl, fun i hi => ?_⟩
    have hlen : (lst z0 l0 ++ lst z1 l1).length = l0 + l1 := by simp [lst_len]
    obtain ⟨g', cap', hv, _, hg, hcl⟩ := h.lies (by omega)
    obtain rfl : g = g' := by
      simp only [Value.slice.injEq, Option.some.injEq, Addr.mk.injEq] at hv
      exact hv.1.1
    rw [Nat.zero_add, hcl i (by omega)]
    congr 2
    unfold joinB
    by_cases hi0 : i < l0
    · rw [if_pos hi0, List.getD_eq_getElem?_getD, List.getElem?_append_left (by rw [lst_len]; exact hi0), lst_at? z0 l0 i hi0]; rfl
    · rw [if_neg hi0, List.getD_eq_getElem?_getD, List.getElem?_append_right (by rw [lst_len]; omega), lst_len, lst_at? z1 l1 (i - l0) (by omega)]; rfl

theorem allF_err {len : Nat} {bs : Nat → Int} (hb : ∀ i, 0 ≤ bs i ∧ bs i < 256) : ∀ f k n, allF len bs f k = .error n → (n != 0) = true := by
  intro f
  induction f with
  | zero => intro k n h; cases h
  | succ f ih =>
    intro k n h
    by_cases hk : k < len
    · rw [allF_on _ _ _ _ hk] at h
      rcases hm : instM (cut len bs k) with m | p
      · rw [hm] at h
        cases h
        have := inst_e _ (fun i => hb _) n hm
        rcases this with rfl | rfl <;> rfl
      · rw [hm] at h
        have h : (allF len bs f (k + p.2) >>= fun l => .ok ((p.1, k) :: l)) = .error n := h
        rcases ha : allF len bs f (k + p.2) with m | l
        · rw [ha] at h
          cases h
          exact ih _ _ ha
        · rw [ha] at h; cases h
    · rw [allF_end _ _ _ _ (by omega)] at h; cases h
theorem all_err {len : Nat} {bs : Nat → Int} (hb : ∀ i, 0 ≤ bs i ∧ bs i < 256) {n : Int} (h : allM len bs = .error n) : (n != 0) = true := allF_err hb _ _ _ h

theorem joined_no0 (o0 : Option Addr) (l0 c0 : Nat) (z0 : Nat → Int) (o1 : Option Addr) (l1 c1 : Nat) (z1 : Nat → Int) (w : World) (w0 : IsRow w o0 l0 c0 z0) (y0 : l0 ≤ 1048576) (w1 : IsRow w o1 l1 c1 z1) (y1 : l1 ≤ 1048576) (n : Int) (hn : (n != 0) = true) (hm : allM l0 z0 = .error n) :
    Calls Try.prog 5 #[.slice o0 l0 c0, .slice o1 l1 c1] w fun e w' => e = .returned (.bool true) ∧ Below w.heap.size w w' := by
  have A0 := all_any o0 l0 c0 z0 w w0 (by omega)
  rw [hm] at A0
  have A1 : Hid (∀ v, Below w.heap.size w v → Calls Try.prog 12 #[.slice o1 l1 c1] v fun e w' => AllEnds (allM l1 z1) v.heap.size w' e ∧ Below v.heap.size v w') := ⟨fun v hv => all_any o1 l1 c1 z1 v ⟨w1.row.below hv (Nat.le_refl _), w1.byte, w1.fit, w1.top, w1.nil⟩ (by omega)⟩
  have HS : Hid (∀ (v : World) (e : Ending), AllEnds (allM l1 z1) v.heap.size v e → True) := ⟨fun _ _ _ => trivial⟩
  obtain ⟨M1, hM1⟩ : ∃ M, M = allM l1 z1 := ⟨_, rfl⟩
  rw [← hM1] at A1
  clear w0 w1 hm hM1 HS
  go_enter Try.func5, Try.ntmps5
  go_upto_region 2 with (go_at_call 12; (with_reducible refine A0.mono ?_); rintro e wa ⟨he, hb⟩; (have he' : _ = _ := he); subst he')
  rcases M1 with n1 | P
  · go_upto_region 3 with (go_at_call 12; (with_reducible refine (A1.out _ hb).mono ?_); rintro e wb ⟨he, hb2⟩; (have he' : _ = _ := he); subst he')
    have b2 := hb.trans (hb2.mono hb.size)
    go_wp2_with (first
      | (go_at_call 9; refine (num_any _ _).mono ?_; rintro e wn ⟨rfl, hq⟩; subst wn)
      | (go_at_call 11; refine (knows_any _).mono ?_; rintro e wk ⟨rfl, hk⟩))
    go_ret
    exact ⟨rfl, b2.trans (hk.mono b2.size)⟩
  · go_upto_region 3 with (go_at_call 12; (with_reducible refine (A1.out _ hb).mono ?_); rintro e wb ⟨⟨v, u, he, o1, o2⟩, hb2⟩; subst he)
    have b2 := hb.trans (hb2.mono hb.size)
    go_wp2_with (first
      | (go_at_call 9; refine (num_any _ _).mono ?_; rintro e wn ⟨rfl, hq⟩; subst wn)
      | (go_at_call 11; refine (knows_any _).mono ?_; rintro e wk ⟨rfl, hk⟩))
    go_ret
    exact ⟨rfl, b2.trans (hk.mono b2.size)⟩

theorem joined_no1 (o0 : Option Addr) (l0 c0 : Nat) (z0 : Nat → Int) (o1 : Option Addr) (l1 c1 : Nat) (z1 : Nat → Int) (w : World) (w0 : IsRow w o0 l0 c0 z0) (y0 : l0 ≤ 1048576) (w1 : IsRow w o1 l1 c1 z1) (y1 : l1 ≤ 1048576) (P : List (I × Nat)) (hP : allM l0 z0 = .ok P) (n : Int) (hn : (n != 0) = true) (hm : allM l1 z1 = .error n) :
    Calls Try.prog 5 #[.slice o0 l0 c0, .slice o1 l1 c1] w fun e w' => e = .returned (.bool true) ∧ Below w.heap.size w w' := by
  have A0 := all_any o0 l0 c0 z0 w w0 (by omega)
  rw [hP] at A0
  have A1 : Hid (∀ v, Below w.heap.size w v → Calls Try.prog 12 #[.slice o1 l1 c1] v fun e w' => AllEnds (.error n) v.heap.size w' e ∧ Below v.heap.size v w') := ⟨fun v hv => by rw [← hm]; exact all_any o1 l1 c1 z1 v ⟨w1.row.below hv (Nat.le_refl _), w1.byte, w1.fit, w1.top, w1.nil⟩ (by omega)⟩
  clear w0 w1 hm hP
  go_enter Try.func5, Try.ntmps5
  go_upto_region 2 with (go_at_call 12; (with_reducible refine A0.mono ?_); rintro e wa ⟨⟨v, u, he, o1, o2⟩, hb⟩; subst he)
  go_upto_region 3 with (go_at_call 12; (with_reducible refine (A1.out _ hb).mono ?_); rintro e wb ⟨he, hb2⟩; (have he' : _ = _ := he); subst he')
  have b2 := hb.trans (hb2.mono hb.size)
  go_wp2_with (first
    | (go_at_call 9; refine (num_any _ _).mono ?_; rintro e wn ⟨rfl, hq⟩; subst wn)
    | (go_at_call 11; refine (knows_any _).mono ?_; rintro e wk ⟨rfl, hk⟩))
  go_ret
  exact ⟨rfl, b2.trans (hk.mono b2.size)⟩

theorem quiet_neq {o : Oper} {a : Act} {C : World → Prop} {K : Act → Prop} {x y : Operand} {V : Array Value} (i : I) (hV : V = i.cells.toArray) (ho : o.op = .binOp .neq 27 x y 27) (hx : a.eval x = .agg V) (hy : a.eval y = .agg V) (hk : K (a.put o.dst (.bool false))) : o.quiet Try.prog a C K :=
  ⟨.bool false, fun u hu => by
    subst hV
    rw [← val_cells] at hx hy
    have e := neq_inst i u
    unfold Oper.quietAt execOp
    simp only [ho, hx, hy, Sem.run_bind, Result.andThen_ok, e]
    rw [show Sem.run Try.prog (eqGuard BinOp.neq 27 x y i.val i.val) u = .ok () u from run_eqGuard_agg u _ _ _ _ _ _ (by kernel_rfl)]
    simp only [Result.andThen_ok, e]
    exact ⟨rfl, rfl⟩, hk⟩

set_option maxRecDepth 20000 in
set_option maxHeartbeats 4000000 in
theorem joined_yes (o0 : Option Addr) (l0 c0 : Nat) (z0 : Nat → Int) (o1 : Option Addr) (l1 c1 : Nat) (z1 : Nat → Int) (w : World) (w0 : IsRow w o0 l0 c0 z0) (y0 : l0 ≤ 1048576) (w1 : IsRow w o1 l1 c1 z1) (y1 : l1 ≤ 1048576) (P Q : List (I × Nat)) (hP : allM l0 z0 = .ok P) (hQ : allM l1 z1 = .ok Q) :
    Calls Try.prog 5 #[.slice o0 l0 c0, .slice o1 l1 c1] w fun e w' => e = .returned (.bool true) ∧ Below w.heap.size w w' := by
  have A0 := all_any o0 l0 c0 z0 w w0 (by omega)
  rw [hP] at A0
  have A1 : Hid (∀ v, Below w.heap.size w v → Calls Try.prog 12 #[.slice o1 l1 c1] v fun e w' => AllEnds (.ok Q) v.heap.size w' e ∧ Below v.heap.size v w') := ⟨fun v hv => by rw [← hQ]; exact all_any o1 l1 c1 z1 v ⟨w1.row.below hv (Nat.le_refl _), w1.byte, w1.fit, w1.top, w1.nil⟩ (by omega)⟩
  have A2 : Hid (∀ v g cap, IsRow v (some ⟨g, 0, none⟩) (l0 + l1) cap (joinB l0 z0 z1) → Calls Try.prog 12 #[.slice (some ⟨g, 0, none⟩) (l0 + l1 : Nat) cap] v fun e w' => AllEnds (.ok (P ++ shiftP l0 Q)) v.heap.size w' e ∧ Below v.heap.size v w') := ⟨fun v g cap hv => by rw [← all_joined l0 l1 z0 z1 P Q hP hQ]; exact all_any _ _ _ _ v hv (by omega)⟩
  have R0 : Hid (∀ v, Below w.heap.size w v → Row v o0 l0 z0) := ⟨fun v hv => w0.row.below hv (Nat.le_refl _)⟩
  have R1 : Hid (∀ v, Below w.heap.size w v → Row v o1 l1 z1) := ⟨fun v hv => w1.row.below hv (Nat.le_refl _)⟩
  have N0 : Hid (o0 = none → l0 = 0 ∧ c0 = 0) := ⟨w0.nil⟩
  have N1 : Hid (o1 = none → l1 = 0 ∧ c1 = 0) := ⟨w1.nil⟩
  have B0 : Hid (∀ i, 0 ≤ z0 i ∧ z0 i < 256) := ⟨w0.byte⟩
  have B1 : Hid (∀ i, 0 ≤ z1 i ∧ z1 i < 256) := ⟨w1.byte⟩
  have HA : Hid (∀ p ∈ Q, (p.2 : Int) ≤ 1048576) := ⟨fun p hp => by have := allF_at _ _ _ _ _ hQ p hp; omega⟩
  have HP : P.length ≤ 1048576 := by have := allF_len _ _ _ _ _ hP (Nat.zero_le _); omega
  have HQ : Q.length ≤ 1048576 := by have := allF_len _ _ _ _ _ hQ (Nat.zero_le _); omega
  obtain ⟨X, HX⟩ : ∃ X, Hid (X = P ++ shiftP l0 Q) := ⟨_, ⟨rfl⟩⟩
  have HL : X.length = P.length + Q.length := by rw [HX.out]; simp [shiftP]
  have HN : ((X.length : Int) != (P.length : Int) + (Q.length : Int)) = false := by rw [HL]; simp
  rw [← HX.out] at A2
  clear w0 w1 hP hQ
  go_enter Try.func5, Try.ntmps5
  go_upto_region 2 with (go_at_call 12; (with_reducible refine A0.mono ?_); rintro e wa ⟨⟨v5, v6, he, q5, q6⟩, hb⟩; subst he)
  obtain ⟨a5, k5, rfl, m5, n5, s5⟩ := own_shape q5
  obtain ⟨a6, k6, rfl, m6, n6, s6⟩ := own_shape q6
  go_upto_region 3 with (go_at_call 12; (with_reducible refine (A1.out _ hb).mono ?_); rintro e wb ⟨⟨v8, v9, he, q8, q9⟩, hb2⟩; subst he)
  obtain ⟨a8, k8, rfl, m8, n8, s8⟩ := own_shape q8
  obtain ⟨a9, k9, rfl, m9, n9, s9⟩ := own_shape q9
  have b2 := hb.trans (hb2.mono hb.size)
  replace q5 := own_bel hb2 q5
  replace q6 := own_bel hb2 q6
  clear A0 A1 hb hb2
  go_upto_region 5 with (first
    | (go_at_call 9; refine (num_any _ _).mono ?_; rintro e wn ⟨rfl, hq⟩; subst wn)
    | (go_at_call 11; refine (knows_any _).mono ?_; rintro e wk ⟨rfl, hk⟩))
  replace q5 := own_bel hk q5
  replace q6 := own_bel hk q6
  replace q8 := own_bel hk q8
  replace q9 := own_bel hk q9
  replace b2 := b2.trans (hk.mono b2.size)
  clear hk
  have HE := Own.empty wk wk.heap.size (Nat.le_refl _)
  have T0 := (R0.out _ b2).alloc (.cells #[] 5)
  have tk : True := trivial
  go_upto_region 6 with (first
    | (at_builtin; have _t := tk; refine append_row _ rfl _ _ rfl wk.heap.size _ _ _ [] rfl HE _ _ _ z0 rfl T0 N0.out l0 (by omega) (by simp; omega) (by simp) ?_; intro g1 cap1 we hown1 hc1 hd1 hb1; clear tk _t HE T0; (have b3 : Below w.heap.size w we := (b2.alloc b2.size _).trans (hb1.mono b2.size)); have T1 := R1.out _ b3)
    | (at_builtin; refine append_row _ rfl _ _ rfl wk.heap.size _ _ _ (lst z0 l0) rfl hown1 _ _ _ z1 rfl T1 N1.out (l0 + l1) rfl (by rw [lst_len]; omega) (by have := hb1.size; simp at this; omega) ?_; intro g2 cap2 wf hown2 hc2 hd2 hb2; have J2 := joined_row hown2 rfl B0.out B1.out hc2 hd2)
    | (go_at_call 12; (with_reducible refine (A2.out _ _ _ J2).mono ?_); rintro e wg ⟨⟨v11, v12, he, q11, q12⟩, hb4⟩; subst he))
  obtain ⟨a11, k11, rfl, m11, n11, s11⟩ := own_shape q11
  obtain ⟨a12, k12, rfl, m12, n12, s12⟩ := own_shape q12
  have b5 : Below wk.heap.size wk wf := ((Below.refl _ _).alloc (Nat.le_refl _) _).trans (hb1.trans (hb2))
  have b6 : Below wk.heap.size wk wg := b5.trans (hb4.mono b5.size)
  replace q5 := own_bel b6 q5
  replace q6 := own_bel b6 q6
  replace q8 := own_bel b6 q8
  replace q9 := own_bel b6 q9
  have b7 := b2.trans (b6.mono b2.size)
  clear b5 b6 b2 hb4 hb2 hb1 J2 hown1 hown2 T1 A2 b3
  go_wp2_with (go_at_call 9; refine (num_any _ _).mono ?_; rintro e wn ⟨rfl, hq⟩; subst wn)
  go_loopw [14] (fun i wr => ∃ n : Nat, i = .int .i64 n ∧ n ≤ X.length ∧ Hid (Below wg.heap.size wg wr)) (fun i _ => X.length - (intOf i).toNat)
  case atStart => exact ⟨0, rfl, by omega, ⟨Below.refl _ _⟩⟩
  case round =>
    obtain ⟨n, rfl, hn, HB⟩ := hrel
    by_cases hn1 : (n : Int) < X.length
    · replace q5 := own_bel HB.out q5
      replace q6 := own_bel HB.out q6
      replace q8 := own_bel HB.out q8
      replace q9 := own_bel HB.out q9
      replace q11 := own_bel HB.out q11
      replace q12 := own_bel HB.out q12
      obtain ⟨g11, rfl⟩ := s11 (by omega)
      obtain ⟨g12, rfl⟩ := s12 (by omega)
      by_cases hn2 : (n : Int) < P.length
      · have hg : decide ((P.length : Int) ≤ (n : Int)) = false := by simp; omega
        have hg3 : decide (P.length ≤ n) = false := by simp; omega
        obtain ⟨g5, rfl⟩ := s5 (by omega)
        obtain ⟨g6, rfl⟩ := s6 (by omega)
        obtain ⟨p, hp⟩ : ∃ p, P[n]? = some p := ⟨P[n]'(by omega), by simp⟩
        have hx : X[n]? = some p := by rw [HX.out, List.getElem?_append_left (by omega)]; exact hp
        obtain ⟨V, hV⟩ : ∃ V : Array Value, V = p.1.cells.toArray := ⟨_, rfl⟩
        have D1 : ∀ d, (loadVar 27 ⟨g11, n * 24, none⟩).run Try.prog (wr.drewN d) = .ok (.agg V) (wr.drewN d) := fun d => by rw [hV]; exact load_inst (own_bel (below_drewN (Below.refl _ _) d) q11) hx
        have D2 : ∀ d, (loadVar 27 ⟨g5, n * 24, none⟩).run Try.prog (wr.drewN d) = .ok (.agg V) (wr.drewN d) := fun d => by rw [hV]; exact load_inst (own_bel (below_drewN (Below.refl _ _) d) q5) hp
        have c12 := load_at q12 hx
        have c6 := load_at q6 hp
        have HV : Hid (V = p.1.cells.toArray) := ⟨hV⟩
        clear hV hx hp q5 q6 q8 q9 q11 q12
        go_upto_region 11 with (fail)
        refine wp_region_quiet_lit (by kernel_rfl) (by kernel_rfl) ?_
        iterate 8 go_big_quiet_step (fail)
        go_big_quiet_want
        refine quiet_load (t := 27) (x := .tmp 86) (p := ⟨g11, n * 24, none⟩) (v := .agg V) rfl (by kernel_rfl) (by rintro u ⟨d, rfl⟩; exact D1 d) ?_
        simp only [Act.put, List.getElem_toArray, List.getElem_cons_succ, List.getElem_cons_zero, List.setIfInBounds_toArray, List.set_cons_zero, List.set_cons_succ]
        go_big_quiet_on
        iterate 3 go_big_quiet_step (fail)
        go_big_quiet_want
        refine quiet_load (t := 27) (x := .tmp 90) (p := ⟨g5, n * 24, none⟩) (v := .agg V) rfl (by kernel_rfl) (by rintro u ⟨d, rfl⟩; exact D2 d) ?_
        simp only [Act.put, List.getElem_toArray, List.getElem_cons_succ, List.getElem_cons_zero, List.setIfInBounds_toArray, List.set_cons_zero, List.set_cons_succ]
        go_big_quiet_on
        go_big_quiet_want
        refine quiet_neq (x := .tmp 87) (y := .tmp 91) (V := V) p.1 HV.out rfl (by kernel_rfl) (by kernel_rfl) ?_
        simp only [Act.put, List.getElem_toArray, List.getElem_cons_succ, List.getElem_cons_zero, List.setIfInBounds_toArray, List.set_cons_zero, List.set_cons_succ]
        go_big_quiet_on
        repeat (go_big_quiet_step (fail))
        refine wpQuiet_nil ?_
        intro _ hw'
        obtain ⟨nq, hw''⟩ := hw'
        subst hw''
        go_wp2
        go_roundw
        case rel => exact ⟨n + 1, by simp, by omega, ⟨HB.out.trans (below_drewN ((Below.refl _ _).mono HB.out.size) _)⟩⟩
        case measure => simp [intOf]; omega
      · obtain ⟨g8, rfl⟩ := s8 (by omega)
        obtain ⟨g9, rfl⟩ := s9 (by omega)
        have hg : decide ((n : Int) < (P.length : Int)) = false := by simp; omega
        have hg2 : decide ((P.length : Int) ≤ (n : Int)) = true := by simp; omega
        have hg3 : decide (P.length ≤ n) = true := by simp; omega
        obtain ⟨m, hm⟩ : ∃ m : Nat, (n : Int) - (P.length : Int) = m := ⟨n - P.length, by omega⟩
        have hnm : n = P.length + m := by omega
        obtain ⟨p, hp⟩ : ∃ p, Q[m]? = some p := ⟨Q[m]'(by omega), by simp⟩
        have hx : X[n]? = some (p.1, l0 + p.2) := by rw [hnm, HX.out, List.getElem?_append_right (by omega), show P.length + m - P.length = m by omega]; simp [shiftP, hp]
        have hbd : (p.2 : Int) ≤ 1048576 := HA.out p (List.mem_of_getElem? hp)
        obtain ⟨V, hV⟩ : ∃ V : Array Value, V = p.1.cells.toArray := ⟨_, rfl⟩
        have D1 : ∀ d, (loadVar 27 ⟨g11, n * 24, none⟩).run Try.prog (wr.drewN d) = .ok (.agg V) (wr.drewN d) := fun d => by rw [hV]; exact load_inst (p := (p.1, l0 + p.2)) (own_bel (below_drewN (Below.refl _ _) d) q11) hx
        have D2 : ∀ d, (loadVar 27 ⟨g8, m * 24, none⟩).run Try.prog (wr.drewN d) = .ok (.agg V) (wr.drewN d) := fun d => by rw [hV]; exact load_inst (own_bel (below_drewN (Below.refl _ _) d) q8) hp
        have c12 : wr.cell? ⟨g12, n, none⟩ = some (.int .i64 ((l0 : Int) + (p.2 : Int))) := by have := load_at q12 hx; simpa using this
        have c9 := load_at q9 hp
        have hm2 : (m : Int) < (Q.length : Int) := by omega
        have HV : Hid (V = p.1.cells.toArray) := ⟨hV⟩
        clear hV hx hp q5 q6 q8 q9 q11 q12 hnm
        go_upto_region 11 with (fail)
        refine wp_region_quiet_lit (by kernel_rfl) (by kernel_rfl) ?_
        iterate 35 go_big_quiet_step (fail)
        go_big_quiet_want
        refine quiet_load (t := 27) (x := .tmp 113) (p := ⟨g11, n * 24, none⟩) (v := .agg V) rfl (by kernel_rfl) (by rintro u ⟨d, rfl⟩; exact D1 d) ?_
        simp only [Act.put, List.getElem_toArray, List.getElem_cons_succ, List.getElem_cons_zero, List.setIfInBounds_toArray, List.set_cons_zero, List.set_cons_succ]
        go_big_quiet_on
        iterate 6 go_big_quiet_step (fail)
        go_big_quiet_want
        refine quiet_load (t := 27) (x := .tmp 120) (p := ⟨g8, m * 24, none⟩) (v := .agg V) rfl (by kernel_rfl) (by rintro u ⟨d, rfl⟩; exact D2 d) ?_
        simp only [Act.put, List.getElem_toArray, List.getElem_cons_succ, List.getElem_cons_zero, List.setIfInBounds_toArray, List.set_cons_zero, List.set_cons_succ]
        go_big_quiet_on
        go_big_quiet_want
        refine quiet_neq (x := .tmp 114) (y := .tmp 121) (V := V) p.1 HV.out rfl (by kernel_rfl) (by kernel_rfl) ?_
        simp only [Act.put, List.getElem_toArray, List.getElem_cons_succ, List.getElem_cons_zero, List.setIfInBounds_toArray, List.set_cons_zero, List.set_cons_succ]
        go_big_quiet_on
        repeat (go_big_quiet_step (fail))
        refine wpQuiet_nil ?_
        intro _ hw'
        obtain ⟨nq, hw''⟩ := hw'
        subst hw''
        go_wp2
        go_roundw
        case rel => exact ⟨n + 1, by simp, by omega, ⟨HB.out.trans (below_drewN ((Below.refl _ _).mono HB.out.size) _)⟩⟩
        case measure => simp [intOf]; omega
    · go_wp2
      go_ret
      exact ⟨rfl, b7.trans (HB.out.mono b7.size)⟩

theorem decodeJoined_walk (o0 : Option Addr) (l0 c0 : Nat) (z0 : Nat → Int) (o1 : Option Addr) (l1 c1 : Nat) (z1 : Nat → Int) (w : World) (w0 : IsRow w o0 l0 c0 z0) (y0 : l0 ≤ 1048576) (w1 : IsRow w o1 l1 c1 z1) (y1 : l1 ≤ 1048576) :
    Calls Try.prog 5 #[.slice o0 l0 c0, .slice o1 l1 c1] w fun e w' => e = .returned (.bool true) ∧ Below w.heap.size w w' := by
  rcases h0 : allM l0 z0 with n | P
  · exact joined_no0 o0 l0 c0 z0 o1 l1 c1 z1 w w0 y0 w1 y1 n (all_err w0.byte h0) h0
  · rcases h1 : allM l1 z1 with n | Q
    · exact joined_no1 o0 l0 c0 z0 o1 l1 c1 z1 w w0 y0 w1 y1 P h0 n (all_err w1.byte h1) h1
    · exact joined_yes o0 l0 c0 z0 o1 l1 c1 z1 w w0 y0 w1 y1 P Q h0 h1
end Go.Proofs.Ytbcfcbnlfbhgjaa
