/- LayoutOrder: the law's walk. -/
import Derived.Test.YtojiomkinhnodaaOrderPX
namespace Go.Proofs.Ytojiomkinhnodaa
open Go.ChangeShapes Go.WideShapes Go.ChangeAt Go.RowKit Go.Maps
set_option linter.unusedVariables false
set_option linter.unusedSimpArgs false

set_option maxHeartbeats 2000000 in
set_option maxRecDepth 20000 in
theorem layoutOrder_walk (ao : Option Addr) (c : Nat) (l : List Fl) (f : Fl) (w : World) (hl : (Fls w ao l ∧ FlsC l ∧ (ao = none → c = 0)) ∧ (∀ f ∈ l, RdF w f) ∧ DnB l) (hf : (FlIn w f ∧ FlB f ∧ f.secs.length + f.syms.length ≤ 1048576) ∧ RdF w f) :
    Calls Try.prog 6 #[.slice ao l.length c, f.val] w fun e w' => e = .returned (.bool true) ∧ Below w.heap.size w w' := by
  obtain ⟨⟨hfl, hC, _⟩, hrd, hdn⟩ := hl
  obtain ⟨hf1, hfr⟩ := hf
  have hln := hC.n
  have HFB : Hid _ := ⟨hC.b⟩
  have HDN : Hid _ := ⟨hdn⟩
  have HFB2 : Hid _ := ⟨flsB_and hC hf1.2⟩
  have HDN2 : Hid _ := ⟨dnB_and hdn hfr⟩
  have HOW : Hid (∀ W, Below w.heap.size w W → Calls Try.prog 7 #[.slice ao l.length c] W fun e w' => ∃ (L : List Fl) (va : Option Addr) (vc : Nat), L.length = l.length ∧ e = .returned (.slice va L.length vc) ∧ L.map Fl.kf = l.map Fl.kf ∧ OwnR 41 2 encFo w' W.heap.size (.slice va L.length vc) L ∧ (∀ f ∈ L, GO w' f) ∧ Below W.heap.size W w') := ⟨fun W h => by
    refine (own_anyR ao c l W (by omega) hC.each (hfl.below h (Nat.le_refl _)) (fun f hf => (hrd f hf).below h (Nat.le_refl _))).mono ?_
    rintro e w' ⟨L, va, vc, rfl, h1, h2, h3, h4⟩
    exact ⟨L, va, vc, by have := congrArg List.length h1; simpa using this, rfl, h1, h2, h3, h4⟩⟩
  have HKO : Hid (∀ W, Below w.heap.size w W → Calls Try.prog 16 #[f.val] W fun e w' => ∃ g : Fl, e = .returned g.val ∧ g.kf = f.kf ∧ GO w' g ∧ Below W.heap.size W w') := ⟨fun W h => by
    refine (kown_any f W hf1.2.1 (hf1.1.below h (Nat.le_refl _)) (hfr.below h (Nat.le_refl _))).mono ?_
    rintro e w' ⟨g, rfl, h1, h2, h3⟩
    exact ⟨g, rfl, by unfold Fl.kf; rw [h1.se, h1.sy], h2, h3⟩⟩
  have HKN : Hid (∀ W, _) := ⟨fun W => knows_any W⟩
  have HNU : Hid (∀ n W, _) := ⟨fun n W => num_any n W⟩
  clear hfl hC hrd hdn hf1 hfr
  obtain ⟨w0, hw0⟩ : ∃ w0, w.alloc (.cells #[.slice f.sa f.secs.length f.sc, .slice f.ya f.syms.length f.yc] 41) = w0 := ⟨_, rfl⟩
  have HB0 : Hid (Below w.heap.size w w0) := ⟨by rw [← hw0]; exact (Below.refl _ _).alloc (Nat.le_refl _) _⟩
  have HP0 : Hid (Bk w0 w.heap.size 41 #[.slice f.sa f.secs.length f.sc, .slice f.ya f.syms.length f.yc]) := ⟨by rw [← hw0]; exact Bk.new _ _ _⟩
  go_enter Try.func6, Try.ntmps6
  dsimp only [Fl.val] at *
  go_upto_region 2 with (first
    | (go_at_call 7; refine (HOW.out _ HB0.out).mono ?_; rintro e w1 ⟨L, va, vc, hLn, rfl, hkf, hown, hgo, hb1⟩; have HLN : Hid _ := ⟨hLn⟩; have HKF : Hid _ := ⟨hkf⟩; have HFL : Hid (Fls w1 va L) := ⟨own_flsO hown (fun f hf => (hgo f hf).fl)⟩; have HB1 : Hid _ := ⟨hb1⟩; clear hLn hkf hown hgo hb1)
    | (go_at_call 8; refine (place_u va vc L w1 (kf_flsB HKF.out HFB.out) (kf_dnB HKF.out HDN.out) HFL.out).mono ?_; rintro e w2 ⟨oa1, va1, sa1, on1, oc1, vn1, vc1, sn1, sc1, p1, p2, p3, p4, en1, E1, bs1, rfl, hb2, hfac1⟩; have HB2 : Hid _ := ⟨hb2⟩; have HF1 : Hid _ := ⟨hfac1⟩; clear hb2 hfac1))
  clear hw0
  have HM1 : Hid (Bk (w2.alloc (.cells #[.slice oa1 on1 oc1, .slice va1 vn1 vc1, .slice sa1 sn1 sc1, .int .i64 p1, .int .i64 p2, .int .i64 p3, .int .i64 p4, .int .i64 en1] 28)) w2.heap.size 28 #[.slice oa1 on1 oc1, .slice va1 vn1 vc1, .slice sa1 sn1 sc1, .int .i64 p1, .int .i64 p2, .int .i64 p3, .int .i64 p4, .int .i64 en1]) := ⟨Bk.new _ _ _⟩
  have hb02 : Below w0.heap.size w0 w2 := HB1.out.trans (HB2.out.mono HB1.out.size)
  have HB3 : Hid (Below w.heap.size w (w2.alloc (.cells #[.slice oa1 on1 oc1, .slice va1 vn1 vc1, .slice sa1 sn1 sc1, .int .i64 p1, .int .i64 p2, .int .i64 p3, .int .i64 p4, .int .i64 en1] 28))) := ⟨(HB0.out.trans (hb02.mono HB0.out.size)).alloc (by have := HB0.out.size; have := hb02.size; omega) _⟩
  have HP3 : Hid (Bk (w2.alloc (.cells #[.slice oa1 on1 oc1, .slice va1 vn1 vc1, .slice sa1 sn1 sc1, .int .i64 p1, .int .i64 p2, .int .i64 p3, .int .i64 p4, .int .i64 en1] 28)) w.heap.size 41 #[.slice f.sa f.secs.length f.sc, .slice f.ya f.syms.length f.yc]) := ⟨(HP0.out.bel hb02 HP0.out.lt).alloc _⟩
  have HO3 : Hid (E1 = 0 → ∃ st, layS L = some st ∧ st.outs.length ≤ 2097152 ∧ on1 = st.outs.length ∧ Outs (w2.alloc (.cells #[.slice oa1 on1 oc1, .slice va1 vn1 vc1, .slice sa1 sn1 sc1, .int .i64 p1, .int .i64 p2, .int .i64 p3, .int .i64 p4, .int .i64 en1] 28)) oa1 st.outs) := ⟨fun h => by
    obtain ⟨st, q1, q2, q3, _, _, q6⟩ := HF1.out h
    exact ⟨st, q1, q2, q3, q6.below ((Below.refl _ _).alloc (Nat.le_refl _) _) (Nat.le_refl _)⟩⟩
  obtain ⟨M1, hM1⟩ : ∃ M, w2.heap.size = M := ⟨_, rfl⟩
  rw [hM1] at HM1 ⊢
  obtain ⟨P, hP⟩ : ∃ P, w.heap.size = P := ⟨_, rfl⟩
  rw [hP] at HP3 ⊢
  have HPP : Hid _ := ⟨hP⟩
  clear hb02 hM1 HB0 HP0 HB1 HB2 HF1 HFL hP
  generalize w2.alloc (.cells #[.slice oa1 on1 oc1, .slice va1 vn1 vc1, .slice sa1 sn1 sc1, .int .i64 p1, .int .i64 p2, .int .i64 p3, .int .i64 p4, .int .i64 en1] 28) = w3 at *
  have r0 : w3.drew.cell? ⟨P, 0, none⟩ = some (.slice f.sa f.secs.length f.sc) := HP3.out.cell 0 rfl
  have r1 : w3.drew.cell? ⟨P, 1, none⟩ = some (.slice f.ya f.syms.length f.yc) := HP3.out.cell 1 rfl
  have HSK : Hid (∀ W, Below w3.heap.size w3 W → W.cell? ⟨P, 0, none⟩ = some (.slice f.sa f.secs.length f.sc) ∧ W.cell? ⟨P, 1, none⟩ = some (.slice f.ya f.syms.length f.yc)) := ⟨fun W h => ⟨(HP3.out.bel h HP3.out.lt).cell 0 rfl, (HP3.out.bel h HP3.out.lt).cell 1 rfl⟩⟩
  have HOW3 : Hid (∀ W, Below w3.heap.size w3 W → Calls Try.prog 7 #[.slice ao l.length c] W fun e w' => ∃ (L : List Fl) (va : Option Addr) (vc : Nat), L.length = l.length ∧ e = .returned (.slice va L.length vc) ∧ L.map Fl.kf = l.map Fl.kf ∧ OwnR 41 2 encFo w' w3.heap.size (.slice va L.length vc) L ∧ (∀ f ∈ L, GO w' f) ∧ Below W.heap.size W w') := ⟨fun W h => by
    refine (HOW.out W (HB3.out.trans (h.mono HB3.out.size))).mono ?_
    rintro e w' ⟨L, va, vc, h1, h2, h3, h4, h5, h6⟩
    exact ⟨L, va, vc, h1, h2, h3, own_low h4 h.size, h5, h6⟩⟩
  have HKO3 : Hid (∀ W, Below w3.heap.size w3 W → _) := ⟨fun W h => HKO.out W (HB3.out.trans (h.mono HB3.out.size))⟩
  go_cut [7] from 22 to 27 (fun s7 wx => ∃ (N : Nat) (ta : Option Addr) (tc : Nat), s7 = .slice ta N tc ∧ Hid (∃ A : List Fl, A.length = N ∧ A.map Fl.kf = (l ++ [f]).map Fl.kf ∧ Fls wx ta A ∧ Below w3.heap.size w3 wx))
  case first =>
    go_region_held3 (fun x => x.cell? ⟨P, 0, none⟩ = some (.slice f.sa f.secs.length f.sc) ∧ x.cell? ⟨P, 1, none⟩ = some (.slice f.ya f.syms.length f.yc))
      (first | (with_reducible assumption) | (refine HSK.out _ ?_; (focus ((repeat (first | exact HB7.out | exact HB6.out | exact HB5.out | exact Below.refl _ _ | refine Below.drew ?_ | refine bal9 ?_ _)); done))))
      (first
        | (refine step_append_O (by rfl) _ _ _ (by rfl) (by kernel_rfl) w3.heap.size _ L5 (by rfl) (AppSt.own (g := g6) (va := va5) (vc := vc5) ?_) _ g6 (by rfl) ?_ ?_ ?_ ?_; (focus ((repeat (first | exact H9.out | refine AppSt.drew ?_ | refine AppSt.alloc ?_ _)); done)); (focus (first | exact Bk.new _ _ _ | exact HQ5.out | exact ⟨(Bk.new _ _ _).hp⟩ | exact ⟨HQ5.out.hp⟩)); (focus (have h9 := HLN5.out; omega)); (focus (refine low_of ?_; (focus ((repeat (first | exact HB6.out | exact HB5.out | exact Below.refl _ _ | refine Below.drew ?_ | refine bal9 ?_ _)); done)))); intro va7 vc7 w7 ho7 hs7; have HF7 : Hid (∃ A : List Fl, A.length = L5.length + 1 ∧ A.map Fl.kf = (l ++ [f]).map Fl.kf ∧ Fls w7 va7 A ∧ Below w3.heap.size w3 w7) := (by refine ⟨app_fin ?_ HK5.out HK6.out ho7 hs7⟩; (focus ((repeat (first | exact H9.out | refine AppSt.drew ?_ | refine AppSt.alloc ?_ _)); done))); have HB7 : Hid _ := ⟨app_b HF7.out⟩; clear ho7 hs7)
        | (go_at_call 7; (with_reducible refine (HOW3.out _ ?_).mono ?_); (focus ((repeat (first | exact HB6.out | exact HB5.out | exact Below.refl _ _ | refine Below.drew ?_ | refine bal9 ?_ _)); done)); rintro e w5 ⟨L5, va5, vc5, hLn5, rfl, hkf5, hown5, hgo5, hb5⟩; have HK5 : Hid _ := ⟨hkf5⟩; have HLN5 : Hid _ := ⟨hLn5⟩; clear hLn5; have HB5 : Hid (Below w3.heap.size w3 w5) := (by refine ⟨btr9 ?_ hb5⟩; (focus ((repeat (first | exact HB6.out | exact HB5.out | exact Below.refl _ _ | refine Below.drew ?_ | refine bal9 ?_ _)); done))); (first | (have HQ5 : Hid (Bk w5 w6.heap.size 41 (encFo g6).toArray) := ⟨(Bk.new _ _ _).bel hb5 (by simp)⟩) | skip); (first | (have H9 : Hid (AppSt w3 w5 L5 g6 va5 vc5) := (by refine ⟨⟨hown5, hgo5, HG6.out.bel (btr9 ?_ hb5), HB5.out⟩⟩; (focus ((repeat (first | exact Below.refl _ _ | refine Below.drew ?_ | refine bal9 ?_ _)); done)))) | (have H5 : Hid (OwnR 41 2 encFo w5 w3.heap.size (.slice va5 L5.length vc5) L5 ∧ ∀ f ∈ L5, GO w5 f) := ⟨⟨hown5, hgo5⟩⟩)); clear hkf5 hown5 hgo5 hb5)
        | (go_at_call 16; (with_reducible refine (HKO3.out _ ?_).mono ?_); (focus ((repeat (first | exact HB6.out | exact HB5.out | exact Below.refl _ _ | refine Below.drew ?_ | refine bal9 ?_ _)); done)); rintro e w6 ⟨g6, rfl, hkf6, hgo6, hb6⟩; have HK6 : Hid _ := ⟨hkf6⟩; have HB6 : Hid (Below w3.heap.size w3 w6) := (by refine ⟨btr9 ?_ hb6⟩; (focus ((repeat (first | exact HB6.out | exact HB5.out | exact Below.refl _ _ | refine Below.drew ?_ | refine bal9 ?_ _)); done))); (first | (have H9 : Hid (AppSt w3 w6 L5 g6 va5 vc5) := (by refine ⟨⟨own_bel H5.out.1 (btr9 ?_ hb6), fun f hf => (H5.out.2 f hf).bel (btr9 ?_ hb6), hgo6, HB6.out⟩⟩; (focus ((repeat (first | exact Below.refl _ _ | refine Below.drew ?_ | refine bal9 ?_ _)); done)); (focus ((repeat (first | exact Below.refl _ _ | refine Below.drew ?_ | refine bal9 ?_ _)); done)))) | (have HG6 : Hid (GO w6 g6) := ⟨hgo6⟩)); clear hkf6 hgo6 hb6))
    all_goals first
      | (go_wp2; go_meet; exact ⟨_, _, _, rfl, HF7⟩)
      | trace_state
  case rest =>
    obtain ⟨N, ta, tc, hs7, HC⟩ := hcut
    subst hs7
    obtain ⟨A, hAn, hAk, hAf, hAb⟩ := HC.out
    subst hAn
    have HAK : Hid _ := ⟨hAk⟩
    have HAF : Hid _ := ⟨hAf⟩
    have HAB : Hid _ := ⟨hAb⟩
    have HPL : Hid _ := ⟨place_u ta tc A wc (kf_flsB hAk HFB2.out) (kf_dnB hAk HDN2.out) hAf⟩
    clear HC hAk hAf hAb HSK HOW3 HKO3 HOW HKO r0 r1
    go_upto_region 4 with (go_at_call 8; (with_reducible refine HPL.out.mono ?_); rintro e w4 ⟨oa2, va2, sa2, on2, oc2, vn2, vc2, sn2, sc2, q1, q2, q3, q4, en2, E2, bs2, rfl, hb4, hfac2⟩; have HB4 : Hid _ := ⟨hb4⟩; have HF2 : Hid _ := ⟨hfac2⟩; clear hb4 hfac2)
    have hb34 : Below w3.heap.size w3 w4 := HAB.out.trans (HB4.out.mono HAB.out.size)
    have HB5 : Hid (Below w.heap.size w (w4.alloc (.cells #[.slice oa2 on2 oc2, .slice va2 vn2 vc2, .slice sa2 sn2 sc2, .int .i64 q1, .int .i64 q2, .int .i64 q3, .int .i64 q4, .int .i64 en2] 28))) := ⟨(HB3.out.trans (hb34.mono HB3.out.size)).alloc (by have := HB3.out.size; have := hb34.size; omega) _⟩
    have HST : Hid (E1 = 0 → E2 = 0 → ∃ st1 st2, layS L = some st1 ∧ layS A = some st2 ∧ st1.outs.length ≤ 2097152 ∧ st2.outs.length ≤ 2097152 ∧ on1 = st1.outs.length ∧ on2 = st2.outs.length ∧ vn2 = A.length ∧ BSt w (w4.alloc (.cells #[.slice oa2 on2 oc2, .slice va2 vn2 vc2, .slice sa2 sn2 sc2, .int .i64 q1, .int .i64 q2, .int .i64 q3, .int .i64 q4, .int .i64 en2] 28)) M1 w4.heap.size #[.slice oa1 on1 oc1, .slice va1 vn1 vc1, .slice sa1 sn1 sc1, .int .i64 p1, .int .i64 p2, .int .i64 p3, .int .i64 p4, .int .i64 en1] #[.slice oa2 on2 oc2, .slice va2 vn2 vc2, .slice sa2 sn2 sc2, .int .i64 q1, .int .i64 q2, .int .i64 q3, .int .i64 q4, .int .i64 en2] ta oa1 oa2 va2 vc2 wc.heap.size A bs2 st1 st2) := ⟨fun h1 h2 => by
      obtain ⟨st1, a1, a2, a3, a4⟩ := HO3.out h1
      obtain ⟨st2, b1, b2, b3, b4, b5, b6⟩ := HF2.out h2
      subst b4
      have hal : Below w4.heap.size w4 (w4.alloc (.cells #[.slice oa2 on2 oc2, .slice va2 A.length vc2, .slice sa2 sn2 sc2, .int .i64 q1, .int .i64 q2, .int .i64 q3, .int .i64 q4, .int .i64 en2] 28)) := (Below.refl _ _).alloc (Nat.le_refl _) _
      exact ⟨st1, st2, a1, b1, a2, b2, a3, b3, rfl, ⟨HB5.out, (HM1.out.bel hb34 HM1.out.lt).bel hal (by have := HM1.out.lt; have := hb34.size; omega), Bk.new _ _ _, (HAF.out.below HB4.out (Nat.le_refl _)).below hal (Nat.le_refl _), b5.bel hal, (a4.below hb34 (Nat.le_refl _)).below hal (Nat.le_refl _), b6.below hal (Nat.le_refl _)⟩⟩⟩
    clear HM1 HO3 HF2 HPL hb34 HAB HB4 HAF HP3 HB3
    obtain ⟨M2, hM2⟩ : ∃ M, w4.heap.size = M := ⟨_, rfl⟩
    rw [hM2] at HST ⊢
    obtain ⟨B, hB⟩ : ∃ B, wc.heap.size = B := ⟨_, rfl⟩
    rw [hB] at HST
    clear hM2 hB
    generalize w4.alloc (.cells #[.slice oa2 on2 oc2, .slice va2 vn2 vc2, .slice sa2 sn2 sc2, .int .i64 q1, .int .i64 q2, .int .i64 q3, .int .i64 q4, .int .i64 en2] 28) = w5 at *
    by_cases hE1 : E1 = 0
    · by_cases hE2 : E2 = 0
      · obtain ⟨st1, st2, hs1, hs2, hl1, hl2, rfl, rfl, rfl, hst⟩ := HST.out hE1 hE2
        subst hE1 hE2
        clear HST
        have hd2 := kf_dnB HAK.out HDN2.out
        have HPUT : Hid (∀ n z i k, Abv A st2 n z i k → i < A.length → k < (A.getD i Fl.zero).secs.length → (secAt A i k).nm = n → 0 ≤ st2.at' i k → z ≤ st2.at' i k ∧ Abv A st2 n (st2.at' i k) i (k + 1)) := ⟨fun n z i k h h1 h2 h3 h4 => h.put hs2 hd2 h1 h2 h3 h4⟩
        have HSUB : Hid (SubAt st1.outs st2.outs 0 0) := ⟨nms_sub2 HKF.out HAK.out hs1 hs2 (kf_dnB HKF.out HDN.out) hd2⟩
        have hfa := kf_flsB HAK.out HFB2.out
        have hAl := hfa.n
        have HNS : Hid (∀ p, p < A.length → secLn A p ≤ 1048577) := ⟨fun p hp => by
          have := (hfa.each _ (List.getElem_mem hp)).ns
          unfold secLn
          simpa [hp] using this⟩
        clear hs1 hs2 hd2 hfa HDN HDN2 HFB HFB2 HAK HKF
        obtain ⟨c1, hc1⟩ : ∃ c1 : Array Value, c1 = #[.slice oa1 st1.outs.length oc1, .slice va1 vn1 vc1, .slice sa1 sn1 sc1, .int .i64 p1, .int .i64 p2, .int .i64 p3, .int .i64 p4, .int .i64 en1] := ⟨_, rfl⟩
        obtain ⟨c2, hc2⟩ : ∃ c2 : Array Value, c2 = #[.slice oa2 st2.outs.length oc2, .slice va2 A.length vc2, .slice sa2 sn2 sc2, .int .i64 q1, .int .i64 q2, .int .i64 q3, .int .i64 q4, .int .i64 en2] := ⟨_, rfl⟩
        rw [← hc1, ← hc2] at hst
        have HS : Hid _ := ⟨hst⟩
        have k1 : c1[0]? = some (.slice oa1 st1.outs.length oc1) := by rw [hc1]; rfl
        have k2 : c2[0]? = some (.slice oa2 st2.outs.length oc2) := by rw [hc2]; rfl
        have k3 : c2[1]? = some (.slice va2 A.length vc2) := by rw [hc2]; rfl
        have HK : Hid (c1[0]? = some (.slice oa1 st1.outs.length oc1) ∧ c2[0]? = some (.slice oa2 st2.outs.length oc2) ∧ c2[1]? = some (.slice va2 A.length vc2)) := ⟨k1, k2, k3⟩
        clear hst hc1 hc2 k1 k2 k3
        go_upto_region 6 with (first
          | (go_at_call 12; refine (HNU.out _ _).mono ?_; rintro e w7 ⟨rfl, rfl⟩)
          | (go_at_call 13; refine (HKN.out _).mono ?_; rintro e w8 ⟨rfl, hb8⟩; have HB8 : Hid _ := ⟨hb8⟩; clear hb8))
        have HS8 : Hid _ := ⟨HS.out.bel HB8.out⟩
        clear HS HB5 HB8
        go_upto_region 8 with (fail)
        go_loopw [10, 11] (fun v10 v11 wr => ∃ a i : Nat, a ≤ st1.outs.length ∧ i ≤ st2.outs.length ∧ v10 = .int .i64 a ∧ v11 = .int .i64 i ∧ Hid (SubAt st1.outs st2.outs a i ∧ BSt w wr M1 M2 c1 c2 ta oa1 oa2 va2 vc2 B A bs2 st1 st2)) (fun _ v _ => st2.outs.length - (intOf v).toNat)
        case atStart => exact ⟨0, 0, by omega, by omega, rfl, rfl, ⟨HSUB.out, HS8.out⟩⟩
        case round =>
          clear HS8
          obtain ⟨a, i, ha, hi, rfl, rfl, HV⟩ := hrel
          have m1 := HV.out.2.m1.cell 0 HK.out.1
          have m2 := HV.out.2.m2.cell 0 HK.out.2.1
          by_cases hin : i < st2.outs.length ∧ a < st1.outs.length
          · obtain ⟨hi2, ha2⟩ := hin
            obtain ⟨b1, o1, rfl, x1⟩ := out_at HV.out.2.o1 ha2
            obtain ⟨b2, o2, rfl, x2⟩ := out_at HV.out.2.o2 hi2
            have HEQ : Hid ((st2.outs.getD i Ou.zero).nm = (st1.outs.getD a Ou.zero).nm → SubAt st1.outs st2.outs (a + 1) (i + 1)) := ⟨HV.out.1.eq ha2 hi2⟩
            have HNE : Hid ((st2.outs.getD i Ou.zero).nm ≠ (st1.outs.getD a Ou.zero).nm → SubAt st1.outs st2.outs a (i + 1)) := ⟨HV.out.1.ne ha2 hi2⟩
            generalize (st2.outs.getD i Ou.zero).nm = n2 at *
            generalize (st1.outs.getD a Ou.zero).nm = n1 at *
            obtain ⟨z, hz⟩ : ∃ z, (n2.toList == n1.toList) = z := ⟨_, rfl⟩
            have HZ : Hid (nmB n2 n1 = z) := ⟨by rw [← nm_tl]; exact hz⟩
            go_upto_region 10 with (fail)
            go_quiet (fail)
            cases z
            · have HN2 : Hid _ := ⟨HNE.out (fun e => by have := HZ.out; rw [e] at this; simp [nmB] at this)⟩
              go_wp2
              go_roundw
              case rel => exact ⟨a, i + 1, by omega, hi2, rfl, by go_num, ⟨HN2.out, HV.out.2.drewN _⟩⟩
              case measure => simp [intOf]; omega
            · have HN2 : Hid _ := ⟨HEQ.out (by have := HZ.out; simpa [nmB] using this)⟩
              go_wp2
              go_roundw
              case rel => exact ⟨a + 1, i + 1, ha2, hi2, by go_num, by go_num, ⟨HN2.out, HV.out.2.drewN _⟩⟩
              case measure => simp [intOf]; omega
          · have hea : a = st1.outs.length := by
              by_cases h1 : i < st2.outs.length
              · omega
              · have h2 : i = st2.outs.length := by omega
                subst h2
                have := HV.out.1.fin
                omega
            subst hea
            have HW : Hid _ := ⟨HV.out.2⟩
            clear HV hin ha HSUB
            have hz : i < st2.outs.length ∨ i = st2.outs.length := by omega
            rcases hz with hz | hz
            all_goals
              (try subst hz)
              go_upto_region 15 with (fail)
              clear m1 m2
              go_loopw [12] (fun v wr => ∃ o : Nat, o ≤ st2.outs.length ∧ v = .int .i64 o ∧ Hid (BSt w wr M1 M2 c1 c2 ta oa1 oa2 va2 vc2 B A bs2 st1 st2)) (fun v _ => st2.outs.length - (intOf v).toNat)
              case atStart => exact ⟨0, by omega, rfl, HW⟩
              case round =>
                clear HW
                obtain ⟨o, ho, rfl, HV⟩ := hrel
                have m2 := HV.out.m2.cell 0 HK.out.2.1
                by_cases hol : o < st2.outs.length
                · obtain ⟨bo, oo, rfl, _⟩ := out_at HV.out.o2 hol
                  have HNM : Hid (∀ wr', BSt w wr' M1 M2 c1 c2 ta oa1 (some ⟨bo, oo, none⟩) va2 vc2 B A bs2 st1 st2 → wr'.cell? ⟨bo, oo + o * 6, none⟩ = some (.string (st2.outs.getD o Ou.zero).nm)) := ⟨fun wr' h => by
                    obtain ⟨b', o', e', x'⟩ := out_at h.o2 hol
                    injection e' with e'
                    injection e' with e1 e2
                    subst e1 e2
                    exact x'⟩
                  generalize (st2.outs.getD o Ou.zero).nm = n at *
                  go_upto_region 19 with (fail)
                  clear m2
                  go_loopw [13, 14] (fun v13 v14 wr => ∃ (p : Nat) (z : Int), p ≤ A.length ∧ v13 = .int .i64 z ∧ v14 = .int .i64 p ∧ Hid (Abv A st2 n z p 0 ∧ BSt w wr M1 M2 c1 c2 ta oa1 (some ⟨bo, oo, none⟩) va2 vc2 B A bs2 st1 st2)) (fun _ v _ => A.length - (intOf v).toNat)
                  case atStart => exact ⟨0, 0, by omega, rfl, rfl, ⟨Abv.start, HV.out⟩⟩
                  case round =>
                    clear HV
                    obtain ⟨p, z, hp, rfl, rfl, HV⟩ := hrel
                    by_cases hpl : p < A.length
                    · obtain ⟨b2, off2, _, _, rfl, _, _⟩ := at_fl HV.out.2.f hpl
                      obtain ⟨g2, rfl, _, _⟩ := at_at HV.out.2.a hpl
                      have hN := HNS.out p hpl
                      have HQS : Hid (∀ q, q < secLn A p → ∀ wr', BSt w wr' M1 M2 c1 c2 (some ⟨b2, off2, none⟩) oa1 (some ⟨bo, oo, none⟩) (some ⟨g2, 0, none⟩) vc2 B A bs2 st1 st2 → ∃ b' o' xc3, wr'.cell? ⟨b2, off2 + p * 2, none⟩ = some (.slice (some ⟨b', o', none⟩) (secLn A p) xc3) ∧ wr'.cell? ⟨b', o' + q * 7, none⟩ = some (.string (secAt A p q).nm) ∧ wr'.cell? ⟨g2, p, none⟩ = some (.slice (some ⟨bs2 p, 0, none⟩) (secLn A p) (secLn A p)) ∧ wr'.cell? ⟨bs2 p, q, none⟩ = some (.int .i64 (st2.at' p q))) := ⟨fun q hq wr' h => by
                        obtain ⟨b3, off3, xa3, xc3, e3, c3, hsec3⟩ := at_fl h.f hpl
                        injection e3 with e3
                        injection e3 with e3 e4
                        subst e3 e4
                        obtain ⟨b4, o4, rfl, h5⟩ := hsec3 q hq
                        obtain ⟨g3, e5, a3, ha3⟩ := at_at h.a hpl
                        injection e5 with e5
                        injection e5 with e5
                        subst e5
                        exact ⟨b4, o4, xc3, c3, h5.nm, a3, ha3 q hq⟩⟩
                      have HNL : Hid (∀ wr', BSt w wr' M1 M2 c1 c2 (some ⟨b2, off2, none⟩) oa1 (some ⟨bo, oo, none⟩) (some ⟨g2, 0, none⟩) vc2 B A bs2 st1 st2 → ∃ xa3 xc3, wr'.cell? ⟨b2, off2 + p * 2, none⟩ = some (.slice xa3 (secLn A p) xc3)) := ⟨fun wr' h => by
                        obtain ⟨b3, off3, xa3, xc3, e3, c3, hsec3⟩ := at_fl h.f hpl
                        injection e3 with e3
                        injection e3 with e3 e4
                        subst e3 e4
                        exact ⟨xa3, xc3, c3⟩⟩
                      have HROW : Hid (∀ z k, secLn A p ≤ k → Abv A st2 n z p k → Abv A st2 n z (p + 1) 0) := ⟨fun z k hk h => h.row hk⟩
                      have HPP2 : Hid (∀ z q, Abv A st2 n z p q → q < secLn A p → (secAt A p q).nm = n → 0 ≤ st2.at' p q → z ≤ st2.at' p q ∧ Abv A st2 n (st2.at' p q) p (q + 1)) := ⟨fun z q h hq => HPUT.out n z p q h hpl hq⟩
                      generalize secLn A p = N at *
                      go_upto_region 22 with (fail)
                      go_loopw [13, 15] (fun v13 v15 wr => ∃ (q : Nat) (z : Int), q ≤ N ∧ v13 = .int .i64 z ∧ v15 = .int .i64 q ∧ Hid (Abv A st2 n z p q ∧ BSt w wr M1 M2 c1 c2 (some ⟨b2, off2, none⟩) oa1 (some ⟨bo, oo, none⟩) (some ⟨g2, 0, none⟩) vc2 B A bs2 st1 st2)) (fun _ v _ => N - (intOf v).toNat)
                      case atStart => exact ⟨0, z, by omega, rfl, rfl, HV⟩
                      case round =>
                        clear HV
                        obtain ⟨q, z, hq, rfl, rfl, HV⟩ := hrel
                        by_cases hql : q < N
                        · obtain ⟨b3, o3, xc3, x3, s3, a3, a4⟩ := HQS.out q hql wr HV.out.2
                          have m3 := HV.out.2.m2.cell 0 HK.out.2.1
                          have m4 := HV.out.2.m2.cell 1 HK.out.2.2
                          have x4 := HNM.out wr HV.out.2
                          have HP3 : Hid _ := ⟨HPP2.out z q HV.out.1 hql⟩
                          have HNX : Hid _ := ⟨HV.out.1.next⟩
                          generalize st2.at' p q = C at *
                          generalize (secAt A p q).nm = sn at *
                          obtain ⟨zn, hzn⟩ : ∃ zn, (sn.toList == n.toList) = zn := ⟨_, rfl⟩
                          have HZN : Hid (nmB sn n = zn) := ⟨by rw [← nm_tl]; exact hzn⟩
                          go_upto_region 24 with (fail)
                          cases zn
                          · go_quiet (fail)
                            go_wp2
                            go_roundw
                            case rel => exact ⟨q + 1, z, hql, rfl, by go_num, ⟨HNX.out, HV.out.2.drewN _⟩⟩
                            case measure => simp [intOf]; omega
                          · obtain ⟨zc, hzc⟩ : ∃ zc, decide (0 ≤ C) = zc := ⟨_, rfl⟩
                            cases zc
                            · go_quiet (fail)
                              go_wp2
                              go_roundw
                              case rel => exact ⟨q + 1, z, hql, rfl, by go_num, ⟨HNX.out, HV.out.2.drewN _⟩⟩
                              case measure => simp [intOf]; omega
                            · obtain ⟨hz1, hz2⟩ := HP3.out (by have := HZN.out; simpa [nmB] using this) (by simpa using hzc)
                              have HZ2 : Hid _ := ⟨hz2⟩
                              have d9 : decide (C < z) = false := decide_eq_false (by omega)
                              clear hz1 hz2
                              go_quiet (fail)
                              have y3 : (wr.drewN nq).cell? ⟨g2, p, none⟩ = _ := a3
                              have y4 : (wr.drewN nq).cell? ⟨bs2 p, q, none⟩ = _ := a4
                              have y5 : (wr.drewN nq).cell? ⟨M2, 1, none⟩ = _ := m4
                              clear a3 a4 m3 m4 x3 x4 s3
                              go_wp2
                              go_roundw
                              case rel => exact ⟨q + 1, C, hql, rfl, by go_num, ⟨HZ2.out, HV.out.2.drewN _⟩⟩
                              case measure => simp [intOf]; omega
                        · have hqN : q = N := by omega
                          subst hqN
                          obtain ⟨xa3, xc3, c3⟩ := HNL.out wr HV.out.2
                          go_wp2
                          go_roundw
                          case rel => exact ⟨p + 1, z, by omega, rfl, by go_num, ⟨HROW.out z _ (Nat.le_refl _) HV.out.1, HV.out.2⟩⟩
                          case measure => simp [intOf]; omega
                    · have hpe : p = A.length := by omega
                      subst hpe
                      go_wp2
                      go_roundw
                      case rel => exact ⟨o + 1, by omega, by go_num, ⟨HV.out.2⟩⟩
                      case measure => simp [intOf]; omega
                · have hoe : o = st2.outs.length := by omega
                  subst hoe
                  go_wp2
                  go_ret
                  exact ⟨rfl, HV.out.b⟩
      · have d1 : (E2 != 0) = true := by simp [hE2]
        subst hE1
        clear HST
        go_wp2_with (first
          | (go_at_call 12; refine (HNU.out _ _).mono ?_; rintro e w7 ⟨rfl, rfl⟩)
          | (go_at_call 13; refine (HKN.out _).mono ?_; rintro e w8 ⟨rfl, hb8⟩; have HB8 : Hid _ := ⟨hb8⟩; clear hb8))
        go_ret
        exact ⟨rfl, HB5.out.trans (HB8.out.mono HB5.out.size)⟩
    · have d1 : (E1 != 0) = true := by simp [hE1]
      clear HST
      go_wp2_with (first
        | (go_at_call 12; refine (HNU.out _ _).mono ?_; rintro e w7 ⟨rfl, rfl⟩)
        | (go_at_call 13; refine (HKN.out _).mono ?_; rintro e w8 ⟨rfl, hb8⟩; have HB8 : Hid _ := ⟨hb8⟩; clear hb8))
      go_ret
      exact ⟨rfl, HB5.out.trans (HB8.out.mono HB5.out.size)⟩
end Go.Proofs.Ytojiomkinhnodaa
