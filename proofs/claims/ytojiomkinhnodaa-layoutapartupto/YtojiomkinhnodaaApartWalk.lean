/- LayoutApart: the law's walk. -/
import Derived.Test.YtojiomkinhnodaaYAlone
namespace Go.Proofs.Ytojiomkinhnodaa
open Go.ChangeShapes Go.WideShapes Go.ChangeAt Go.RowKit Go.Maps
set_option linter.unusedVariables false
set_option linter.unusedSimpArgs false

/-- What lies in memory while the law looks. -/
structure ASt (w wr : World) (M : Nat) (cs : Array Value) (ao aa oa : Option Addr) (ac B : Nat) (l : List Fl) (bs : Nat → Nat) (st : St) : Prop where
  b : Below w.heap.size w wr
  m : Bk wr M 28 cs
  f : Fls wr ao l
  a : AT wr B (.slice aa l.length ac) bs (l.map (·.secs.length)) st.at'
  o : Outs wr oa st.outs
theorem ASt.bel {w wr v : World} {M : Nat} {cs : Array Value} {ao aa oa : Option Addr} {ac B : Nat} {l : List Fl} {bs : Nat → Nat} {st : St} (h : ASt w wr M cs ao aa oa ac B l bs st) (g : Below wr.heap.size wr v) : ASt w v M cs ao aa oa ac B l bs st :=
  ⟨h.b.trans (g.mono h.b.size), h.m.bel g h.m.lt, h.f.below g (Nat.le_refl _), h.a.bel g, h.o.below g (Nat.le_refl _)⟩
theorem ASt.alloc {w wr : World} {M : Nat} {cs : Array Value} {ao aa oa : Option Addr} {ac B : Nat} {l : List Fl} {bs : Nat → Nat} {st : St} (h : ASt w wr M cs ao aa oa ac B l bs st) (o : Obj) : ASt w (wr.alloc o) M cs ao aa oa ac B l bs st := h.bel ((Below.refl _ _).alloc (Nat.le_refl _) o)
theorem bdN9 {B : Nat} {a w : World} (h : Below B a w) (n : Nat) : Below B a (w.drewN n) := h.trans ⟨rfl, rfl, rfl, Nat.le_refl _, fun _ _ => rfl⟩
theorem cA {w : World} {p : Addr} {v : Value} (h : w.cell? p = some v) (o : Obj) : (w.alloc o).cell? p = some v := (((Below.refl w.heap.size w).alloc (Nat.le_refl _) o).cell (World.block_lt_of_cell? w p h)).trans h
theorem kf_lens {l L : List Fl} (h : L.map Fl.kf = l.map Fl.kf) : L.map (·.secs.length) = l.map (·.secs.length) := by
  have h1 : ∀ l : List Fl, l.map (·.secs.length) = (l.map Fl.kf).map (fun p => p.1.length) := fun l => by
    rw [List.map_map]
    refine List.map_congr_left fun f _ => ?_
    simp [Fl.kf]
  rw [h1, h1 l, h]
/-- What the first loop reads of an output. -/
structure OuF (st : St) (t : Nat) (x : Ou) : Prop where
  lo : cend (st.outs.take t) ≤ x.ad
  ad : 4096 ≤ x.ad ∧ x.ad ≤ 16777216
  sz : 0 ≤ x.sz ∧ x.sz ≤ 16777216
  al : 1 ≤ x.al ∧ x.al ≤ 4096
  md : x.ad % x.al = 0
  nx : cend (st.outs.take (t + 1)) = x.ad + x.sz
theorem ou_f {U D : List So} {st : St} (h : LI U D st) (he : st.en ≤ 16777216) (t : Nat) (ht : t < st.outs.length) : OuF st t (st.outs.getD t Ou.zero) := by
  have e : st.outs.getD t Ou.zero = st.outs[t] := by simp [ht]
  rw [e]
  obtain ⟨h1, h2, h3, h4⟩ := h.rise t ht
  have h5 := h.each _ (List.getElem_mem ht)
  refine ⟨h1, by omega, by omega, h3, h4, ?_⟩
  rw [List.take_succ_eq_append_getElem ht, cend_snoc]
set_option maxHeartbeats 2000000 in
set_option maxRecDepth 20000 in
theorem layoutApart_walk (ao : Option Addr) (c : Nat) (l : List Fl) (w : World) (hl : (Fls w ao l ∧ FlsC l ∧ (ao = none → c = 0)) ∧ (∀ f ∈ l, RdF w f) ∧ DnB l) : Calls Try.prog 4 #[.slice ao l.length c] w fun e w' => e = .returned (.bool true) ∧ Below w.heap.size w w' := by
  obtain ⟨⟨hfl, hC, _⟩, hrd, hdn⟩ := hl
  have HFB : Hid _ := ⟨hC.b⟩
  have HDN : Hid _ := ⟨hdn⟩
  have HW0 : Hid _ := ⟨hfl⟩
  have HOW : Hid _ := ⟨own_any ao c l w (by have := hC.n; omega) hC.each hfl hrd⟩
  have HKN : Hid (∀ W, _) := ⟨fun W => knows_any W⟩
  have HNU : Hid (∀ n W, _) := ⟨fun n W => num_any n W⟩
  have hln := hC.n
  have HNS : Hid (∀ p, p < l.length → secLn l p ≤ 1048577) := ⟨fun p hp => by
    have := (hC.each _ (List.getElem_mem hp)).ns
    unfold secLn
    simpa [hp] using this⟩
  clear hfl hC hrd hdn
  go_enter Try.func4, Try.ntmps4
  go_upto_region 2 with (first
    | (go_at_call 7; refine HOW.out.mono ?_; rintro e w1 ⟨L, va, vc, rfl, hkf, hfl, hb1⟩; have HKF : Hid _ := ⟨hkf⟩; have HFL : Hid _ := ⟨hfl⟩; have HB1 : Hid _ := ⟨hb1⟩; clear hkf hfl hb1)
    | (go_at_call 8; refine (place_any va vc L w1 (kf_flsB HKF.out HFB.out) (kf_dnB HKF.out HDN.out) HFL.out).mono ?_; rintro e w2 ⟨hb2, ⟨hno, E, hE, rfl⟩ | ⟨st, k, sa, sc, hst, _, rfl, hon, hvn, hat, hou, hsg⟩⟩ <;> (try clear hsg)))
  · have HB2 : Hid (Below w.heap.size w w2) := ⟨HB1.out.trans (hb2.mono HB1.out.size)⟩
    have hEd : (E != 0) = true := by simp [hE]
    clear hb2 hno HOW
    have HB3 : Hid (∀ o, Below w.heap.size w (w2.alloc o)) := ⟨fun o => HB2.out.alloc HB2.out.size o⟩
    go_wp2_with (first
      | (go_at_call 12; refine (HNU.out _ _).mono ?_; rintro e w7 ⟨rfl, rfl⟩)
      | (go_at_call 13; refine (HKN.out _).mono ?_; rintro e w8 ⟨rfl, hb8⟩; have HB8 : Hid _ := ⟨hb8⟩; clear hb8))
    go_ret
    exact ⟨rfl, (HB3.out _).trans (HB8.out.mono (HB3.out _).size)⟩
  · have HB2 : Hid (Below w.heap.size w w2) := ⟨HB1.out.trans (hb2.mono HB1.out.size)⟩
    have hdL := kf_dnB HKF.out HDN.out
    have hlen : L.length = l.length := by have := congrArg List.length HKF.out; simpa using this
    have HLI : Hid _ := ⟨layS_li hst hdL⟩
    have HAP : Hid (∀ p q, p < l.length → q < secLn l p → ApF l st p q) := ⟨fun p q hp hq => ap_kf HKF.out (ap_of hst hdL (by omega) (by
      rw [(kf_len (kf_at HKF.out p)).1]; exact hq))⟩
    have HOF : Hid (∀ t, t < st.outs.length → OuF st t (st.outs.getD t Ou.zero)) := ⟨fun t ht => ou_f HLI.out.1 HLI.out.2.2 t ht⟩
    have hfin : st.en = cend st.outs := HLI.out.1.fin
    have HOL : Hid (st.outs.length ≤ 2097152) := ⟨by
      have h1 := congrArg List.length HLI.out.1.nms
      simp only [List.length_map] at h1
      have h2 := ord_len (socc L)
      have h3 : (socc L).length ≤ 2097152 := by rw [socc_len]; exact (kf_flsB HKF.out HFB.out).sum.2
      omega⟩
    obtain ⟨kp, kb, kao, kn, kc, kva, kvn, kvc, koa, kon, koc, kbs, kns, kF⟩ := k
    dsimp only at hon hvn hat hou
    subst hon hvn
    rw [hlen] at hat ⊢
    rw [kf_lens HKF.out] at hat
    obtain ⟨oo, occ', hov, hO⟩ := outs_of hou
    injection hov with e1 e2 e3
    subst e1 e3
    have HST : Hid _ := ⟨(⟨HB2.out, hat, hO, HW0.out.below HB2.out (Nat.le_refl _)⟩ : Below w.heap.size w w2 ∧ AT w2 _ (.slice kva l.length kvc) kbs (l.map (·.secs.length)) st.at' ∧ Outs w2 koa st.outs ∧ Fls w2 ao l)⟩
    clear hb2 hst HOW hat hou hO hdL HLI HKF HFL HB1 HB2
    go_upto_region 5 with (first
      | (go_at_call 12; refine (HNU.out _ _).mono ?_; rintro e w7 ⟨rfl, rfl⟩)
      | (go_at_call 13; refine (HKN.out _).mono ?_; rintro e w8 ⟨rfl, hb8⟩; have HB8 : Hid _ := ⟨hb8⟩; clear hb8))
    generalize (tnL (segsL st.outs)).a = t1 at *
    generalize (tnL (segsL st.outs)).s = t2 at *
    generalize (tnL (segsL st.outs)).l = t3 at *
    generalize (tnL (segsL st.outs)).p = t4 at *
    generalize (segsL st.outs).length = sn at *
    have HA : Hid (ASt w w8 w2.heap.size #[.slice koa st.outs.length koc, .slice kva l.length kvc, .slice sa sn sc, .int .i64 t1, .int .i64 t2, .int .i64 t3, .int .i64 t4, .int .i64 (cend st.outs)] ao kva koa kvc w1.heap.size l kbs st) := ⟨by
      obtain ⟨q1, q2, q3, q4⟩ := HST.out
      have h9 : ASt w (w2.alloc (.cells #[.slice koa st.outs.length koc, .slice kva l.length kvc, .slice sa sn sc, .int .i64 t1, .int .i64 t2, .int .i64 t3, .int .i64 t4, .int .i64 (cend st.outs)] 28)) w2.heap.size #[.slice koa st.outs.length koc, .slice kva l.length kvc, .slice sa sn sc, .int .i64 t1, .int .i64 t2, .int .i64 t3, .int .i64 t4, .int .i64 (cend st.outs)] ao kva koa kvc w1.heap.size l kbs st :=
        ⟨q1.alloc q1.size _, Bk.new _ _ _, q4.below ((Below.refl _ _).alloc (Nat.le_refl _) _) (Nat.le_refl _), q2.bel ((Below.refl _ _).alloc (Nat.le_refl _) _), q3.below ((Below.refl _ _).alloc (Nat.le_refl _) _) (Nat.le_refl _)⟩
      exact h9.bel HB8.out⟩
    clear HB8 HST hfin
    obtain ⟨M, hM⟩ : ∃ M, w2.heap.size = M := ⟨_, rfl⟩
    rw [hM] at HA ⊢
    clear hM
    obtain ⟨B, hB⟩ : ∃ B, w1.heap.size = B := ⟨_, rfl⟩
    rw [hB] at HA
    clear hB
    obtain ⟨cs, hcs⟩ : ∃ cs : Array Value, cs = #[.slice koa st.outs.length koc, .slice kva l.length kvc, .slice sa sn sc, .int .i64 t1, .int .i64 t2, .int .i64 t3, .int .i64 t4, .int .i64 (cend st.outs)] := ⟨_, rfl⟩
    rw [← hcs] at HA
    have HCS : Hid _ := ⟨hcs⟩
    have k0 : cs[0]? = some (.slice koa st.outs.length koc) := by rw [hcs]; rfl
    have k1 : cs[1]? = some (.slice kva l.length kvc) := by rw [hcs]; rfl
    have k7 : cs[7]? = some (.int .i64 (cend st.outs)) := by rw [hcs]; rfl
    have HK : Hid (cs[0]? = some (.slice koa st.outs.length koc) ∧ cs[1]? = some (.slice kva l.length kvc) ∧ cs[7]? = some (.int .i64 (cend st.outs))) := ⟨k0, k1, k7⟩
    clear hcs k0 k1 k7
    have hol := HOL.out
    go_upto_region 6 with (fail)
    go_loopw [5, 6] (fun v5 v6 wr => ∃ t : Nat, t ≤ st.outs.length ∧ v5 = .int .i64 (cend (st.outs.take t)) ∧ v6 = .int .i64 t ∧ Hid (ASt w wr M cs ao kva koa kvc B l kbs st)) (fun _ v _ => st.outs.length - (intOf v).toNat)
    case atStart => exact ⟨0, by omega, rfl, rfl, HA⟩
    case round =>
      obtain ⟨t, ht, rfl, rfl, HV⟩ := hrel
      have m0 := HV.out.m.cell 0 HK.out.1
      by_cases hlt : t < st.outs.length
      · obtain ⟨b1, off, rfl, hcell⟩ : ∃ b off, koa = some ⟨b, off, none⟩ ∧ ∀ i, i < st.outs.length → OutAt wr b (off + i * 6) (st.outs.getD i Ou.zero) := by
          rcases HV.out.o with h | h
          · rw [h] at hlt; simp at hlt
          · exact h
        obtain ⟨c0, c1, c2, c3, c4, c5⟩ := hcell t hlt
        have hof := HOF.out t hlt
        clear hcell
        generalize st.outs.getD t Ou.zero = x at *
        obtain ⟨xn, xt, xf, xl, xa, xs⟩ := x
        obtain ⟨q1, q2, q3, q4, q5, q6⟩ := hof
        dsimp only at c0 c1 c2 c3 c4 c5 q1 q2 q3 q4 q5 q6
        have HQ : Hid _ := ⟨q6⟩
        clear q6
        generalize cend (st.outs.take t) = en at *
        have HX : Hid (Bk (wr.alloc (.cells #[.string xn, .int .i64 xt, .int .i64 xf, .int .i64 xl, .int .i64 xa, .int .i64 xs] 47)) wr.heap.size 47 #[.string xn, .int .i64 xt, .int .i64 xf, .int .i64 xl, .int .i64 xa, .int .i64 xs]) := ⟨Bk.new _ _ _⟩
        have HV2 : Hid _ := ⟨HV.out.alloc (.cells #[.string xn, .int .i64 xt, .int .i64 xf, .int .i64 xl, .int .i64 xa, .int .i64 xs] 47)⟩
        go_upto_region 9 with (fail)
        clear HV m0 c0 c1 c2 c3 c4 c5
        obtain ⟨X, hX⟩ : ∃ X, wr.heap.size = X := ⟨_, rfl⟩
        rw [hX] at HX ⊢
        clear hX
        generalize wr.alloc (.cells #[.string xn, .int .i64 xt, .int .i64 xf, .int .i64 xl, .int .i64 xa, .int .i64 xs] 47) = v1 at *
        have x3 : v1.cell? ⟨X, 3, none⟩ = some (.int .i64 xl) := HX.out.cell 3 rfl
        have x4 : v1.cell? ⟨X, 4, none⟩ = some (.int .i64 xa) := HX.out.cell 4 rfl
        have x5 : v1.cell? ⟨X, 5, none⟩ = some (.int .i64 xs) := HX.out.cell 5 rfl
        have d1 : decide (xa < en) = false := decide_eq_false (by omega)
        have d2 : decide (xs < 0) = false := decide_eq_false (by omega)
        have d3 : decide (xl < 1) = false := decide_eq_false (by omega)
        have d4 : xa.tmod xl = 0 := by rw [Int.tmod_eq_emod_of_nonneg (by omega)]; exact q5
        have d5 : xl ≠ 0 := by omega
        go_wp2
        go_roundw
        case rel => exact ⟨t + 1, hlt, by rw [HQ.out], by go_num, HV2⟩
        case measure => simp [intOf]; omega
      · obtain rfl : t = st.outs.length := by omega
        rw [List.take_length]
        have m1 := HV.out.m.cell 1 HK.out.2.1
        have m7 := HV.out.m.cell 7 HK.out.2.2
        clear HOF
        generalize cend st.outs = ce at *
        go_upto_region 15 with (fail)
        clear m0 m1 m7
        go_loopw [8] (fun v wr => ∃ p : Nat, p ≤ l.length ∧ v = .int .i64 p ∧ Hid (ASt w wr M cs ao kva koa kvc B l kbs st)) (fun v _ => l.length - (intOf v).toNat)
        case atStart => exact ⟨0, by omega, rfl, HV⟩
        case round =>
          clear HV
          obtain ⟨p, hp, rfl, HV⟩ := hrel
          by_cases hpl : p < l.length
          · obtain ⟨b2, off2, xa2, xc2, rfl, c2, hsec2⟩ := at_fl HV.out.f hpl
            obtain ⟨g2, rfl, a2, ha2⟩ := at_at HV.out.a hpl
            have hN := HNS.out p hpl
            have m1 := HV.out.m.cell 1 HK.out.2.1
            have HPQ : Hid (∀ q, q < secLn l p → _) := ⟨fun q hq => HAP.out p q hpl hq⟩
            have HQS : Hid (∀ q, q < secLn l p → ∀ wr', ASt w wr' M cs (some ⟨b2, off2, none⟩) (some ⟨g2, 0, none⟩) koa kvc B l kbs st → ∃ b' o' xc3, wr'.cell? ⟨b2, off2 + p * 2, none⟩ = some (.slice (some ⟨b', o', none⟩) (secLn l p) xc3) ∧ SecAt wr' b' (o' + q * 7) (secAt l p q) ∧ wr'.cell? ⟨g2, p, none⟩ = some (.slice (some ⟨kbs p, 0, none⟩) (secLn l p) (secLn l p)) ∧ wr'.cell? ⟨kbs p, q, none⟩ = some (.int .i64 (st.at' p q))) := ⟨fun q hq wr' h => by
              obtain ⟨b3, off3, xa3, xc3, e3, c3, hsec3⟩ := at_fl h.f hpl
              injection e3 with e3
              injection e3 with e3 e4
              subst e3 e4
              obtain ⟨b4, o4, rfl, h5⟩ := hsec3 q hq
              obtain ⟨g3, e5, a3, ha3⟩ := at_at h.a hpl
              injection e5 with e5
              injection e5 with e5
              subst e5
              exact ⟨b4, o4, xc3, c3, h5, a3, ha3 q hq⟩⟩
            have HNL : Hid (∀ wr', ASt w wr' M cs (some ⟨b2, off2, none⟩) (some ⟨g2, 0, none⟩) koa kvc B l kbs st → ∃ xa3 xc3, wr'.cell? ⟨b2, off2 + p * 2, none⟩ = some (.slice xa3 (secLn l p) xc3)) := ⟨fun wr' h => by
              obtain ⟨b3, off3, xa3, xc3, e3, c3, hsec3⟩ := at_fl h.f hpl
              injection e3 with e3
              injection e3 with e3 e4
              subst e3 e4
              exact ⟨xa3, xc3, c3⟩⟩
            have HAL : Hid (∀ q, q < secLn l p → 0 ≤ st.at' p q → ∀ (i1 i2 i3 i4 i5 : Int) wr', ASt w wr' M cs (some ⟨b2, off2, none⟩) (some ⟨g2, 0, none⟩) koa kvc B l kbs st → _) := ⟨fun q hq h0 i1 i2 i3 i4 i5 wr' h => alone_any (some ⟨b2, off2, none⟩) c l koa (some ⟨g2, 0, none⟩) sa st.outs.length koc kvc sn sc i1 i2 i3 i4 i5 kbs st p q B wr' h.f h.a hpl hq (by omega) HNS.out HAP.out h0⟩
            clear hsec2 ha2
            generalize secLn l p = N at *
            go_upto_region 17 with (fail)
            go_quiet (fail)
            clear c2 a2 m1
            go_upto_region 20 with (fail)
            have HV2 : Hid _ := ⟨HV.out.bel (bdN9 (Below.refl _ wr) nq)⟩
            clear HV
            generalize wr.drewN nq = W0 at *
            go_loopw [9] (fun v wr => ∃ q : Nat, q ≤ N ∧ v = .int .i64 q ∧ Hid (ASt w wr M cs (some ⟨b2, off2, none⟩) (some ⟨g2, 0, none⟩) koa kvc B l kbs st)) (fun v _ => N - (intOf v).toNat)
            case atStart => exact ⟨0, by omega, rfl, HV2⟩
            case round =>
              clear HV2
              obtain ⟨q, hq, rfl, HV⟩ := hrel
              by_cases hql : q < N
              · obtain ⟨b3, o3, xc3, c3, s3, a3, a4⟩ := HQS.out q hql wr HV.out
                have hap := HPQ.out q hql
                have m1 := HV.out.m.cell 1 HK.out.2.1
                obtain ⟨e0, e1, e2, e3, e4, e5, e6⟩ := s3
                have HAQ := HAL.out q hql
                have HNO : Hid _ := ⟨hap.no⟩
                have HYE : Hid _ := ⟨hap.yes⟩
                have hal := hap.al
                have hsz := hap.sz
                have hat := hap.at'
                have HA3 : Hid _ := ⟨HAQ⟩
                clear hap HAQ
                generalize st.at' p q = C at *
                generalize secAt l p q = S at *
                obtain ⟨snm, sty, sfl, sal, sda, sdn, sdc, ssz, sra, srn, src⟩ := S
                dsimp only at *
                have HX : Hid (Bk (wr.alloc (.cells #[.string snm, .int .i64 sty, .int .i64 sfl, .int .i64 sal, .slice sda sdn sdc, .int .i64 ssz, .slice sra srn src] 52)) wr.heap.size 52 #[.string snm, .int .i64 sty, .int .i64 sfl, .int .i64 sal, .slice sda sdn sdc, .int .i64 ssz, .slice sra srn src]) := ⟨Bk.new _ _ _⟩
                have HV3 : Hid _ := ⟨HV.out.alloc (.cells #[.string snm, .int .i64 sty, .int .i64 sfl, .int .i64 sal, .slice sda sdn sdc, .int .i64 ssz, .slice sra srn src] 52)⟩
                have a5 := cA a3 (.cells #[.string snm, .int .i64 sty, .int .i64 sfl, .int .i64 sal, .slice sda sdn sdc, .int .i64 ssz, .slice sra srn src] 52)
                have a6 := cA a4 (.cells #[.string snm, .int .i64 sty, .int .i64 sfl, .int .i64 sal, .slice sda sdn sdc, .int .i64 ssz, .slice sra srn src] 52)
                have HA5 : Hid (_ ∧ _) := ⟨⟨a5, a6⟩⟩
                clear a5 a6
                go_upto_region 23 with (fail)
                clear HV m1 c3 e0 e1 e2 e3 e4 e5 e6 a3 a4
                obtain ⟨X, hX⟩ : ∃ X, wr.heap.size = X := ⟨_, rfl⟩
                rw [hX] at HX ⊢
                clear hX
                generalize wr.alloc (.cells #[.string snm, .int .i64 sty, .int .i64 sfl, .int .i64 sal, .slice sda sdn sdc, .int .i64 ssz, .slice sra srn src] 52) = v1 at *
                obtain ⟨a3, a4⟩ := HA5.out
                have m1 := HV3.out.m.cell 1 HK.out.2.1
                have x2 : v1.cell? ⟨X, 2, none⟩ = some (.int .i64 sfl) := HX.out.cell 2 rfl
                clear HA5
                obtain ⟨z, hz⟩ : ∃ z, (bits .and .i64 sfl 2 == 0) = z := ⟨_, rfl⟩
                cases z
                · obtain ⟨o, ho, hom, h1, h2, h3, h4, h5⟩ := HYE.out hz
                  have hzf : (bits .and .i64 sfl 2 == 0) = false := hz
                  go_upto_region 27 with (fail)
                  clear m1
                  have hcs := HCS.out
                  have HNM : Hid _ := ⟨named_any st.outs snm koa (some ⟨g2, 0, none⟩) sa koc l.length kvc sn sc t1 t2 t3 t4 ce v1 hol HV3.out.o⟩
                  rw [ho, Option.getD_some, Option.isSome_some] at HNM
                  obtain ⟨on, ot, of, ol, oad, osz⟩ := o
                  dsimp only [Ou.val] at *
                  have m0 : v1.cell? ⟨M, 0, none⟩ = some (.slice koa st.outs.length koc) := HV3.out.m.cell 0 (by rw [hcs]; rfl)
                  have m1 : v1.cell? ⟨M, 1, none⟩ = some (.slice (some ⟨g2, 0, none⟩) l.length kvc) := HV3.out.m.cell 1 (by rw [hcs]; rfl)
                  have m2 : v1.cell? ⟨M, 2, none⟩ = some (.slice sa sn sc) := HV3.out.m.cell 2 (by rw [hcs]; rfl)
                  have m3 : v1.cell? ⟨M, 3, none⟩ = some (.int .i64 t1) := HV3.out.m.cell 3 (by rw [hcs]; rfl)
                  have m4 : v1.cell? ⟨M, 4, none⟩ = some (.int .i64 t2) := HV3.out.m.cell 4 (by rw [hcs]; rfl)
                  have m5 : v1.cell? ⟨M, 5, none⟩ = some (.int .i64 t3) := HV3.out.m.cell 5 (by rw [hcs]; rfl)
                  have m6 : v1.cell? ⟨M, 6, none⟩ = some (.int .i64 t4) := HV3.out.m.cell 6 (by rw [hcs]; rfl)
                  have m7 : v1.cell? ⟨M, 7, none⟩ = some (.int .i64 ce) := HV3.out.m.cell 7 (by rw [hcs]; rfl)
                  clear ho hom
                  have x0 : v1.cell? ⟨X, 0, none⟩ = some (.string snm) := HX.out.cell 0 rfl
                  go_upto_region 28 with (go_at_call 14; refine HNM.out.mono ?_; rintro e w5 ⟨rfl, hb5⟩; have HB5 : Hid _ := ⟨hb5⟩; clear hb5)
                  have HV6 : Hid _ := ⟨(HV3.out.bel HB5.out).alloc (.cells #[.string on, .int .i64 ot, .int .i64 of, .int .i64 ol, .int .i64 oad, .int .i64 osz] 47)⟩
                  have HX6 : Hid (Bk (w5.alloc (.cells #[.string on, .int .i64 ot, .int .i64 of, .int .i64 ol, .int .i64 oad, .int .i64 osz] 47)) X 52 #[.string snm, .int .i64 sty, .int .i64 sfl, .int .i64 sal, .slice sda sdn sdc, .int .i64 ssz, .slice sra srn src]) := ⟨(HX.out.bel HB5.out HX.out.lt).alloc _⟩
                  have HO6 : Hid (Bk (w5.alloc (.cells #[.string on, .int .i64 ot, .int .i64 of, .int .i64 ol, .int .i64 oad, .int .i64 osz] 47)) w5.heap.size 47 #[.string on, .int .i64 ot, .int .i64 of, .int .i64 ol, .int .i64 oad, .int .i64 osz]) := ⟨Bk.new _ _ _⟩
                  clear HV3 HX HB5 HNM m0 m1 m2 m3 m4 m5 m6 m7 a3 a4 x2 x0
                  obtain ⟨Y, hY⟩ : ∃ Y, w5.heap.size = Y := ⟨_, rfl⟩
                  rw [hY] at HO6 ⊢
                  clear hY
                  generalize w5.alloc (.cells #[.string on, .int .i64 ot, .int .i64 of, .int .i64 ol, .int .i64 oad, .int .i64 osz] 47) = w6 at *
                  have m0 : w6.cell? ⟨M, 0, none⟩ = some (.slice koa st.outs.length koc) := HV6.out.m.cell 0 (by rw [hcs]; rfl)
                  have m1 : w6.cell? ⟨M, 1, none⟩ = some (.slice (some ⟨g2, 0, none⟩) l.length kvc) := HV6.out.m.cell 1 (by rw [hcs]; rfl)
                  have m2 : w6.cell? ⟨M, 2, none⟩ = some (.slice sa sn sc) := HV6.out.m.cell 2 (by rw [hcs]; rfl)
                  have m3 : w6.cell? ⟨M, 3, none⟩ = some (.int .i64 t1) := HV6.out.m.cell 3 (by rw [hcs]; rfl)
                  have m4 : w6.cell? ⟨M, 4, none⟩ = some (.int .i64 t2) := HV6.out.m.cell 4 (by rw [hcs]; rfl)
                  have m5 : w6.cell? ⟨M, 5, none⟩ = some (.int .i64 t3) := HV6.out.m.cell 5 (by rw [hcs]; rfl)
                  have m6 : w6.cell? ⟨M, 6, none⟩ = some (.int .i64 t4) := HV6.out.m.cell 6 (by rw [hcs]; rfl)
                  have m7 : w6.cell? ⟨M, 7, none⟩ = some (.int .i64 ce) := HV6.out.m.cell 7 (by rw [hcs]; rfl)
                  clear hcs
                  have x3 : w6.cell? ⟨X, 3, none⟩ = some (.int .i64 sal) := HX6.out.cell 3 rfl
                  have x5 : w6.cell? ⟨X, 5, none⟩ = some (.int .i64 ssz) := HX6.out.cell 5 rfl
                  have y4 : w6.cell? ⟨Y, 4, none⟩ = some (.int .i64 oad) := HO6.out.cell 4 rfl
                  have y5 : w6.cell? ⟨Y, 5, none⟩ = some (.int .i64 osz) := HO6.out.cell 5 rfl
                  have HL6 : Hid _ := ⟨HA3.out (by omega) t1 t2 t3 t4 ce w6 HV6.out⟩
                  have d1 : decide (C < oad) = false := decide_eq_false (by omega)
                  have d2 : decide (oad + osz < C + ssz) = false := decide_eq_false (by omega)
                  have d3 : C.tmod sal = 0 := by rw [Int.tmod_eq_emod_of_nonneg (by omega)]; exact h5
                  have d4 : sal ≠ 0 := by omega
                  go_wp2_with (go_at_call 15; (with_reducible refine HL6.out.mono ?_); rintro e w7 ⟨rfl, hb7⟩; have HB7 : Hid _ := ⟨hb7⟩; clear hb7)
                  go_roundw
                  case rel => exact ⟨q + 1, hql, by go_num, ⟨HV6.out.bel HB7.out⟩⟩
                  case measure => simp [intOf]; omega
                · have hC := HNO.out hz
                  subst hC
                  go_wp2
                  go_roundw
                  case rel => exact ⟨q + 1, hql, by go_num, HV3⟩
                  case measure => simp [intOf]; omega
              · obtain rfl : q = N := by omega
                obtain ⟨xa3, xc3, c3⟩ := HNL.out wr HV.out
                go_wp2
                go_roundw
                case rel => exact ⟨p + 1, by omega, by go_num, HV⟩
                case measure => simp [intOf]; omega
          · obtain rfl : p = l.length := by omega
            go_wp2
            go_ret
            exact ⟨rfl, HV.out.b⟩
end Go.Proofs.Ytojiomkinhnodaa
