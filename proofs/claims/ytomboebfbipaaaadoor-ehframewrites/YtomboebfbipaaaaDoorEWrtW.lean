/- The law EhframeWrites, walked. -/
import Derived.Test.YtomboebfbipaaaaDoorEWrtP
import Derived.Test.YtomboebfbipaaaaDoorERCk
import Derived.Test.YtomboebfbipaaaaDoorEMovOpenF
import Derived.BigQuiet
namespace Go.Proofs.YtomboebfbipaaaaDoor
open Go.ChangeShapes Go.WideShapes Go.ChangeAt Go.RowKit Go.Maps
set_option linter.unusedVariables false
set_option linter.unusedSimpArgs false

set_option maxHeartbeats 8000000 in
set_option maxRecDepth 20000 in
theorem ehframeWrites_walk (ac : Option Addr) (cc : Nat) (c : List Ce) (af : Option Addr) (cf : Nat) (f : List Fe) (addr : Int) (en : Bool) (w : World) (hC : Cs w ac c) (hF : Fs w af f) (hcl : c.length ≤ 4398046511000) (hfl : f.length ≤ 2932031007400) (hci : ∀ x ∈ c, x.ini.length ≤ 5864062014634) (hfi : ∀ x ∈ f, x.ops.length ≤ 5864062014634) (hei : ∀ x ∈ c, -9223372036854775808 ≤ x.enc ∧ x.enc ≤ 9223372036854775807) (hz : Fz w) :
    Calls Tryd.prog 4 #[.slice ac c.length cc, .slice af f.length cf, .int .i64 addr, .bool en] w fun e w' => e = .returned (.bool true) ∧ Below w.heap.size w w' := by
  have HLv : Hid (∀ W : World, Below w.heap.size w W → Calls Tryd.prog 11 #[] W fun e w' => e = .returned (.bool true) ∧ Below W.heap.size W w') := ⟨fun W hb => live_any W (hz.bel hb hz.z)⟩
  have HTb : Hid _ := ⟨tables_any ac cc c af cf f w hC hF hcl hfl hci hfi⟩
  have HRC : Hid (∀ W : World, Below w.heap.size w W → Calls Tryd.prog 16 #[.slice ac c.length cc, .slice af f.length cf] W fun e w' => e = .returned (.int .i64 (checkE c f)) ∧ Below W.heap.size W w') := ⟨fun W hb => rcheck_any rck ac cc c af cf f W (hC.bel hb) (hF.bel hb) (by omega) (by omega) hei⟩
  have HRW : Hid (∀ W : World, Below w.heap.size w W → Calls Tryd.prog 14 #[.slice ac c.length cc, .slice af f.length cf, .int .i64 addr, .bool en] W (WrEnd (wriR c f addr en) W)) := ⟨fun W hb => rwri_any ac cc c af cf f addr en W (hC.bel hb) (hF.bel hb) (HRC.out W hb)⟩
  have HPW : Hid (∀ (W : World) a1 c1 a2 c2, Cs W a1 c → Fs W a2 f → Below w.heap.size w W → Calls Tryd.prog 13 #[.slice a1 c.length c1, .slice a2 f.length c2, .int .i64 addr, .bool en] W (WrEnd (wriR c f addr en) W)) := ⟨fun W a1 c1 a2 c2 h1 h2 hb => pwri a1 c1 c a2 c2 f addr en W h1 h2 (by omega) (by omega) hei (hz.bel hb hz.z)⟩
  have HPC : Hid (∀ (W : World) a1 c1 a2 c2, Cs W a1 c → Fs W a2 f → Below w.heap.size w W → Calls Tryd.prog 15 #[.slice a1 c.length c1, .slice a2 f.length c2] W fun e w' => e = .returned (.int .i64 (checkE c f)) ∧ Below W.heap.size W w') := ⟨fun W a1 c1 a2 c2 h1 h2 hb => check_any a1 c1 c a2 c2 f W h1 h2 (by omega) (by omega) hei (hz.bel hb hz.z)⟩
  have HSm : Hid (∀ (W : World) a1 c1 a2 c2, Cs W a1 c → Fs W a2 f → Below w.heap.size w W → Calls Tryd.prog 17 #[.slice a1 c.length c1, .slice a2 f.length c2, .slice ac c.length cc, .slice af f.length cf] W fun e w' => e = .returned (.bool true) ∧ Below W.heap.size W w') := ⟨fun W a1 c1 a2 c2 h1 h2 hb => same_any c f a1 ac a2 af c1 cc c2 cf W hcl hfl hci hfi h1 (hC.bel hb) h2 (hF.bel hb)⟩
  have hAl := wriR_len c f addr en
  clear hC hF hci hfi hei hz
  generalize wriR c f addr en = R at *
  obtain ⟨E, B, A⟩ := R
  unfold WrEnd at HPW HRW
  dsimp only at HPW HRW hAl
  have hAl2 : (A.length : Int) ≤ 2932031007400 := by omega
  generalize checkE c f = C at *
  obtain ⟨Y, hY⟩ : ∃ Y, strOfNums B = Y := ⟨_, rfl⟩
  have n1 : ((C : Int) != C) = false := by simp
  have n2 : ((E : Int) != E) = false := by simp
  have n3 : ((A.length : Int) != (A.length : Int)) = false := by simp
  have n4 : (Y.toList == Y.toList) = true := by simp
  have n5 : (Y.toList != Y.toList) = false := by simp
  go_enter Tryd.func4, Tryd.ntmps4
  go_upto_region 2 with (go_at_call 12; (with_reducible refine HTb.out.mono ?_); rintro e w1 ⟨v1, v2, he, t1, t2, hb1⟩; subst he; have H1 : Hid (TC w1 w.heap.size v1 c ∧ TF w1 w.heap.size v2 f ∧ Below w.heap.size w w1) := ⟨t1, t2, hb1⟩; clear t1 t2 hb1)
  obtain ⟨a1, c1, hv1, hCs⟩ := H1.out.1.cs
  obtain ⟨a2, c2, hv2, hFs, _⟩ := H1.out.2.1.fs
  subst hv1
  subst hv2
  have H1b : Hid (Cs w1 a1 c ∧ Fs w1 a2 f ∧ Below w.heap.size w w1) := ⟨hCs, hFs, H1.out.2.2⟩
  clear H1 hCs hFs HTb
  go_upto_region 3 with (go_at_call 13; (with_reducible refine (HPW.out _ _ _ _ _ H1b.out.1 H1b.out.2.1 H1b.out.2.2).mono ?_); rintro e w2 ⟨vb, vt, he, ho, hi, hb⟩; subst he; have H2 : Hid (Cs w2 a1 c ∧ Fs w2 a2 f ∧ Below w.heap.size w w2 ∧ Own w2 _ vb B ∧ OwnI w2 _ vt A) := ⟨H1b.out.1.bel hb, H1b.out.2.1.bel hb, H1b.out.2.2.trans (hb.mono H1b.out.2.2.size), ho, hi⟩; clear ho hi hb)
  clear HPW H1b
  obtain ⟨aa, ca, hvt⟩ := H2.out.2.2.2.2.sl
  subst hvt
  go_upto_region 4 with (go_at_call 14; (with_reducible refine (HRW.out _ H2.out.2.2.1).mono ?_); rintro e w3 ⟨vd, vs, he, ho, hi, hb⟩; subst he; have H3 : Hid (Cs w3 a1 c ∧ Fs w3 a2 f ∧ Below w.heap.size w w3 ∧ Own w3 _ vb B ∧ IntsAt w3 aa A ∧ Own w3 _ vd B ∧ OwnI w3 _ vs A) := ⟨H2.out.1.bel hb, H2.out.2.1.bel hb, H2.out.2.2.1.trans (hb.mono H2.out.2.2.1.size), H2.out.2.2.2.1.bel hb, H2.out.2.2.2.2.ints.bel hb, ho, hi⟩; clear ho hi hb)
  clear HRW H2
  obtain ⟨aq, cq, hvs⟩ := H3.out.2.2.2.2.2.2.sl
  subst hvs
  have H4 : Hid (Cs w3 a1 c ∧ Fs w3 a2 f ∧ Below w.heap.size w w3 ∧ Bt w3 vb B ∧ Bt w3 vd B ∧ IntsAt w3 aa A ∧ IntsAt w3 aq A) := ⟨H3.out.1, H3.out.2.1, H3.out.2.2.1, H3.out.2.2.2.1.bt, H3.out.2.2.2.2.2.1.bt, H3.out.2.2.2.2.1, H3.out.2.2.2.2.2.2.ints⟩
  have HO : Hid (Own w3 _ vb B ∧ Own w3 _ vd B) := ⟨H3.out.2.2.2.1, H3.out.2.2.2.2.2.1⟩
  clear H3
  go_upto_region 6 with (first
    | (go_at_call 10; (with_reducible refine (enum_any _ _).mono ?_); rintro e wn ⟨he, hwn⟩; subst he; subst wn)
    | (go_at_call 15; (with_reducible refine (HPC.out _ _ _ _ _ H4.out.1 H4.out.2.1 H4.out.2.2.1).mono ?_); rintro e w4 ⟨he, hb4⟩; subst he; have HB4 : Hid (Below w3.heap.size w3 w4 ∧ Below w.heap.size w w4) := ⟨hb4, H4.out.2.2.1.trans (hb4.mono H4.out.2.2.1.size)⟩; clear hb4)
    | (go_at_call 16; (with_reducible refine (HRC.out _ HB4.out.2).mono ?_); rintro e w5 ⟨he, hb5⟩; subst he; have HB5 : Hid (Below w3.heap.size w3 w5 ∧ Below w.heap.size w w5) := ⟨HB4.out.1.trans (hb5.mono HB4.out.1.size), HB4.out.2.trans (hb5.mono HB4.out.2.size)⟩; have hc1 := (HO.out.1.bel HB5.out.1).bt.conv; have hc2 := (HO.out.2.bel HB5.out.1).bt.conv; rw [hY] at hc1 hc2; clear hb5)
    | (go_at_call 17; (with_reducible refine (HSm.out _ _ _ _ _ (H4.out.1.bel HB5.out.1) (H4.out.2.1.bel HB5.out.1) HB5.out.2).mono ?_); rintro e w6 ⟨he, hb6⟩; subst he; have HB6 : Hid (Below w3.heap.size w3 w6 ∧ Below w.heap.size w w6) := ⟨HB5.out.1.trans (hb6.mono HB5.out.1.size), HB5.out.2.trans (hb6.mono HB5.out.2.size)⟩; clear hb6))
  have H7 : Hid (IntsAt w6 aa A ∧ IntsAt w6 aq A ∧ Below w.heap.size w w6) := ⟨H4.out.2.2.2.2.2.1.bel HB6.out.1, H4.out.2.2.2.2.2.2.bel HB6.out.1, HB6.out.2⟩
  clear hc1 hc2 HB4 HB5 HB6 HO H4 HPC HRC HSm n1 n2 n3 n4 n5
  go_wp2
  go_loopw [17] (fun iv wr => ∃ k : Nat, k ≤ A.length ∧ iv = .int .i64 k ∧ Hid (Below w6.heap.size w6 wr)) (fun iv _ => A.length - (intOf iv).toNat)
  case atStart => exact ⟨0, by omega, rfl, ⟨Below.refl _ _⟩⟩
  case round =>
    obtain ⟨k, hk, rfl, HW⟩ := hrel
    by_cases hlt : k < A.length
    · obtain ⟨b1, rfl, hc1⟩ : ∃ b, aa = some ⟨b, 0, none⟩ ∧ ∀ i, i < A.length → wr.cell? ⟨b, i, none⟩ = some (.int .i64 (A.getD i 0)) := by
        rcases H7.out.1.bel HW.out with h | h
        · omega
        · exact h
      obtain ⟨b2, rfl, hc2⟩ : ∃ b, aq = some ⟨b, 0, none⟩ ∧ ∀ i, i < A.length → wr.cell? ⟨b, i, none⟩ = some (.int .i64 (A.getD i 0)) := by
        rcases H7.out.2.1.bel HW.out with h | h
        · omega
        · exact h
      have q1 : (k : Int) < (A.length : Int) := by omega
      have q0 : (0 : Int) ≤ (k : Int) := by omega
      have x0 := hc1 k hlt
      have y0 := hc2 k hlt
      clear hc1 hc2
      generalize A.getD k 0 = z at *
      have n6 : ((z : Int) != z) = false := by simp
      go_wp2
      go_quiet (fail)
      go_wp2
      go_roundw
      case rel => exact ⟨k + 1, hlt, by go_num, ⟨below_drewN HW.out _⟩⟩
      case measure => simp [intOf]; omega
    · obtain rfl : k = A.length := by omega
      have HB9 : Hid (Below w.heap.size w wr) := ⟨H7.out.2.2.trans (HW.out.mono H7.out.2.2.size)⟩
      go_wp2_with (go_at_call 11; (with_reducible refine (HLv.out _ HB9.out).mono ?_); rintro e w8 ⟨he, hb8⟩; subst he)
      go_ret
      exact ⟨rfl, HB9.out.trans (hb8.mono HB9.out.size)⟩
theorem ehframeWrites_wk (a0 : Option Addr) (c0 : Nat) (z0 : List Ce) (a1 : Option Addr) (c1 : Nat) (z1 : List Fe) (addr : Int) (en : Bool) (w : World) (h0 : Cs w a0 z0) (y0 : z0.length ≤ 4398046511000 ∧ (∀ x ∈ z0, x.ini.length ≤ 5864062014634) ∧ ∀ x ∈ z0, (Lit.int .i64 x.enc).wf = true) (h1 : Fs w a1 z1) (y1 : z1.length ≤ 2932031007400 ∧ (∀ x ∈ z1, x.ops.length ≤ 5864062014634) ∧ ∀ x ∈ z1, (Lit.int .i64 x.cie).wf = true) (w2 : (Lit.int .i64 addr).wf = true) (hf : Fz w) :
    Calls Tryd.prog 4 #[.slice a0 z0.length c0, .slice a1 z1.length c1, .int .i64 addr, .bool en] w fun e w' => e = .returned (.bool true) ∧ Below w.heap.size w w' :=
  ehframeWrites_walk a0 c0 z0 a1 c1 z1 addr en w h0 h1 y0.1 y1.1 y0.2.1 y1.2.1 (fun x hx => i64_inM (y0.2.2 x hx)) hf
end Go.Proofs.YtomboebfbipaaaaDoor
