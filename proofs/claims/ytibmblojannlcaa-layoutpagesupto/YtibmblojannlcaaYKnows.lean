/- knows. -/
import Derived.Test.YtibmblojannlcaaYCode
namespace Go.Proofs.Ytibmblojannlcaa
open Go.ChangeShapes Go.WideShapes Go.ChangeAt Go.RowKit Go.Maps
set_option linter.unusedVariables false
set_option linter.unusedSimpArgs false

theorem kL_B (d1 s1 d2 s2 : Option Addr) : FlsB (kL d1 s1 d2 s2) := by
  refine ⟨by show 2 ≤ _; omega, fun f hf => ?_, ?_, ?_⟩
  · have : f = kF 3 d1 s1 ∨ f = kF 5 d2 s2 := by simpa [kL] using hf
    rcases this with rfl | rfl
    · exact ⟨by show 1 ≤ _; omega, by show 0 ≤ _; omega, fun s hs => by simp at hs; subst hs; show 5 ≤ _; omega, by intro s hs; cases hs⟩
    · exact ⟨by show 1 ≤ _; omega, by show 0 ≤ _; omega, fun s hs => by simp at hs; subst hs; show 5 ≤ _; omega, by intro s hs; cases hs⟩
  · rw [occ_ln]; show 0 ≤ _; omega
  · show 2 ≤ _; omega
theorem kL_D (d1 s1 d2 s2 : Option Addr) : DnB (kL d1 s1 d2 s2) := fun f hf s hs => by
  have : f = kF 3 d1 s1 ∨ f = kF 5 d2 s2 := by simpa [kL] using hf
  rcases this with rfl | rfl
  · simp at hs; subst hs; show 3 ≤ _; omega
  · simp at hs; subst hs; show 5 ≤ _; omega
theorem kS_secs {W : World} {Q n : Nat} {d : Option Addr} (h : Bk W Q 52 (encS (kS n d)).toArray) : Secs W (some ⟨Q, 0, none⟩) [kS n d] :=
  .inr ⟨Q, 0, rfl, fun i hi => by
    obtain rfl : i = 0 := by simpa using hi
    exact ⟨h.cell 0 rfl, h.cell 1 rfl, h.cell 2 rfl, h.cell 3 rfl, h.cell 4 rfl, h.cell 5 rfl, h.cell 6 rfl⟩⟩
theorem kL_fls {W : World} {X Q1 Q2 : Nat} {d1 d2 : Option Addr} (hX : Bk W X 41 #[.slice (some ⟨Q1, 0, none⟩) 1 1, .slice none 0 0, .slice (some ⟨Q2, 0, none⟩) 1 1, .slice none 0 0]) (h1 : Bk W Q1 52 (encS (kS 3 d1)).toArray) (h2 : Bk W Q2 52 (encS (kS 5 d2)).toArray) : Fls W (some ⟨X, 0, none⟩) (kL d1 (some ⟨Q1, 0, none⟩) d2 (some ⟨Q2, 0, none⟩)) :=
  .inr ⟨X, 0, rfl, fun i hi => by
    have : i = 0 ∨ i = 1 := by have h9 : i < 2 := hi; omega
    rcases this with rfl | rfl
    · exact ⟨hX.cell 0 rfl, hX.cell 1 rfl, ⟨kS_secs h1, .inl rfl⟩⟩
    · exact ⟨hX.cell 2 rfl, hX.cell 3 rfl, ⟨kS_secs h2, .inl rfl⟩⟩⟩
theorem kL_st {d1 s1 d2 s2 : Option Addr} {st : St} (h : layS (kL d1 s1 d2 s2) = some st) : st.outs = [⟨txt, 1, 6, 16, 4096, 21⟩] ∧ st.at' 1 0 = 4112 ∧ (segsL st.outs).length = 1 := by
  have e := kL_out d1 s1 d2 s2
  rw [h] at e
  simp only [Option.map_some, Option.some.injEq, Prod.mk.injEq] at e
  obtain ⟨e1, e2, _, _, e5, e6⟩ := e
  refine ⟨?_, e5, e6⟩
  cases ho : st.outs with
  | nil => rw [ho] at e1; cases e1
  | cons a r =>
    rw [ho] at e1 e2
    simp only [List.map_cons, List.cons.injEq, Prod.mk.injEq, List.map_eq_nil_iff] at e1 e2
    obtain ⟨⟨a1, a2, a3⟩, hr⟩ := e1
    obtain ⟨⟨a4, a5, a6⟩, _⟩ := e2
    subst hr
    obtain ⟨nm, ty, fl, al, ad, sz⟩ := a
    dsimp only at a1 a2 a3 a4 a5 a6
    subst a1 a2 a3 a4 a5 a6
    rfl
set_option maxHeartbeats 8000000 in
set_option maxRecDepth 20000 in
theorem knows_any (w : World) : Calls Try.prog 13 #[] w fun e w' => e = .returned (.bool true) ∧ Below w.heap.size w w' := by
  have HC : Hid (∀ n W, n = 3 ∨ n = 5 → _) := ⟨fun n W h => code_any n h W⟩
  go_enter Try.func13, Try.ntmps13
  go_upto_region 2 with (first
    | (go_at_call 30; refine (code_any 3 (.inl rfl) _).mono ?_; rintro e w1 ⟨g1, rfl, hb1⟩; have HB1 : Hid _ := ⟨hb1⟩; clear hb1)
    | (go_at_call 30; refine (code_any 5 (.inr rfl) _).mono ?_; rintro e w2 ⟨g2, rfl, hb2⟩; have HB2 : Hid _ := ⟨hb2⟩; clear hb2)
    | (go_at_call 8; refine (place_any (some ⟨w2.heap.size + 1, 0, none⟩) 2 (kL (some ⟨g1, 0, none⟩) (some ⟨w1.heap.size, 0, none⟩) (some ⟨g2, 0, none⟩) (some ⟨w2.heap.size, 0, none⟩)) _ (kL_B _ _ _ _) (kL_D _ _ _ _) (kL_fls (by have := Bk.new (w2.alloc (.cells (encS (kS 5 (some ⟨g2, 0, none⟩))).toArray 52)) #[.slice (some ⟨w1.heap.size, 0, none⟩) 1 1, .slice none 0 0, .slice (some ⟨w2.heap.size, 0, none⟩) 1 1, .slice none 0 0] 41; simp only [World.size_alloc] at this; exact this) ((((Bk.new w1 (encS (kS 3 (some ⟨g1, 0, none⟩))).toArray 52).bel HB2.out (by simp)).alloc _).alloc _) ((Bk.new w2 (encS (kS 5 (some ⟨g2, 0, none⟩))).toArray 52).alloc _))).mono ?_; rintro e w3 ⟨hb3, ⟨hno, _⟩ | ⟨st, k, sa, sc, hst, _, rfl, hon, hvn, hat, hou, hsg⟩⟩; (have e9 := kL_out (some ⟨g1, 0, none⟩) (some ⟨w1.heap.size, 0, none⟩) (some ⟨g2, 0, none⟩) (some ⟨w2.heap.size, 0, none⟩); rw [hno] at e9; cases e9); have HB3 : Hid _ := ⟨hb3⟩; have HST : Hid _ := ⟨kL_st hst⟩; have HAT : Hid (AT w3 _ (.slice k.va k.vn k.vc) k.bs [1, 1] st.at') := ⟨hat⟩; have HOU : Hid _ := ⟨hou⟩; have HVN : Hid _ := ⟨hvn⟩; clear hb3 hst hat hou hsg hvn))
  have HBW : Hid (Below w.heap.size w w3) := ⟨((HB1.out.alloc HB1.out.size _).trans (HB2.out.mono (by have := HB1.out.size; simp; omega)) |>.alloc (by have h1 := HB1.out.size; have h2 := HB2.out.size; simp at h2; omega) _ |>.alloc (by have h1 := HB1.out.size; have h2 := HB2.out.size; simp at h2 ⊢; omega) _).trans (HB3.out.mono (by have h1 := HB1.out.size; have h2 := HB2.out.size; simp at h2 ⊢; omega))⟩
  obtain ⟨hso, h41, hsl⟩ := HST.out
  clear HST HB1 HB2 HB3 HC
  rw [hsl]
  clear hsl
  obtain ⟨tt1, tt2, tt3, tt4⟩ := tnL (segsL st.outs)
  obtain ⟨spg, sen, souts, sat⟩ := st
  dsimp only at hso h41 hon HOU HAT ⊢
  subst hso
  obtain ⟨kp, kb, kao, kn, kc, kva, kvn, kvc, koa, kon, koc, kbs, kns, kF⟩ := k
  dsimp only at hon HOU HAT HVN ⊢
  subst hon
  obtain rfl : kvn = 2 := HVN.out
  obtain ⟨oo, occ', hov, hO⟩ := outs_of HOU.out
  injection hov with e1 e2 e3
  subst e1 e3
  have HK4 : Hid (Bk (w3.alloc (.cells #[.slice koa 1 koc, .slice kva 2 kvc, .slice sa 1 sc, .int .i64 tt1, .int .i64 tt2, .int .i64 tt3, .int .i64 tt4, .int .i64 sen] 28)) w3.heap.size 28 #[.slice koa 1 koc, .slice kva 2 kvc, .slice sa 1 sc, .int .i64 tt1, .int .i64 tt2, .int .i64 tt3, .int .i64 tt4, .int .i64 sen]) := ⟨Bk.new _ _ _⟩
  have HB4 : Hid (Below w.heap.size w (w3.alloc (.cells #[.slice koa 1 koc, .slice kva 2 kvc, .slice sa 1 sc, .int .i64 tt1, .int .i64 tt2, .int .i64 tt3, .int .i64 tt4, .int .i64 sen] 28))) := ⟨HBW.out.alloc HBW.out.size _⟩
  have HO4 : Hid _ := ⟨hO.below ((Below.refl w3.heap.size w3).alloc (Nat.le_refl _) (.cells #[.slice koa 1 koc, .slice kva 2 kvc, .slice sa 1 sc, .int .i64 tt1, .int .i64 tt2, .int .i64 tt3, .int .i64 tt4, .int .i64 sen] 28)) (Nat.le_refl _)⟩
  have HA4 : Hid _ := ⟨HAT.out.bel ((Below.refl w3.heap.size w3).alloc (Nat.le_refl _) (.cells #[.slice koa 1 koc, .slice kva 2 kvc, .slice sa 1 sc, .int .i64 tt1, .int .i64 tt2, .int .i64 tt3, .int .i64 tt4, .int .i64 sen] 28))⟩
  clear HBW HAT HOU hO HVN
  obtain ⟨M, hM⟩ : ∃ M, w3.heap.size = M := ⟨_, rfl⟩
  rw [hM] at HK4
  rw [hM]
  clear hM
  simp only [List.length_cons, List.length_nil, Nat.zero_add] at HB4 HO4 HA4 HK4 ⊢
  generalize (w3.alloc (.cells #[.slice koa 1 koc, .slice kva 2 kvc, .slice sa 1 sc, .int .i64 tt1, .int .i64 tt2, .int .i64 tt3, .int .i64 tt4, .int .i64 sen] 28)) = w4 at *
  have hN : nmdO [(⟨txt, 1, 6, 16, 4096, 21⟩ : Ou)] txt = some (⟨txt, 1, 6, 16, 4096, 21⟩ : Ou) := by kernel_rfl
  have HNM : Hid _ := ⟨named_any [(⟨txt, 1, 6, 16, 4096, 21⟩ : Ou)] txt koa kva sa koc 2 kvc 1 sc tt1 tt2 tt3 tt4 sen w4 (by decide) HO4.out⟩
  rw [hN] at HNM
  clear hN
  have m0 := HK4.out.cell 0 rfl
  have m1 := HK4.out.cell 1 rfl
  have m2 := HK4.out.cell 2 rfl
  have m3 := HK4.out.cell 3 rfl
  have m4 := HK4.out.cell 4 rfl
  have m5 := HK4.out.cell 5 rfl
  have m6 := HK4.out.cell 6 rfl
  have m7 := HK4.out.cell 7 rfl
  go_upto_region 3 with (go_at_call 14; refine HNM.out.mono ?_; rintro e w5 ⟨rfl, hb5⟩; have HB5 : Hid _ := ⟨hb5⟩; clear hb5)
  have HK6 : Hid (Bk (w5.alloc (.cells #[.string txt, .int .i64 1, .int .i64 6, .int .i64 16, .int .i64 4096, .int .i64 21] 47)) M _ _) := ⟨(HK4.out.bel HB5.out HK4.out.lt).alloc _⟩
  have HN6 : Hid (Bk (w5.alloc (.cells #[.string txt, .int .i64 1, .int .i64 6, .int .i64 16, .int .i64 4096, .int .i64 21] 47)) w5.heap.size 47 (encO (⟨txt, 1, 6, 16, 4096, 21⟩ : Ou)).toArray) := ⟨Bk.new _ _ _⟩
  have HA6 : Hid _ := ⟨(HA4.out.bel HB5.out).bel ((Below.refl w5.heap.size w5).alloc (Nat.le_refl _) (.cells #[.string txt, .int .i64 1, .int .i64 6, .int .i64 16, .int .i64 4096, .int .i64 21] 47))⟩
  have HB6 : Hid (Below w.heap.size w (w5.alloc (.cells #[.string txt, .int .i64 1, .int .i64 6, .int .i64 16, .int .i64 4096, .int .i64 21] 47))) := ⟨(HB4.out.trans (HB5.out.mono HB4.out.size)).alloc (by have := HB4.out.size; have := HB5.out.size; omega) _⟩
  clear HK4 HA4 HB4 HB5 HNM HO4 m0 m1 m2 m3 m4 m5 m6 m7
  obtain ⟨N, hN⟩ : ∃ N, w5.heap.size = N := ⟨_, rfl⟩
  rw [hN] at HN6 ⊢
  clear hN
  have n4 : (w5.alloc (.cells #[.string txt, .int .i64 1, .int .i64 6, .int .i64 16, .int .i64 4096, .int .i64 21] 47)).cell? ⟨N, 4, none⟩ = some (.int .i64 4096) := HN6.out.cell 4 rfl
  have n5 : (w5.alloc (.cells #[.string txt, .int .i64 1, .int .i64 6, .int .i64 16, .int .i64 4096, .int .i64 21] 47)).cell? ⟨N, 5, none⟩ = some (.int .i64 21) := HN6.out.cell 5 rfl
  have m1 := HK6.out.cell 1 rfl
  have m2 := HK6.out.cell 2 rfl
  obtain ⟨ar, cr, hv, _, _, _, hc⟩ := HA6.out.row.any encV_len
  have hkv : kva = ar := by injection hv
  clear hv
  rw [← hkv] at hc
  clear hkv
  rcases hc with hc | ⟨g, hg, _, _, hcc⟩
  · cases hc
  subst hg
  have r1 : (w5.alloc (.cells #[.string txt, .int .i64 1, .int .i64 6, .int .i64 16, .int .i64 4096, .int .i64 21] 47)).cell? ⟨g, 1, none⟩ = some (.slice (some ⟨kbs 1, 0, none⟩) 1 1) := hcc 1 (show 1 < 2 by decide) 0 (by decide)
  have b1 : (w5.alloc (.cells #[.string txt, .int .i64 1, .int .i64 6, .int .i64 16, .int .i64 4096, .int .i64 21] 47)).cell? ⟨kbs 1, 0, none⟩ = some (.int .i64 (sat 1 0)) := (HA6.out.bk 1 (show 1 < 2 by decide)).2.cell 0 rfl
  rw [h41] at b1
  clear hcc HA6 HK6 HN6 h41
  generalize (w5.alloc (.cells #[.string txt, .int .i64 1, .int .i64 6, .int .i64 16, .int .i64 4096, .int .i64 21] 47)) = w6 at *
  have HNU : Hid (∀ W, _) := ⟨fun W => num_any 0 W⟩
  go_wp2_with (go_at_call 12; refine (HNU.out _).mono ?_; rintro e w7 ⟨rfl, rfl⟩)
  go_ret
  exact ⟨rfl, HB6.out⟩
end Go.Proofs.Ytibmblojannlcaa
