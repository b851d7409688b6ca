/- LayoutPages: the law's walk. -/
import Derived.Test.YtibmblojannlcaaYOpen
namespace Go.Proofs.Ytibmblojannlcaa
open Go.ChangeShapes Go.WideShapes Go.ChangeAt Go.RowKit Go.Maps
set_option linter.unusedVariables false
set_option linter.unusedSimpArgs false

theorem LI.sgA {U D : List So} {st : St} (h : LI U D st) (he : st.en ≤ 16777216) : ∀ s ∈ segsL st.outs, 0 ≤ s.ad ∧ 0 ≤ s.sz ∧ s.sz ≤ s.me ∧ s.ad + s.me ≤ 16777216 := by
  intro s hs
  unfold segsL at hs
  obtain ⟨k, hk, hs⟩ := List.mem_flatMap.1 hs
  unfold segK at hs
  split at hs
  · cases hs
  · rename_i hne
    simp only [List.mem_singleton] at hs
    subst hs
    have hA := h.flt (inK k) hne
    obtain ⟨o, ho, hoe⟩ := hA.eq
    have h2 := h.each o (List.mem_filter.1 ho).1
    have h3 := hA.sz
    have h4 := hA.ad
    have h6 := h.each _ (List.mem_filter.1 (hd_mem hne)).1
    unfold seg1
    dsimp only
    omega
structure TnB (t : Tn) : Prop where
  a : 0 ≤ t.a ∧ t.a ≤ 16777216
  s : 0 ≤ t.s ∧ t.s ≤ 16777216
  l : 0 ≤ t.l ∧ t.l ≤ 4096
  p : 0 ≤ t.p ∧ t.p ≤ 67108864
theorem tn_bd : ∀ (l : List Sg) (t : Tn), TnB t → SgB l → TnB (l.foldl tn1 t)
  | [], t, h, _ => h
  | x :: r, t, h, hb => by
    refine tn_bd r (tn1 t x) ?_ (fun s hs => hb s (by simp [hs]))
    unfold tn1
    split
    · rename_i h7
      obtain ⟨b0, b1, b2, b3, j, hj, hp⟩ := hb x (by simp) (by simpa using h7)
      have p1 := pow_pos2 j
      have p2 := pow_le12 j hj
      have hu := upA_all x.me x.al (by rw [hp]; exact p1)
      exact ⟨⟨b0, b1⟩, ⟨b2, b3⟩, ⟨by dsimp only; omega, by dsimp only; omega⟩, ⟨by dsimp only; omega, by dsimp only; omega⟩⟩
    · exact h
theorem pgs_head {T : Tn} {e : Int} {s : Sg} {r : List Sg} (h : pgsL T e (s :: r) = true) : ¬ s.sz < 0 ∧ ¬ s.me < s.sz ∧ (bits .and .i64 s.fl 3 == 3) = false ∧ ((s.ty = 7 ∧ s.ad = T.a ∧ s.me = T.s ∧ ¬ T.p < T.a + T.s ∧ ¬ T.l ≤ T.p - T.a - T.s ∧ T.a % T.l = 0 ∧ T.p % T.l = 0 ∧ pgsL T e r = true) ∨ (s.ty = 1 ∧ s.ad % 4096 = 0 ∧ ¬ s.ad < e ∧ pgsL T (s.ad + s.me) r = true)) := by
  unfold pgsL at h
  split at h
  · cases h
  · rename_i h1
    simp only [Bool.or_eq_true, decide_eq_true_eq, not_or, Bool.not_eq_true] at h1
    refine ⟨h1.1, h1.2.1, h1.2.2, ?_⟩
    split at h
    · rename_i h7
      split at h
      · cases h
      · rename_i h2
        simp only [Bool.or_eq_true, decide_eq_true_eq, not_or, Bool.not_eq_true, Bool.not_eq_false', beq_iff_eq] at h2
        exact .inl ⟨by simpa using h7, h2.1, h2.2.1, h2.2.2.1, h2.2.2.2.1, h2.2.2.2.2.1, h2.2.2.2.2.2, h⟩
    · split at h
      · cases h
      · rename_i h2
        simp only [Bool.or_eq_true, decide_eq_true_eq, not_or, Bool.not_eq_true, Bool.not_eq_false', beq_iff_eq] at h2
        exact .inr ⟨h2.1, h2.2.1, h2.2.2, h⟩
set_option maxHeartbeats 8000000 in
set_option maxRecDepth 20000 in
theorem layoutPages_walk (ao : Option Addr) (c : Nat) (l : List Fl) (w : World) (hl : (Fls w ao l ∧ FlsC l ∧ (ao = none → c = 0)) ∧ (∀ f ∈ l, RdF w f) ∧ DnB l) : Calls Try.prog 5 #[.slice ao l.length c] w fun e w' => e = .returned (.bool true) ∧ Below w.heap.size w w' := by
  obtain ⟨⟨hfl, hC, _⟩, hrd, hdn⟩ := hl
  have HFB : Hid _ := ⟨hC.b⟩
  have HDN : Hid _ := ⟨hdn⟩
  have HOW : Hid _ := ⟨own_any ao c l w (by have := hC.n; omega) hC.each hfl hrd⟩
  have HKN : Hid (∀ W, _) := ⟨fun W => knows_any W⟩
  have HNU : Hid (∀ n W, _) := ⟨fun n W => num_any n W⟩
  clear hfl hC hrd hdn
  go_enter Try.func5, Try.ntmps5
  go_upto_region 2 with (first
    | (go_at_call 7; refine HOW.out.mono ?_; rintro e w1 ⟨L, va, vc, rfl, hkf, hfl, hb1⟩; have HKF : Hid _ := ⟨hkf⟩; have HFL : Hid _ := ⟨hfl⟩; have HB1 : Hid _ := ⟨hb1⟩; clear hkf hfl hb1)
    | (go_at_call 8; refine (place_any va vc L w1 (kf_flsB HKF.out HFB.out) (kf_dnB HKF.out HDN.out) HFL.out).mono ?_; rintro e w2 ⟨hb2, ⟨hno, E, hE, rfl⟩ | ⟨st, k, sa, sc, hst, _, rfl, hon, hvn, hat, hou, hsg⟩⟩ <;> (try clear hon hvn)))
  · have HB2 : Hid (Below w.heap.size w w2) := ⟨HB1.out.trans (hb2.mono HB1.out.size)⟩
    have hEd : (E != 0) = true := by simp [hE]
    clear hb2 hno HOW
    have HB3 : Hid (∀ o, Below w.heap.size w (w2.alloc o)) := ⟨fun o => HB2.out.alloc HB2.out.size o⟩
    go_wp2_with (first
      | (go_at_call 12; refine (HNU.out _ _).mono ?_; rintro e w7 ⟨rfl, rfl⟩)
      | (go_at_call 13; refine (HKN.out _).mono ?_; rintro e w8 ⟨rfl, hb8⟩; have HB8 : Hid _ := ⟨hb8⟩; clear hb8))
    go_ret
    exact ⟨rfl, (HB3.out _).trans (HB8.out.mono (HB3.out _).size)⟩
  · have HB2 : Hid (Below w.heap.size w w2) := ⟨HB1.out.trans (hb2.mono HB1.out.size)⟩
    have HLI : Hid _ := ⟨layS_li hst (kf_dnB HKF.out HDN.out)⟩
    have HB3 : Hid (∀ o, Below w.heap.size w (w2.alloc o)) := ⟨fun o => HB2.out.alloc HB2.out.size o⟩
    clear hb2 hst HOW hat hou
    have HSG : Hid _ := ⟨hsg⟩
    clear hsg
    go_upto_region 6 with (first
      | (go_at_call 12; refine (HNU.out _ _).mono ?_; rintro e w7 ⟨rfl, rfl⟩)
      | (go_at_call 13; refine (HKN.out _).mono ?_; rintro e w8 ⟨rfl, hb8⟩; have HB8 : Hid _ := ⟨hb8⟩; clear hb8))
    have HM8 : Hid (Bk w8 w2.heap.size 28 (mapC k st.en sa (segsL st.outs).length sc (tnL (segsL st.outs)))) := ⟨(Bk.new w2 _ _).bel HB8.out (by simp)⟩
    have HS8 : Hid (OwnR 57 7 encG w8 _ (.slice sa (segsL st.outs).length sc) (segsL st.outs)) := ⟨own_bel (World.ownsRow.alloc HSG.out _) HB8.out⟩
    have HB9 : Hid (Below w.heap.size w w8) := ⟨(HB3.out _).trans (HB8.out.mono (HB3.out _).size)⟩
    have HPG : Hid (pgsL (tnL (segsL st.outs)) 1 (segsL st.outs) = true) := ⟨HLI.out.1.pages⟩
    have HTB : Hid (TnB (tnL (segsL st.outs))) := ⟨tn_bd _ _ ⟨by decide, by decide, by decide, by decide⟩ (HLI.out.1.sgB HLI.out.2.2)⟩
    have HSA : Hid _ := ⟨HLI.out.1.sgA HLI.out.2.2⟩
    clear HB8 HB3 HSG HLI
    generalize tnL (segsL st.outs) = T at *
    generalize segsL st.outs = ss at *
    obtain ⟨M, hM⟩ : ∃ M, w2.heap.size = M := ⟨_, rfl⟩
    rw [hM] at HM8 ⊢
    clear hM
    go_loopw [5, 6] (fun v5 v6 wr => ∃ (t : Nat) (en : Int), t ≤ ss.length ∧ v5 = .int .i64 en ∧ v6 = .int .i64 t ∧ Hid (pgsL T en (ss.drop t) = true ∧ Below w.heap.size w wr ∧ Bk wr M 28 (mapC k st.en sa ss.length sc T) ∧ OwnR 57 7 encG wr w1.heap.size (.slice sa ss.length sc) ss)) (fun _ i _ => ss.length - (intOf i).toNat)
    case atStart => exact ⟨0, 1, by omega, rfl, rfl, ⟨HPG.out, HB9.out, HM8.out, HS8.out⟩⟩
    case round =>
      obtain ⟨t, en, ht, rfl, rfl, HV⟩ := hrel
      have m2 := HV.out.2.2.1.cell 2 rfl
      by_cases hlt : t < ss.length
      · obtain ⟨_, _, hv2, _, _, _, hc⟩ := HV.out.2.2.2.any encG_len
        injection hv2 with e1 e2 e3
        subst e1 e3
        obtain ⟨g, rfl, _, _, hcell⟩ : ∃ g, sa = some ⟨g, 0, none⟩ ∧ w1.heap.size ≤ g ∧ g < wr.heap.size ∧ ∀ i (hi : i < ss.length), ∀ j, j < 7 → wr.cell? ⟨g, i * 7 + j, none⟩ = (encG ss[i])[j]? := by
          rcases hc with hc | hc
          · rw [hc] at hlt; simp at hlt
          · exact hc
        have c0 := hcell t hlt 0 (by decide)
        have c1 := hcell t hlt 1 (by decide)
        have c2 := hcell t hlt 2 (by decide)
        have c3 := hcell t hlt 3 (by decide)
        have c4 := hcell t hlt 4 (by decide)
        have c5 := hcell t hlt 5 (by decide)
        have c6 := hcell t hlt 6 (by decide)
        have HPS : Hid (pgsL T en (ss[t] :: ss.drop (t + 1)) = true) := ⟨by rw [← List.drop_eq_getElem_cons hlt]; exact HV.out.1⟩
        obtain ⟨a0, a1, a2, a3⟩ := HSA.out _ (List.getElem_mem hlt)
        clear hcell hc
        obtain ⟨x, hx⟩ : ∃ x, x = ss[t] := ⟨_, rfl⟩
        rw [← hx] at c0 c1 c2 c3 c4 c5 c6 HPS a0 a1 a2 a3
        clear hx
        obtain ⟨xty, xfl, xad, xof, xsz, xme, xal⟩ := x
        simp only [encG, List.getElem?_cons_zero, List.getElem?_cons_succ, Nat.add_zero] at c0 c1 c2 c3 c4 c5 c6
        dsimp only at a0 a1 a2 a3
        have HXB : Hid (Bk (wr.alloc (.cells #[.int .i64 xty, .int .i64 xfl, .int .i64 xad, .int .i64 xof, .int .i64 xsz, .int .i64 xme, .int .i64 xal] 57)) wr.heap.size 57 #[.int .i64 xty, .int .i64 xfl, .int .i64 xad, .int .i64 xof, .int .i64 xsz, .int .i64 xme, .int .i64 xal]) := ⟨Bk.new _ _ _⟩
        have HV2 : Hid (Below w.heap.size w (wr.alloc (.cells #[.int .i64 xty, .int .i64 xfl, .int .i64 xad, .int .i64 xof, .int .i64 xsz, .int .i64 xme, .int .i64 xal] 57)) ∧ Bk (wr.alloc (.cells #[.int .i64 xty, .int .i64 xfl, .int .i64 xad, .int .i64 xof, .int .i64 xsz, .int .i64 xme, .int .i64 xal] 57)) M 28 (mapC k st.en (some ⟨g, 0, none⟩) ss.length sc T) ∧ OwnR 57 7 encG (wr.alloc (.cells #[.int .i64 xty, .int .i64 xfl, .int .i64 xad, .int .i64 xof, .int .i64 xsz, .int .i64 xme, .int .i64 xal] 57)) w1.heap.size (.slice (some ⟨g, 0, none⟩) ss.length sc) ss) := ⟨HV.out.2.1.alloc HV.out.2.1.size _, HV.out.2.2.1.alloc _, World.ownsRow.alloc HV.out.2.2.2 _⟩
        go_upto_region 9 with (fail)
        clear HV m2 c0 c1 c2 c3 c4 c5 c6
        obtain ⟨X, hX⟩ : ∃ X, wr.heap.size = X := ⟨_, rfl⟩
        rw [hX] at HXB ⊢
        clear hX
        generalize wr.alloc (.cells #[.int .i64 xty, .int .i64 xfl, .int .i64 xad, .int .i64 xof, .int .i64 xsz, .int .i64 xme, .int .i64 xal] 57) = v1 at *
        obtain ⟨n1, n2, h3, hcase⟩ := pgs_head HPS.out
        dsimp only at n1 n2 h3 hcase
        have h1 : decide (xsz < 0) = false := decide_eq_false n1
        have h2 : decide (xme < xsz) = false := decide_eq_false n2
        have x0 : v1.cell? ⟨X, 0, none⟩ = some (.int .i64 xty) := HXB.out.cell 0 rfl
        have x1 : v1.cell? ⟨X, 1, none⟩ = some (.int .i64 xfl) := HXB.out.cell 1 rfl
        have x2 : v1.cell? ⟨X, 2, none⟩ = some (.int .i64 xad) := HXB.out.cell 2 rfl
        have x4 : v1.cell? ⟨X, 4, none⟩ = some (.int .i64 xsz) := HXB.out.cell 4 rfl
        have x5 : v1.cell? ⟨X, 5, none⟩ = some (.int .i64 xme) := HXB.out.cell 5 rfl
        have m3 : v1.cell? ⟨M, 3, none⟩ = some (.int .i64 T.a) := HV2.out.2.1.cell 3 rfl
        have m4 : v1.cell? ⟨M, 4, none⟩ = some (.int .i64 T.s) := HV2.out.2.1.cell 4 rfl
        have m5 : v1.cell? ⟨M, 5, none⟩ = some (.int .i64 T.l) := HV2.out.2.1.cell 5 rfl
        have m6 : v1.cell? ⟨M, 6, none⟩ = some (.int .i64 T.p) := HV2.out.2.1.cell 6 rfl
        have HM : Hid _ := ⟨HTB.out⟩
        rcases hcase with ⟨h7, ea, es, t1, t2, t3, t4, hrest⟩ | ⟨h7, t1, t2, hrest⟩
        · subst h7 ea es
          have d1 : decide (T.p < T.a + T.s) = false := decide_eq_false t1
          have d2 : decide (T.l ≤ T.p - T.a - T.s) = false := decide_eq_false t2
          have b1 := HTB.out.a
          have b2 := HTB.out.s
          have b3 := HTB.out.l
          have b4 := HTB.out.p
          have l0 : T.l ≠ 0 := by omega
          have r1 : T.a.tmod T.l = 0 := by rw [Int.tmod_eq_emod_of_nonneg b1.1]; exact t3
          have r2 : T.p.tmod T.l = 0 := by rw [Int.tmod_eq_emod_of_nonneg b4.1]; exact t4
          clear t1 t2 t3 t4
          go_wp2_with fail
          go_roundw
          case rel => first | exact ⟨t + 1, en, hlt, rfl, by go_num, ⟨hrest, HV2.out⟩⟩ | (trace_state; fail "x")
          case measure => simp [intOf]; omega
        · subst h7
          have d1 : decide (xad < en) = false := decide_eq_false t2
          have r1 : xad.tmod 4096 = 0 := by rw [Int.tmod_eq_emod_of_nonneg a0]; exact t1
          go_wp2_with fail
          go_roundw
          case rel => first | exact ⟨t + 1, (xad + xme), hlt, rfl, by go_num, ⟨hrest, HV2.out⟩⟩ | (trace_state; fail "x")
          case measure => simp [intOf]; omega
      · go_wp2
        go_ret
        exact ⟨rfl, HV.out.2.1⟩
end Go.Proofs.Ytibmblojannlcaa
