/- A row's bytes: the document's one. -/
import Derived.Test.YtbhdledlahbokaaWHead
import Derived.Deep.Cut
namespace Go.Proofs.Ytbhdledlahbokaa
open Go.ChangeShapes Go.WideShapes Go.ChangeAt Go.RowKit Go.Conc
set_option linter.unusedVariables false
set_option linter.unusedSimpArgs false

/-- Bytes, copied behind a row of the call's own; at least one. -/
theorem wp_app {o : Oper} {a : Act} {w : World} {K : Act → World → Prop} {Q : Exit → Act → World → Prop} {s x : Operand} (ho : o.op = .call { callee := .builtin .append, args := #[s, x], argTypes := #[30, 30] })
    {base : Nat} {v u : Value} {l m : List Int} (hs : a.eval s = v) (hx : a.eval x = u) (hown : Own w base v l) (hb : Bt w u m) (hm : 1 ≤ m.length) (hn : l.length + m.length ≤ 140737488355328) (hbase : base ≤ w.heap.size)
    (h : ∀ v' w', AE base w v w' v' (l ++ m) → K (a.put o.dst v') w') : o.wp Try.prog a w K Q := by
  obtain ⟨ao, c, rfl, hr, hnil⟩ := hb
  obtain ⟨i0, hi, hz0, hz1, hz2⟩ := info_parts info5
  cases ao with
  | none => have := (hnil rfl).1; omega
  | some ad =>
    obtain ⟨v', w', hrun, h2, h3, h4, h5⟩ := run_append_own_at (P := Try.prog) w base 30 o.type 5 i0 _ 1 1 Try.underlying30 hi hz0 hz1 hz2 rfl (by decide) v l.length _ hown ad m.length c (m.map (Value.int .u8)) (by simp) (by
      intro j u hj
      by_cases hjm : j < m.length
      · rcases hr with hr | ⟨b, off, e, hc⟩
        · omega
        · cases e
          rw [caddr_add, hc j hjm]
          simp [hjm] at hj
          simp [hjm, hj]
      · simp [hjm] at hj) (by
      intro u hu
      simp at hu
      obtain ⟨z, _, rfl⟩ := hu
      rfl) (by unfold maxLen; omega) (by omega) hbase
    unfold Oper.wp execOp
    simp only [ho, resolve, invoke, builtin, Sem.run_bind, Sem.run_pure, Result.andThen_ok, List.map_toArray, List.map_cons, List.map_nil, hs, hx, hrun]
    refine h v' w' ⟨?_, h3, ?_⟩
    · unfold Own
      simpa using h2
    · rcases h5 with e | e
      · exact .inl e
      · exact .inr fun k hk => by rw [e] at hk; simp at hk; omega
theorem build_c {o : Oper} {a : Act} (w : World) (x : Int) (ho : o.op = .buildSlice 30 1 #[(0, .const (.int .u8 x))]) :
    (execOp a.eval o).run Try.prog w = .ok (.value (.slice (some ⟨w.heap.size, 0, none⟩) 1 1)) (w.alloc (.cells #[.int .u8 x] 5)) := by
  unfold execOp
  simp only [ho]
  kernel_rfl
/-- What a callee has made is none of ours. -/
theorem own_apart {w w3 : World} {base b : Nat} {u v : Value} {xs ys : List Int} (h : Own w base u xs) (g : Own w3 b v ys) (hb : w.heap.size ≤ b) : u.ownBlock ≠ v.ownBlock ∨ u.ownBlock = none := by
  cases hu : u.ownBlock with
  | none => exact .inr rfl
  | some k =>
    left
    intro e
    have h1 := (h.lt k hu).2
    have h2 := (g.lt k e.symm).1
    omega
set_option maxRecDepth 40000 in
set_option maxHeartbeats 8000000 in
theorem rone_any (w : World) (s r : Lr) (hs : 0 ≤ s.at' ∧ s.at' ≤ r.at' ∧ r.at' ≤ 1048576) (hls : 0 ≤ s.li ∧ s.li ≤ 2147483647) (hlr : 0 ≤ r.li ∧ r.li ≤ 2147483647) :
    Calls Try.prog 25 #[rV r, rV s] w fun e w' => ∃ v', e = .returned v' ∧ Own w' w.heap.size v' (rowR s r) ∧ Below w.heap.size w w' := by
  obtain ⟨sa, sf, sl', sc⟩ := s
  obtain ⟨ra, rf, rl, rc⟩ := r
  dsimp only at hs hls hlr
  have HR : Hid (rowR ⟨sa, sf, sl', sc⟩ ⟨ra, rf, rl, rc⟩ = (if rf = sf then [] else 4 :: ulB rf) ++ ((if rc = sc then [] else 5 :: ulB rc) ++ tailR (ra - sa) (rl - sl'))) := ⟨rfl⟩
  generalize rowR ⟨sa, sf, sl', sc⟩ ⟨ra, rf, rl, rc⟩ = R at *
  have hbel : Below w.heap.size w ((w.alloc (.cells #[.int .i64 ra, .int .i64 rf, .int .i64 rl, .int .i64 rc] 50)).alloc (.cells #[.int .i64 sa, .int .i64 sf, .int .i64 sl', .int .i64 sc] 50)) := ((Below.refl _ w).alloc (Nat.le_refl _) _).alloc (by simp) _
  have K2 : Bk ((w.alloc (.cells #[.int .i64 ra, .int .i64 rf, .int .i64 rl, .int .i64 rc] 50)).alloc (.cells #[.int .i64 sa, .int .i64 sf, .int .i64 sl', .int .i64 sc] 50)) w.heap.size 50 #[.int .i64 ra, .int .i64 rf, .int .i64 rl, .int .i64 rc] := (Bk.new w _ _).bel ((Below.refl _ _).alloc (Nat.le_refl _) _) (by simp)
  have K3 : Bk ((w.alloc (.cells #[.int .i64 ra, .int .i64 rf, .int .i64 rl, .int .i64 rc] 50)).alloc (.cells #[.int .i64 sa, .int .i64 sf, .int .i64 sl', .int .i64 sc] 50)) (w.heap.size + 1) 50 #[.int .i64 sa, .int .i64 sf, .int .i64 sl', .int .i64 sc] := by
    have := Bk.new (w.alloc (.cells #[.int .i64 ra, .int .i64 rf, .int .i64 rl, .int .i64 rc] 50)) #[.int .i64 sa, .int .i64 sf, .int .i64 sl', .int .i64 sc] 50
    simpa using this
  have hO0 : Own ((w.alloc (.cells #[.int .i64 ra, .int .i64 rf, .int .i64 rl, .int .i64 rc] 50)).alloc (.cells #[.int .i64 sa, .int .i64 sf, .int .i64 sl', .int .i64 sc] 50)) w.heap.size (.slice none 0 0) [] := Own.nil _ _
  unfold rV
  go_enter Try.func25, Try.ntmps25
  go_upto_region 2 with (fail)
  generalize ((w.alloc (.cells #[.int .i64 ra, .int .i64 rf, .int .i64 rl, .int .i64 rc] 50)).alloc (.cells #[.int .i64 sa, .int .i64 sf, .int .i64 sl', .int .i64 sc] 50)) = V at *
  have HB : Hid _ := ⟨hbel⟩
  clear hbel
  generalize w.heap.size + 1 = B3 at *
  have HBs : Hid (w.heap.size ≤ V.heap.size) := ⟨HB.out.size⟩
  obtain ⟨base, hbase⟩ : ∃ B, w.heap.size = B := ⟨_, rfl⟩
  rw [hbase] at HB HBs hO0 K2 ⊢
  have HBase : Hid _ := ⟨hbase⟩
  obtain ⟨B2, hB2⟩ : ∃ B, base = B := ⟨_, rfl⟩
  rw [show (⟨base, 0, none⟩ : Addr) = ⟨B2, 0, none⟩ by rw [hB2]]
  rw [hB2] at K2
  clear hB2 hbase
  have HA0 : Hid (AE base V (.slice none 0 0) V (.slice none 0 0) []) := ⟨AE.refl hO0⟩
  have HK20 : Hid _ := ⟨K2⟩
  have HK30 : Hid _ := ⟨K3⟩
  have d0 := K2.cell 0 rfl; have d1 := K2.cell 1 rfl; have d2 := K2.cell 2 rfl; have d3 := K2.cell 3 rfl
  have g0 := K3.cell 0 rfl; have g1 := K3.cell 1 rfl; have g2 := K3.cell 2 rfl; have g3 := K3.cell 3 rfl
  clear K2 K3
  have HO : Hid _ := ⟨hO0⟩
  clear hO0
  go_upto_if 12 with (fail)
  go_cut [5] from 8 to 19 (fun s5 wx => Hid (AE base V (.slice none 0 0) wx s5 (if rf = sf then [] else 4 :: ulB rf)))
  case first =>
    by_cases hf : rf = sf
    · subst hf
      go_wp2
      go_meet
      exact ⟨by simpa using HA0.out⟩
    · go_upto_region 3 with (fail)
      have HXl : Hid ((([] : List Int)).length ≤ 100) := ⟨by simp⟩
      have HUl : Hid _ := ⟨ulB_len rf⟩
      have HCd : Hid (AE base V (.slice none 0 0) V.drew (.slice none 0 0) ([] : List Int)) := ⟨HA0.out.post (Below.refl _ _).drew⟩
      have HKd : Hid (Bk V.drew B2 50 #[.int .i64 ra, .int .i64 rf, .int .i64 rl, .int .i64 rc]) := ⟨HK20.out.of rfl⟩
      refine wp_region_held_drew (S := fun u => Bk u B2 50 #[.int .i64 ra, .int .i64 rf, .int .i64 rl, .int .i64 rc]) (by kernel_rfl) HKd.out (fun hS => ?_)
      generalize V.drew = W at *
      refine wpAnyH_take (i := 0) (v := (.slice none 0 0)) rfl (by kernel_rfl) (by kernel_rfl) (by kernel_rfl) (fun _ _ _ h => h) (Or.inl ⟨by kernel_rfl, fun u hu => by kernel_rfl⟩) hS ?_
      simp only [Act.put, List.getElem_toArray, List.getElem_cons_succ, List.getElem_cons_zero, List.setIfInBounds_toArray, List.set_cons_zero, List.set_cons_succ]
      refine wpAnyH_take (i := 3) (v := .pointer (some ⟨B2, 1, none⟩)) rfl (by kernel_rfl) (by kernel_rfl) (by kernel_rfl) (fun _ _ _ h => h) (Or.inl ⟨by kernel_rfl, fun u hu => by kernel_rfl⟩) hS ?_
      simp only [Act.put, List.getElem_toArray, List.getElem_cons_succ, List.getElem_cons_zero, List.setIfInBounds_toArray, List.set_cons_zero, List.set_cons_succ]
      refine wpAnyH_take (i := 4) (v := .int .i64 rf) rfl (by kernel_rfl) (by kernel_rfl) (by kernel_rfl) (fun _ _ _ h => h) (Or.inl ⟨by kernel_rfl, fun u hu => exec_loadV (t := 3) (p := ⟨B2, 1, none⟩) rfl (by kernel_rfl) (load_i64 (hu.cell 1 rfl))⟩) hS ?_
      simp only [Act.put, List.getElem_toArray, List.getElem_cons_succ, List.getElem_cons_zero, List.setIfInBounds_toArray, List.set_cons_zero, List.set_cons_succ]
      refine wpAnyH_ready (rs := [1]) (by kernel_rfl) (by simp) ?_
      refine AllReadyH.cons rfl (fun K hK => ?_) AllReadyH.nil
      simp only [List.getElem_toArray, List.getElem_cons_succ, List.getElem_cons_zero]
      refine wp_if (by kernel_rfl) ?_
      refine wp_val (v := .slice (some ⟨W.heap.size, 0, none⟩) 1 1) (w' := W.alloc (.cells #[.int .u8 4] 5)) (build_c W 4 rfl) ?_
      have J1 : Hid (AE base V (.slice none 0 0) (W.alloc (.cells #[.int .u8 4] 5)) (.slice none 0 0) ([] : List Int) ∧ Bt (W.alloc (.cells #[.int .u8 4] 5)) (.slice (some ⟨W.heap.size, 0, none⟩) 1 1) [4] ∧ Bk (W.alloc (.cells #[.int .u8 4] 5)) B2 50 #[.int .i64 ra, .int .i64 rf, .int .i64 rl, .int .i64 rc]) := ⟨HCd.out.post ((Below.refl _ _).alloc (Nat.le_refl _) _), bt_lit _ _, (HKd.out).bel ((Below.refl _ _).alloc (Nat.le_refl _) _) (HKd.out).lt⟩
      refine hK.out _ _ J1.out.2.2 (fun hS => ?_)
      clear hK
      simp only [Act.put, List.getElem_toArray, List.getElem_cons_succ, List.getElem_cons_zero, List.setIfInBounds_toArray, List.set_cons_zero, List.set_cons_succ]
      refine wpAnyH_ready (rs := [2]) (by kernel_rfl) (by simp) ?_
      refine AllReadyH.cons rfl (fun K hK => ?_) AllReadyH.nil
      simp only [List.getElem_toArray, List.getElem_cons_succ, List.getElem_cons_zero]
      refine wp_if (by kernel_rfl) ?_
      refine wp_app rfl (by kernel_rfl) (by kernel_rfl) (l := ([] : List Int)) (m := [4]) J1.out.1.own J1.out.2.1 (by decide) (by have := HXl.out; simp <;> omega) (Nat.le_trans HBs.out J1.out.1.gr.size) ?_
      intro v2 w2 hA2
      have J2 : Hid (AE base V (.slice none 0 0) w2 v2 (([] : List Int) ++ [4]) ∧ Bk w2 B2 50 #[.int .i64 ra, .int .i64 rf, .int .i64 rl, .int .i64 rc]) := ⟨J1.out.1.trans hA2, hA2.keep J1.out.1.own J1.out.2.2 (by decide)⟩
      refine hK.out _ _ J2.out.2 (fun hS => ?_)
      clear hK
      simp only [Act.put, List.getElem_toArray, List.getElem_cons_succ, List.getElem_cons_zero, List.setIfInBounds_toArray, List.set_cons_zero, List.set_cons_succ]
      refine wpAnyH_ready (rs := [5]) (by kernel_rfl) (by simp) ?_
      refine AllReadyH.cons rfl (fun K hK => ?_) AllReadyH.nil
      simp only [List.getElem_toArray, List.getElem_cons_succ, List.getElem_cons_zero]
      refine wp_if (by kernel_rfl) ?_
      refine wp_enter (f := 26) (args := #[.int .i64 rf]) (by kernel_rfl) (ruleb_any rf w2) ?_
      rintro e w3 ⟨v3, rfl, ho3, hb3⟩
      refine ⟨_, rfl, ?_⟩
      have J3 : Hid (AE base V (.slice none 0 0) w3 v2 (([] : List Int) ++ [4]) ∧ Bt w3 v3 (ulB rf) ∧ Bk w3 B2 50 #[.int .i64 ra, .int .i64 rf, .int .i64 rl, .int .i64 rc]) := ⟨J2.out.1.post hb3, Own.bt (xs := ulB rf) ho3, J2.out.2.bel hb3 J2.out.2.lt⟩
      refine hK.out _ _ J3.out.2.2 (fun hS => ?_)
      clear hK
      simp only [Act.put, List.getElem_toArray, List.getElem_cons_succ, List.getElem_cons_zero, List.setIfInBounds_toArray, List.set_cons_zero, List.set_cons_succ]
      refine wpAnyH_ready (rs := [6]) (by kernel_rfl) (by simp) ?_
      refine AllReadyH.cons rfl (fun K hK => ?_) AllReadyH.nil
      simp only [List.getElem_toArray, List.getElem_cons_succ, List.getElem_cons_zero]
      refine wp_if (by kernel_rfl) ?_
      refine wp_app rfl (by kernel_rfl) (by kernel_rfl) (l := ([] : List Int) ++ [4]) (m := ulB rf) J3.out.1.own J3.out.2.1 (ul_len_pos _) (by have := HXl.out; have := HUl.out; simp; omega) (Nat.le_trans HBs.out J3.out.1.gr.size) ?_
      intro v4 w4 hA4
      have J4 : Hid (AE base V (.slice none 0 0) w4 v4 (([] : List Int) ++ [4] ++ ulB rf) ∧ Bk w4 B2 50 #[.int .i64 ra, .int .i64 rf, .int .i64 rl, .int .i64 rc]) := ⟨J3.out.1.trans hA4, hA4.keep J3.out.1.own J3.out.2.2 (by decide)⟩
      refine hK.out _ _ J4.out.2 (fun hS => ?_)
      clear hK
      simp only [Act.put, List.getElem_toArray, List.getElem_cons_succ, List.getElem_cons_zero, List.setIfInBounds_toArray, List.set_cons_zero, List.set_cons_succ]
      refine wpAnyH_take (i := 7) (v := v4) rfl (by kernel_rfl) (by kernel_rfl) (by kernel_rfl) (fun _ _ _ h => h) (Or.inl ⟨by kernel_rfl, fun u hu => by kernel_rfl⟩) hS ?_
      simp only [Act.put, List.getElem_toArray, List.getElem_cons_succ, List.getElem_cons_zero, List.setIfInBounds_toArray, List.set_cons_zero, List.set_cons_succ]
      refine wpAnyH_done (by kernel_rfl) ?_ _
      clear hS
      go_wp2_with fail
      go_meet
      exact ⟨by rw [if_neg hf]; exact J4.out.1.to (by simp)⟩
  case rest =>
  clear d0 d1 d2 d3 g0 g1 g2 g3 HA0
  have K2 := hcut.out.keep HO.out HK20.out (by decide)
  have K3 := hcut.out.keep HO.out HK30.out (by decide)
  have HK2c : Hid _ := ⟨K2⟩
  have d0 := K2.cell 0 rfl; have d1 := K2.cell 1 rfl; have d2 := K2.cell 2 rfl; have d3 := K2.cell 3 rfl
  have g0 := K3.cell 0 rfl; have g1 := K3.cell 1 rfl; have g2 := K3.cell 2 rfl; have g3 := K3.cell 3 rfl
  clear K2 K3
  have HL1 : Hid ((if rf = sf then [] else 4 :: ulB rf).length ≤ 11) := ⟨by have := ulB_len rf; split <;> simp; omega⟩
  generalize (if rf = sf then [] else 4 :: ulB rf) = A1 at *
  have HA1 := hcut
  clear hcut
  go_upto_if 24 with (fail)
  go_cut [5] from 20 to 31 (fun s5 wx => Hid (AE base V (.slice none 0 0) wx s5 (A1 ++ (if rc = sc then [] else 5 :: ulB rc))))
  case first =>
    by_cases hf : rc = sc
    · subst hf
      go_wp2
      go_meet
      exact ⟨by simpa using HA1.out⟩
    · go_upto_region 5 with (fail)
      have HXl : Hid ((A1).length ≤ 100) := ⟨by have := HL1.out; omega⟩
      have HUl : Hid _ := ⟨ulB_len rc⟩
      have HCd : Hid (AE base V (.slice none 0 0) wc.drew u5 A1) := ⟨HA1.out.post (Below.refl _ _).drew⟩
      have HKd : Hid (Bk wc.drew B2 50 #[.int .i64 ra, .int .i64 rf, .int .i64 rl, .int .i64 rc]) := ⟨HK2c.out.of rfl⟩
      refine wp_region_held_drew (S := fun u => Bk u B2 50 #[.int .i64 ra, .int .i64 rf, .int .i64 rl, .int .i64 rc]) (by kernel_rfl) HKd.out (fun hS => ?_)
      generalize wc.drew = W at *
      refine wpAnyH_take (i := 0) (v := u5) rfl (by kernel_rfl) (by kernel_rfl) (by kernel_rfl) (fun _ _ _ h => h) (Or.inl ⟨by kernel_rfl, fun u hu => by kernel_rfl⟩) hS ?_
      simp only [Act.put, List.getElem_toArray, List.getElem_cons_succ, List.getElem_cons_zero, List.setIfInBounds_toArray, List.set_cons_zero, List.set_cons_succ]
      refine wpAnyH_take (i := 3) (v := .pointer (some ⟨B2, 3, none⟩)) rfl (by kernel_rfl) (by kernel_rfl) (by kernel_rfl) (fun _ _ _ h => h) (Or.inl ⟨by kernel_rfl, fun u hu => by kernel_rfl⟩) hS ?_
      simp only [Act.put, List.getElem_toArray, List.getElem_cons_succ, List.getElem_cons_zero, List.setIfInBounds_toArray, List.set_cons_zero, List.set_cons_succ]
      refine wpAnyH_take (i := 4) (v := .int .i64 rc) rfl (by kernel_rfl) (by kernel_rfl) (by kernel_rfl) (fun _ _ _ h => h) (Or.inl ⟨by kernel_rfl, fun u hu => exec_loadV (t := 3) (p := ⟨B2, 3, none⟩) rfl (by kernel_rfl) (load_i64 (hu.cell 3 rfl))⟩) hS ?_
      simp only [Act.put, List.getElem_toArray, List.getElem_cons_succ, List.getElem_cons_zero, List.setIfInBounds_toArray, List.set_cons_zero, List.set_cons_succ]
      refine wpAnyH_ready (rs := [1]) (by kernel_rfl) (by simp) ?_
      refine AllReadyH.cons rfl (fun K hK => ?_) AllReadyH.nil
      simp only [List.getElem_toArray, List.getElem_cons_succ, List.getElem_cons_zero]
      refine wp_if (by kernel_rfl) ?_
      refine wp_val (v := .slice (some ⟨W.heap.size, 0, none⟩) 1 1) (w' := W.alloc (.cells #[.int .u8 5] 5)) (build_c W 5 rfl) ?_
      have J1 : Hid (AE base V (.slice none 0 0) (W.alloc (.cells #[.int .u8 5] 5)) u5 A1 ∧ Bt (W.alloc (.cells #[.int .u8 5] 5)) (.slice (some ⟨W.heap.size, 0, none⟩) 1 1) [5] ∧ Bk (W.alloc (.cells #[.int .u8 5] 5)) B2 50 #[.int .i64 ra, .int .i64 rf, .int .i64 rl, .int .i64 rc]) := ⟨HCd.out.post ((Below.refl _ _).alloc (Nat.le_refl _) _), bt_lit _ _, (HKd.out).bel ((Below.refl _ _).alloc (Nat.le_refl _) _) (HKd.out).lt⟩
      refine hK.out _ _ J1.out.2.2 (fun hS => ?_)
      clear hK
      simp only [Act.put, List.getElem_toArray, List.getElem_cons_succ, List.getElem_cons_zero, List.setIfInBounds_toArray, List.set_cons_zero, List.set_cons_succ]
      refine wpAnyH_ready (rs := [2]) (by kernel_rfl) (by simp) ?_
      refine AllReadyH.cons rfl (fun K hK => ?_) AllReadyH.nil
      simp only [List.getElem_toArray, List.getElem_cons_succ, List.getElem_cons_zero]
      refine wp_if (by kernel_rfl) ?_
      refine wp_app rfl (by kernel_rfl) (by kernel_rfl) (l := A1) (m := [5]) J1.out.1.own J1.out.2.1 (by decide) (by have := HXl.out; simp <;> omega) (Nat.le_trans HBs.out J1.out.1.gr.size) ?_
      intro v2 w2 hA2
      have J2 : Hid (AE base V (.slice none 0 0) w2 v2 (A1 ++ [5]) ∧ Bk w2 B2 50 #[.int .i64 ra, .int .i64 rf, .int .i64 rl, .int .i64 rc]) := ⟨J1.out.1.trans hA2, hA2.keep J1.out.1.own J1.out.2.2 (by decide)⟩
      refine hK.out _ _ J2.out.2 (fun hS => ?_)
      clear hK
      simp only [Act.put, List.getElem_toArray, List.getElem_cons_succ, List.getElem_cons_zero, List.setIfInBounds_toArray, List.set_cons_zero, List.set_cons_succ]
      refine wpAnyH_ready (rs := [5]) (by kernel_rfl) (by simp) ?_
      refine AllReadyH.cons rfl (fun K hK => ?_) AllReadyH.nil
      simp only [List.getElem_toArray, List.getElem_cons_succ, List.getElem_cons_zero]
      refine wp_if (by kernel_rfl) ?_
      refine wp_enter (f := 26) (args := #[.int .i64 rc]) (by kernel_rfl) (ruleb_any rc w2) ?_
      rintro e w3 ⟨v3, rfl, ho3, hb3⟩
      refine ⟨_, rfl, ?_⟩
      have J3 : Hid (AE base V (.slice none 0 0) w3 v2 (A1 ++ [5]) ∧ Bt w3 v3 (ulB rc) ∧ Bk w3 B2 50 #[.int .i64 ra, .int .i64 rf, .int .i64 rl, .int .i64 rc]) := ⟨J2.out.1.post hb3, Own.bt (xs := ulB rc) ho3, J2.out.2.bel hb3 J2.out.2.lt⟩
      refine hK.out _ _ J3.out.2.2 (fun hS => ?_)
      clear hK
      simp only [Act.put, List.getElem_toArray, List.getElem_cons_succ, List.getElem_cons_zero, List.setIfInBounds_toArray, List.set_cons_zero, List.set_cons_succ]
      refine wpAnyH_ready (rs := [6]) (by kernel_rfl) (by simp) ?_
      refine AllReadyH.cons rfl (fun K hK => ?_) AllReadyH.nil
      simp only [List.getElem_toArray, List.getElem_cons_succ, List.getElem_cons_zero]
      refine wp_if (by kernel_rfl) ?_
      refine wp_app rfl (by kernel_rfl) (by kernel_rfl) (l := A1 ++ [5]) (m := ulB rc) J3.out.1.own J3.out.2.1 (ul_len_pos _) (by have := HXl.out; have := HUl.out; simp; omega) (Nat.le_trans HBs.out J3.out.1.gr.size) ?_
      intro v4 w4 hA4
      have J4 : Hid (AE base V (.slice none 0 0) w4 v4 (A1 ++ [5] ++ ulB rc) ∧ Bk w4 B2 50 #[.int .i64 ra, .int .i64 rf, .int .i64 rl, .int .i64 rc]) := ⟨J3.out.1.trans hA4, hA4.keep J3.out.1.own J3.out.2.2 (by decide)⟩
      refine hK.out _ _ J4.out.2 (fun hS => ?_)
      clear hK
      simp only [Act.put, List.getElem_toArray, List.getElem_cons_succ, List.getElem_cons_zero, List.setIfInBounds_toArray, List.set_cons_zero, List.set_cons_succ]
      refine wpAnyH_take (i := 7) (v := v4) rfl (by kernel_rfl) (by kernel_rfl) (by kernel_rfl) (fun _ _ _ h => h) (Or.inl ⟨by kernel_rfl, fun u hu => by kernel_rfl⟩) hS ?_
      simp only [Act.put, List.getElem_toArray, List.getElem_cons_succ, List.getElem_cons_zero, List.setIfInBounds_toArray, List.set_cons_zero, List.set_cons_succ]
      refine wpAnyH_done (by kernel_rfl) ?_ _
      clear hS
      go_wp2_with fail
      go_meet
      exact ⟨by rw [if_neg hf]; exact J4.out.1.to (by simp)⟩
  case rest =>
  clear d0 d1 d2 d3 g0 g1 g2 g3 HA1 HK2c
  have K2 := hcut.out.keep HO.out HK20.out (by decide)
  have K3 := hcut.out.keep HO.out HK30.out (by decide)
  have d0 := K2.cell 0 rfl; have d1 := K2.cell 1 rfl; have d2 := K2.cell 2 rfl; have d3 := K2.cell 3 rfl
  have g0 := K3.cell 0 rfl; have g1 := K3.cell 1 rfl; have g2 := K3.cell 2 rfl; have g3 := K3.cell 3 rfl
  clear K2 K3
  have HL2 : Hid ((if rc = sc then [] else 5 :: ulB rc).length ≤ 11) := ⟨by have := ulB_len rc; split <;> simp; omega⟩
  generalize (if rc = sc then [] else 5 :: ulB rc) = A2 at *
  have HA2 := hcut
  clear hcut
  obtain ⟨a, ha⟩ : ∃ a, wrap64 (ra - sa) = a := ⟨_, rfl⟩
  obtain ⟨l, hl⟩ : ∃ l, wrap64 (rl - sl') = l := ⟨_, rfl⟩
  have ha' : ra - sa = a := by rw [← ha]; unfold wrap64; omega
  have hl' : rl - sl' = l := by rw [← hl]; unfold wrap64; omega
  have haB : 0 ≤ a ∧ a ≤ 1048576 := by omega
  have hlB : -2147483647 ≤ l ∧ l ≤ 2147483647 := by omega
  rw [ha', hl'] at HR
  clear hs hls hlr ha' hl'
  go_upto_region 8 with (fail)
  clear d0 d1 d2 d3 g0 g1 g2 g3
  rw [ha, hl]
  clear ha hl
  go_cut [47] from 42 to 47 (fun s47 wx => s47 = .bool (!(inB l (-5) 8)) ∧ wx = wc)
  case first =>
    by_cases h1 : l < -5
    · have hb : inB l (-5) 8 = false := inB_no (Or.inl h1)
      go_wp2
      go_meet
      exact ⟨by rw [hb]; rfl, rfl⟩
    · by_cases h2 : 8 < l
      · have hb : inB l (-5) 8 = false := inB_no (Or.inr h2)
        go_wp2
        go_meet
        exact ⟨by rw [hb]; rfl, rfl⟩
      · have hb : inB l (-5) 8 = true := inB_yes h1 h2
        go_wp2
        go_meet
        exact ⟨by rw [hb]; rfl, rfl⟩
  case rest =>
  obtain ⟨hs47, hwc⟩ := hcut
  subst hs47
  subst hwc
  have HLs : Hid ((sl l).length ≤ 10) := ⟨sl_len10 l (by omega)⟩
  have HSl : Hid (∀ W, Calls Try.prog 44 #[.int .i64 l] W fun e w' => ∃ v, e = .returned v ∧ Own w' W.heap.size v (sl l) ∧ Below W.heap.size W w') := ⟨fun W => rsleb_any l W (by omega)⟩
  obtain ⟨l2, hl2⟩ : ∃ l2, (if inB l (-5) 8 then l else 0) = l2 := ⟨_, rfl⟩
  obtain ⟨A3, hA3⟩ : ∃ A3, (if inB l (-5) 8 then [] else 3 :: sl l) = A3 := ⟨_, rfl⟩
  have hl2B : -5 ≤ l2 ∧ l2 ≤ 8 := by
    rw [← hl2]; cases h : inB l (-5) 8
    · simp
    · have := inB_of h; simpa using this
  have HT : Hid (tailR a l = A3 ++ advR a l2) := ⟨by
    rw [← hl2, ← hA3]; unfold tailR; cases inB l (-5) 8 <;> simp⟩
  rw [HT.out] at HR
  clear HT
  have HL3 : Hid (A3.length ≤ 11) := ⟨by rw [← hA3]; have := HLs.out; split <;> simp; omega⟩
  have tk : True := trivial
  generalize inB l (-5) 8 = ib at *
  go_upto_if 47 with (fail)
  go_cut [5, 7] from 48 to 53 (fun s5 s7 wx => s7 = .int .i64 l2 ∧ Hid (AE base V (.slice none 0 0) wx s5 (A1 ++ A2 ++ A3)))
  case first =>
    cases ib
    · simp only [Bool.false_eq_true, if_false] at hl2 hA3
      subst hl2 hA3
      go_wp2_with (first
        | (at_builtin; have _t := tk; refine append_bk (wc.alloc (.cells #[.int .u8 3] 5)) rfl _ _ rfl base u5 (A1 ++ A2) rfl (HA2.out.own.bel ((Below.refl _ _).alloc (Nat.le_refl _) _)) _ [3] rfl (bt_lit wc 3) (by have := HL1.out; have := HL2.out; simp <;> omega) (by have := HBs.out; have := HA2.out.gr.size; simp; omega) ?_; intro v3 w3 hA; clear tk _t; have H3 : Hid (AE base V (.slice none 0 0) w3 v3 (A1 ++ A2 ++ [3])) := ⟨HA2.out.trans (AE.byte hA)⟩; clear hA)
        | (go_at_call 44; (with_reducible refine (HSl.out _).mono ?_); rintro e w5 ⟨v5, he, ho5, hb5⟩; subst he; have H5 : Hid _ := ⟨ho5⟩; have HB5 : Hid _ := ⟨hb5⟩; clear ho5 hb5)
        | (at_builtin; refine append_bk w5 rfl _ _ rfl base v3 (A1 ++ A2 ++ [3]) rfl (H3.out.own.bel HB5.out) _ (sl l) rfl H5.out.bt (by have := HL1.out; have := HL2.out; have := HLs.out; simp; omega) (by have := HBs.out; have := H3.out.gr.size; have := HB5.out.size; omega) ?_; intro v6 w6 hA6; have H6 : Hid (AE base V (.slice none 0 0) w6 v6 (A1 ++ A2 ++ [3] ++ sl l)) := ⟨H3.out.trans (AE.pre HB5.out hA6)⟩; clear hA6))
      go_meet
      exact ⟨rfl, ⟨H6.out.to (by simp)⟩⟩
    · simp only [if_true] at hl2 hA3
      subst hl2 hA3
      go_wp2
      go_meet
      exact ⟨rfl, ⟨by simpa using HA2.out⟩⟩
  case rest =>
  obtain ⟨hs7, HA4⟩ := hcut
  subst hs7
  clear HA2 hl2 hA3 HSl HLs hlB
  have HUa : Hid ((ulB a).length ≤ 10) := ⟨ulB_len a⟩
  have hw17 : wrap64 (a - 17) = a - 17 := by unfold wrap64; omega
  have hy : wrap64 (wrap64 (wrap64 (l2 + 5) + wrap64 (14 * a)) + 13) = spec a l2 := by unfold wrap64 spec; omega
  have hx : wrap64 (wrap64 (wrap64 (l2 + 5) + wrap64 (14 * (a - 17))) + 13) = spec (a - 17) l2 := by unfold wrap64 spec; omega
  have hy2 : wrap64 (wrap64 (l2 + 5 + wrap64 (14 * a)) + 13) = spec a l2 := by unfold wrap64 spec; omega
  have hx2 : wrap64 (wrap64 (l2 + 5 + wrap64 (14 * (a - 17))) + 13) = spec (a - 17) l2 := by unfold wrap64 spec; omega
  have hz : wrap64 (wrap64 (l2 + 5) + 13) = spec 0 l2 := by unfold wrap64 spec; omega
  have HU : Hid (∀ W, Calls Try.prog 26 #[.int .i64 a] W fun e w' => ∃ v, e = .returned v ∧ Own w' W.heap.size v (ulB a) ∧ Below W.heap.size W w') := ⟨fun W => ruleb_any a W⟩
  by_cases p1 : spec a l2 ≤ 255
  · have HD : Hid (advR a l2 = [spec a l2]) := ⟨by unfold advR; rw [if_pos p1]⟩
    have hz0 : 0 ≤ spec a l2 := by unfold spec; omega
    clear hx hx2 hz hw17
    generalize spec a l2 = y at *
    have hz' : y % 256 = y := by omega
    clear hl2B haB
    go_wp2_with (at_builtin; refine append_bk (wc.alloc (.cells #[.int .u8 y] 5)) rfl _ _ rfl base u5 (A1 ++ A2 ++ A3) rfl (HA4.out.own.bel ((Below.refl _ _).alloc (Nat.le_refl _) _)) _ [y] rfl (bt_lit wc y) (by have := HL1.out; have := HL2.out; have := HL3.out; have := HUa.out; simp <;> omega) (by have := HBs.out; have := HA4.out.gr.size; simp; omega) ?_; intro v8 w8 hA; have H8 : Hid (AE base V (.slice none 0 0) w8 v8 (A1 ++ A2 ++ A3 ++ [y])) := ⟨HA4.out.trans (AE.byte hA)⟩; clear hA)
    go_ret
    exact ⟨_, rfl, by rw [HBase.out, HR.out, HD.out]; exact (H8.out.to (by simp)).own, by rw [HBase.out]; exact HB.out.trans (H8.out.bel HO.out HBs.out)⟩
  by_cases p2 : 17 ≤ a ∧ spec (a - 17) l2 ≤ 255
  · have HD : Hid (advR a l2 = [8, spec (a - 17) l2]) := ⟨by unfold advR; rw [if_neg p1, if_pos p2]⟩
    have hz0 : 0 ≤ spec (a - 17) l2 := by unfold spec; omega
    obtain ⟨p2a, p2b⟩ := p2
    clear hz
    generalize spec a l2 = y at *
    generalize spec (a - 17) l2 = z at *
    have hz' : z % 256 = z := by omega
    clear hl2B haB
    go_wp2_with (first
      | (at_builtin; have _t := tk; refine append_bk (wc.alloc (.cells #[.int .u8 8] 5)) rfl _ _ rfl base u5 (A1 ++ A2 ++ A3) rfl (HA4.out.own.bel ((Below.refl _ _).alloc (Nat.le_refl _) _)) _ [8] rfl (bt_lit wc 8) (by have := HL1.out; have := HL2.out; have := HL3.out; have := HUa.out; simp <;> omega) (by have := HBs.out; have := HA4.out.gr.size; simp; omega) ?_; intro v7 w7 hA; clear tk _t; have H7 : Hid (AE base V (.slice none 0 0) w7 v7 (A1 ++ A2 ++ A3 ++ [8])) := ⟨HA4.out.trans (AE.byte hA)⟩; clear hA)
      | (at_builtin; refine append_bk (w7.alloc (.cells #[.int .u8 z] 5)) rfl _ _ rfl base v7 (A1 ++ A2 ++ A3 ++ [8]) rfl (H7.out.own.bel ((Below.refl _ _).alloc (Nat.le_refl _) _)) _ [z] rfl (bt_lit w7 z) (by have := HL1.out; have := HL2.out; have := HL3.out; have := HUa.out; simp <;> omega) (by have := HBs.out; have := H7.out.gr.size; simp; omega) ?_; intro v8 w8 hA; have H8 : Hid (AE base V (.slice none 0 0) w8 v8 (A1 ++ A2 ++ A3 ++ [8] ++ [z])) := ⟨H7.out.trans (AE.byte hA)⟩; clear hA))
    go_ret
    exact ⟨_, rfl, by rw [HBase.out, HR.out, HD.out]; exact (H8.out.to (by simp)).own, by rw [HBase.out]; exact HB.out.trans (H8.out.bel HO.out HBs.out)⟩
  · have HD : Hid (advR a l2 = 2 :: (ulB a ++ [spec 0 l2])) := ⟨by unfold advR; rw [if_neg p1, if_neg p2]⟩
    have hz0 : 0 ≤ spec 0 l2 ∧ spec 0 l2 ≤ 255 := by unfold spec; omega
    have hs1 : wrap64 (l2 + 5) = l2 + 5 := by unfold wrap64; omega
    have hs2 : wrap64 (l2 + 5 + 13) = spec 0 l2 := by unfold wrap64 spec; omega
    have tk2 : True := trivial
    by_cases p3 : 17 ≤ a
    · have p4 : ¬ spec (a - 17) l2 ≤ 255 := fun h => p2 ⟨p3, h⟩
      generalize spec a l2 = y at *
      generalize spec (a - 17) l2 = x at *
      generalize spec 0 l2 = z at *
      have hz' : z % 256 = z := by omega
      clear hl2B haB p2
      go_wp2_with (first
        | (at_builtin; have _t := tk; refine append_bk (wc.alloc (.cells #[.int .u8 2] 5)) rfl _ _ rfl base u5 (A1 ++ A2 ++ A3) rfl (HA4.out.own.bel ((Below.refl _ _).alloc (Nat.le_refl _) _)) _ [2] rfl (bt_lit wc 2) (by have := HL1.out; have := HL2.out; have := HL3.out; have := HUa.out; simp <;> omega) (by have := HBs.out; have := HA4.out.gr.size; simp; omega) ?_; intro v6 w6 hA; clear tk _t; have H6 : Hid (AE base V (.slice none 0 0) w6 v6 (A1 ++ A2 ++ A3 ++ [2])) := ⟨HA4.out.trans (AE.byte hA)⟩; clear hA)
        | (go_at_call 26; (with_reducible refine (HU.out _).mono ?_); rintro e w5 ⟨v5, he, ho5, hb5⟩; subst he; have H5 : Hid _ := ⟨ho5⟩; have HB5 : Hid _ := ⟨hb5⟩; clear ho5 hb5)
        | (at_builtin; have _t := tk2; refine append_bk w5 rfl _ _ rfl base v6 (A1 ++ A2 ++ A3 ++ [2]) rfl (H6.out.own.bel HB5.out) _ (ulB a) rfl H5.out.bt (by have := HL1.out; have := HL2.out; have := HL3.out; have := HUa.out; simp <;> omega) (by have := HBs.out; have := H6.out.gr.size; have := HB5.out.size; omega) ?_; intro v7 w7 hA; clear tk2 _t; have H7 : Hid (AE base V (.slice none 0 0) w7 v7 (A1 ++ A2 ++ A3 ++ [2] ++ ulB a)) := ⟨H6.out.trans (AE.pre HB5.out hA)⟩; clear hA)
        | (at_builtin; refine append_bk (w7.alloc (.cells #[.int .u8 z] 5)) rfl _ _ rfl base v7 (A1 ++ A2 ++ A3 ++ [2] ++ ulB a) rfl (H7.out.own.bel ((Below.refl _ _).alloc (Nat.le_refl _) _)) _ [z] rfl (bt_lit w7 z) (by have := HL1.out; have := HL2.out; have := HL3.out; have := HUa.out; simp <;> omega) (by have := HBs.out; have := H7.out.gr.size; simp; omega) ?_; intro v8 w8 hA; have H8 : Hid (AE base V (.slice none 0 0) w8 v8 (A1 ++ A2 ++ A3 ++ [2] ++ ulB a ++ [z])) := ⟨H7.out.trans (AE.byte hA)⟩; clear hA))
      go_ret
      exact ⟨_, rfl, by rw [HBase.out, HR.out, HD.out]; exact (H8.out.to (by simp)).own, by rw [HBase.out]; exact HB.out.trans (H8.out.bel HO.out HBs.out)⟩
    · generalize spec a l2 = y at *
      generalize spec (a - 17) l2 = x at *
      generalize spec 0 l2 = z at *
      have hz' : z % 256 = z := by omega
      clear hl2B haB p2
      go_wp2_with (first
        | (at_builtin; have _t := tk; refine append_bk (wc.alloc (.cells #[.int .u8 2] 5)) rfl _ _ rfl base u5 (A1 ++ A2 ++ A3) rfl (HA4.out.own.bel ((Below.refl _ _).alloc (Nat.le_refl _) _)) _ [2] rfl (bt_lit wc 2) (by have := HL1.out; have := HL2.out; have := HL3.out; have := HUa.out; simp <;> omega) (by have := HBs.out; have := HA4.out.gr.size; simp; omega) ?_; intro v6 w6 hA; clear tk _t; have H6 : Hid (AE base V (.slice none 0 0) w6 v6 (A1 ++ A2 ++ A3 ++ [2])) := ⟨HA4.out.trans (AE.byte hA)⟩; clear hA)
        | (go_at_call 26; (with_reducible refine (HU.out _).mono ?_); rintro e w5 ⟨v5, he, ho5, hb5⟩; subst he; have H5 : Hid _ := ⟨ho5⟩; have HB5 : Hid _ := ⟨hb5⟩; clear ho5 hb5)
        | (at_builtin; have _t := tk2; refine append_bk w5 rfl _ _ rfl base v6 (A1 ++ A2 ++ A3 ++ [2]) rfl (H6.out.own.bel HB5.out) _ (ulB a) rfl H5.out.bt (by have := HL1.out; have := HL2.out; have := HL3.out; have := HUa.out; simp <;> omega) (by have := HBs.out; have := H6.out.gr.size; have := HB5.out.size; omega) ?_; intro v7 w7 hA; clear tk2 _t; have H7 : Hid (AE base V (.slice none 0 0) w7 v7 (A1 ++ A2 ++ A3 ++ [2] ++ ulB a)) := ⟨H6.out.trans (AE.pre HB5.out hA)⟩; clear hA)
        | (at_builtin; refine append_bk (w7.alloc (.cells #[.int .u8 z] 5)) rfl _ _ rfl base v7 (A1 ++ A2 ++ A3 ++ [2] ++ ulB a) rfl (H7.out.own.bel ((Below.refl _ _).alloc (Nat.le_refl _) _)) _ [z] rfl (bt_lit w7 z) (by have := HL1.out; have := HL2.out; have := HL3.out; have := HUa.out; simp <;> omega) (by have := HBs.out; have := H7.out.gr.size; simp; omega) ?_; intro v8 w8 hA; have H8 : Hid (AE base V (.slice none 0 0) w8 v8 (A1 ++ A2 ++ A3 ++ [2] ++ ulB a ++ [z])) := ⟨H7.out.trans (AE.byte hA)⟩; clear hA))
      go_ret
      exact ⟨_, rfl, by rw [HBase.out, HR.out, HD.out]; exact (H8.out.to (by simp)).own, by rw [HBase.out]; exact HB.out.trans (H8.out.bel HO.out HBs.out)⟩
end Go.Proofs.Ytbhdledlahbokaa
