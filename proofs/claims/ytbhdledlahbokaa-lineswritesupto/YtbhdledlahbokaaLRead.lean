/- Read of what was written. -/
import Derived.Test.YtbhdledlahbokaaLFilesX
import Derived.Laws.ResultCell
namespace Go.Proofs.Ytbhdledlahbokaa
open Go.ChangeShapes Go.WideShapes Go.ChangeAt Go.RowKit Go.Conc
set_option linter.unusedVariables false
set_option linter.unusedSimpArgs false

/-- What Read answers of a program that was written. -/
def RdEnd (p : Pg) (w : World) (e : Ending) (w' : World) : Prop := ∃ fa fc sa sc, e = .returned (.tuple #[.agg #[.slice fa p.files.length fc, .slice sa p.seqs.length sc], .int .i64 0]) ∧ PgIn w' fa sa p ∧ OwnN w' w.heap.size (.slice fa p.files.length fc) p.files ∧ TS w' w.heap.size (.slice sa p.seqs.length sc) p.seqs ∧ Below w.heap.size w w'
/-- A block of two slices is written over: what is no slice lies elsewhere. -/
theorem set_cell {W : World} {B : Nat} {a1 a2 : Option Addr} {n1 n2 c1 c2 : Nat} (hB : Bk W B 28 #[.slice a1 n1 c1, .slice a2 n2 c2]) (X : Array Value) {b o : Nat} {v : Value} (hc : W.cell? ⟨b, o, none⟩ = some v) (hv : ∀ a n c, v ≠ .slice a n c) : b ≠ B ∧ (W.setRow B X).cell? ⟨b, o, none⟩ = some v := by
  have hne : b ≠ B := fun e => by
    subst e
    simp only [World.cell?, hB.hp] at hc
    rcases o with _ | _ | o
    · simp at hc; exact hv _ _ _ hc.symm
    · simp at hc; exact hv _ _ _ hc.symm
    · simp at hc
  refine ⟨hne, ?_⟩
  rw [World.cell?_of_block (a := ⟨b, o, none⟩) (setRow_other W B b X hne)]
  exact hc
theorem PgIn.setB {W : World} {B : Nat} {a1 a2 : Option Addr} {n1 n2 c1 c2 : Nat} {fa sa : Option Addr} {p : Pg} (h : PgIn W fa sa p) (hB : Bk W B 28 #[.slice a1 n1 c1, .slice a2 n2 c2]) (X : Array Value) : PgIn (W.setRow B X) fa sa p := by
  have hi : ∀ (x : Int) (a : Option Addr) (n c : Nat), Value.int .i64 x ≠ .slice a n c := fun _ _ _ _ e => by cases e
  refine ⟨?_, ?_, h.fl, h.sl, h.sh⟩
  · rcases h.fs with h0 | ⟨b, off, e, hc⟩
    · exact .inl h0
    · exact .inr ⟨b, off, e, fun i hi => (set_cell hB X (hc i hi) (fun _ _ _ e => by cases e)).2⟩
  · rcases h.sq with h0 | ⟨b, off, e, hc⟩
    · exact .inl h0
    · refine .inr ⟨b, off, e, fun i hi2 => ?_⟩
      obtain ⟨a, c, k0, k1, k2, k3⟩ := hc i hi2
      have s0 := set_cell hB X k0 (hi _)
      refine ⟨a, c, s0.2, (set_cell hB X k1 (hi _)).2, ?_, ?_⟩
      · rw [World.cell?_of_block (a := ⟨b, off + i * 3 + 2, none⟩) (setRow_other W B b X s0.1)]
        exact k2
      · rcases k3 with h0 | ⟨b', o', e', hr⟩
        · exact .inl h0
        · exact .inr ⟨b', o', e', fun j hj => ⟨(set_cell hB X (hr j hj).c0 (hi _)).2, (set_cell hB X (hr j hj).c1 (hi _)).2, (set_cell hB X (hr j hj).c2 (hi _)).2, (set_cell hB X (hr j hj).c3 (hi _)).2⟩⟩
theorem sizePg : (Try.prog.info? 28).map (·.size) = some 2 := by kernel_rfl
theorem res_pg {fn : Func} {q u : Tmp} (h : fn.results = #[.cell q 28, .tmp u]) (tmps : Array Value) (w : World) (g : Nat) (x y v : Value) (hp : tmps.getD q undef = .pointer (some ⟨g, 0, none⟩)) (hg : w.heap[g]? = some (.cells #[x, y] 28 (0, 0))) (hu : tmps.getD u undef = v) :
    (results fn tmps).run Try.prog w = .ok (.tuple #[.agg #[x, y], v]) w := by
  rw [results_cell_tmp h, hp, hu]
  have hl := run_loadVar_row (P := Try.prog) w g 28 28 #[x, y] (0, 0) _ hg Try.underlying28 rfl (by rw [sizePg]; rfl)
  simp [asAddr, hl, Result.andThen]
theorem one_pg (a1 a2 : Option Addr) (n1 n2 c1 c2 : Nat) : ∀ u ∈ (Value.agg #[.slice a1 n1 c1, .slice a2 n2 c2]).cells.toList, u.oneCell' = true := by
  intro u hu
  simp [Value.cells] at hu
  rcases hu with rfl | rfl <;> rfl

set_option maxRecDepth 20000 in
set_option maxHeartbeats 4000000 in
theorem read_ok (p : Pg) (hck : checkB p = true) (g off len cp : Nat) (bs : Nat → Int) (w : World) (hr : ∀ i, i < len → w.cell? ⟨g, off + i, none⟩ = some (.int .u8 (bs i))) (hbs : ∀ i, 0 ≤ bs i ∧ bs i < 256) (hlen : (unitR p).length = len) (hsh : len ≤ 1048576) (hfit : len ≤ cp) (htop : cp ≤ 9223372036854775807) (hat : At bs 0 (unitR p)) :
    Calls Try.prog 19 #[.slice (some ⟨g, off, none⟩) len cp] w (RdEnd p w) := by
  have hck2 := hck
  unfold checkB seqsB filesB at hck2
  simp only [Bool.and_eq_true, decide_eq_true_eq] at hck2
  obtain ⟨⟨hfl, _⟩, hsl, hall⟩ := hck2
  obtain ⟨p1, p2, p3, p4⟩ := head_places hat
  have hul : (unitR p).length = (headR p.files ((cmdR p.seqs).length : Int)).length + (cmdR p.seqs).length := by unfold unitR; rw [List.length_append]
  have HFs : Hid (∀ W, Below w.heap.size w W → _) := ⟨fun W hW => filesOf_ok p hck g off len cp bs W (fun i hi => up_belL (hr i hi) hW) hbs hlen hsh hfit hat⟩
  have HPg : Hid (∀ W fa sa, Strs W fa p.files → Sqs W sa p.seqs → PgIn W fa sa p) := ⟨fun W fa sa h1 h2 => ⟨h1, h2, by omega, by omega, fun q hq => by have := (seq_ok (List.all_eq_true.1 hall q hq)).2.2.1; omega⟩⟩
  have HCk : Hid (∀ W fa fc sa sc, PgIn W fa sa p → Calls Try.prog 12 #[.agg #[.slice fa p.files.length fc, .slice sa p.seqs.length sc]] W fun e w' => e = .returned (.int .i64 0) ∧ Below W.heap.size W w') := ⟨fun W fa fc sa sc h => by
    have e1 : checkE p = 0 := by unfold checkE; rw [hck]; rfl
    have := check_any fa sa fc sc p W h
    rwa [e1] at this⟩
  have HSq : Hid (∀ W, Below w.heap.size w W → ∀ c', (len - (headR p.files ((cmdR p.seqs).length : Int)).length) ≤ c' → c' ≤ 9223372036854775807 → ∀ g' off', ((cmdR p.seqs).length = 0 ∨ (g' = g ∧ off' = off + (headR p.files ((cmdR p.seqs).length : Int)).length)) → Calls Try.prog 35 #[.slice (some ⟨g', off', none⟩) (len - (headR p.files ((cmdR p.seqs).length : Int)).length) c'] W fun e w' => ∃ sa sc, e = .returned (.tuple #[.slice sa p.seqs.length sc, .bool true]) ∧ TS w' W.heap.size (.slice sa p.seqs.length sc) p.seqs ∧ Below W.heap.size W w') := ⟨fun W hW c' h1 h2 g' off' hg => by
    refine seqsOf_ok p.seqs (p.files.length : Int) (by omega) hall hsl g' off' _ c' (fun i => bs ((headR p.files ((cmdR p.seqs).length : Int)).length + i)) W ?_ (fun i => hbs _) (by omega) (by omega) h1 h2 ?_
    · rcases hg with hg | ⟨rfl, rfl⟩
      · exact .inl (by omega)
      · refine .inr ⟨g', _, rfl, fun i hi => ?_⟩
        have := up_belL (hr ((headR p.files ((cmdR p.seqs).length : Int)).length + i) (by omega)) hW
        rwa [← Nat.add_assoc] at this
    · intro i hi
      have := p4 i hi
      rw [Nat.zero_add]
      exact this⟩
  have hH : (headR p.files ((cmdR p.seqs).length : Int)).length ≤ len := by omega
  have hCL : (cmdR p.seqs).length = 0 ∨ (headR p.files ((cmdR p.seqs).length : Int)).length < len := by omega
  clear hr hbs hlen hat hck p1 p2 p3 p4 hul hfl hsl hall
  generalize hCLv : (cmdR p.seqs).length = CL at *
  generalize (headR p.files (CL : Int)).length = H at *
  have i0 : ¬ (1048576 : Int) < (len : Int) := by omega
  have i1 : (H : Int) ≤ (len : Int) := by omega
  have i2 : (0 : Int) ≤ (H : Int) := by omega
  have HFw : Hid _ := ⟨HFs.out (w.alloc (.cells #[.slice none 0 0, .slice none 0 0] 28)) ((Below.refl _ _).alloc (Nat.le_refl _) _)⟩
  clear HFs
  go_enter Try.func19, Try.ntmps19
  go_upto_region 6 with (go_at_call 34; (with_reducible refine HFw.out.mono ?_); rintro e w1 ⟨v1, he, ho1, hb1⟩; subst he; have H1 : Hid _ := ⟨ho1⟩; have HB1 : Hid _ := ⟨hb1⟩; clear ho1 hb1)
  obtain ⟨fa, fc, hv1, hst1⟩ := H1.out.strs
  have HSt : Hid _ := ⟨hst1⟩
  clear hst1
  subst hv1
  have HBw : Hid (Below w.heap.size w w1) := ⟨((Below.refl _ _).alloc (Nat.le_refl _) _).trans (HB1.out.mono (by simp))⟩
  have K2 : Bk w1 w.heap.size 28 #[.slice none 0 0, .slice none 0 0] := (Bk.new w _ _).bel HB1.out (by simp)
  have HK2 : Hid _ := ⟨K2⟩
  clear K2
  have HS1 : Hid (∀ c', len - H ≤ c' → c' ≤ 9223372036854775807 → ∀ g' off', (CL = 0 ∨ (g' = g ∧ off' = off + H)) → Calls Try.prog 35 #[.slice (some ⟨g', off', none⟩) (len - H) c'] w1 fun e w' => ∃ sa sc, e = .returned (.tuple #[.slice sa p.seqs.length sc, .bool true]) ∧ TS w' w1.heap.size (.slice sa p.seqs.length sc) p.seqs ∧ Below w1.heap.size w1 w') := ⟨HSq.out w1 HBw.out⟩
  clear HSq HFw
  by_cases hcp : H < cp
  · have HS2 : Hid _ := ⟨HS1.out (cp - H) (by omega) (by omega) g (off + H) (.inr ⟨rfl, rfl⟩)⟩
    have j1 : H ≤ len := hH
    have j2 : len ≤ cp := hfit
    clear HS1 hCL htop hsh
    go_upto_region 9 with (go_at_call 35; (with_reducible refine HS2.out.mono ?_); rintro e w2 ⟨sa, sc, he, hs2, hb2⟩; subst he; have H2 : Hid _ := ⟨hs2⟩; have HB2 : Hid _ := ⟨hb2⟩; clear hs2 hb2)
    have HW2 : Hid (Below w.heap.size w (w2.alloc (.cells #[.slice fa p.files.length fc, .slice sa p.seqs.length sc] 28))) := ⟨(HBw.out.trans (HB2.out.mono HBw.out.size)).alloc (by have := HBw.out.size; have := HB2.out.size; omega) _⟩
    have HPi : Hid (PgIn (w2.alloc (.cells #[.slice fa p.files.length fc, .slice sa p.seqs.length sc] 28)) fa sa p) := ⟨HPg.out _ fa sa ((HSt.out.bel HB2.out).bel ((Below.refl _ _).alloc (Nat.le_refl _) _)) (H2.out.sq.bel ((Below.refl _ _).alloc (Nat.le_refl _) _))⟩
    have HC2 : Hid _ := ⟨HCk.out _ fa fc sa sc HPi.out⟩
    have HK8 : Hid _ := ⟨Bk.new w2 #[.slice fa p.files.length fc, .slice sa p.seqs.length sc] 28⟩
    have HK3 : Hid (Bk (w2.alloc (.cells #[.slice fa p.files.length fc, .slice sa p.seqs.length sc] 28)) w.heap.size 28 #[.slice none 0 0, .slice none 0 0]) := ⟨(HK2.out.bel HB2.out HK2.out.lt).bel ((Below.refl _ _).alloc (Nat.le_refl _) _) (by have := HK2.out.lt; have := HB2.out.size; omega)⟩
    go_upto_region 13 with (go_at_call 12; (with_reducible refine HC2.out.mono ?_); rintro e w4 ⟨he, hb4⟩; subst he; have HB4 : Hid _ := ⟨hb4⟩; clear hb4)
    have K8 := HK8.out.bel HB4.out (by simp)
    have d0 := K8.cell 0 rfl; have d1 := K8.cell 1 rfl
    have HK4 : Hid _ := ⟨HK3.out.bel HB4.out HK3.out.lt⟩
    have HP4 : Hid _ := ⟨HPi.out.bel HB4.out⟩
    have HB5 : Hid (Below w.heap.size w w4) := ⟨HW2.out.trans (HB4.out.mono HW2.out.size)⟩
    have HNf : Hid (OwnN w4 w.heap.size (.slice fa p.files.length fc) p.files) := ⟨(((H1.out.bel HB2.out).bel ((Below.refl _ _).alloc (Nat.le_refl _) _)).bel HB4.out).low (by simp)⟩
    have HTf : Hid (TS w4 w.heap.size (.slice sa p.seqs.length sc) p.seqs) := ⟨((H2.out.bel ((Below.refl _ _).alloc (Nat.le_refl _) _)).bel HB4.out).low HBw.out.size⟩
    clear K8 HC2 HPi HK3 HK8 HB4 HW2
    go_wp2_with (refine wpList_part (g := w.heap.size) (off := 0) (val := .agg #[.slice fa p.files.length fc, .slice sa p.seqs.length sc]) (new := #[.slice fa p.files.length fc, .slice sa p.seqs.length sc]) rfl rfl (by rfl) (by rfl) HK4.out (by rw [sizePg]; rfl) (by show 0 + 2 ≤ 2; omega) (one_pg _ _ _ _ _ _) rfl ?_)
    have HRs : Hid (RdEnd p w (.returned (.tuple #[.agg #[.slice fa p.files.length fc, .slice sa p.seqs.length sc], .int .i64 0])) (w4.setRow w.heap.size #[.slice fa p.files.length fc, .slice sa p.seqs.length sc])) := ⟨⟨fa, fc, sa, sc, rfl, HP4.out.setB HK4.out _, HNf.out.far (grown_set _ _ _) (fun k hk e => by injection e with e; subst e; obtain ⟨_, _, c1, e1⟩ := HNf.out.ty _ hk; exact HK4.out.ne e1 (by decide) rfl), HTf.out.far (grown_set _ _ _) (fun k hk => by injection hk with hk; subst hk; exact ⟨fun cur e => HK4.out.ne e (by decide) rfl, fun cur e => HK4.out.ne e (by decide) rfl⟩), HB5.out.trans ⟨rfl, rfl, rfl, by simp, fun k hk => setRow_other _ _ k _ (by omega)⟩⟩⟩
    refine bodyPost_ret (v := .tuple #[.agg #[.slice fa p.files.length fc, .slice sa p.seqs.length sc], .int .i64 0]) ?_ rfl HRs.out
    exact res_pg (q := 2) (u := 3) (by kernel_rfl) _ _ w.heap.size _ _ _ (by kernel_rfl) ((HK4.out.setR _).hp) (by kernel_rfl)
  · have hcl0 : CL = 0 := by omega
    have HS2 : Hid (Calls Try.prog 35 #[.slice (some ⟨g, off, none⟩) 0 0] w1 fun e w' => ∃ sa sc, e = .returned (.tuple #[.slice sa p.seqs.length sc, .bool true]) ∧ TS w' w1.heap.size (.slice sa p.seqs.length sc) p.seqs ∧ Below w1.heap.size w1 w') := ⟨by
      have h0 : len - H = 0 := by omega
      have := HS1.out 0 (by omega) (by omega) g off (.inl hcl0)
      rwa [h0] at this⟩
    obtain rfl : H = cp := by omega
    obtain rfl : H = len := by omega
    clear HS1 hCL htop hsh
    go_upto_region 9 with (go_at_call 35; (with_reducible refine HS2.out.mono ?_); rintro e w2 ⟨sa, sc, he, hs2, hb2⟩; subst he; have H2 : Hid _ := ⟨hs2⟩; have HB2 : Hid _ := ⟨hb2⟩; clear hs2 hb2)
    have HW2 : Hid (Below w.heap.size w (w2.alloc (.cells #[.slice fa p.files.length fc, .slice sa p.seqs.length sc] 28))) := ⟨(HBw.out.trans (HB2.out.mono HBw.out.size)).alloc (by have := HBw.out.size; have := HB2.out.size; omega) _⟩
    have HPi : Hid (PgIn (w2.alloc (.cells #[.slice fa p.files.length fc, .slice sa p.seqs.length sc] 28)) fa sa p) := ⟨HPg.out _ fa sa ((HSt.out.bel HB2.out).bel ((Below.refl _ _).alloc (Nat.le_refl _) _)) (H2.out.sq.bel ((Below.refl _ _).alloc (Nat.le_refl _) _))⟩
    have HC2 : Hid _ := ⟨HCk.out _ fa fc sa sc HPi.out⟩
    have HK8 : Hid _ := ⟨Bk.new w2 #[.slice fa p.files.length fc, .slice sa p.seqs.length sc] 28⟩
    have HK3 : Hid (Bk (w2.alloc (.cells #[.slice fa p.files.length fc, .slice sa p.seqs.length sc] 28)) w.heap.size 28 #[.slice none 0 0, .slice none 0 0]) := ⟨(HK2.out.bel HB2.out HK2.out.lt).bel ((Below.refl _ _).alloc (Nat.le_refl _) _) (by have := HK2.out.lt; have := HB2.out.size; omega)⟩
    go_upto_region 13 with (go_at_call 12; (with_reducible refine HC2.out.mono ?_); rintro e w4 ⟨he, hb4⟩; subst he; have HB4 : Hid _ := ⟨hb4⟩; clear hb4)
    have K8 := HK8.out.bel HB4.out (by simp)
    have d0 := K8.cell 0 rfl; have d1 := K8.cell 1 rfl
    have HK4 : Hid _ := ⟨HK3.out.bel HB4.out HK3.out.lt⟩
    have HP4 : Hid _ := ⟨HPi.out.bel HB4.out⟩
    have HB5 : Hid (Below w.heap.size w w4) := ⟨HW2.out.trans (HB4.out.mono HW2.out.size)⟩
    have HNf : Hid (OwnN w4 w.heap.size (.slice fa p.files.length fc) p.files) := ⟨(((H1.out.bel HB2.out).bel ((Below.refl _ _).alloc (Nat.le_refl _) _)).bel HB4.out).low (by simp)⟩
    have HTf : Hid (TS w4 w.heap.size (.slice sa p.seqs.length sc) p.seqs) := ⟨((H2.out.bel ((Below.refl _ _).alloc (Nat.le_refl _) _)).bel HB4.out).low HBw.out.size⟩
    clear K8 HC2 HPi HK3 HK8 HB4 HW2
    go_wp2_with (refine wpList_part (g := w.heap.size) (off := 0) (val := .agg #[.slice fa p.files.length fc, .slice sa p.seqs.length sc]) (new := #[.slice fa p.files.length fc, .slice sa p.seqs.length sc]) rfl rfl (by rfl) (by rfl) HK4.out (by rw [sizePg]; rfl) (by show 0 + 2 ≤ 2; omega) (one_pg _ _ _ _ _ _) rfl ?_)
    have HRs : Hid (RdEnd p w (.returned (.tuple #[.agg #[.slice fa p.files.length fc, .slice sa p.seqs.length sc], .int .i64 0])) (w4.setRow w.heap.size #[.slice fa p.files.length fc, .slice sa p.seqs.length sc])) := ⟨⟨fa, fc, sa, sc, rfl, HP4.out.setB HK4.out _, HNf.out.far (grown_set _ _ _) (fun k hk e => by injection e with e; subst e; obtain ⟨_, _, c1, e1⟩ := HNf.out.ty _ hk; exact HK4.out.ne e1 (by decide) rfl), HTf.out.far (grown_set _ _ _) (fun k hk => by injection hk with hk; subst hk; exact ⟨fun cur e => HK4.out.ne e (by decide) rfl, fun cur e => HK4.out.ne e (by decide) rfl⟩), HB5.out.trans ⟨rfl, rfl, rfl, by simp, fun k hk => setRow_other _ _ k _ (by omega)⟩⟩⟩
    refine bodyPost_ret (v := .tuple #[.agg #[.slice fa p.files.length fc, .slice sa p.seqs.length sc], .int .i64 0]) ?_ rfl HRs.out
    exact res_pg (q := 2) (u := 3) (by kernel_rfl) _ _ w.heap.size _ _ _ (by kernel_rfl) ((HK4.out.setR _).hp) (by kernel_rfl)
end Go.Proofs.Ytbhdledlahbokaa
