/- The state machine does all commands. The state machine does all commands: the walk. -/
import Derived.Test.YtbhdledlahbokaaLDoX
import Derived.WalkMore
namespace Go.Proofs.Ytbhdledlahbokaa
open Go.ChangeShapes Go.WideShapes Go.ChangeAt Go.RowKit
set_option linter.unusedVariables false
set_option linter.unusedSimpArgs false

section
variable {base : Nat × Nat} {w0 w : World} {sb c : Nat} {vb : Value} {m m' : Ms} {cap : Nat}
theorem SA.setR (h : SA base w0 w sb c vb m cap) (m' : Ms) (hv : m'.evs = m.evs) : SA base w0 (w.setRow sb (sC vb m' c)) sb c vb m' cap := by
  refine ⟨h.bel.trans ⟨rfl, rfl, rfl, by simp, fun k hk ha _ => setRow_other w sb k _ (by rw [← h.sbB]; exact ha)⟩, h.bk.setR _, ?_, h.sbB, h.cB⟩
  rw [setRow_other w sb c _ (Ne.symm h.ne), hv]
  exact h.ch
theorem one_i (x : Int) : ∀ u ∈ (Value.int .i64 x).cells.toList, u.oneCell' = true := by
  intro u hu
  simp [Value.cells] at hu
  subst hu; rfl
theorem one_b (x : Bool) : ∀ u ∈ (Value.bool x).cells.toList, u.oneCell' = true := by
  intro u hu
  simp [Value.cells] at hu
  subst hu; rfl
set_option maxRecDepth 10000 in
set_option maxHeartbeats 1000000 in
theorem begin_ok (h : SA base w0 w sb c vb m cap) (hs : m.seqs < 64) :
    Calls Try.prog 69 #[.pointer (some ⟨sb, 0, none⟩)] w fun e w' => e = .returned (.bool true) ∧ SA base w0 w' sb c vb (begM m) cap := by
  have HF : Hid _ := ⟨firstRow_any w⟩
  have HS : Hid _ := ⟨h⟩
  clear h
  have tk : True := trivial
  have tk2 : True := trivial
  have tk3 : True := trivial
  go_enter Try.func69, Try.ntmps69
  go_upto_region 2 with (first
    | (go_at_call 38; (with_reducible refine HF.out.mono ?_); rintro e w1 ⟨he, hb1⟩; subst he; have H1 : Hid (SA base w0 w1 sb c vb m cap) := ⟨HS.out.belw hb1⟩; clear hb1)
    | (refine wpList_part (g := sb) (off := 2) (val := .agg #[.int .i64 0, .int .i64 1, .int .i64 1, .int .i64 0]) (new := sC vb { m with row := Lr.first } c) rfl rfl (by rfl) (by rfl) H1.out.bk (by rw [sizeRowL]; rfl) (by show 2 + 4 ≤ 11; omega) (one4 _ _ _ _) rfl ?_; have H2 : Hid _ := ⟨H1.out.setR { m with row := Lr.first } rfl⟩)
    | (refine wpList_part (g := sb) (off := 6) (val := .int .i64 0) (new := sC vb { m with row := Lr.first, start := 0 } c) rfl rfl (by rfl) (by rfl) H2.out.bk (by rw [sizeInt]; rfl) (by show 6 + 1 ≤ 11; omega) (one_i _) rfl ?_; have H3 : Hid _ := ⟨H2.out.setR { m with row := Lr.first, start := 0 } rfl⟩)
    | (refine wpList_part (g := sb) (off := 7) (val := .int .i64 0) (new := sC vb { m with row := Lr.first, start := 0, rows := 0 } c) rfl rfl (by rfl) (by rfl) H3.out.bk (by rw [sizeInt]; rfl) (by show 7 + 1 ≤ 11; omega) (one_i _) rfl ?_; have H4 : Hid _ := ⟨H3.out.setR { m with row := Lr.first, start := 0, rows := 0 } rfl⟩)
    | (refine wpList_part (g := sb) (off := 9) (val := .bool false) (new := sC vb { m with row := Lr.first, start := 0, rows := 0, ended := false } c) rfl rfl (by rfl) (by rfl) H4.out.bk (by rw [sizeBool]; rfl) (by show 9 + 1 ≤ 11; omega) (one_b _) rfl ?_; have H5 : Hid _ := ⟨H4.out.setR { m with row := Lr.first, start := 0, rows := 0, ended := false } rfl⟩))
  have d8 := H5.out.c8
  dsimp only at d8
  have HE : Hid _ := ⟨H5.out⟩
  clear H1 H2 H3 H4 H5
  generalize (((w1.setRow sb (sC vb { m with row := Lr.first } c)).setRow sb (sC vb { m with row := Lr.first, start := 0 } c)).setRow sb (sC vb { m with row := Lr.first, start := 0, rows := 0 } c)).setRow sb (sC vb { m with row := Lr.first, start := 0, rows := 0, ended := false } c) = w5 at *
  go_wp2
  go_ret
  exact ⟨ret_bool (by simp), HE.out⟩
end

theorem flat_at {α : Type} (f : α → List Int) (L : List α) (d : α) {bs : Nat → Int} {a : Nat} (h : At bs a (L.flatMap f)) {j : Nat} (hj : j < L.length) :
    At bs (a + ((L.take j).flatMap f).length) (f (L.getD j d)) ∧ ((L.take j).flatMap f).length + (f (L.getD j d)).length ≤ (L.flatMap f).length := by
  have e : L = L.take j ++ (L.getD j d :: L.drop (j + 1)) := by
    have h1 : L.drop j = L.getD j d :: L.drop (j + 1) := by rw [List.drop_eq_getElem_cons hj]; simp [hj]
    rw [← h1, List.take_append_drop]
  have e2 : L.flatMap f = (L.take j).flatMap f ++ (f (L.getD j d) ++ (L.drop (j + 1)).flatMap f) := by
    conv => lhs; rw [e]
    rw [List.flatMap_append, List.flatMap_cons]
  rw [e2] at h ⊢
  exact ⟨(At.app (At.app h).2).1, by simp only [List.length_append]; omega⟩
theorem okAll_at {m : Ms} {L : List Cm} (h : okAll m L) {j : Nat} (hj : j < L.length) : okC (runC m (L.take j)) (L.getD j .fin) := by
  have e : L = L.take j ++ (L.getD j .fin :: L.drop (j + 1)) := by
    have h1 : L.drop j = L.getD j .fin :: L.drop (j + 1) := by rw [List.drop_eq_getElem_cons hj]; simp [hj]
    rw [← h1, List.take_append_drop]
  rw [e, okAll_append] at h
  exact h.2.1
theorem runC_next {m : Ms} {L : List Cm} {j : Nat} (hj : j < L.length) : runC m (L.take (j + 1)) = cmM (runC m (L.take j)) (L.getD j .fin) := by
  rw [take_at L .fin j hj, runC_append]; rfl
theorem inv_take {m : Ms} {L : List Cm} (h : okAll m L) (hI : Inv m) (hg : ∀ c ∈ L, goesOn c) (hs : m.seqs < 64) : ∀ j, j ≤ L.length → Inv (runC m (L.take j)) ∧ (runC m (L.take j)).seqs = m.seqs ∧ (runC m (L.take j)).ended = m.ended := by
  intro j
  induction j with
  | zero => intro _; exact ⟨hI, rfl, rfl⟩
  | succ j ih =>
    intro hj
    have h1 := ih (by omega)
    rw [runC_next (by omega)]
    have h2 := inv_cm h1.1 (okAll_at h (by omega)) (hg _ (by simp [show j < L.length by omega])) (by rw [h1.2.1]; exact hs)
    exact ⟨h2.1, h2.2.1.trans h1.2.1, h2.2.2.trans h1.2.2⟩
/-- A sequence has been ended. -/
structure Outr (m : Ms) (at' : Nat) (k : Int) (evs : List Ev) : Prop where
  pl : m.at' = at'
  sq : m.seqs = k
  en : m.ended = true
  ev : m.evs = evs
/-- What is known of the state at command j of a sequence. -/
structure Step2 (m M : Ms) (q : Sq) (j : Nat) : Prop where
  ok : okC M ((seqC q).getD j .fin)
  inv : Inv M
  sq : M.seqs = m.seqs
  en : M.ended = false
  pl : M.at' = m.at' + (((seqC q).take j).flatMap cmB).length
theorem seq_step {m : Ms} {q : Sq} {n : Int} (hq : seqB n q = true) (hn : n ≤ 255) (hI : Inv (begM m)) (hs : m.seqs < 64) {j : Nat} (hj : j < (seqC q).length) : Step2 m (runC (begM m) ((seqC q).take j)) q j := by
  have hb := body_run m q n hq hn
  have hlen : (seqC q).length = (bodyC q).length + 1 := by simp [seqC]
  have ht : (seqC q).take j = (bodyC q).take j := by
    unfold seqC; rw [List.take_append_of_le_length (by omega)]
  have h1 := inv_take hb.1 hI goes_body hs j (by omega)
  have hpl : (runC (begM m) ((bodyC q).take j)).at' = m.at' + (((bodyC q).take j).flatMap cmB).length := by rw [runC_at]; rfl
  rw [ht]
  refine ⟨?_, h1.1, h1.2.1, h1.2.2, by rw [ht]; exact hpl⟩
  by_cases hjb : j < (bodyC q).length
  · have e : (seqC q).getD j .fin = (bodyC q).getD j .fin := by
      unfold seqC; rw [List.getD_eq_getElem?_getD, List.getD_eq_getElem?_getD, List.getElem?_append_left hjb]
    rw [e]
    exact okAll_at hb.1 hjb
  · have e : (seqC q).getD j .fin = .fin := by
      have : j = (bodyC q).length := by omega
      unfold seqC; rw [List.getD_eq_getElem?_getD, List.getElem?_append_right (by omega)]; simp [this]
    rw [e]
    trivial
theorem seq_end {m : Ms} {q : Sq} {n : Int} (hq : seqB n q = true) (hn : n ≤ 255) : Outr (runC (begM m) (seqC q)) (m.at' + (seqR q).length) (m.seqs + 1) (m.evs ++ seqEv q) := by
  have hb := body_run m q n hq hn
  obtain ⟨h1, h2, h3, h4, h5⟩ := hb.2
  have e : runC (begM m) (seqC q) = cmM (runC (begM m) (bodyC q)) .fin := by unfold seqC; rw [runC_append]; rfl
  refine ⟨?_, ?_, ?_, ?_⟩
  · rw [runC_at, seqC_b]; rfl
  · rw [e]; simp only [cmM, cmE]; rw [h3]
  · rw [e]; rfl
  · rw [e]; simp only [cmM, cmE]; rw [h5, h1, h2]; unfold seqEv; rw [List.append_assoc]
def evsOf (l : List Sq) : List Ev := l.flatMap seqEv
theorem evs_len {n : Int} : ∀ {l : List Sq}, l.all (seqB n) = true → (evsOf l).length ≤ 4001 * l.length ∧ (evsOf l).length ≤ (cmdR l).length
  | [], _ => by simp [evsOf]
  | q :: l, h => by
    simp only [List.all_cons, Bool.and_eq_true] at h
    have ih := evs_len h.2
    obtain ⟨_, _, h3, h4⟩ := seq_ok h.1
    have hr : q.rows.length ≤ (rowsR Lr.first q.rows).length := by
      have : ∀ (s : Lr) (l : List Lr), l.length ≤ (rowsR s l).length := by
        intro s l
        induction l generalizing s with
        | nil => simp
        | cons r l ih =>
          have h1 : 1 ≤ (rowR s r).length := by
            have : 1 ≤ (tailR (r.at' - s.at') (r.li - s.li)).length := by
              unfold tailR advR
              repeat' split
              all_goals simp
            unfold rowR; simp only [List.length_append]; omega
          have := ih r
          simp only [rowsR, List.length_append, List.length_cons]; omega
      exact this _ _
    have hse : (seqEv q).length = q.rows.length + 1 := by simp [seqEv]
    have hsr : q.rows.length + 1 ≤ (seqR q).length := by unfold seqR; simp only [List.length_append, List.length_cons]; omega
    simp only [evsOf, cmdR, List.flatMap_cons, List.length_append, List.length_cons] at ih ⊢
    omega

theorem load_bytes {w : World} {p : Addr} {ao : Option Addr} {n c : Nat} (hc : w.cell? p = some (.slice ao n c)) : (loadVar 30 p).run Try.prog w = .ok (.slice ao n c) w := by
  simp [loadVar, isAgg, run_underlying Try.underlying30, go_sem, hc]
theorem wp_val {o : Oper} {a : Act} {w w' : World} {K : Act → World → Prop} {Q : Exit → Act → World → Prop} {v : Value} (hx : (execOp a.eval o).run Try.prog w = .ok (.value v) w') (h : K (a.put o.dst v) w') : o.wp Try.prog a w K Q := by
  unfold Oper.wp
  rw [hx, Oper.upon_value]
  exact h
theorem wp_enter {o : Oper} {a : Act} {w : World} {K : Act → World → Prop} {Q : Exit → Act → World → Prop} {f : FuncId} {args : Array Value} {R : Ending → World → Prop}
    (hx : (execOp a.eval o).run Try.prog w = .ok (.enter f args) w) (hc : Calls Try.prog f args w R) (h : ∀ e w', R e w' → ∃ v, e = .returned v ∧ K (a.put o.dst v) w') : o.wp Try.prog a w K Q := by
  unfold Oper.wp
  rw [hx, Oper.upon_enter]
  refine hc.mono ?_
  intro e w' hr
  obtain ⟨v, rfl, hk⟩ := h e w' hr
  exact hk
/-- The place that the state has come to. -/
def atOf (w : World) (sb : Nat) : Nat := match w.cell? ⟨sb, 1, none⟩ with | some (.int _ x) => x.toNat | _ => 0
section
variable {base : Nat × Nat} {w0 w : World} {sb c : Nat} {g off len cp : Nat} {bs : Nat → Int} {m : Ms} {cap : Nat}
theorem SA.atOf {vb : Value} (h : SA base w0 w sb c vb m cap) : atOf w sb = m.at' := by
  unfold Go.Proofs.Ytbhdledlahbokaa.atOf
  rw [h.c1]
  simp
/-- What run leaves. -/
structure Ran (base : Nat × Nat) (w0 w : World) (sb c : Nat) (vb : Value) (evs : List Ev) (cap : Nat) : Prop where
  bel : Fr base w0 w
  told : w.cell? ⟨sb, 10, none⟩ = some (.chan (some c))
  ch : ∃ s, w.heap[c]? = some (.chan cap (evs.map evV).toArray true s 0 false)
set_option maxRecDepth 20000 in
set_option maxHeartbeats 4000000 in
theorem run_ok (l : List Sq) (n : Int) (hn : n ≤ 255) (hall : l.all (seqB n) = true) (hl : l.length ≤ 64) (h : SA base w0 w sb c (.slice (some ⟨g, off, none⟩) len cp) m cap) (hB : By base w0 (some ⟨g, off, none⟩) len cp bs) (hat : At bs 0 (cmdR l)) (hlen : (cmdR l).length = len) (hcap : cap = min len 256064) (hm : Outr m 0 0 []) :
    Calls Try.prog 52 #[.pointer (some ⟨sb, 0, none⟩)] w fun e w' => e = .returned (.bool true) ∧ Ran base w0 w' sb c (.slice (some ⟨g, off, none⟩) len cp) (evsOf l) cap := by
  have HC : Hid _ := ⟨commands_any w⟩
  have HS : Hid _ := ⟨h⟩
  have HB : Hid _ := ⟨hB⟩
  have HM : Hid _ := ⟨hm⟩
  have HAt : Hid _ := ⟨hat⟩
  have HAll : Hid _ := ⟨hall⟩
  have HLen : Hid _ := ⟨hlen⟩
  have HCap : Hid _ := ⟨hcap⟩
  have hsh : (len : Int) ≤ 1048576 := by have := hB.short; omega
  clear h hB hm hat hall hlen hcap
  go_enter Try.func52, Try.ntmps52
  go_wp2
  go_step3
  go_wp2_with (first
    | (go_at_call 68; (with_reducible refine HC.out.mono ?_); rintro e w1 ⟨he, hb1⟩; subst he; have H1 : Hid _ := ⟨hb1⟩; have HK1 : Hid _ := ⟨Bk.new w1 (Array.replicate 13 .nilFunc) 126⟩; clear hb1)
    | (refine wpList_part (g := w1.heap.size) (off := 0) (val := .agg cmdA) (new := cmdA) rfl rfl (by rfl) (by rfl) HK1.out (by rw [sizeCmd]; rfl) (by show 0 + 13 ≤ 13; omega) cmd_one rfl ?_))
  have HBx : Hid (Below w1.heap.size w1 ((w1.alloc (.cells (Array.replicate 13 .nilFunc) 126)).setRow w1.heap.size cmdA)) := ⟨((Below.refl _ w1).alloc (Nat.le_refl _) _).trans ⟨rfl, rfl, rfl, by simp, fun k hk => setRow_other _ _ k _ (by omega)⟩⟩
  have HS2 : Hid (SA base w0 ((w1.alloc (.cells (Array.replicate 13 .nilFunc) 126)).setRow w1.heap.size cmdA) sb c (.slice (some ⟨g, off, none⟩) len cp) m cap) := ⟨(HS.out.belw H1.out).belw HBx.out⟩
  have HK2 : Hid _ := ⟨HK1.out.setR cmdA⟩
  have HBs : Hid (w1.heap.size ≠ sb ∧ w1.heap.size ≠ c) := ⟨by
    have h1 := (HS.out.belw H1.out).bk.lt
    have h2 := (Array.getElem?_eq_some_iff.1 (HS.out.belw H1.out).ch).1
    omega⟩
  have HFr : Hid (Fr base w0 ((w1.alloc (.cells (Array.replicate 13 .nilFunc) 126)).setRow w1.heap.size cmdA)) := ⟨HS2.out.bel⟩
  clear HC HS H1 HK1 HBx
  have e0 : (Array.replicate 13 Value.nilFunc) = #[.nilFunc, .nilFunc, .nilFunc, .nilFunc, .nilFunc, .nilFunc, .nilFunc, .nilFunc, .nilFunc, .nilFunc, .nilFunc, .nilFunc, .nilFunc] := rfl
  rw [e0] at HS2 HK2 HFr
  clear e0
  generalize ((w1.alloc (.cells #[.nilFunc, .nilFunc, .nilFunc, .nilFunc, .nilFunc, .nilFunc, .nilFunc, .nilFunc, .nilFunc, .nilFunc, .nilFunc, .nilFunc, .nilFunc] 126)).setRow w1.heap.size cmdA) = V at *
  generalize w1.heap.size = BC at *
  have HS3 : Hid (SA base V V sb c (.slice (some ⟨g, off, none⟩) len cp) m cap) := ⟨Fr.refl _ _, HS2.out.bk, HS2.out.ch, HS2.out.sbB, HS2.out.cB⟩
  have HB3 : Hid (By base V (some ⟨g, off, none⟩) len cp bs) := ⟨fun W hW => HB.out.row W (HFr.out.trans hW), HB.out.byte, HB.out.short, HB.out.fit, HB.out.top⟩
  have HKF : Hid (∀ W, Fr base V W → (loadVar 126 ⟨BC, 0, none⟩).run Try.prog W = .ok (.agg cmdA) W) := ⟨fun W hW => run_loadVar_row W BC 126 126 cmdA (0, 0) _ ((hW.block BC HK2.out.lt (by rw [HS2.out.sbB]; exact HBs.out.1) (by rw [HS2.out.cB]; exact HBs.out.2)).trans HK2.out.hp) Try.underlying126 rfl (by rw [sizeCmd]; rfl)⟩
  clear HS2 HB HK2 HBs
  go_step3
  go_wp2
  simp only [Act.put]
  go_loopw [] (fun wr => ∃ (k : Nat) (M : Ms), k ≤ l.length ∧ Hid (SA base V wr sb c (.slice (some ⟨g, off, none⟩) len cp) M cap ∧ Outr M (cmdR (l.take k)).length (k : Int) (evsOf (l.take k)))) (fun wr => len - atOf wr sb)
  case atStart => exact ⟨0, m, by omega, ⟨HS3.out, HM.out⟩⟩
  case round =>
    obtain ⟨k, M, hk, HW⟩ := hrel
    by_cases hlt : k < l.length
    · have HF : Hid _ := ⟨flat_at seqR l Sq.zero HAt.out hlt⟩
      have HQ : Hid (seqB n (l.getD k Sq.zero) = true) := ⟨List.all_eq_true.1 HAll.out _ (sq_in hlt)⟩
      have HE : Hid _ := ⟨evs_len (all_take HAll.out k)⟩
      have HCn : Hid _ := ⟨(cmdR_at l k hlt).1⟩
      have HEn : Hid (evsOf (l.take (k + 1)) = evsOf (l.take k) ++ seqEv (l.getD k Sq.zero)) := ⟨by rw [take_at l Sq.zero k hlt]; simp [evsOf]⟩
      generalize l.getD k Sq.zero = q at *
      have hpl : M.at' = (cmdR (l.take k)).length := HW.out.2.pl
      have hatl : (M.at' : Int) < (len : Int) := by
        have h1 := HF.out.2
        have h2 : 1 ≤ (seqR q).length := by unfold seqR; simp
        have h3 : (cmdR l).length = len := HLen.out
        unfold cmdR at hpl h3
        omega
      have hsq : M.seqs = (k : Int) := HW.out.2.sq
      have hsq64 : M.seqs < 64 := by omega
      have HI : Hid (Inv (begM M)) := ⟨⟨by
          have h1 := HE.out.2; have h2 : M.evs.length = (evsOf (l.take k)).length := by rw [HW.out.2.ev]
          show M.evs.length ≤ M.at'; omega, by
          have h1 := HE.out.1; have h2 : M.evs.length = (evsOf (l.take k)).length := by rw [HW.out.2.ev]
          have h3 : (l.take k).length ≤ k := by simp; omega
          show (M.evs.length : Int) ≤ 4001 * M.seqs + 0; omega, by show (0 : Int) ≤ 0 ∧ (0 : Int) ≤ 4000; omega, by show 0 ≤ M.seqs ∧ M.seqs ≤ 64; omega, by show ((0 : Int) ≤ 0 ∧ (0 : Int) ≤ 4611686018427387904) ∧ ((0 : Int) ≤ 1 ∧ (1 : Int) ≤ 4611686018427387904); decide⟩⟩
      have HSt : Hid (∀ j, j < (seqC q).length → Step2 M (runC (begM M) ((seqC q).take j)) q j) := ⟨fun j hj => seq_step HQ.out hn HI.out hsq64 hj⟩
      have HFin : Hid _ := ⟨seq_end (m := M) HQ.out hn⟩
      have HBy : Hid (∀ j, j < (seqC q).length → At bs (M.at' + (((seqC q).take j).flatMap cmB).length) (cmB ((seqC q).getD j .fin)) ∧ M.at' + (((seqC q).take j).flatMap cmB).length + (cmB ((seqC q).getD j .fin)).length ≤ len) := ⟨fun j hj => by
        have h1 := HF.out.1
        rw [Nat.zero_add, ← seqC_b q] at h1
        have h2 := flat_at cmB (seqC q) .fin h1 hj
        have h3 := HF.out.2
        have h4 : (cmdR l).length = len := HLen.out
        rw [← seqC_b q] at h3
        unfold cmdR at hpl h4
        rw [← hpl] at h2
        exact ⟨h2.1, by omega⟩⟩
      have HBg : Hid _ := ⟨fun W (hW : SA base V W sb c (.slice (some ⟨g, off, none⟩) len cp) M cap) => begin_ok hW hsq64⟩
      have d0 := HW.out.1.c0
      have d1 := HW.out.1.c1
      clear hsq
      go_upto_region 2 with (fail)
      go_quiet (fail)
      have HSq : Hid (SA base V (wr.drewN nq) sb c (.slice (some ⟨g, off, none⟩) len cp) M cap) := ⟨HW.out.1.belw (below_drewN (Below.refl _ _) nq)⟩
      have HOu : Hid _ := ⟨HW.out.2⟩
      have hat0 : atOf wr sb = M.at' := HW.out.1.atOf
      clear d0 d1 HW
      generalize wr.drewN nq = W at *
      go_wp2_with (go_at_call 69; (with_reducible refine (HBg.out _ HSq.out).mono ?_); rintro e w2 ⟨he, hs2⟩; subst he; have H2 : Hid _ := ⟨hs2⟩; clear hs2)
      clear HBg HSq
      go_loopw [] (fun wi => ∃ j : Nat, j ≤ (seqC q).length ∧ Hid (SA base V wi sb c (.slice (some ⟨g, off, none⟩) len cp) (runC (begM M) ((seqC q).take j)) cap)) (fun wi => len - atOf wi sb)
      case atStart => exact ⟨0, by omega, ⟨H2.out⟩⟩
      case round =>
        obtain ⟨j, hj, HJ⟩ := hrel
        by_cases hjl : j < (seqC q).length
        · have st := HSt.out j hjl
          have hby := HBy.out j hjl
          have HNx : Hid _ := ⟨runC_next (m := begM M) hjl⟩
          generalize hMJ : runC (begM M) ((seqC q).take j) = MJ at *
          have hok := st.ok
          generalize (seqC q).getD j .fin = cm at *
          have hplJ : MJ.at' = M.at' + (((seqC q).take j).flatMap cmB).length := st.pl
          rw [← hplJ] at hby
          have hpos := cmB_pos cm
          have HDo : Hid (∀ W, SA base V W sb c (.slice (some ⟨g, off, none⟩) len cp) MJ cap → Calls Try.prog 70 #[.pointer (some ⟨sb, 0, none⟩), .agg cmdA] W fun e w' => e = .returned (.bool true) ∧ SA base V w' sb c (.slice (some ⟨g, off, none⟩) len cp) (cmM MJ cm) cap) := ⟨fun W hW => do_ok hW HB3.out cm hby.1 hby.2 hok st.inv (by rw [st.sq]; exact hsq64) HCap.out⟩
          have hne : ¬ (MJ.at' : Int) = (len : Int) := by omega
          have hltl : MJ.at' < len := by omega
          have hatn : (cmM MJ cm).at' = MJ.at' + (cmB cm).length := rfl
          have hen := st.en
          have hatJ : atOf wr sb = MJ.at' := HJ.out.atOf
          have d9 := HJ.out.c9
          rw [hen] at d9
          clear st hby hplJ hatl hen hok
          go_upto_region 5 with (fail)
          clear d9
          have HJd : Hid (SA base V wr.drew sb c (.slice (some ⟨g, off, none⟩) len cp) MJ cap) := ⟨HJ.out.belw (Below.refl _ _).drew⟩
          have c0 := HJd.out.c0
          have c1 := HJd.out.c1
          have hl0 := HKF.out wr.drew HJd.out.bel
          have hbq : (((MJ.at' : Int)) == (len : Int)) = false := by simpa using hne
          refine wp_region_held_drew (S := fun u => u.cell? ⟨sb, 0, none⟩ = some (.slice (some ⟨g, off, none⟩) len cp) ∧ (loadVar 126 ⟨BC, 0, none⟩).run Try.prog u = .ok (.agg cmdA) u) (by kernel_rfl) ⟨c0, hl0⟩ (fun hS => ?_)
          clear c0 hl0
          generalize wr.drew = W at *
          refine wpAnyH_take (i := 0) (v := .pointer (some ⟨sb, 0, none⟩)) rfl (by kernel_rfl) (by kernel_rfl) (by kernel_rfl) (fun _ _ _ h => h) (Or.inl ⟨by kernel_rfl, fun u hu => by kernel_rfl⟩) hS ?_
          simp only [Act.put, List.getElem_toArray, List.getElem_cons_succ, List.getElem_cons_zero, List.setIfInBounds_toArray, List.set_cons_zero, List.set_cons_succ]
          refine wpAnyH_take (i := 1) (v := .pointer (some ⟨sb, 0, none⟩)) rfl (by kernel_rfl) (by kernel_rfl) (by kernel_rfl) (fun _ _ _ h => h) (Or.inl ⟨by kernel_rfl, fun u hu => by kernel_rfl⟩) hS ?_
          simp only [Act.put, List.getElem_toArray, List.getElem_cons_succ, List.getElem_cons_zero, List.setIfInBounds_toArray, List.set_cons_zero, List.set_cons_succ]
          refine wpAnyH_take (i := 2) (v := .pointer (some ⟨sb, 1, none⟩)) rfl (by kernel_rfl) (by kernel_rfl) (by kernel_rfl) (fun _ _ _ h => h) (Or.inl ⟨by kernel_rfl, fun u hu => by kernel_rfl⟩) hS ?_
          simp only [Act.put, List.getElem_toArray, List.getElem_cons_succ, List.getElem_cons_zero, List.setIfInBounds_toArray, List.set_cons_zero, List.set_cons_succ]
          refine wpAnyH_take (i := 4) (v := .pointer (some ⟨sb, 0, none⟩)) rfl (by kernel_rfl) (by kernel_rfl) (by kernel_rfl) (fun _ _ _ h => h) (Or.inl ⟨by kernel_rfl, fun u hu => by kernel_rfl⟩) hS ?_
          simp only [Act.put, List.getElem_toArray, List.getElem_cons_succ, List.getElem_cons_zero, List.setIfInBounds_toArray, List.set_cons_zero, List.set_cons_succ]
          refine wpAnyH_take (i := 5) (v := .pointer (some ⟨sb, 0, none⟩)) rfl (by kernel_rfl) (by kernel_rfl) (by kernel_rfl) (fun _ _ _ h => h) (Or.inl ⟨by kernel_rfl, fun u hu => by kernel_rfl⟩) hS ?_
          simp only [Act.put, List.getElem_toArray, List.getElem_cons_succ, List.getElem_cons_zero, List.setIfInBounds_toArray, List.set_cons_zero, List.set_cons_succ]
          refine wpAnyH_take (i := 6) (v := .pointer (some ⟨sb, 0, none⟩)) rfl (by kernel_rfl) (by kernel_rfl) (by kernel_rfl) (fun _ _ _ h => h) (Or.inl ⟨by kernel_rfl, fun u hu => by kernel_rfl⟩) hS ?_
          simp only [Act.put, List.getElem_toArray, List.getElem_cons_succ, List.getElem_cons_zero, List.setIfInBounds_toArray, List.set_cons_zero, List.set_cons_succ]
          refine wpAnyH_take (i := 7) (v := .slice (some ⟨g, off, none⟩) len cp) rfl (by kernel_rfl) (by kernel_rfl) (by kernel_rfl) (fun _ _ _ h => h) (Or.inl ⟨by kernel_rfl, fun u hu => exec_loadV (t := 30) (p := ⟨sb, 0, none⟩) rfl (by kernel_rfl) (load_bytes hu.1)⟩) hS ?_
          simp only [Act.put, List.getElem_toArray, List.getElem_cons_succ, List.getElem_cons_zero, List.setIfInBounds_toArray, List.set_cons_zero, List.set_cons_succ]
          refine wpAnyH_take (i := 8) (v := .int .i64 (len : Int)) rfl (by kernel_rfl) (by kernel_rfl) (by kernel_rfl) (fun _ _ _ h => h) (Or.inl ⟨by kernel_rfl, fun u hu => by kernel_rfl⟩) hS ?_
          simp only [Act.put, List.getElem_toArray, List.getElem_cons_succ, List.getElem_cons_zero, List.setIfInBounds_toArray, List.set_cons_zero, List.set_cons_succ]
          refine wpAnyH_ready (rs := [3]) (by kernel_rfl) (by simp) ?_
          refine AllReadyH.cons rfl (fun K hK => ?_) AllReadyH.nil
          simp only [List.getElem_toArray, List.getElem_cons_succ, List.getElem_cons_zero]
          refine wp_if (by kernel_rfl) ?_
          refine wp_val (v := .int .i64 (MJ.at' : Int)) (w' := W) (exec_loadV (t := 3) (p := ⟨sb, 1, none⟩) rfl (by kernel_rfl) (load_i64 c1)) ?_
          refine hK.out _ _ hS (fun hS => ?_)
          clear hK
          simp only [Act.put, List.getElem_toArray, List.getElem_cons_succ, List.getElem_cons_zero, List.setIfInBounds_toArray, List.set_cons_zero, List.set_cons_succ]
          refine wpAnyH_take (i := 9) (v := (.bool ((MJ.at' : Int) == (len : Int)))) rfl (by kernel_rfl) (by kernel_rfl) (by kernel_rfl) (fun _ _ _ h => h) (Or.inl ⟨by kernel_rfl, fun u hu => by kernel_rfl⟩) hS ?_
          simp only [Act.put, List.getElem_toArray, List.getElem_cons_succ, List.getElem_cons_zero, List.setIfInBounds_toArray, List.set_cons_zero, List.set_cons_succ]
          rw [hbq]
          refine wpAnyH_take (i := 10) (v := .bool false) rfl (by kernel_rfl) (by kernel_rfl) (by kernel_rfl) (fun _ _ _ h => h) (Or.inl ⟨by kernel_rfl, fun u hu => by kernel_rfl⟩) hS ?_
          simp only [Act.put, List.getElem_toArray, List.getElem_cons_succ, List.getElem_cons_zero, List.setIfInBounds_toArray, List.set_cons_zero, List.set_cons_succ]
          refine wpAnyH_take (i := 11) (v := .pointer (some ⟨sb, 0, none⟩)) rfl (by kernel_rfl) (by kernel_rfl) (by kernel_rfl) (fun _ _ _ h => h) (Or.inl ⟨by kernel_rfl, fun u hu => by kernel_rfl⟩) hS ?_
          simp only [Act.put, List.getElem_toArray, List.getElem_cons_succ, List.getElem_cons_zero, List.setIfInBounds_toArray, List.set_cons_zero, List.set_cons_succ]
          refine wpAnyH_take (i := 12) (v := .agg cmdA) rfl (by kernel_rfl) (by kernel_rfl) (by kernel_rfl) (fun _ _ _ h => h) (Or.inl ⟨by kernel_rfl, fun u hu => exec_loadV (t := 126) (p := ⟨BC, 0, none⟩) rfl (by kernel_rfl) hu.2⟩) hS ?_
          simp only [Act.put, List.getElem_toArray, List.getElem_cons_succ, List.getElem_cons_zero, List.setIfInBounds_toArray, List.set_cons_zero, List.set_cons_succ]
          refine wpAnyH_ready (rs := [13]) (by kernel_rfl) (by simp) ?_
          refine AllReadyH.cons rfl (fun K hK => ?_) AllReadyH.nil
          simp only [List.getElem_toArray, List.getElem_cons_succ, List.getElem_cons_zero]
          refine wp_if (by kernel_rfl) ?_
          refine wp_enter (f := 70) (args := #[.pointer (some ⟨sb, 0, none⟩), .agg cmdA]) (by kernel_rfl) (HDo.out W HJd.out) ?_
          rintro e u ⟨rfl, hu⟩
          refine ⟨_, rfl, ?_⟩
          refine hK.out _ _ ⟨hu.c0, HKF.out u hu.bel⟩ (fun hS => ?_)
          clear hK
          simp only [Act.put, List.getElem_toArray, List.getElem_cons_succ, List.getElem_cons_zero, List.setIfInBounds_toArray, List.set_cons_zero, List.set_cons_succ]
          refine wpAnyH_take (i := 14) (v := .bool false) rfl (by kernel_rfl) (by kernel_rfl) (by kernel_rfl) (fun _ _ _ h => h) (Or.inl ⟨by kernel_rfl, fun u hu => by kernel_rfl⟩) hS ?_
          simp only [Act.put, List.getElem_toArray, List.getElem_cons_succ, List.getElem_cons_zero, List.setIfInBounds_toArray, List.set_cons_zero, List.set_cons_succ]
          refine wpAnyH_take (i := 15) (v := .bool false) rfl (by kernel_rfl) (by kernel_rfl) (by kernel_rfl) (fun _ _ _ h => h) (Or.inl ⟨by kernel_rfl, fun u hu => by kernel_rfl⟩) hS ?_
          simp only [Act.put, List.getElem_toArray, List.getElem_cons_succ, List.getElem_cons_zero, List.setIfInBounds_toArray, List.set_cons_zero, List.set_cons_succ]
          refine wpAnyH_done (by kernel_rfl) ?_ _
          have HU : Hid _ := ⟨hu⟩
          clear hu c1 hS
          go_wp2_with fail
          exact ⟨⟨j + 1, hjl, ⟨by rw [HNx.out]; exact HU.out⟩⟩, by rw [hatJ, HU.out.atOf, hatn]; omega⟩
        · obtain rfl : j = (seqC q).length := by omega
          rw [List.take_of_length_le (Nat.le_refl _)] at HJ
          have d9 := HJ.out.c9
          rw [HFin.out.en] at d9
          have hatF : atOf wr sb = M.at' + (seqR q).length := by rw [HJ.out.atOf]; exact HFin.out.pl
          go_wp2
          have h2 : 1 ≤ (seqR q).length := by unfold seqR; simp
          refine ⟨⟨k + 1, runC (begM M) (seqC q), hlt, ⟨HJ.out, ⟨?_, ?_, HFin.out.en, ?_⟩⟩⟩, ?_⟩
          · rw [HFin.out.pl, HCn.out, List.length_append, hpl]
          · rw [HFin.out.sq, HOu.out.sq]; simp
          · rw [HFin.out.ev, HOu.out.ev, HEn.out]
          · rw [hat0, hatF]; omega
    · obtain rfl : k = l.length := by omega
      rw [List.take_of_length_le (Nat.le_refl _)] at HW
      have hpl : M.at' = len := HW.out.2.pl.trans HLen.out
      have d0 := HW.out.1.c0
      have d1 := HW.out.1.c1
      rw [hpl] at d1
      have hnl : ¬ (len : Int) < (len : Int) := by omega
      go_upto_region 2 with (fail)
      go_quiet (fail)
      have HSq : Hid (SA base V (wr.drewN nq) sb c (.slice (some ⟨g, off, none⟩) len cp) M cap) := ⟨HW.out.1.belw (below_drewN (Below.refl _ _) nq)⟩
      clear d0 d1
      generalize wr.drewN nq = W at *
      have d10 := HSq.out.c10
      have hcl := fun ats ty => run_close_open (P := Try.prog) (w := W) ats ty HSq.out.ch
      go_upto_region 7 with (fail)
      clear hcl d10
      have hXc : ∀ X : World, X = { heap := W.heap.setIfInBounds c (.chan cap (M.evs.map evV).toArray true M.evs.length 0 false), tape := W.tape, drawn := W.drawn, os := W.os, output := W.output } → Fr base W X ∧ Bk X sb 108 (sC (.slice (some ⟨g, off, none⟩) len cp) M c) ∧ X.heap[c]? = some (.chan cap (M.evs.map evV).toArray true M.evs.length 0 false) := by
        intro X hX
        subst hX
        have hcl : c < W.heap.size := (Array.getElem?_eq_some_iff.1 HSq.out.ch).1
        refine ⟨⟨rfl, rfl, rfl, by simp, fun k hk _ hb => ?_⟩, ⟨?_⟩, ?_⟩
        · show (W.heap.setIfInBounds c _)[k]? = _
          rw [Array.getElem?_setIfInBounds_ne (by rw [← HSq.out.cB]; exact Ne.symm hb)]
        · show (W.heap.setIfInBounds c _)[sb]? = _
          rw [Array.getElem?_setIfInBounds_ne (Ne.symm HSq.out.ne)]
          exact HSq.out.bk.hp
        · show (W.heap.setIfInBounds c _)[c]? = _
          simp [hcl]
      generalize hX : ({ heap := W.heap.setIfInBounds c (.chan cap (M.evs.map evV).toArray true M.evs.length 0 false), tape := W.tape, drawn := W.drawn, os := W.os, output := W.output } : World) = X
      obtain ⟨x1, x2, x3⟩ := hXc X hX.symm
      clear hX hXc
      have d9 : X.cell? ⟨sb, 9, none⟩ = some (.bool true) := by
        rw [← HW.out.2.en]; exact x2.cell 9 rfl
      have d10 : X.cell? ⟨sb, 10, none⟩ = some (.chan (some c)) := x2.cell 10 rfl
      have HRn : Hid (Ran base w0 X sb c (.slice (some ⟨g, off, none⟩) len cp) (evsOf l) cap) := ⟨⟨(HFr.out.trans HSq.out.bel).trans x1, d10, ⟨M.evs.length, by rw [← HW.out.2.ev]; exact x3⟩⟩⟩
      clear x1 x2 x3 d10
      go_wp2
      (try rw [Exit.noGoto_ret])
      go_ret
      exact ⟨rfl, HRn.out⟩
end
end Go.Proofs.Ytbhdledlahbokaa
