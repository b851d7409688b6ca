/- P1502: what the program writes, against the document's. -/
import Derived.Test.YtbhdledlahbokaaWWri
namespace Go.Proofs.Ytbhdledlahbokaa
open Go.ChangeShapes Go.WideShapes Go.ChangeAt Go.RowKit Go.Conc
set_option linter.unusedVariables false
set_option linter.unusedSimpArgs false

/-- A name as it is handed in: no longer than memory lets it be. -/
def IsS2 (cs : List Value) (n : Nat) (z : ByteArray) : Prop := cs = [.string z] ∧ z.size ≤ 9223372036854775807
section
variable {H : Type} {enc : TypeId × Value → H} {W : World} {fuel : Nat} {cs : List Value} {dd : DataW H} {p : List MemPlace}
theorem open_S2 (h : DataW.trod enc Try.prog W 0 (fun _ => true) true fuel 9 cs = some (dd, p)) : ∃ z, IsS2 cs (Rows.uptoBulk dd) z := by
  obtain ⟨s, e, _, hs⟩ := DataW.trod_string Try.underlying9 h
  exact ⟨s, e, by unfold maxLen at hs; omega⟩
theorem open_2S {f1 f2 : Nat} {c0 c1 : Value} {d0 d1 : DataW H} {p0 p1 : List MemPlace} (h0 : DataW.trod enc Try.prog W 0 (fun _ => true) true f1 22 [c0] = some (d0, p0)) (h1 : DataW.trod enc Try.prog W 0 (fun _ => true) true f2 23 [c1] = some (d1, p1)) {N : Nat} (b0 : Rows.uptoBulk d0 ≤ N) (b1 : Rows.uptoBulk d1 ≤ N) : ∃ z, IsP W [c0, c1] N z ∧ ∀ s ∈ z.files, s.size ≤ 9223372036854775807 := by
  obtain ⟨fa, fc, files, ef, hn, hl1, hl2, hl3⟩ := open_list Try.underlying22 cellsS (by decide) IsS2 (fun _ _ _ _ h => open_S2 h) (fun _ _ _ _ h _ => h) h0
  obtain ⟨sa, sc, seqs, es, _, kl1, kl2, kl3⟩ := open_list Try.underlying23 cellsQ (by decide) (IsQ W) (fun _ _ _ _ h => open_Q h) (fun _ n m z ⟨a, c, h1, h2, h3, h4⟩ hnm => ⟨a, c, h1, h2, h3, Nat.le_trans h4 hnm⟩) h1
  simp at ef es
  subst ef es
  refine ⟨⟨files, seqs⟩, ⟨fa, fc, sa, sc, rfl, ?_, ?_, hn, fun q hq => ?_, Nat.le_trans hl1 b0, Nat.le_trans kl1 b1⟩, fun s hs => ?_⟩
  · rcases hl3 with h | ⟨b, off, e, h⟩
    · exact .inl h
    · refine .inr ⟨b, off, e, fun i hi => ?_⟩
      obtain ⟨ces, k, hk, _⟩ := h i hi
      have := k 0 (by decide)
      rw [Nat.mul_one, Nat.add_zero, hk] at this
      have hi' : i < files.length := hi
      simpa [hi'] using this
  · rcases kl3 with h | ⟨b, off, e, h⟩
    · exact .inl h
    · refine .inr ⟨b, off, e, fun i hi => ?_⟩
      obtain ⟨ces, k, a, c, rfl, hr, _⟩ := h i hi
      exact ⟨a, c, k 0 (by decide), k 1 (by decide), k 2 (by decide), hr⟩
  · obtain ⟨_, _, _, _, _, hq1, hq2⟩ := kl2 q hq
    exact ⟨hq1, Nat.le_trans hq2 b1⟩
  · obtain ⟨_, _, h⟩ := hl2 s hs
    exact h
end
set_option maxRecDepth 20000 in
/-- One program that is handed in, its names no longer than memory lets them be. -/
theorem open_PgS {H : Type} {enc : TypeId × Value → H} {W : World} {base : Nat} {v : Value} {dd : DataW H} {p : List MemPlace} (hv : Value.okWide Try.prog W .any base 25 v) (h : DataW.Trod enc Try.prog W 0 (fun _ => true) true 25 v dd p) (hk : Rows.uptoBulk dd ≤ 1048576) :
    ∃ fa fc sa sc z, v = .agg #[.slice fa z.files.length fc, .slice sa z.seqs.length sc] ∧ PgIn W fa sa z ∧ (fa = none → fc = 0) ∧ Few z ∧ ∀ s ∈ z.files, s.size ≤ 9223372036854775807 := by
  obtain ⟨v0, v1, y0, y1, n, rfl, rfl, rfl, h0, h1⟩ := Go.Joins.open_agg2 Try.underlying25 (by kernel_rfl) (by kernel_rfl) hv h
  simp only [Rows.uptoBulk, Rows.uptoBulkAll] at hk
  obtain ⟨z, hP, hs⟩ := open_2S (N := 1048576) (show DataW.trod enc Try.prog W 0 (fun _ => true) true _ _ [v0] = some (y0.1, y0.2) from h0) (show DataW.trod enc Try.prog W 0 (fun _ => true) true _ _ [v1] = some (y1.1, y1.2) from h1) (by omega) (by omega)
  have hw := few_of hP (Nat.le_refl _)
  obtain ⟨fa, fc, sa, sc, e, h2, h3, h4, h5, _⟩ := hP
  simp at e
  obtain ⟨rfl, rfl⟩ := e
  exact ⟨fa, fc, sa, sc, z, rfl, hw.pg h2 h3, h4, hw, hs⟩

theorem sizePgR : (Try.prog.info? 25).map (·.size) = some 2 := by kernel_rfl
theorem sizePgL : (Try.prog.info? 28).map (·.size) = some 2 := by kernel_rfl
theorem Bk.loadPgR {w : World} {g : Nat} {cs : Array Value} (h : Bk w g 25 cs) (hs : cs.size = 2) : (loadVar 25 ⟨g, 0, none⟩).run Try.prog w = .ok (.agg cs) w :=
  run_loadVar_row (P := Try.prog) w g 25 25 cs (0, 0) _ h.hp Try.underlying25 rfl (by rw [sizePgR, hs])
theorem Bk.loadPgL {w : World} {g : Nat} {cs : Array Value} (h : Bk w g 28 cs) (hs : cs.size = 2) : (loadVar 28 ⟨g, 0, none⟩).run Try.prog w = .ok (.agg cs) w :=
  run_loadVar_row (P := Try.prog) w g 28 28 cs (0, 0) _ h.hp Try.underlying28 rfl (by rw [sizePgL, hs])
theorem exec_eqI {w : World} {a : Act} {o : Oper} {x y : Operand} {n : Int} (ho : o.op = .binOp .eql 3 x y 3) (hx : a.eval x = .int .i64 n) (hy : a.eval y = .int .i64 n) : (execOp a.eval o).run Try.prog w = .ok (.value (.bool true)) w := by
  unfold execOp
  simp only [ho, hx, hy]
  simp [go_sem, binOp]
theorem exec_eqS {w : World} {a : Act} {o : Oper} {x y : Operand} {s : ByteArray} (ho : o.op = .binOp .eql 9 x y 9) (hx : a.eval x = .string s) (hy : a.eval y = .string s) : (execOp a.eval o).run Try.prog w = .ok (.value (.bool true)) w := by
  unfold execOp
  simp only [ho, hx, hy]
  simp [go_sem, binOp, Op.stringOp]
theorem exec_str {w : World} {a : Act} {o : Oper} {x : Operand} {v : Value} {xs : List Int} (ho : o.op = .convert 30 9 x) (hx : a.eval x = v) (h : Bt w v xs) : (execOp a.eval o).run Try.prog w = .ok (.value (.string (strOfNums xs))) w := by
  unfold execOp
  simp only [ho, hx]
  simp [go_sem, h.conv]

/-- All that the law's last row reads. -/
structure S4 (b1 : Nat) (c1 : Array Value) (b3 : Nat) (c3 : Array Value) (x5 : Nat) (v5 : Value) (x8 : Nat) (v8 : Value) (X : List Int) (a5 a8 : Option Addr) (Y : List Int) (fa sa na ta : Option Addr) (p : Pg) (u : World) : Prop where
  k1 : Bk u b1 25 c1
  k3 : Bk u b3 28 c3
  o5 : Own u x5 v5 X
  o8 : Own u x8 v8 X
  i5 : IntsAt u a5 Y
  i8 : IntsAt u a8 Y
  pg : PgIn u fa sa p
  px : PgIn u na ta p
section
variable {b1 b3 x5 x8 : Nat} {c1 c3 : Array Value} {v5 v8 : Value} {X Y : List Int} {a5 a8 fa sa na ta : Option Addr} {p : Pg} {u u' : World}
theorem S4.bel (h : S4 b1 c1 b3 c3 x5 v5 x8 v8 X a5 a8 Y fa sa na ta p u) (hb : Below u.heap.size u u') : S4 b1 c1 b3 c3 x5 v5 x8 v8 X a5 a8 Y fa sa na ta p u' :=
  ⟨h.k1.bel hb h.k1.lt, h.k3.bel hb h.k3.lt, h.o5.bel hb, h.o8.bel hb, h.i5.bel hb, h.i8.bel hb, h.pg.bel hb, h.px.bel hb⟩
end
theorem wriA_few {p : Pg} (h : Few p) : (wriA p).length ≤ 1048576 := by
  unfold wriA
  split
  · rw [atsF_len]; exact h.s
  · simp

set_option maxRecDepth 40000 in
set_option maxHeartbeats 16000000 in
theorem linesWrites_walk (fa : Option Addr) (fc : Nat) (sa : Option Addr) (sc : Nat) (p : Pg) (w : World) (h : PgIn w fa sa p ∧ (fa = none → fc = 0) ∧ Few p ∧ ∀ s ∈ p.files, s.size ≤ 9223372036854775807) :
    Calls Try.prog 3 #[.agg #[.slice fa p.files.length fc, .slice sa p.seqs.length sc]] w fun e w' => e = .returned (.bool true) ∧ Below w.heap.size w w' := by
  obtain ⟨h1, n1, f1, hb⟩ := h
  have HP : Hid _ := ⟨h1⟩
  have HB0 : Hid (Below w.heap.size w (w.alloc (.cells #[.slice fa p.files.length fc, .slice sa p.seqs.length sc] 25))) := ⟨(Below.refl _ _).alloc (Nat.le_refl _) _⟩
  have HK0 : Hid _ := ⟨Bk.new w #[.slice fa p.files.length fc, .slice sa p.seqs.length sc] 25⟩
  have HO : Hid (∀ W, Below w.heap.size w W → Calls Try.prog 7 #[.agg #[.slice fa p.files.length fc, .slice sa p.seqs.length sc]] W fun e w' => Made W e p w') := ⟨fun W hW => own_pg p fa sa fc sc W (h1.bel hW) n1 f1⟩
  have HWr : Hid (∀ W a b c d, PgIn W a c p → Calls Try.prog 8 #[.agg #[.slice a p.files.length b, .slice c p.seqs.length d]] W (WrEnd p W)) := ⟨fun W a b c d h => write_any a c b d p W h⟩
  have HRr : Hid (∀ W, Below w.heap.size w W → Calls Try.prog 9 #[.agg #[.slice fa p.files.length fc, .slice sa p.seqs.length sc]] W (WrEnd p W)) := ⟨fun W hW => rwrite_any fa sa fc sc p W (h1.bel hW) f1 hb⟩
  have HCk : Hid (∀ W a b c d, PgIn W a c p → Calls Try.prog 12 #[.agg #[.slice a p.files.length b, .slice c p.seqs.length d]] W fun e w' => e = .returned (.int .i64 (checkE p)) ∧ Below W.heap.size W w') := ⟨fun W a b c d h => check_any a c b d p W h⟩
  have HRc : Hid (∀ W a b c d, PgIn W a c p → Calls Try.prog 13 #[.agg #[.slice a p.files.length b, .slice c p.seqs.length d]] W fun e w' => e = .returned (.int .i64 (checkE p)) ∧ Below W.heap.size W w') := ⟨fun W a b c d h => rcheck_any a c b d p W h f1 hb⟩
  have HSm : Hid (∀ W a b c d a' b' c' d', PgIn W a c p → PgIn W a' c' p → Calls Try.prog 14 #[.agg #[.slice a p.files.length b, .slice c p.seqs.length d], .agg #[.slice a' p.files.length b', .slice c' p.seqs.length d']] W fun e w' => e = .returned (.bool true) ∧ Below W.heap.size W w') := ⟨fun W a b c d a' b' c' d' h h' => same_any p a c a' c' b d b' d' W h h'⟩
  have HIn : Hid ((wriA p).length ≤ 1048576) := ⟨wriA_few f1⟩
  clear h1 n1 f1 hb
  unfold Made at HO
  unfold WrEnd at HWr HRr
  generalize wriE p = E at *
  generalize wriB p = X at *
  generalize wriA p = Y at *
  generalize checkE p = C at *
  have a0 := HK0.out.cell 0 rfl
  have a1 := HK0.out.cell 1 rfl
  go_enter Try.func3, Try.ntmps3
  go_upto_region 2 with (go_at_call 7; (with_reducible refine (HO.out _ HB0.out).mono ?_); rintro e w1 ⟨na, nc, ta, tc, he, hp, hb⟩; subst he; have H1 : Hid _ := ⟨hp⟩; have B1 : Hid _ := ⟨hb⟩; clear hp hb)
  have B1a : Hid (Below w1.heap.size w1 (w1.alloc (.cells #[.slice na p.files.length nc, .slice ta p.seqs.length tc] 28))) := ⟨(Below.refl _ _).alloc (Nat.le_refl _) _⟩
  have K3 : Hid _ := ⟨Bk.new w1 #[.slice na p.files.length nc, .slice ta p.seqs.length tc] 28⟩
  have K1 : Hid _ := ⟨(HK0.out.bel B1.out HK0.out.lt).bel B1a.out (HK0.out.bel B1.out HK0.out.lt).lt⟩
  have P1 : Hid _ := ⟨H1.out.bel B1a.out⟩
  have BB : Hid (Below w.heap.size w (w1.alloc (.cells #[.slice na p.files.length nc, .slice ta p.seqs.length tc] 28))) := ⟨(HB0.out.trans (B1.out.mono HB0.out.size)).trans (B1a.out.mono (HB0.out.trans (B1.out.mono HB0.out.size)).size)⟩
  clear a0 a1 HK0 HB0 B1 B1a H1 HO
  generalize w1.alloc (.cells #[.slice na p.files.length nc, .slice ta p.seqs.length tc] 28) = V1 at *
  generalize w1.heap.size = b3 at *
  have c0 := K3.out.cell 0 rfl
  have c1 := K3.out.cell 1 rfl
  go_upto_region 3 with (go_at_call 8; (with_reducible refine (HWr.out _ _ _ _ _ P1.out).mono ?_); rintro e w2 ⟨v5, va5, he, ho, hi, hb⟩; subst he; have O5 : Hid _ := ⟨ho⟩; have I5 : Hid _ := ⟨hi⟩; have B2 : Hid _ := ⟨hb⟩; clear ho hi hb)
  clear c0 c1
  have BB2 : Hid (Below w.heap.size w w2) := ⟨BB.out.trans (B2.out.mono BB.out.size)⟩
  have K3b : Hid _ := ⟨K3.out.bel B2.out K3.out.lt⟩
  have K1b : Hid _ := ⟨K1.out.bel B2.out K1.out.lt⟩
  have P2 : Hid _ := ⟨P1.out.bel B2.out⟩
  obtain ⟨aa5, ac5, hv5⟩ := I5.out.sl
  subst hv5
  clear K3 K1 P1 B2 BB HWr
  have a0 := K1b.out.cell 0 rfl
  have a1 := K1b.out.cell 1 rfl
  go_upto_region 4 with (go_at_call 9; (with_reducible refine (HRr.out _ BB2.out).mono ?_); rintro e w3 ⟨v8, va8, he, ho, hi, hb⟩; subst he; have O8 : Hid _ := ⟨ho⟩; have I8 : Hid _ := ⟨hi⟩; have B3 : Hid _ := ⟨hb⟩; clear ho hi hb)
  clear a0 a1
  obtain ⟨aa8, ac8, hv8⟩ := I8.out.sl
  subst hv8
  have BB3 : Hid (Below w.heap.size w w3) := ⟨BB2.out.trans (B3.out.mono BB2.out.size)⟩
  have HS : Hid (S4 w.heap.size #[.slice fa p.files.length fc, .slice sa p.seqs.length sc] b3 #[.slice na p.files.length nc, .slice ta p.seqs.length tc] _ v5 _ v8 X aa5 aa8 Y fa sa na ta p w3) := ⟨⟨K1b.out.bel B3.out K1b.out.lt, K3b.out.bel B3.out K3b.out.lt, O5.out.bel B3.out, O8.out, I5.out.ints.bel B3.out, I8.out.ints, HP.out.bel BB3.out, P2.out.bel B3.out⟩⟩
  have HD : Hid _ := ⟨HS.out.bel ((Below.refl _ w3).drew)⟩
  have BBd : Hid (Below w.heap.size w w3.drew) := ⟨BB3.out.trans ((Below.refl _ w3).drew.mono BB3.out.size)⟩
  clear HS BB3 B3 O8 I8 O5 I5 K1b K3b P2 BB2
  refine wp_region_held_drew (by kernel_rfl) HD.out (fun hS => ?_)
  generalize w3.drew = W at *
  refine wpAnyH_take (i := 0) (v := v5) rfl (by kernel_rfl) (by kernel_rfl) (by kernel_rfl) (fun _ _ _ h => h) (Or.inl ⟨by kernel_rfl, fun u hu => by kernel_rfl⟩) hS ?_
  simp only [Act.put, List.getElem_toArray, List.getElem_cons_succ, List.getElem_cons_zero, List.setIfInBounds_toArray, List.set_cons_zero, List.set_cons_succ]
  refine wpAnyH_take (i := 1) (v := .string (strOfNums X)) rfl (by kernel_rfl) (by kernel_rfl) (by kernel_rfl) (fun _ _ _ h => h) (Or.inl ⟨by kernel_rfl, fun u hu => exec_str rfl (by kernel_rfl) hu.o5.bt⟩) hS ?_
  simp only [Act.put, List.getElem_toArray, List.getElem_cons_succ, List.getElem_cons_zero, List.setIfInBounds_toArray, List.set_cons_zero, List.set_cons_succ]
  refine wpAnyH_take (i := 2) (v := v8) rfl (by kernel_rfl) (by kernel_rfl) (by kernel_rfl) (fun _ _ _ h => h) (Or.inl ⟨by kernel_rfl, fun u hu => by kernel_rfl⟩) hS ?_
  simp only [Act.put, List.getElem_toArray, List.getElem_cons_succ, List.getElem_cons_zero, List.setIfInBounds_toArray, List.set_cons_zero, List.set_cons_succ]
  refine wpAnyH_take (i := 3) (v := .string (strOfNums X)) rfl (by kernel_rfl) (by kernel_rfl) (by kernel_rfl) (fun _ _ _ h => h) (Or.inl ⟨by kernel_rfl, fun u hu => exec_str rfl (by kernel_rfl) hu.o8.bt⟩) hS ?_
  simp only [Act.put, List.getElem_toArray, List.getElem_cons_succ, List.getElem_cons_zero, List.setIfInBounds_toArray, List.set_cons_zero, List.set_cons_succ]
  refine wpAnyH_take (i := 4) (v := .bool true) rfl (by kernel_rfl) (by kernel_rfl) (by kernel_rfl) (fun _ _ _ h => h) (Or.inl ⟨by kernel_rfl, fun u hu => exec_eqS (s := strOfNums X) rfl (by kernel_rfl) (by kernel_rfl)⟩) hS ?_
  simp only [Act.put, List.getElem_toArray, List.getElem_cons_succ, List.getElem_cons_zero, List.setIfInBounds_toArray, List.set_cons_zero, List.set_cons_succ]
  refine wpAnyH_take (i := 5) (v := .bool true) rfl (by kernel_rfl) (by kernel_rfl) (by kernel_rfl) (fun _ _ _ h => h) (Or.inl ⟨by kernel_rfl, fun u hu => by kernel_rfl⟩) hS ?_
  simp only [Act.put, List.getElem_toArray, List.getElem_cons_succ, List.getElem_cons_zero, List.setIfInBounds_toArray, List.set_cons_zero, List.set_cons_succ]
  refine wpAnyH_take (i := 6) (v := .slice aa5 Y.length ac5) rfl (by kernel_rfl) (by kernel_rfl) (by kernel_rfl) (fun _ _ _ h => h) (Or.inl ⟨by kernel_rfl, fun u hu => by kernel_rfl⟩) hS ?_
  simp only [Act.put, List.getElem_toArray, List.getElem_cons_succ, List.getElem_cons_zero, List.setIfInBounds_toArray, List.set_cons_zero, List.set_cons_succ]
  refine wpAnyH_take (i := 7) (v := .slice aa8 Y.length ac8) rfl (by kernel_rfl) (by kernel_rfl) (by kernel_rfl) (fun _ _ _ h => h) (Or.inl ⟨by kernel_rfl, fun u hu => by kernel_rfl⟩) hS ?_
  simp only [Act.put, List.getElem_toArray, List.getElem_cons_succ, List.getElem_cons_zero, List.setIfInBounds_toArray, List.set_cons_zero, List.set_cons_succ]
  refine wpAnyH_ready (rs := [8]) (by kernel_rfl) (by simp) ?_
  refine AllReadyH.cons rfl (fun K hK => ?_) AllReadyH.nil
  simp only [List.getElem_toArray, List.getElem_cons_succ, List.getElem_cons_zero]
  refine wp_if (by kernel_rfl) ?_
  refine wp_enter (f := 10) (args := #[.slice aa5 Y.length ac5, .slice aa8 Y.length ac8]) (by kernel_rfl) (sameInts_any Y HIn.out aa5 aa8 ac5 ac8 W HD.out.i5 HD.out.i8) ?_
  rintro e u1 ⟨he, hb1⟩
  subst he
  refine ⟨_, rfl, ?_⟩
  have D1 : Hid _ := ⟨HD.out.bel hb1⟩
  have F1 : Hid (Below w.heap.size w u1) := ⟨BBd.out.trans (hb1.mono BBd.out.size)⟩
  clear hb1
  refine hK.out _ _ D1.out (fun hS => ?_)
  clear hK
  simp only [Act.put, List.getElem_toArray, List.getElem_cons_succ, List.getElem_cons_zero, List.setIfInBounds_toArray, List.set_cons_zero, List.set_cons_succ]
  refine wpAnyH_take (i := 9) (v := .bool true) rfl (by kernel_rfl) (by kernel_rfl) (by kernel_rfl) (fun _ _ _ h => h) (Or.inl ⟨by kernel_rfl, fun u hu => by kernel_rfl⟩) hS ?_
  simp only [Act.put, List.getElem_toArray, List.getElem_cons_succ, List.getElem_cons_zero, List.setIfInBounds_toArray, List.set_cons_zero, List.set_cons_succ]
  refine wpAnyH_take (i := 10) (v := .bool true) rfl (by kernel_rfl) (by kernel_rfl) (by kernel_rfl) (fun _ _ _ h => h) (Or.inl ⟨by kernel_rfl, fun u hu => by kernel_rfl⟩) hS ?_
  simp only [Act.put, List.getElem_toArray, List.getElem_cons_succ, List.getElem_cons_zero, List.setIfInBounds_toArray, List.set_cons_zero, List.set_cons_succ]
  refine wpAnyH_take (i := 11) (v := .int .i64 E) rfl (by kernel_rfl) (by kernel_rfl) (by kernel_rfl) (fun _ _ _ h => h) (Or.inl ⟨by kernel_rfl, fun u hu => by kernel_rfl⟩) hS ?_
  simp only [Act.put, List.getElem_toArray, List.getElem_cons_succ, List.getElem_cons_zero, List.setIfInBounds_toArray, List.set_cons_zero, List.set_cons_succ]
  refine wpAnyH_take (i := 13) (v := .int .i64 E) rfl (by kernel_rfl) (by kernel_rfl) (by kernel_rfl) (fun _ _ _ h => h) (Or.inl ⟨by kernel_rfl, fun u hu => by kernel_rfl⟩) hS ?_
  simp only [Act.put, List.getElem_toArray, List.getElem_cons_succ, List.getElem_cons_zero, List.setIfInBounds_toArray, List.set_cons_zero, List.set_cons_succ]
  refine wpAnyH_ready (rs := [12]) (by kernel_rfl) (by simp) ?_
  refine AllReadyH.cons rfl (fun K hK => ?_) AllReadyH.nil
  simp only [List.getElem_toArray, List.getElem_cons_succ, List.getElem_cons_zero]
  refine wp_if (by kernel_rfl) ?_
  refine wp_enter (f := 11) (args := #[.int .i64 E]) (by kernel_rfl) (num_any _ _) ?_
  rintro e wn ⟨he, hwn⟩
  subst he
  subst wn
  refine ⟨_, rfl, ?_⟩
  refine hK.out _ _ D1.out (fun hS => ?_)
  clear hK
  simp only [Act.put, List.getElem_toArray, List.getElem_cons_succ, List.getElem_cons_zero, List.setIfInBounds_toArray, List.set_cons_zero, List.set_cons_succ]
  refine wpAnyH_take (i := 14) (v := .bool true) rfl (by kernel_rfl) (by kernel_rfl) (by kernel_rfl) (fun _ _ _ h => h) (Or.inl ⟨by kernel_rfl, fun u hu => exec_eqI (n := E) rfl (by kernel_rfl) (by kernel_rfl)⟩) hS ?_
  simp only [Act.put, List.getElem_toArray, List.getElem_cons_succ, List.getElem_cons_zero, List.setIfInBounds_toArray, List.set_cons_zero, List.set_cons_succ]
  refine wpAnyH_take (i := 15) (v := .bool true) rfl (by kernel_rfl) (by kernel_rfl) (by kernel_rfl) (fun _ _ _ h => h) (Or.inl ⟨by kernel_rfl, fun u hu => by kernel_rfl⟩) hS ?_
  simp only [Act.put, List.getElem_toArray, List.getElem_cons_succ, List.getElem_cons_zero, List.setIfInBounds_toArray, List.set_cons_zero, List.set_cons_succ]
  refine wpAnyH_take (i := 16) (v := .bool true) rfl (by kernel_rfl) (by kernel_rfl) (by kernel_rfl) (fun _ _ _ h => h) (Or.inl ⟨by kernel_rfl, fun u hu => by kernel_rfl⟩) hS ?_
  simp only [Act.put, List.getElem_toArray, List.getElem_cons_succ, List.getElem_cons_zero, List.setIfInBounds_toArray, List.set_cons_zero, List.set_cons_succ]
  refine wpAnyH_take (i := 17) (v := .agg #[.slice na p.files.length nc, .slice ta p.seqs.length tc]) rfl (by kernel_rfl) (by kernel_rfl) (by kernel_rfl) (fun _ _ _ h => h) (Or.inl ⟨by kernel_rfl, fun u hu => exec_loadV (t := 28) (p := ⟨b3, 0, none⟩) rfl (by kernel_rfl) (hu.k3.loadPgL rfl)⟩) hS ?_
  simp only [Act.put, List.getElem_toArray, List.getElem_cons_succ, List.getElem_cons_zero, List.setIfInBounds_toArray, List.set_cons_zero, List.set_cons_succ]
  refine wpAnyH_take (i := 20) (v := .agg #[.slice fa p.files.length fc, .slice sa p.seqs.length sc]) rfl (by kernel_rfl) (by kernel_rfl) (by kernel_rfl) (fun _ _ _ h => h) (Or.inl ⟨by kernel_rfl, fun u hu => exec_loadV (t := 25) (p := ⟨w.heap.size, 0, none⟩) rfl (by kernel_rfl) (hu.k1.loadPgR rfl)⟩) hS ?_
  simp only [Act.put, List.getElem_toArray, List.getElem_cons_succ, List.getElem_cons_zero, List.setIfInBounds_toArray, List.set_cons_zero, List.set_cons_succ]
  refine wpAnyH_ready (rs := [18]) (by kernel_rfl) (by simp) ?_
  refine AllReadyH.cons rfl (fun K hK => ?_) AllReadyH.nil
  simp only [List.getElem_toArray, List.getElem_cons_succ, List.getElem_cons_zero]
  refine wp_if (by kernel_rfl) ?_
  refine wp_enter (f := 12) (args := #[.agg #[.slice na p.files.length nc, .slice ta p.seqs.length tc]]) (by kernel_rfl) (HCk.out u1 na nc ta tc D1.out.px) ?_
  rintro e u2 ⟨he, hb2⟩
  subst he
  refine ⟨_, rfl, ?_⟩
  have D2 : Hid _ := ⟨D1.out.bel hb2⟩
  have F2 : Hid (Below w.heap.size w u2) := ⟨F1.out.trans (hb2.mono F1.out.size)⟩
  clear hb2
  refine hK.out _ _ D2.out (fun hS => ?_)
  clear hK
  simp only [Act.put, List.getElem_toArray, List.getElem_cons_succ, List.getElem_cons_zero, List.setIfInBounds_toArray, List.set_cons_zero, List.set_cons_succ]
  refine wpAnyH_ready (rs := [19]) (by kernel_rfl) (by simp) ?_
  refine AllReadyH.cons rfl (fun K hK => ?_) AllReadyH.nil
  simp only [List.getElem_toArray, List.getElem_cons_succ, List.getElem_cons_zero]
  refine wp_if (by kernel_rfl) ?_
  refine wp_enter (f := 11) (args := #[.int .i64 C]) (by kernel_rfl) (num_any _ _) ?_
  rintro e wn ⟨he, hwn⟩
  subst he
  subst wn
  refine ⟨_, rfl, ?_⟩
  refine hK.out _ _ D2.out (fun hS => ?_)
  clear hK
  simp only [Act.put, List.getElem_toArray, List.getElem_cons_succ, List.getElem_cons_zero, List.setIfInBounds_toArray, List.set_cons_zero, List.set_cons_succ]
  refine wpAnyH_ready (rs := [21]) (by kernel_rfl) (by simp) ?_
  refine AllReadyH.cons rfl (fun K hK => ?_) AllReadyH.nil
  simp only [List.getElem_toArray, List.getElem_cons_succ, List.getElem_cons_zero]
  refine wp_if (by kernel_rfl) ?_
  refine wp_enter (f := 13) (args := #[.agg #[.slice fa p.files.length fc, .slice sa p.seqs.length sc]]) (by kernel_rfl) (HRc.out u2 fa fc sa sc D2.out.pg) ?_
  rintro e u3 ⟨he, hb3⟩
  subst he
  refine ⟨_, rfl, ?_⟩
  have D3 : Hid _ := ⟨D2.out.bel hb3⟩
  have F3 : Hid (Below w.heap.size w u3) := ⟨F2.out.trans (hb3.mono F2.out.size)⟩
  clear hb3
  refine hK.out _ _ D3.out (fun hS => ?_)
  clear hK
  simp only [Act.put, List.getElem_toArray, List.getElem_cons_succ, List.getElem_cons_zero, List.setIfInBounds_toArray, List.set_cons_zero, List.set_cons_succ]
  refine wpAnyH_take (i := 22) (v := .bool true) rfl (by kernel_rfl) (by kernel_rfl) (by kernel_rfl) (fun _ _ _ h => h) (Or.inl ⟨by kernel_rfl, fun u hu => exec_eqI (n := C) rfl (by kernel_rfl) (by kernel_rfl)⟩) hS ?_
  simp only [Act.put, List.getElem_toArray, List.getElem_cons_succ, List.getElem_cons_zero, List.setIfInBounds_toArray, List.set_cons_zero, List.set_cons_succ]
  refine wpAnyH_take (i := 23) (v := .bool true) rfl (by kernel_rfl) (by kernel_rfl) (by kernel_rfl) (fun _ _ _ h => h) (Or.inl ⟨by kernel_rfl, fun u hu => by kernel_rfl⟩) hS ?_
  simp only [Act.put, List.getElem_toArray, List.getElem_cons_succ, List.getElem_cons_zero, List.setIfInBounds_toArray, List.set_cons_zero, List.set_cons_succ]
  refine wpAnyH_take (i := 24) (v := .bool true) rfl (by kernel_rfl) (by kernel_rfl) (by kernel_rfl) (fun _ _ _ h => h) (Or.inl ⟨by kernel_rfl, fun u hu => by kernel_rfl⟩) hS ?_
  simp only [Act.put, List.getElem_toArray, List.getElem_cons_succ, List.getElem_cons_zero, List.setIfInBounds_toArray, List.set_cons_zero, List.set_cons_succ]
  refine wpAnyH_take (i := 25) (v := .agg #[.slice na p.files.length nc, .slice ta p.seqs.length tc]) rfl (by kernel_rfl) (by kernel_rfl) (by kernel_rfl) (fun _ _ _ h => h) (Or.inl ⟨by kernel_rfl, fun u hu => exec_loadV (t := 28) (p := ⟨b3, 0, none⟩) rfl (by kernel_rfl) (hu.k3.loadPgL rfl)⟩) hS ?_
  simp only [Act.put, List.getElem_toArray, List.getElem_cons_succ, List.getElem_cons_zero, List.setIfInBounds_toArray, List.set_cons_zero, List.set_cons_succ]
  refine wpAnyH_take (i := 26) (v := .agg #[.slice fa p.files.length fc, .slice sa p.seqs.length sc]) rfl (by kernel_rfl) (by kernel_rfl) (by kernel_rfl) (fun _ _ _ h => h) (Or.inl ⟨by kernel_rfl, fun u hu => exec_loadV (t := 25) (p := ⟨w.heap.size, 0, none⟩) rfl (by kernel_rfl) (hu.k1.loadPgR rfl)⟩) hS ?_
  simp only [Act.put, List.getElem_toArray, List.getElem_cons_succ, List.getElem_cons_zero, List.setIfInBounds_toArray, List.set_cons_zero, List.set_cons_succ]
  refine wpAnyH_ready (rs := [27]) (by kernel_rfl) (by simp) ?_
  refine AllReadyH.cons rfl (fun K hK => ?_) AllReadyH.nil
  simp only [List.getElem_toArray, List.getElem_cons_succ, List.getElem_cons_zero]
  refine wp_if (by kernel_rfl) ?_
  refine wp_enter (f := 14) (args := #[.agg #[.slice na p.files.length nc, .slice ta p.seqs.length tc], .agg #[.slice fa p.files.length fc, .slice sa p.seqs.length sc]]) (by kernel_rfl) (HSm.out u3 na nc ta tc fa fc sa sc D3.out.px D3.out.pg) ?_
  rintro e u4 ⟨he, hb4⟩
  subst he
  refine ⟨_, rfl, ?_⟩
  have D4 : Hid _ := ⟨D3.out.bel hb4⟩
  have F4 : Hid (Below w.heap.size w u4) := ⟨F3.out.trans (hb4.mono F3.out.size)⟩
  clear hb4
  refine hK.out _ _ D4.out (fun hS => ?_)
  clear hK
  simp only [Act.put, List.getElem_toArray, List.getElem_cons_succ, List.getElem_cons_zero, List.setIfInBounds_toArray, List.set_cons_zero, List.set_cons_succ]
  refine wpAnyH_take (i := 28) (v := .bool true) rfl (by kernel_rfl) (by kernel_rfl) (by kernel_rfl) (fun _ _ _ h => h) (Or.inl ⟨by kernel_rfl, fun u hu => by kernel_rfl⟩) hS ?_
  simp only [Act.put, List.getElem_toArray, List.getElem_cons_succ, List.getElem_cons_zero, List.setIfInBounds_toArray, List.set_cons_zero, List.set_cons_succ]
  refine wpAnyH_take (i := 29) (v := .bool true) rfl (by kernel_rfl) (by kernel_rfl) (by kernel_rfl) (fun _ _ _ h => h) (Or.inl ⟨by kernel_rfl, fun u hu => by kernel_rfl⟩) hS ?_
  simp only [Act.put, List.getElem_toArray, List.getElem_cons_succ, List.getElem_cons_zero, List.setIfInBounds_toArray, List.set_cons_zero, List.set_cons_succ]
  refine wpAnyH_ready (rs := [30]) (by kernel_rfl) (by simp) ?_
  refine AllReadyH.cons rfl (fun K hK => ?_) AllReadyH.nil
  simp only [List.getElem_toArray, List.getElem_cons_succ, List.getElem_cons_zero]
  refine wp_if (by kernel_rfl) ?_
  refine wp_enter (f := 15) (args := #[]) (by kernel_rfl) (knows_any u4) ?_
  rintro e u5 ⟨he, hb5⟩
  subst he
  refine ⟨_, rfl, ?_⟩
  have D5 : Hid _ := ⟨D4.out.bel hb5⟩
  have F5 : Hid (Below w.heap.size w u5) := ⟨F4.out.trans (hb5.mono F4.out.size)⟩
  clear hb5
  refine hK.out _ _ D5.out (fun hS => ?_)
  clear hK
  simp only [Act.put, List.getElem_toArray, List.getElem_cons_succ, List.getElem_cons_zero, List.setIfInBounds_toArray, List.set_cons_zero, List.set_cons_succ]
  refine wpAnyH_take (i := 31) (v := .bool true) rfl (by kernel_rfl) (by kernel_rfl) (by kernel_rfl) (fun _ _ _ h => h) (Or.inl ⟨by kernel_rfl, fun u hu => by kernel_rfl⟩) hS ?_
  simp only [Act.put, List.getElem_toArray, List.getElem_cons_succ, List.getElem_cons_zero, List.setIfInBounds_toArray, List.set_cons_zero, List.set_cons_succ]
  refine wpAnyH_take (i := 32) (v := .bool true) rfl (by kernel_rfl) (by kernel_rfl) (by kernel_rfl) (fun _ _ _ h => h) (Or.inl ⟨by kernel_rfl, fun u hu => by kernel_rfl⟩) hS ?_
  simp only [Act.put, List.getElem_toArray, List.getElem_cons_succ, List.getElem_cons_zero, List.setIfInBounds_toArray, List.set_cons_zero, List.set_cons_succ]
  refine wpAnyH_done (by kernel_rfl) ?_ _
  clear hS
  go_wp2
  go_ret
  exact ⟨rfl, F5.out⟩
end Go.Proofs.Ytbhdledlahbokaa
