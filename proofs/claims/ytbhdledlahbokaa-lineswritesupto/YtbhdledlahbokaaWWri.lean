/- The document's Write. -/
import Derived.Test.YtbhdledlahbokaaWOne
namespace Go.Proofs.Ytbhdledlahbokaa
open Go.ChangeShapes Go.WideShapes Go.ChangeAt Go.RowKit Go.Conc
set_option linter.unusedVariables false
set_option linter.unusedSimpArgs false

/-- Bytes and places of the call's own. -/
structure WW (w wr : World) (u v : Value) (X Y : List Int) : Prop where
  b : Own wr w.heap.size u X
  a : OwnI wr w.heap.size v Y
  bel : Below w.heap.size w wr
section
variable {w wr wr' : World} {u v u' v' : Value} {X Y X' Y' : List Int}
theorem WW.post (h : WW w wr u v X Y) (hb : Below wr.heap.size wr wr') : WW w wr' u v X Y := ⟨h.b.bel hb, h.a.bel hb, h.bel.trans (hb.mono h.bel.size)⟩
theorem WW.app (h : WW w wr u v X Y) (hA : AE w.heap.size wr u wr' u' X') : WW w wr' u' v X' Y := ⟨hA.own, h.a.far hA.gr (fun j hj e => h.a.not_own h.b j hj e), h.bel.trans (hA.bel h.b h.bel.size)⟩
theorem WW.num (h : WW w wr u v X Y) (ho : OwnI wr' w.heap.size v' Y') (hg : wr.grownBy wr' v.ownBlock) : WW w wr' u v' X Y' := ⟨h.b.farL hg (fun k hk e => h.a.not_own h.b k e hk), ho, h.bel.trans ((Below.refl _ wr).grown hg h.bel.size (own_block h.a))⟩
theorem WW.keepB {k t : Nat} {cs : Array Value} (h : WW w wr u v X Y) (hA : AE w.heap.size wr u wr' u' X') (hB : Bk wr k t cs) (ht : t ≠ 5) : Bk wr' k t cs := hA.keep h.b hB ht
theorem WW.keepI {k t : Nat} {cs : Array Value} (h : WW w wr u v X Y) (hg : wr.grownBy wr' v.ownBlock) (hB : Bk wr k t cs) (ht : t ≠ 3) : Bk wr' k t cs := hB.of (hg.block _ hB.lt (fun e => h.a.not_bk hB ht e.symm))
theorem WW.set {k t : Nat} {cs : Array Value} (h : WW w wr u v X Y) (hB : Bk wr k t cs) (h5 : t ≠ 5) (h3 : t ≠ 3) (hk : w.heap.size ≤ k) (V : Array Value) : WW w (wr.setRow k V) u v X Y :=
  ⟨h.b.farL (grown_set _ _ _) (fun j hj e => by injection e with e; subst e; exact h.b.not_bk hB h5 hj), h.a.far (grown_set _ _ _) (fun j hj e => by injection e with e; subst e; exact h.a.not_bk hB h3 hj), h.bel.trans (bel_grownL (grown_set _ _ _) (fun j hj => by injection hj with hj; omega) h.bel.size)⟩
end
/-- A sequence and the state lie in blocks. -/
structure S2 (b1 : Nat) (c1 : Array Value) (b9 : Nat) (c9 : Array Value) (b10 : Nat) (c10 : Array Value) (u : World) : Prop where
  k1 : Bk u b1 25 c1
  k9 : Bk u b9 67 c9
  k10 : Bk u b10 50 c10
structure S3 (b1 : Nat) (c1 : Array Value) (b9 : Nat) (c9 : Array Value) (b10 : Nat) (c10 : Array Value) (b o : Nat) (x : Lr) (u : World) : Prop where
  k1 : Bk u b1 25 c1
  k9 : Bk u b9 67 c9
  k10 : Bk u b10 50 c10
  r : LrAt u b o x
section
variable {b1 b9 b10 b o : Nat} {c1 c9 c10 : Array Value} {x : Lr} {u u' : World}
theorem S2.bel (h : S2 b1 c1 b9 c9 b10 c10 u) (hb : Below u.heap.size u u') : S2 b1 c1 b9 c9 b10 c10 u' := ⟨h.k1.bel hb h.k1.lt, h.k9.bel hb h.k9.lt, h.k10.bel hb h.k10.lt⟩
theorem S2.keepA {base : Nat} {v v' : Value} {X Y : List Int} (h : S2 b1 c1 b9 c9 b10 c10 u) (hA : AE base u v u' v' Y) (ho : Own u base v X) : S2 b1 c1 b9 c9 b10 c10 u' := ⟨hA.keep ho h.k1 (by decide), hA.keep ho h.k9 (by decide), hA.keep ho h.k10 (by decide)⟩
theorem S3.bel (h : S3 b1 c1 b9 c9 b10 c10 b o x u) (hb : Below u.heap.size u u') : S3 b1 c1 b9 c9 b10 c10 b o x u' := ⟨h.k1.bel hb h.k1.lt, h.k9.bel hb h.k9.lt, h.k10.bel hb h.k10.lt, h.r.bel hb⟩
end
theorem load_rs {w : World} {p : Addr} {ao : Option Addr} {n c : Nat} (hc : w.cell? p = some (.slice ao n c)) : (loadVar 65 p).run Try.prog w = .ok (.slice ao n c) w := by
  simp [loadVar, isAgg, run_underlying Try.underlying65, go_sem, hc]
theorem ix_row (b off n c k : Nat) (hk : k < n) (W : World) : (Instr.indexAt 65 (.slice (some ⟨b, off, none⟩) n c) (.int .i64 (k : Int))).run Try.prog W = .ok (.pointer (some ⟨b, off + k * 4, none⟩)) W := by
  have hi : (Try.prog.info? 50).map (·.size) = some 4 := by kernel_rfl
  cases hq : Try.prog.info? 50 with
  | none => simp [hq] at hi
  | some i =>
    have hi1 : i.size = 4 := by simpa [hq] using hi
    simp [Instr.indexAt, run_underlying Try.underlying65, asIntOf, sizeOf, typeInfo, hq, hi1, caddr_add, hk]
theorem load_row {w : World} {b o : Nat} {r : Lr} (h : LrAt w b o r) : (loadVar 50 ⟨b, o, none⟩).run Try.prog w = .ok (rV r) w := by
  have hi : (Try.prog.info? 50).map (·.size) = some 4 := by kernel_rfl
  cases hq : Try.prog.info? 50 with
  | none => simp [hq] at hi
  | some i =>
    have hi1 : i.size = 4 := by simpa [hq] using hi
    simp [loadVar, isAgg, run_underlying Try.underlying50, sizeOf, typeInfo, hq, hi1, loadCellsFrom, caddr_add, go_sem, h.c0, h.c1, h.c2, h.c3, rV]
theorem exec_sub {w : World} {a : Act} {o : Oper} {x y : Operand} {p n : Int} (ho : o.op = .binOp .sub 3 x y 3) (hx : a.eval x = .int .i64 p) (hy : a.eval y = .int .i64 n) (h0 : -9223372036854775808 ≤ p - n) (h1 : p - n ≤ 9223372036854775807) : (execOp a.eval o).run Try.prog w = .ok (.value (.int .i64 (p - n))) w := by
  unfold execOp
  simp only [ho, hx, hy]
  have : IntKind.i64.wrap (p - n) = p - n := by rw [IntKind.wrap_i64]; omega
  simp [go_sem, binOp, this]
theorem rowR_pos (s r : Lr) : 1 ≤ (rowR s r).length := by
  have h1 : ∀ a l, 1 ≤ (advR a l).length := fun a l => by unfold advR; split; · simp
                                                          · split <;> simp
  have h2 : ∀ a l, 1 ≤ (tailR a l).length := fun a l => by unfold tailR; split; · exact h1 a l
                                                           · simp
  have := h2 (r.at' - s.at') (r.li - s.li)
  unfold rowR
  simp only [List.length_append]; omega
theorem own_3 (w : World) (x y z : Int) : Own (w.alloc (.cells #[.int .u8 x, .int .u8 y, .int .u8 z] 5)) w.heap.size (.slice (some ⟨w.heap.size, 0, none⟩) 3 3) [x, y, z] :=
  ⟨rfl, .inr ⟨w.heap.size, 3, #[.int .u8 x, .int .u8 y, .int .u8 z], rfl, Nat.le_refl _, heap_alloc_new w _, Nat.le_refl _, by unfold maxLen; omega, rfl, rfl⟩⟩
theorem own_4 (w : World) (x y z u : Int) : Own (w.alloc (.cells #[.int .u8 x, .int .u8 y, .int .u8 z, .int .u8 u] 5)) w.heap.size (.slice (some ⟨w.heap.size, 0, none⟩) 4 4) [x, y, z, u] :=
  ⟨rfl, .inr ⟨w.heap.size, 4, #[.int .u8 x, .int .u8 y, .int .u8 z, .int .u8 u], rfl, Nat.le_refl _, heap_alloc_new w _, Nat.le_refl _, by unfold maxLen; omega, rfl, rfl⟩⟩
def H0 (BR : List Int) : List Int := [5, 0, 8, 0] ++ pl (BR.length : Int) 4 ++ BR
theorem H0_len (BR : List Int) : (H0 BR).length = 8 + BR.length := by simp [H0, pl_len]; omega
theorem unit_ref (p : Pg) : unitR p = pl (((H0 (behindR p.files) ++ cmdR p.seqs).length : Nat) : Int) 4 ++ (H0 (behindR p.files) ++ cmdR p.seqs) := by
  have hl : (((H0 (behindR p.files) ++ cmdR p.seqs).length : Nat) : Int) = 8 + ((behindR p.files).length : Int) + ((cmdR p.seqs).length : Int) := by
    rw [List.length_append, H0_len]; omega
  rw [hl]
  unfold unitR headR H0
  simp only [List.append_assoc]
theorem head_ref (p : Pg) : ((headR p.files ((cmdR p.seqs).length : Int)).length : Int) = ((H0 (behindR p.files)).length : Int) + 4 := by
  rw [headR_len, H0_len]; omega

set_option maxRecDepth 40000 in
set_option maxHeartbeats 16000000 in
theorem rwrite_any (fa sa : Option Addr) (fc sc : Nat) (p : Pg) (w : World) (h : PgIn w fa sa p) (hw : Few p) (hb : ∀ s ∈ p.files, s.size ≤ 9223372036854775807) :
    Calls Try.prog 9 #[.agg #[.slice fa p.files.length fc, .slice sa p.seqs.length sc]] w (WrEnd p w) := by
  have HP : Hid _ := ⟨h⟩
  have HC : Hid (∀ W, Below w.heap.size w W → Calls Try.prog 13 #[.agg #[.slice fa p.files.length fc, .slice sa p.seqs.length sc]] W fun e w' => e = .returned (.int .i64 (checkE p)) ∧ Below W.heap.size W w') := ⟨fun W hW => rcheck_any fa sa fc sc p W (h.bel hW) hw hb⟩
  have HB0 : Hid (Below w.heap.size w (w.alloc (.cells #[.slice fa p.files.length fc, .slice sa p.seqs.length sc] 25))) := ⟨(Below.refl _ _).alloc (Nat.le_refl _) _⟩
  have HK0 : Hid _ := ⟨Bk.new w #[.slice fa p.files.length fc, .slice sa p.seqs.length sc] 25⟩
  clear h hw hb
  cases hck : checkB p
  · have e1 : checkE p = 150 := by unfold checkE; rw [hck]; rfl
    rw [e1] at HC
    have HW : Hid (wriE p = 150) := ⟨by unfold wriE; rw [hck]; rfl⟩
    go_enter Try.func9, Try.ntmps9
    go_wp2_with (go_at_call 13; (with_reducible refine (HC.out _ HB0.out).mono ?_); rintro e w3 ⟨he, hb3⟩; subst he; have H3 : Hid _ := ⟨hb3⟩; clear hb3)
    go_ret3
    exact WrEnd.bad HW.out (by decide) (HB0.out.trans (H3.out.mono HB0.out.size))
  have e1 : checkE p = 0 := by unfold checkE; rw [hck]; rfl
  rw [e1] at HC
  clear e1
  have HE0 : Hid (wriE p = if bigB p then 6 else 0) := ⟨by unfold wriE; rw [hck]; rfl⟩
  unfold checkB seqsB at hck
  simp only [Bool.and_eq_true, decide_eq_true_eq] at hck
  obtain ⟨hF, hsl, hall⟩ := hck
  have HF : Hid _ := ⟨hF⟩
  have HAll : Hid _ := ⟨hall⟩
  have hsl' : (p.seqs.length : Int) ≤ 64 := by omega
  have HHd : Hid (∀ W, Below w.heap.size w W → Calls Try.prog 23 #[.slice fa p.files.length fc] W fun e w' => ∃ v, e = .returned v ∧ Own w' W.heap.size v (behindR p.files) ∧ Below W.heap.size W w') := ⟨fun W hW => rhead_any fa fc p.files W HF.out (HP.out.fs.bel hW)⟩
  have HBR : Hid _ := ⟨behind_short hF⟩
  have HUr : Hid _ := ⟨unit_ref p⟩
  have HHr : Hid _ := ⟨head_ref p⟩
  have HBig : Hid (bigB p = decide (1048576 < (unitR p).length)) := ⟨rfl⟩
  clear hF hall
  have HGood : Hid (∀ v va w', wriE p = 0 → Own w' w.heap.size v (unitR p) → OwnI w' w.heap.size va (atsF ((headR p.files ((cmdR p.seqs).length : Int)).length : Int) p.seqs) → Below w.heap.size w w' → WrEnd p w (.returned (.tuple #[v, va, .int .i64 0])) w') := ⟨fun v va w' a b c d => WrEnd.good a b c d⟩
  have HBad : Hid (∀ w', wriE p = 6 → Below w.heap.size w w' → WrEnd p w (.returned (.tuple #[.slice none 0 0, .slice none 0 0, .int .i64 6])) w') := ⟨fun w' a b => WrEnd.bad a (by decide) b⟩
  generalize unitR p = UR at *
  generalize ((headR p.files ((cmdR p.seqs).length : Int)).length : Int) = HL at *
  generalize behindR p.files = BR at *
  have a0 := HK0.out.cell 0 rfl
  go_enter Try.func9, Try.ntmps9
  go_upto_region 3 with (go_at_call 13; (with_reducible refine (HC.out _ HB0.out).mono ?_); rintro e w3 ⟨he, hb3⟩; subst he; have H3 : Hid _ := ⟨hb3⟩; clear hb3)
  have B3 : Hid (Below w.heap.size w w3) := ⟨HB0.out.trans (H3.out.mono HB0.out.size)⟩
  have K3 : Hid _ := ⟨HK0.out.bel H3.out HK0.out.lt⟩
  clear a0
  have a0 := K3.out.cell 0 rfl
  go_upto_region 4 with (go_at_call 23; (with_reducible refine (HHd.out _ B3.out).mono ?_); rintro e w4 ⟨v4, he, ho4, hb4⟩; subst he; have O4 : Hid _ := ⟨ho4⟩; have H4 : Hid _ := ⟨hb4⟩; clear ho4 hb4)
  obtain ⟨ha, hc, hv4, _⟩ := O4.out.bt
  subst hv4
  have B4 : Hid (Below w.heap.size w w4) := ⟨B3.out.trans (H4.out.mono B3.out.size)⟩
  have K4 : Hid _ := ⟨K3.out.bel H4.out K3.out.lt⟩
  clear a0 HC HHd H3 K3 HK0 HB0
  have hBRl : (BR.length : Int) ≤ 80000 := by have := HBR.out; omega
  have HLo : Hid (∀ W, Calls Try.prog 24 #[.int .i64 (BR.length : Int), .int .i64 4] W fun e w' => ∃ v, e = .returned v ∧ Own w' W.heap.size v (pl (BR.length : Int) 4) ∧ Below W.heap.size W w') := ⟨fun W => low4_any _ (by omega) W⟩
  have HOl : Hid _ := ⟨own_4 w4 5 0 8 0⟩
  have B4a : Hid (Below w4.heap.size w4 (w4.alloc (.cells #[.int .u8 5, .int .u8 0, .int .u8 8, .int .u8 0] 5))) := ⟨(Below.refl _ _).alloc (Nat.le_refl _) _⟩
  go_upto_region 5 with (first
    | (go_at_call 24; (with_reducible refine (HLo.out _).mono ?_); rintro e w5 ⟨v5, he, ho5, hb5⟩; subst he; have O5 : Hid _ := ⟨ho5⟩; have B5 : Hid (Below w4.heap.size w4 w5) := ⟨B4a.out.trans (hb5.mono B4a.out.size)⟩; have OL5 : Hid _ := ⟨HOl.out.bel hb5⟩; clear ho5 hb5)
    | (at_builtin; refine append_bk w5 rfl _ _ rfl w4.heap.size (.slice (some ⟨w4.heap.size, 0, none⟩) 4 4) [5, 0, 8, 0] rfl OL5.out v5 (pl (BR.length : Int) 4) rfl O5.out.bt (by simp [pl_len]) B5.out.size ?_; intro v6 w6 hA6; have A6 : Hid _ := ⟨hA6⟩; have B6 : Hid (Below w4.heap.size w4 w6) := ⟨B5.out.trans (hA6.bel OL5.out B5.out.size)⟩; clear hA6))
  have OH6 : Hid _ := ⟨O4.out.bel B6.out⟩
  go_upto_region 6 with (at_builtin; refine append_bk w6 rfl _ _ rfl w4.heap.size v6 ([5, 0, 8, 0] ++ pl (BR.length : Int) 4) rfl A6.out.own (.slice ha BR.length hc) BR rfl OH6.out.bt (by have := HBR.out; simp [pl_len]; omega) B6.out.size ?_; intro v7 w7 hA7; have O7 : Hid (Own w7 w4.heap.size v7 (H0 BR)) := ⟨hA7.own⟩; have B7 : Hid (Below w4.heap.size w4 w7) := ⟨B6.out.trans (hA7.bel A6.out.own B6.out.size)⟩; clear hA7)
  have HWW : Hid (WW w w7 v7 (.slice none 0 0) (H0 BR) [] ∧ Bk w7 w.heap.size 25 #[.slice fa p.files.length fc, .slice sa p.seqs.length sc]) := ⟨⟨O7.out.low B4.out.size, OwnI.nil _ _, B4.out.trans (B7.out.mono B4.out.size)⟩, K4.out.bel B7.out K4.out.lt⟩
  clear OH6 O7 B7 B6 A6 OL5 B5 O5 B4a HOl HLo K4 B4 O4 H4 B3
  go_wp2
  go_loopw [8, 6, 7] (fun iv s6 s7 wr => ∃ i : Nat, i ≤ p.seqs.length ∧ iv = .int .i64 i ∧ Hid (WW w wr s6 s7 (H0 BR ++ cmdR (p.seqs.take i)) (atsF (((H0 BR).length : Int) + 4) (p.seqs.take i)) ∧ Bk wr w.heap.size 25 #[.slice fa p.files.length fc, .slice sa p.seqs.length sc])) (fun iv _ _ _ => p.seqs.length - (intOf iv).toNat)
  case atStart => exact ⟨0, by omega, rfl, ⟨by simpa [cmdR, atsF] using HWW.out.1, HWW.out.2⟩⟩
  case round =>
    clear HWW
    obtain ⟨i, hi, rfl, HW⟩ := hrel
    obtain ⟨xa, xc, hxv, _⟩ := HW.out.1.b.bt
    subst hxv
    have a1 := HW.out.2.cell 1 rfl
    by_cases hlt : i < p.seqs.length
    · obtain ⟨b2, off2, rfl, hat⟩ : ∃ b off, sa = some ⟨b, off, none⟩ ∧ ∀ j, j < p.seqs.length → SqAt w b (off + j * 3) (p.seqs.getD j Sq.zero) := by
        rcases HP.out.sq with h | h
        · omega
        · exact h
      have q1 : (i : Int) < (p.seqs.length : Int) := by omega
      have q0 : (0 : Int) ≤ (i : Int) := by omega
      obtain ⟨ra, rc, c0, c1, c2, hLr⟩ := hat i hlt
      replace c0 := up_belL c0 HW.out.1.bel
      replace c1 := up_belL c1 HW.out.1.bel
      replace c2 := up_belL c2 HW.out.1.bel
      clear hat
      have HS : Hid _ := ⟨cmdR_at p.seqs i hlt⟩
      have HSt : Hid (atsF (((H0 BR).length : Int) + 4) (p.seqs.take (i + 1)) = atsF (((H0 BR).length : Int) + 4) (p.seqs.take i) ++ [((H0 BR).length : Int) + 4 + ((cmdR (p.seqs.take i)).length : Int) + 3]) := ⟨by
        rw [take_at p.seqs Sq.zero i hlt, atsF_append]
        simp [atsF]⟩
      have HLc : Hid _ := ⟨cmdR_short HAll.out hsl i⟩
      have HL2 : Hid ((atsF (((H0 BR).length : Int) + 4) (p.seqs.take i)).length ≤ 64) := ⟨by rw [atsF_len]; simp; omega⟩
      have HQ : Hid (seqB (p.files.length : Int) (p.seqs.getD i Sq.zero) = true) := ⟨List.all_eq_true.1 HAll.out _ (sq_in hlt)⟩
      have hXl : ((H0 BR ++ cmdR (p.seqs.take i)).length : Int) ≤ 12900000 := by rw [List.length_append, H0_len]; have := HLc.out; have := HBR.out; omega
      have HXe : Hid ((((H0 BR ++ cmdR (p.seqs.take i)).length : Nat) : Int) = ((H0 BR).length : Int) + ((cmdR (p.seqs.take i)).length : Int)) := ⟨by rw [List.length_append]; omega⟩
      have HXn : Hid (∀ q', cmdR (p.seqs.take (i + 1)) = cmdR (p.seqs.take i) ++ q' → H0 BR ++ cmdR (p.seqs.take (i + 1)) = (H0 BR ++ cmdR (p.seqs.take i)) ++ q') := ⟨fun q' h => by rw [h, List.append_assoc]⟩
      generalize p.seqs.getD i Sq.zero = q at *
      generalize H0 BR ++ cmdR (p.seqs.take i) = X0 at *
      generalize atsF (((H0 BR).length : Int) + 4) (p.seqs.take i) = Y0 at *
      obtain ⟨st, sz, rows⟩ := q
      dsimp only at *
      obtain ⟨hst, hszb, hrl, hrF⟩ := seq_ok HQ.out
      dsimp only at hst hszb hrl hrF
      have HRF : Hid _ := ⟨hrF⟩
      obtain ⟨b3, off3, rfl, hrat⟩ : ∃ b off, ra = some ⟨b, off, none⟩ ∧ ∀ j, j < rows.length → LrAt w b (off + j * 4) (rows.getD j Lr.zero) := by
        rcases hLr with h | h
        · omega
        · exact h
      have HRat : Hid _ := ⟨hrat⟩
      clear hLr hrat hrF
      have HSQ : Hid (seqR ⟨st, sz, rows⟩ = [0, 9, 2] ++ (pl st 8 ++ (rowsR Lr.first rows ++ (restR (sz - (lastR Lr.first rows).at') ++ [0, 1, 1])))) := ⟨rfl⟩
      generalize seqR ⟨st, sz, rows⟩ = SQ at *
      go_upto_region 11 with (fail)
      have HW9 : Hid (WW w (wr.alloc (.cells #[.int .i64 st, .int .i64 sz, .slice (some ⟨b3, off3, none⟩) rows.length rc] 67)) (.slice xa X0.length xc) u7 X0 Y0) := ⟨HW.out.1.post ((Below.refl _ _).alloc (Nat.le_refl _) _)⟩
      have K1 : Hid _ := ⟨HW.out.2.bel (v := wr.alloc (.cells #[.int .i64 st, .int .i64 sz, .slice (some ⟨b3, off3, none⟩) rows.length rc] 67)) ((Below.refl _ _).alloc (Nat.le_refl _) _) HW.out.2.lt⟩
      have K9 : Hid _ := ⟨Bk.new wr #[.int .i64 st, .int .i64 sz, .slice (some ⟨b3, off3, none⟩) rows.length rc] 67⟩
      clear HW c0 c1 c2 a1
      generalize wr.alloc (.cells #[.int .i64 st, .int .i64 sz, .slice (some ⟨b3, off3, none⟩) rows.length rc] 67) = W9 at *
      generalize wr.heap.size = b9 at *
      have B9a : Hid (Below W9.heap.size W9 (W9.alloc (.cells #[.int .u8 0, .int .u8 9, .int .u8 2] 5))) := ⟨(Below.refl _ _).alloc (Nat.le_refl _) _⟩
      have HW9a : Hid _ := ⟨HW9.out.post B9a.out⟩
      go_upto_region 12 with (at_builtin; refine append_bk (W9.alloc (.cells #[.int .u8 0, .int .u8 9, .int .u8 2] 5)) rfl _ _ rfl w.heap.size (.slice xa X0.length xc) X0 rfl HW9a.out.b _ [0, 9, 2] rfl (own_3 W9 0 9 2).bt (by simp; omega) HW9a.out.bel.size ?_; intro v11 w11 hA; have A11 : Hid _ := ⟨hA⟩; clear hA)
      have HW11 : Hid _ := ⟨HW9a.out.app A11.out⟩
      have K1a : Hid _ := ⟨HW9a.out.keepB A11.out (K1.out.bel B9a.out K1.out.lt) (by decide)⟩
      have K9a : Hid _ := ⟨HW9a.out.keepB A11.out (K9.out.bel B9a.out K9.out.lt) (by decide)⟩
      clear A11 HW9a B9a HW9 K1 K9
      obtain ⟨xa1, xc1, hv11, _⟩ := HW11.out.b.bt
      subst hv11
      have HX1l : Hid (((X0 ++ [0, 9, 2]).length : Int) = (X0.length : Int) + 3) := ⟨by simp⟩
      have hX1b : ((X0 ++ [0, 9, 2]).length : Int) ≤ 12900003 := by rw [HX1l.out]; omega
      generalize hX1 : X0 ++ [0, 9, 2] = X1 at *
      have w1 : wrap64 ((X1.length : Int) + 4) = (X1.length : Int) + 4 := by unfold wrap64; omega
      have HX1 : Hid _ := ⟨hX1⟩
      clear hX1
      have B11a : Hid (Below w11.heap.size w11 (w11.alloc (.cells #[.int .i64 ((X1.length : Int) + 4)] 3))) := ⟨(Below.refl _ _).alloc (Nat.le_refl _) _⟩
      have HW11a : Hid _ := ⟨HW11.out.post B11a.out⟩
      go_upto_region 13 with (at_builtin; refine append_int (w11.alloc (.cells #[.int .i64 ((X1.length : Int) + 4)] 3)) rfl _ _ rfl w.heap.size u7 Y0 rfl HW11a.out.a w11.heap.size ((X1.length : Int) + 4) (by simp [Act.eval, Act.put]) (Bk.new _ _ _) (by have := HL2.out; omega) HW11a.out.bel.size ?_; intro v12 w12 ho12 hg12; have O12 : Hid _ := ⟨ho12⟩; have G12 : Hid _ := ⟨hg12⟩; clear ho12 hg12)
      have HW12 : Hid _ := ⟨HW11a.out.num O12.out G12.out⟩
      have K1b : Hid _ := ⟨HW11a.out.keepI G12.out (K1a.out.bel B11a.out K1a.out.lt) (by decide)⟩
      have K9b : Hid _ := ⟨HW11a.out.keepI G12.out (K9a.out.bel B11a.out K9a.out.lt) (by decide)⟩
      clear O12 G12 HW11a B11a HW11 K1a K9a w1
      have HYe : Hid (Y0 ++ [(X1.length : Int) + 4] = atsF (((H0 BR).length : Int) + 4) (p.seqs.take (i + 1))) := ⟨by rw [HSt.out]; congr 2; have := HXe.out; have := HX1l.out; omega⟩
      generalize Y0 ++ [(X1.length : Int) + 4] = Y at *
      have e0 := K9b.out.cell 0 rfl
      have HLo : Hid (∀ W, Calls Try.prog 24 #[.int .i64 st, .int .i64 8] W fun e w' => ∃ v, e = .returned v ∧ Own w' W.heap.size v (pl st 8) ∧ Below W.heap.size W w') := ⟨fun W => low8_any st W⟩
      go_upto_region 14 with (first
        | (go_at_call 24; (with_reducible refine (HLo.out _).mono ?_); rintro e w13 ⟨v13, he, ho, hb⟩; subst he; have O13 : Hid _ := ⟨ho⟩; have B13 : Hid _ := ⟨hb⟩; have HW13 : Hid _ := ⟨HW12.out.post hb⟩; clear ho hb)
        | (at_builtin; refine append_bk w13 rfl _ _ rfl w.heap.size (.slice xa1 X1.length xc1) X1 rfl HW13.out.b v13 (pl st 8) rfl O13.out.bt (by simp [pl_len]; omega) HW13.out.bel.size ?_; intro v14 w14 hA; have A14 : Hid _ := ⟨hA⟩; clear hA))
      have HW14 : Hid _ := ⟨HW13.out.app A14.out⟩
      have K1c : Hid _ := ⟨HW13.out.keepB A14.out (K1b.out.bel B13.out K1b.out.lt) (by decide)⟩
      have K9c : Hid _ := ⟨HW13.out.keepB A14.out (K9b.out.bel B13.out K9b.out.lt) (by decide)⟩
      clear A14 HW13 B13 O13 HLo HW12 K1b K9b e0
      have hX2l : ((X1 ++ pl st 8).length : Int) ≤ 12900100 := by rw [List.length_append, pl_len]; omega
      have HX2 : Hid (X1 ++ pl st 8 = X0 ++ ([0, 9, 2] ++ pl st 8)) := ⟨by rw [← HX1.out]; simp⟩
      generalize X1 ++ pl st 8 = X2 at *
      go_upto_region 15 with (fail)
      have HV0 : Hid (WW w (w14.alloc (.cells #[.int .i64 0, .int .i64 1, .int .i64 1, .int .i64 0] 50)) v14 v12 X2 Y ∧ S2 w.heap.size #[.slice fa p.files.length fc, .slice (some ⟨b2, off2, none⟩) p.seqs.length sc] b9 #[.int .i64 st, .int .i64 sz, .slice (some ⟨b3, off3, none⟩) rows.length rc] w14.heap.size (rA Lr.first) (w14.alloc (.cells #[.int .i64 0, .int .i64 1, .int .i64 1, .int .i64 0] 50))) := ⟨HW14.out.post ((Below.refl _ _).alloc (Nat.le_refl _) _), ⟨K1c.out.bel ((Below.refl _ _).alloc (Nat.le_refl _) _) K1c.out.lt, K9c.out.bel ((Below.refl _ _).alloc (Nat.le_refl _) _) K9c.out.lt, Bk.new w14 #[.int .i64 0, .int .i64 1, .int .i64 1, .int .i64 0] 50⟩⟩
      have hb10 : w.heap.size < w14.heap.size := K1c.out.lt
      clear HW14 K1c K9c
      generalize w14.alloc (.cells #[.int .i64 0, .int .i64 1, .int .i64 1, .int .i64 0] 50) = V14 at *
      generalize w14.heap.size = b10 at *
      go_wp2
      go_loopw [11, 6] (fun kv s6 wr => ∃ k : Nat, k ≤ rows.length ∧ kv = .int .i64 k ∧ Hid (WW w wr s6 v12 (X2 ++ rowsR Lr.first (rows.take k)) Y ∧ S2 w.heap.size #[.slice fa p.files.length fc, .slice (some ⟨b2, off2, none⟩) p.seqs.length sc] b9 #[.int .i64 st, .int .i64 sz, .slice (some ⟨b3, off3, none⟩) rows.length rc] b10 (rA (lastR Lr.first (rows.take k))) wr)) (fun kv _ _ => rows.length - (intOf kv).toNat)
      case atStart => exact ⟨0, by omega, rfl, ⟨by simpa [rowsR] using HV0.out.1, HV0.out.2⟩⟩
      case round =>
        clear HV0
        obtain ⟨k, hk, rfl, HV⟩ := hrel
        have d2 := HV.out.2.k9.cell 2 rfl
        by_cases hkl : k < rows.length
        · have t1 : (k : Int) < (rows.length : Int) := by omega
          have t0 : (0 : Int) ≤ (k : Int) := by omega
          have hst2 := row_step HRF.out hszb.2 hkl
          have HAt := rowsR_at rows k hkl
          have HLn : Hid ((X2 ++ rowsR Lr.first (rows.take k)).length ≤ 13200000) := ⟨by
            have h1 := rowsR_len Lr.first (rows.take k) (by decide) (fun x hx => (rowsF_lines HRF.out x (List.mem_of_mem_take hx)).1)
            have h2 : (rows.take k).length ≤ 4000 := by simp; omega
            rw [List.length_append]; omega⟩
          have HXk : Hid (X2 ++ rowsR Lr.first (rows.take (k + 1)) = (X2 ++ rowsR Lr.first (rows.take k)) ++ rowR (lastR Lr.first (rows.take k)) (rows.getD k Lr.zero)) := ⟨by rw [HAt.1, List.append_assoc]⟩
          have HLk : Hid _ := ⟨HAt.2⟩
          have HRow : Hid (∀ W, Below w.heap.size w W → LrAt W b3 (off3 + k * 4) (rows.getD k Lr.zero)) := ⟨fun W hW => (HRat.out k hkl).bel hW⟩
          have HOne : Hid (∀ W, Calls Try.prog 25 #[rV (rows.getD k Lr.zero), rV (lastR Lr.first (rows.take k))] W fun e w' => ∃ v', e = .returned v' ∧ Own w' W.heap.size v' (rowR (lastR Lr.first (rows.take k)) (rows.getD k Lr.zero)) ∧ Below W.heap.size W w') := ⟨fun W => rone_any W _ _ hst2.at' hst2.ls hst2.lr⟩
          have HRl : Hid ((rowR (lastR Lr.first (rows.take k)) (rows.getD k Lr.zero)).length ≤ 45) := ⟨rowR_len (by have := hst2.ls; have := hst2.lr; omega)⟩
          have HRp : Hid _ := ⟨rowR_pos (lastR Lr.first (rows.take k)) (rows.getD k Lr.zero)⟩
          clear hst2 HAt
          generalize rowR (lastR Lr.first (rows.take k)) (rows.getD k Lr.zero) = RR at *
          generalize lastR Lr.first (rows.take k) = la at *
          generalize rows.getD k Lr.zero = r at *
          generalize X2 ++ rowsR Lr.first (rows.take k) = X at *
          have HXl : Hid (X.length ≤ 13200000) := ⟨HLn.out⟩
          go_upto_region 18 with (fail)
          clear d2
          have HS3 : Hid (S3 w.heap.size #[.slice fa p.files.length fc, .slice (some ⟨b2, off2, none⟩) p.seqs.length sc] b9 #[.int .i64 st, .int .i64 sz, .slice (some ⟨b3, off3, none⟩) rows.length rc] b10 (rA la) b3 (off3 + k * 4) r wr.drew) := ⟨⟨HV.out.2.k1.of rfl, HV.out.2.k9.of rfl, HV.out.2.k10.of rfl, HRow.out _ HV.out.1.bel.drew⟩⟩
          have HW18 : Hid (WW w wr.drew u6 v12 X Y) := ⟨HV.out.1.post (Below.refl _ _).drew⟩
          refine wp_region_held_drew (S := fun u => S3 w.heap.size #[.slice fa p.files.length fc, .slice (some ⟨b2, off2, none⟩) p.seqs.length sc] b9 #[.int .i64 st, .int .i64 sz, .slice (some ⟨b3, off3, none⟩) rows.length rc] b10 (rA la) b3 (off3 + k * 4) r u) (by kernel_rfl) HS3.out (fun hS => ?_)
          generalize wr.drew = W at *
          refine wpAnyH_take (i := 0) (v := u6) rfl (by kernel_rfl) (by kernel_rfl) (by kernel_rfl) (fun _ _ _ h => h) (Or.inl ⟨by kernel_rfl, fun u hu => by kernel_rfl⟩) hS ?_
          simp only [Act.put, List.getElem_toArray, List.getElem_cons_succ, List.getElem_cons_zero, List.setIfInBounds_toArray, List.set_cons_zero, List.set_cons_succ]
          refine wpAnyH_take (i := 1) (v := .pointer (some ⟨b9, 2, none⟩)) rfl (by kernel_rfl) (by kernel_rfl) (by kernel_rfl) (fun _ _ _ h => h) (Or.inl ⟨by kernel_rfl, fun u hu => by kernel_rfl⟩) hS ?_
          simp only [Act.put, List.getElem_toArray, List.getElem_cons_succ, List.getElem_cons_zero, List.setIfInBounds_toArray, List.set_cons_zero, List.set_cons_succ]
          refine wpAnyH_take (i := 2) (v := .slice (some ⟨b3, off3, none⟩) rows.length rc) rfl (by kernel_rfl) (by kernel_rfl) (by kernel_rfl) (fun _ _ _ h => h) (Or.inl ⟨by kernel_rfl, fun u hu => exec_loadV (t := 65) (p := ⟨b9, 2, none⟩) rfl (by kernel_rfl) (load_rs (hu.k9.cell 2 rfl))⟩) hS ?_
          simp only [Act.put, List.getElem_toArray, List.getElem_cons_succ, List.getElem_cons_zero, List.setIfInBounds_toArray, List.set_cons_zero, List.set_cons_succ]
          refine wpAnyH_take (i := 3) (v := .int .i64 (k : Int)) rfl (by kernel_rfl) (by kernel_rfl) (by kernel_rfl) (fun _ _ _ h => h) (Or.inl ⟨by kernel_rfl, fun u hu => by kernel_rfl⟩) hS ?_
          simp only [Act.put, List.getElem_toArray, List.getElem_cons_succ, List.getElem_cons_zero, List.setIfInBounds_toArray, List.set_cons_zero, List.set_cons_succ]
          refine wpAnyH_take (i := 4) (v := .pointer (some ⟨b3, off3 + k * 4, none⟩)) rfl (by kernel_rfl) (by kernel_rfl) (by kernel_rfl) (fun _ _ _ h => h) (Or.inl ⟨by kernel_rfl, fun u hu => exec_ix rfl (by kernel_rfl) (by kernel_rfl) (ix_row b3 off3 rows.length rc k hkl u)⟩) hS ?_
          simp only [Act.put, List.getElem_toArray, List.getElem_cons_succ, List.getElem_cons_zero, List.setIfInBounds_toArray, List.set_cons_zero, List.set_cons_succ]
          refine wpAnyH_take (i := 5) (v := rV r) rfl (by kernel_rfl) (by kernel_rfl) (by kernel_rfl) (fun _ _ _ h => h) (Or.inl ⟨by kernel_rfl, fun u hu => exec_loadV (t := 50) (p := ⟨b3, off3 + k * 4, none⟩) rfl (by kernel_rfl) (load_row hu.r)⟩) hS ?_
          simp only [Act.put, List.getElem_toArray, List.getElem_cons_succ, List.getElem_cons_zero, List.setIfInBounds_toArray, List.set_cons_zero, List.set_cons_succ]
          refine wpAnyH_take (i := 6) (v := rV la) rfl (by kernel_rfl) (by kernel_rfl) (by kernel_rfl) (fun _ _ _ h => h) (Or.inl ⟨by kernel_rfl, fun u hu => exec_loadV (t := 50) (p := ⟨b10, 0, none⟩) rfl (by kernel_rfl) (hu.k10.loadRowD rfl)⟩) hS ?_
          simp only [Act.put, List.getElem_toArray, List.getElem_cons_succ, List.getElem_cons_zero, List.setIfInBounds_toArray, List.set_cons_zero, List.set_cons_succ]
          refine wpAnyH_ready (rs := [7]) (by kernel_rfl) (by simp) ?_
          refine AllReadyH.cons rfl (fun K hK => ?_) AllReadyH.nil
          simp only [List.getElem_toArray, List.getElem_cons_succ, List.getElem_cons_zero]
          refine wp_if (by kernel_rfl) ?_
          refine wp_enter (f := 25) (args := #[rV r, rV la]) (by kernel_rfl) (HOne.out W) ?_
          rintro e w7 ⟨v7, rfl, ho7, hb7⟩
          refine ⟨_, rfl, ?_⟩
          have J7 : Hid (WW w w7 u6 v12 X Y ∧ S3 w.heap.size #[.slice fa p.files.length fc, .slice (some ⟨b2, off2, none⟩) p.seqs.length sc] b9 #[.int .i64 st, .int .i64 sz, .slice (some ⟨b3, off3, none⟩) rows.length rc] b10 (rA la) b3 (off3 + k * 4) r w7) := ⟨HW18.out.post hb7, HS3.out.bel hb7⟩
          refine hK.out _ _ J7.out.2 (fun hS => ?_)
          clear hK
          simp only [Act.put, List.getElem_toArray, List.getElem_cons_succ, List.getElem_cons_zero, List.setIfInBounds_toArray, List.set_cons_zero, List.set_cons_succ]
          refine wpAnyH_ready (rs := [8]) (by kernel_rfl) (by simp) ?_
          refine AllReadyH.cons rfl (fun K hK => ?_) AllReadyH.nil
          simp only [List.getElem_toArray, List.getElem_cons_succ, List.getElem_cons_zero]
          refine wp_if (by kernel_rfl) ?_
          refine wp_app rfl (by kernel_rfl) (by kernel_rfl) (l := X) (m := RR) J7.out.1.b (Own.bt (xs := RR) ho7) HRp.out (by have := HXl.out; have := HRl.out; omega) J7.out.1.bel.size ?_
          intro v8 w8 hA8
          have J8 : Hid (WW w w8 v8 v12 (X ++ RR) Y ∧ S3 w.heap.size #[.slice fa p.files.length fc, .slice (some ⟨b2, off2, none⟩) p.seqs.length sc] b9 #[.int .i64 st, .int .i64 sz, .slice (some ⟨b3, off3, none⟩) rows.length rc] b10 (rA la) b3 (off3 + k * 4) r w8) := ⟨J7.out.1.app hA8, ⟨J7.out.1.keepB hA8 J7.out.2.k1 (by decide), J7.out.1.keepB hA8 J7.out.2.k9 (by decide), J7.out.1.keepB hA8 J7.out.2.k10 (by decide), HRow.out _ (J7.out.1.app hA8).bel⟩⟩
          refine hK.out _ _ J8.out.2 (fun hS => ?_)
          clear hK
          simp only [Act.put, List.getElem_toArray, List.getElem_cons_succ, List.getElem_cons_zero, List.setIfInBounds_toArray, List.set_cons_zero, List.set_cons_succ]
          refine wpAnyH_take (i := 9) (v := v8) rfl (by kernel_rfl) (by kernel_rfl) (by kernel_rfl) (fun _ _ _ h => h) (Or.inl ⟨by kernel_rfl, fun u hu => by kernel_rfl⟩) hS ?_
          simp only [Act.put, List.getElem_toArray, List.getElem_cons_succ, List.getElem_cons_zero, List.setIfInBounds_toArray, List.set_cons_zero, List.set_cons_succ]
          refine wpAnyH_done (by kernel_rfl) ?_ _
          clear hS
          have x0 := J8.out.2.r.c0
          have x1 := J8.out.2.r.c1
          have x2 := J8.out.2.r.c2
          have x3 := J8.out.2.r.c3
          have d2 := J8.out.2.k9.cell 2 rfl
          go_wp2_with (refine wpList_part (g := b10) (off := 0) (val := .agg #[.int .i64 r.at', .int .i64 r.fi, .int .i64 r.li, .int .i64 r.co]) (new := #[.int .i64 r.at', .int .i64 r.fi, .int .i64 r.li, .int .i64 r.co]) rfl rfl (by rfl) (by rfl) J8.out.2.k10 (by rw [sizeRowD]; rfl) (by show 0 + 4 ≤ 4; omega) (one4 _ _ _ _) rfl ?_)
          go_roundw
          case rel =>
            refine ⟨k + 1, hkl, by go_num, ⟨?_, ?_⟩⟩
            · rw [HXk.out]
              exact J8.out.1.set J8.out.2.k10 (by decide) (by decide) (by omega) _
            · rw [HLk.out]
              exact ⟨J8.out.2.k1.setO (by omega) _, J8.out.2.k9.setO (J8.out.2.k9.ne J8.out.2.k10.hp (by decide)) _, J8.out.2.k10.setR _⟩
          case measure => simp [intOf]; omega
        · obtain rfl : k = rows.length := by omega
          rw [List.take_of_length_le (Nat.le_refl _)] at HV
          have HLn : Hid ((X2 ++ rowsR Lr.first rows).length ≤ 13200000) := ⟨by
            have h1 := rowsR_len Lr.first rows (by decide) (fun x hx => (rowsF_lines HRF.out x hx).1)
            rw [List.length_append]; omega⟩
          have hla : 0 ≤ (lastR Lr.first rows).at' ∧ (lastR Lr.first rows).at' ≤ sz := by
            rcases last_in rows with ⟨h0, h⟩ | h
            · rw [h]; exact ⟨by decide, hszb.1⟩
            · have := rowsF_lines HRF.out _ h
              exact ⟨this.2.2.2.1, this.2.2.2.2⟩
          have HSQ2 : Hid (X0 ++ SQ = X2 ++ rowsR Lr.first rows ++ restR (sz - (lastR Lr.first rows).at') ++ [0, 1, 1]) := ⟨by rw [HSQ.out, HX2.out]; simp only [List.append_assoc]⟩
          generalize lastR Lr.first rows = la at *
          generalize X2 ++ rowsR Lr.first rows = X at *
          have HXl : Hid (X.length ≤ 13200000) := ⟨HLn.out⟩
          have HD : Hid (-9223372036854775808 ≤ sz - la.at' ∧ sz - la.at' ≤ 9223372036854775807) := ⟨by omega⟩
          have HUl : Hid _ := ⟨ulB_len (sz - la.at')⟩
          have d1 := HV.out.2.k9.cell 1 rfl
          have s0 : wr.cell? ⟨b10, 0, none⟩ = some (.int .i64 la.at') := HV.out.2.k10.cell 0 rfl
          go_upto_if 78 with (fail)
          go_cut [6] from 74 to 88 (fun s6 wx => Hid (AE w.heap.size wr u6 wx s6 (X ++ restR (sz - la.at'))))
          case first =>
            by_cases hgt : la.at' < sz
            · have HRs : Hid (restR (sz - la.at') = 2 :: ulB (sz - la.at')) := ⟨by unfold restR; rw [if_neg (by omega)]⟩
              go_upto_region 21 with (fail)
              have HS2 : Hid (S2 w.heap.size #[.slice fa p.files.length fc, .slice (some ⟨b2, off2, none⟩) p.seqs.length sc] b9 #[.int .i64 st, .int .i64 sz, .slice (some ⟨b3, off3, none⟩) rows.length rc] b10 (rA la) wr.drew) := ⟨⟨HV.out.2.k1.of rfl, HV.out.2.k9.of rfl, HV.out.2.k10.of rfl⟩⟩
              have HA21 : Hid (AE w.heap.size wr u6 wr.drew u6 X) := ⟨(AE.refl HV.out.1.b).post (Below.refl _ _).drew⟩
              refine wp_region_held_drew (S := fun u => S2 w.heap.size #[.slice fa p.files.length fc, .slice (some ⟨b2, off2, none⟩) p.seqs.length sc] b9 #[.int .i64 st, .int .i64 sz, .slice (some ⟨b3, off3, none⟩) rows.length rc] b10 (rA la) u) (by kernel_rfl) HS2.out (fun hS => ?_)
              generalize wr.drew = W at *
              refine wpAnyH_take (i := 0) (v := u6) rfl (by kernel_rfl) (by kernel_rfl) (by kernel_rfl) (fun _ _ _ h => h) (Or.inl ⟨by kernel_rfl, fun u hu => by kernel_rfl⟩) hS ?_
              simp only [Act.put, List.getElem_toArray, List.getElem_cons_succ, List.getElem_cons_zero, List.setIfInBounds_toArray, List.set_cons_zero, List.set_cons_succ]
              refine wpAnyH_take (i := 3) (v := .pointer (some ⟨b9, 1, none⟩)) rfl (by kernel_rfl) (by kernel_rfl) (by kernel_rfl) (fun _ _ _ h => h) (Or.inl ⟨by kernel_rfl, fun u hu => by kernel_rfl⟩) hS ?_
              simp only [Act.put, List.getElem_toArray, List.getElem_cons_succ, List.getElem_cons_zero, List.setIfInBounds_toArray, List.set_cons_zero, List.set_cons_succ]
              refine wpAnyH_take (i := 4) (v := .int .i64 sz) rfl (by kernel_rfl) (by kernel_rfl) (by kernel_rfl) (fun _ _ _ h => h) (Or.inl ⟨by kernel_rfl, fun u hu => exec_loadV (t := 3) (p := ⟨b9, 1, none⟩) rfl (by kernel_rfl) (load_i64 (hu.k9.cell 1 rfl))⟩) hS ?_
              simp only [Act.put, List.getElem_toArray, List.getElem_cons_succ, List.getElem_cons_zero, List.setIfInBounds_toArray, List.set_cons_zero, List.set_cons_succ]
              refine wpAnyH_take (i := 5) (v := .pointer (some ⟨b10, 0, none⟩)) rfl (by kernel_rfl) (by kernel_rfl) (by kernel_rfl) (fun _ _ _ h => h) (Or.inl ⟨by kernel_rfl, fun u hu => by kernel_rfl⟩) hS ?_
              simp only [Act.put, List.getElem_toArray, List.getElem_cons_succ, List.getElem_cons_zero, List.setIfInBounds_toArray, List.set_cons_zero, List.set_cons_succ]
              refine wpAnyH_take (i := 6) (v := .int .i64 la.at') rfl (by kernel_rfl) (by kernel_rfl) (by kernel_rfl) (fun _ _ _ h => h) (Or.inl ⟨by kernel_rfl, fun u hu => exec_loadV (t := 3) (p := ⟨b10, 0, none⟩) rfl (by kernel_rfl) (load_i64 (hu.k10.cell 0 rfl))⟩) hS ?_
              simp only [Act.put, List.getElem_toArray, List.getElem_cons_succ, List.getElem_cons_zero, List.setIfInBounds_toArray, List.set_cons_zero, List.set_cons_succ]
              refine wpAnyH_take (i := 7) (v := .int .i64 (sz - la.at')) rfl (by kernel_rfl) (by kernel_rfl) (by kernel_rfl) (fun _ _ _ h => h) (Or.inl ⟨by kernel_rfl, fun u hu => exec_sub rfl (by kernel_rfl) (by kernel_rfl) HD.out.1 HD.out.2⟩) hS ?_
              simp only [Act.put, List.getElem_toArray, List.getElem_cons_succ, List.getElem_cons_zero, List.setIfInBounds_toArray, List.set_cons_zero, List.set_cons_succ]
              refine wpAnyH_ready (rs := [1]) (by kernel_rfl) (by simp) ?_
              refine AllReadyH.cons rfl (fun K hK => ?_) AllReadyH.nil
              simp only [List.getElem_toArray, List.getElem_cons_succ, List.getElem_cons_zero]
              refine wp_if (by kernel_rfl) ?_
              refine wp_val (v := .slice (some ⟨W.heap.size, 0, none⟩) 1 1) (w' := W.alloc (.cells #[.int .u8 2] 5)) (build_c W 2 rfl) ?_
              have J1 : Hid (AE w.heap.size wr u6 (W.alloc (.cells #[.int .u8 2] 5)) u6 X ∧ Bt (W.alloc (.cells #[.int .u8 2] 5)) (.slice (some ⟨W.heap.size, 0, none⟩) 1 1) [2] ∧ S2 w.heap.size #[.slice fa p.files.length fc, .slice (some ⟨b2, off2, none⟩) p.seqs.length sc] b9 #[.int .i64 st, .int .i64 sz, .slice (some ⟨b3, off3, none⟩) rows.length rc] b10 (rA la) (W.alloc (.cells #[.int .u8 2] 5))) := ⟨HA21.out.post ((Below.refl _ _).alloc (Nat.le_refl _) _), bt_lit _ _, HS2.out.bel ((Below.refl _ _).alloc (Nat.le_refl _) _)⟩
              refine hK.out _ _ J1.out.2.2 (fun hS => ?_)
              clear hK
              simp only [Act.put, List.getElem_toArray, List.getElem_cons_succ, List.getElem_cons_zero, List.setIfInBounds_toArray, List.set_cons_zero, List.set_cons_succ]
              refine wpAnyH_ready (rs := [2]) (by kernel_rfl) (by simp) ?_
              refine AllReadyH.cons rfl (fun K hK => ?_) AllReadyH.nil
              simp only [List.getElem_toArray, List.getElem_cons_succ, List.getElem_cons_zero]
              refine wp_if (by kernel_rfl) ?_
              refine wp_app rfl (by kernel_rfl) (by kernel_rfl) (l := X) (m := [2]) J1.out.1.own J1.out.2.1 (by decide) (by have := HXl.out; simp; omega) (Nat.le_trans HV.out.1.bel.size J1.out.1.gr.size) ?_
              intro v2 w2 hA2
              have J2 : Hid (AE w.heap.size wr u6 w2 v2 (X ++ [2]) ∧ S2 w.heap.size #[.slice fa p.files.length fc, .slice (some ⟨b2, off2, none⟩) p.seqs.length sc] b9 #[.int .i64 st, .int .i64 sz, .slice (some ⟨b3, off3, none⟩) rows.length rc] b10 (rA la) w2) := ⟨J1.out.1.trans hA2, J1.out.2.2.keepA hA2 J1.out.1.own⟩
              refine hK.out _ _ J2.out.2 (fun hS => ?_)
              clear hK
              simp only [Act.put, List.getElem_toArray, List.getElem_cons_succ, List.getElem_cons_zero, List.setIfInBounds_toArray, List.set_cons_zero, List.set_cons_succ]
              refine wpAnyH_ready (rs := [8]) (by kernel_rfl) (by simp) ?_
              refine AllReadyH.cons rfl (fun K hK => ?_) AllReadyH.nil
              simp only [List.getElem_toArray, List.getElem_cons_succ, List.getElem_cons_zero]
              refine wp_if (by kernel_rfl) ?_
              refine wp_enter (f := 26) (args := #[.int .i64 (sz - la.at')]) (by kernel_rfl) (ruleb_any (sz - la.at') w2) ?_
              rintro e w3 ⟨v3, rfl, ho3, hb3⟩
              refine ⟨_, rfl, ?_⟩
              have J3 : Hid (AE w.heap.size wr u6 w3 v2 (X ++ [2]) ∧ Bt w3 v3 (ulB (sz - la.at')) ∧ S2 w.heap.size #[.slice fa p.files.length fc, .slice (some ⟨b2, off2, none⟩) p.seqs.length sc] b9 #[.int .i64 st, .int .i64 sz, .slice (some ⟨b3, off3, none⟩) rows.length rc] b10 (rA la) w3) := ⟨J2.out.1.post hb3, Own.bt (xs := ulB (sz - la.at')) ho3, J2.out.2.bel hb3⟩
              refine hK.out _ _ J3.out.2.2 (fun hS => ?_)
              clear hK
              simp only [Act.put, List.getElem_toArray, List.getElem_cons_succ, List.getElem_cons_zero, List.setIfInBounds_toArray, List.set_cons_zero, List.set_cons_succ]
              refine wpAnyH_ready (rs := [9]) (by kernel_rfl) (by simp) ?_
              refine AllReadyH.cons rfl (fun K hK => ?_) AllReadyH.nil
              simp only [List.getElem_toArray, List.getElem_cons_succ, List.getElem_cons_zero]
              refine wp_if (by kernel_rfl) ?_
              refine wp_app rfl (by kernel_rfl) (by kernel_rfl) (l := X ++ [2]) (m := ulB (sz - la.at')) J3.out.1.own J3.out.2.1 (ul_len_pos _) (by have := HXl.out; have := HUl.out; simp; omega) (Nat.le_trans HV.out.1.bel.size J3.out.1.gr.size) ?_
              intro v4 w4 hA4
              have J4 : Hid (AE w.heap.size wr u6 w4 v4 (X ++ [2] ++ ulB (sz - la.at')) ∧ S2 w.heap.size #[.slice fa p.files.length fc, .slice (some ⟨b2, off2, none⟩) p.seqs.length sc] b9 #[.int .i64 st, .int .i64 sz, .slice (some ⟨b3, off3, none⟩) rows.length rc] b10 (rA la) w4) := ⟨J3.out.1.trans hA4, J3.out.2.2.keepA hA4 J3.out.1.own⟩
              refine hK.out _ _ J4.out.2 (fun hS => ?_)
              clear hK
              simp only [Act.put, List.getElem_toArray, List.getElem_cons_succ, List.getElem_cons_zero, List.setIfInBounds_toArray, List.set_cons_zero, List.set_cons_succ]
              refine wpAnyH_take (i := 10) (v := v4) rfl (by kernel_rfl) (by kernel_rfl) (by kernel_rfl) (fun _ _ _ h => h) (Or.inl ⟨by kernel_rfl, fun u hu => by kernel_rfl⟩) hS ?_
              simp only [Act.put, List.getElem_toArray, List.getElem_cons_succ, List.getElem_cons_zero, List.setIfInBounds_toArray, List.set_cons_zero, List.set_cons_succ]
              refine wpAnyH_done (by kernel_rfl) ?_ _
              clear hS
              go_wp2_with fail
              go_meet
              exact ⟨J4.out.1.to (by rw [HRs.out]; simp)⟩
            · have HRs : Hid (restR (sz - la.at') = []) := ⟨by unfold restR; rw [if_pos (by omega)]⟩
              go_wp2
              go_meet
              exact ⟨(AE.refl HV.out.1.b).to (by rw [HRs.out]; simp)⟩
          case rest =>
          have HW22 : Hid _ := ⟨HV.out.1.app hcut.out⟩
          have K22 : Hid _ := ⟨HV.out.1.keepB hcut.out HV.out.2.k1 (by decide)⟩
          have HRl : Hid ((X ++ restR (sz - la.at')).length ≤ 13200100) := ⟨by have := restR_len (sz - la.at'); have := HXl.out; simp; omega⟩
          clear hcut HV d1 s0 d2
          generalize X ++ restR (sz - la.at') = XA at *
          have B22a : Hid (Below wc.heap.size wc (wc.alloc (.cells #[.int .u8 0, .int .u8 1, .int .u8 1] 5))) := ⟨(Below.refl _ _).alloc (Nat.le_refl _) _⟩
          have HW22a : Hid _ := ⟨HW22.out.post B22a.out⟩
          go_wp2_with (at_builtin; refine append_bk (wc.alloc (.cells #[.int .u8 0, .int .u8 1, .int .u8 1] 5)) rfl _ _ rfl w.heap.size u6 XA rfl HW22a.out.b _ [0, 1, 1] rfl (own_3 wc 0 1 1).bt (by have := HRl.out; simp; omega) HW22a.out.bel.size ?_; intro v30 w30 hA; have A30 : Hid _ := ⟨hA⟩; clear hA)
          go_roundw
          case rel =>
            refine ⟨i + 1, hlt, by go_num, ⟨?_, HW22a.out.keepB A30.out (K22.out.bel B22a.out K22.out.lt) (by decide)⟩⟩
            rw [HXn.out _ HS.out.1, HSQ2.out, ← HYe.out]
            exact HW22a.out.app A30.out
          case measure => simp [intOf]; omega
    · obtain rfl : i = p.seqs.length := by omega
      rw [List.take_of_length_le (Nat.le_refl _)] at HW ⊢
      have hcl : (cmdR p.seqs).length ≤ 12800000 := by have := cmdR_short HAll.out hsl p.seqs.length; rwa [List.take_of_length_le (Nat.le_refl _)] at this
      have hXl : ((H0 BR ++ cmdR p.seqs).length : Int) ≤ 12900000 := by rw [List.length_append, H0_len]; have := HBR.out; omega
      have HUl : Hid ((UR.length : Int) = ((H0 BR ++ cmdR p.seqs).length : Int) + 4) := ⟨by rw [HUr.out, List.length_append, pl_len]; omega⟩
      rw [← HHr.out] at HW
      generalize hX : H0 BR ++ cmdR p.seqs = X at *
      clear hX hcl
      have w1 : wrap64 ((X.length : Int) + 4) = (X.length : Int) + 4 := by unfold wrap64; omega
      obtain ⟨xa1, xc1, hv, _⟩ := HW.out.1.b.bt
      by_cases hbig : (1048576 : Int) < (X.length : Int) + 4
      · have HE : Hid (wriE p = 6) := ⟨by rw [HE0.out, HBig.out, if_pos (by simp; have := HUl.out; omega)]⟩
        clear hv
        go_wp2
        go_ret3
        exact HBad.out _ HE.out HW.out.1.bel
      · have HE : Hid (wriE p = 0) := ⟨by rw [HE0.out, HBig.out, if_neg (by simp; have := HUl.out; omega)]⟩
        clear hv
        have HLo : Hid (∀ W, Calls Try.prog 24 #[.int .i64 (X.length : Int), .int .i64 4] W fun e w' => ∃ v, e = .returned v ∧ Own w' W.heap.size v (pl (X.length : Int) 4) ∧ Below W.heap.size W w') := ⟨fun W => low4_any _ (by omega) W⟩
        go_wp2_with (first
          | (go_at_call 24; (with_reducible refine (HLo.out _).mono ?_); rintro e w31 ⟨v31, he, ho, hb⟩; subst he; have O31 : Hid _ := ⟨ho⟩; have HW31 : Hid _ := ⟨HW.out.1.post hb⟩; have B31 : Hid _ := ⟨hb⟩; clear ho hb)
          | (at_builtin; refine append_bk w31 rfl _ _ rfl wr.heap.size v31 (pl (X.length : Int) 4) rfl O31.out _ X rfl HW31.out.b.bt (by simp [pl_len]; omega) B31.out.size ?_; intro v32 w32 hA; have A32 : Hid _ := ⟨hA⟩; clear hA))
        go_ret3
        refine HGood.out _ _ _ HE.out ?_ (HW31.out.a.far A32.out.gr (fun j hj e => HW31.out.a.not_own O31.out j hj e)) (HW31.out.bel.trans ((A32.out.bel O31.out B31.out.size).mono HW.out.1.bel.size))
        rw [HUr.out]
        exact A32.out.own.low HW.out.1.bel.size
end Go.Proofs.Ytbhdledlahbokaa
