/- The bytes of a sequence. -/
import Derived.Test.YtbhdledlahbokaaLRow
namespace Go.Proofs.Ytbhdledlahbokaa
open Go.ChangeShapes Go.WideShapes Go.ChangeAt Go.RowKit
set_option linter.unusedVariables false
set_option linter.unusedSimpArgs false

theorem AE.setN {base : Nat} {w w1 : World} {v v1 : Value} {ys : List Int} (h : AE base w v w1 v1 ys) {c t : Nat} {cs : Array Value} (hB : Bk w1 c t cs) (ht : t ≠ 5) (hc : w.heap.size ≤ c) (V : Array Value) : AE base w v (w1.setRow c V) v1 ys := by
  have hne := h.own.not_bk hB ht
  have hg : w1.grownBy (w1.setRow c V) (some c) := ⟨rfl, rfl, rfl, by simp, fun k _ hk => setRow_other w1 c k V (fun e => hk (by rw [e]))⟩
  refine ⟨own_far h.own hg (fun e => hne e.symm), ⟨h.gr.os, h.gr.tape, h.gr.output, by simpa using h.gr.size, fun k hk hn => ?_⟩, h.bk⟩
  rw [setRow_other w1 c k V (by omega)]
  exact h.gr.block k hk hn
theorem firstRow_any (w : World) : Calls Try.prog 38 #[] w fun e w' => e = .returned (.agg #[.int .i64 0, .int .i64 1, .int .i64 1, .int .i64 0]) ∧ Below w.heap.size w w' := by
  go_enter Try.func38, Try.ntmps38
  go_wp2
  refine bodyPost_ret (v := .agg #[.int .i64 0, .int .i64 1, .int .i64 1, .int .i64 0]) ?_ rfl ⟨rfl, (Below.refl _ _).alloc (Nat.le_refl _) _⟩
  exact results_cell_row (p := 0) (ty := 47) (by kernel_rfl) _ _ w.heap.size 47 _ (0, 0) _ (by kernel_rfl) (heap_alloc_new w _) Try.underlying47 rfl (by kernel_rfl)

theorem sizeRowL : (Try.prog.info? 47).map (·.size) = some 4 := by kernel_rfl
theorem one4 (a b c d : Int) : ∀ u ∈ (Value.agg #[.int .i64 a, .int .i64 b, .int .i64 c, .int .i64 d]).cells.toList, u.oneCell' = true := by
  intro u hu
  simp [Value.cells] at hu
  rcases hu with rfl | rfl | rfl | rfl <;> rfl
/-- The row ahead, and the row. -/
structure Step (s r : Lr) : Prop where
  at' : 0 ≤ s.at' ∧ s.at' ≤ r.at' ∧ r.at' ≤ 1048576
  ls : 0 ≤ s.li ∧ s.li ≤ 2147483647
  lr : 0 ≤ r.li ∧ r.li ≤ 2147483647
theorem last_in (l : List Lr) : l = [] ∧ lastR Lr.first l = Lr.first ∨ lastR Lr.first l ∈ l := by
  unfold lastR
  cases h : l.getLast? with
  | none => left; exact ⟨by simpa using h, rfl⟩
  | some r => right; exact List.mem_of_getLast? h
theorem row_step {sz n : Int} {rows : List Lr} (hF : rowsF sz n 0 rows = true) (hsz : sz ≤ 1048576) {k : Nat} (hk : k < rows.length) : Step (lastR Lr.first (rows.take k)) (rows.getD k Lr.zero) := by
  have hr := rowsF_lines hF _ (lr_in hk)
  have hm : rowB1 (lastAt 0 (rows.take k)) sz n (rows.getD k Lr.zero) = true := by
    cases h : rowB1 (lastAt 0 (rows.take k)) sz n (rows.getD k Lr.zero)
    · have := rowsF_stop sz n rows k hk h
      rw [this] at hF; cases hF
    · rfl
  have e : lastAt 0 (rows.take k) = (lastR Lr.first (rows.take k)).at' := lastAt_eq Lr.first _
  rw [e] at hm
  unfold rowB1 at hm
  simp only [Bool.and_eq_true] at hm
  have h1 := inB_of hm.1
  rcases last_in (rows.take k) with ⟨h0, h⟩ | h
  · rw [h] at h1 ⊢
    exact ⟨⟨by decide, h1.1, by omega⟩, by decide, hr.1⟩
  · have hs := rowsF_lines hF _ (List.mem_of_mem_take h)
    exact ⟨⟨hs.2.2.2.1, h1.1, by omega⟩, hs.1, hr.1⟩
theorem rowsR_at (rows : List Lr) (k : Nat) (hk : k < rows.length) : rowsR Lr.first (rows.take (k + 1)) = rowsR Lr.first (rows.take k) ++ rowR (lastR Lr.first (rows.take k)) (rows.getD k Lr.zero) ∧ lastR Lr.first (rows.take (k + 1)) = rows.getD k Lr.zero := by
  rw [take_at rows Lr.zero k hk, rowsR_append, lastR_snoc]
  simp [rowsR]

set_option maxRecDepth 20000 in
set_option maxHeartbeats 4000000 in
theorem appendSeq_any {base : Nat} {w : World} {v : Value} {xs : List Int} (ho : Own w base v xs) (hb : base ≤ w.heap.size) (hx : xs.length ≤ 50000000) (q : Sq) (n : Int) (hq : seqB n q = true) (ao : Option Addr) (c : Nat)
    (hR : ∀ W, Below base w W → Lrs W ao q.rows) :
    Calls Try.prog 21 #[v, .agg #[.int .i64 q.st, .int .i64 q.sz, .slice ao q.rows.length c]] w fun e w' => ∃ v', e = .returned v' ∧ AE base w v w' v' (xs ++ seqR q) := by
  obtain ⟨hst, hsz, hrl, hrF⟩ := seq_ok hq
  have HQ : Hid (seqR q = [0, 9, 2] ++ (pl q.st 8 ++ (rowsR Lr.first q.rows ++ (restR (q.sz - (lastR Lr.first q.rows).at') ++ [0, 1, 1])))) := ⟨rfl⟩
  generalize seqR q = R at *
  obtain ⟨st, sz, rows⟩ := q
  dsimp only at *
  have HX : Hid (xs.length ≤ 50000000 ∧ base ≤ w.heap.size) := ⟨hx, hb⟩
  have HRw : Hid _ := ⟨hR⟩
  have HO : Hid _ := ⟨ho⟩
  have HF : Hid _ := ⟨hrF⟩
  have HP : Hid (∀ W, Calls Try.prog 37 #[.int .i64 st, .int .i64 8] W fun e w' => e = .returned (.tuple #[.slice (some ⟨W.heap.size, 0, none⟩) 8 8, .int .i64 0]) ∧ Own w' W.heap.size (.slice (some ⟨W.heap.size, 0, none⟩) 8 8) (pl st 8) ∧ Below W.heap.size W w') := ⟨fun W => (put_8 st W (.inl (by unfold fitsB; simp; omega))).mono (fun e w' h => ⟨h.1, Own.of_part h.2.1, h.2.2⟩)⟩
  have HFR : Hid (∀ W, _) := ⟨firstRow_any⟩
  have hn64 : (rows.length : Int) ≤ 4000 := by omega
  have hbel : Below w.heap.size w (w.alloc (.cells #[.int .i64 st, .int .i64 sz, .slice ao rows.length c] 63)) := (Below.refl _ w).alloc (Nat.le_refl _) _
  have K3 := Bk.new w #[.int .i64 st, .int .i64 sz, .slice ao rows.length c] 63
  have hA0 := (AE.refl ho).post hbel
  clear ho hx hb hR hrF hq
  go_enter Try.func21, Try.ntmps21
  go_upto_region 1 with (fail)
  generalize w.alloc (.cells #[.int .i64 st, .int .i64 sz, .slice ao rows.length c] 63) = V at *
  obtain ⟨B3, hB3⟩ : ∃ B, w.heap.size = B := ⟨_, rfl⟩
  have HB3 : Hid _ := ⟨hB3⟩
  rw [hB3] at K3 ⊢
  have HA0 : Hid _ := ⟨hA0⟩
  have HK3 : Hid _ := ⟨K3⟩
  have d0 := K3.cell 0 rfl; have d1 := K3.cell 1 rfl; have d2 := K3.cell 2 rfl
  clear K3 hA0 hB3 hbel
  have tk : True := trivial
  go_upto_region 3 with (first
    | (go_at_call 37; (with_reducible refine (HP.out _).mono ?_); rintro e w1 ⟨he, ho1, hb1⟩; subst he; have H1 : Hid _ := ⟨ho1⟩; have HB1 : Hid _ := ⟨hb1⟩; clear ho1 hb1)
    | (at_builtin; refine append_str w1 rfl _ _ rfl base v xs rfl (HA0.out.own.bel HB1.out) ⟨#[0, 9, 2]⟩ rfl (by have := HX.out.1; have : (ByteArray.size ⟨#[0, 9, 2]⟩) = 3 := rfl; omega) (by have := HX.out.2; have := HA0.out.gr.size; have := HB1.out.size; omega) ?_; intro v2 w2 hA2; have H2 : Hid (AE base V v w2 v2 (xs ++ bts ⟨#[0, 9, 2]⟩)) := ⟨AE.pre HB1.out hA2⟩; have H2b : Hid (Own w2 V.heap.size (.slice (some ⟨V.heap.size, 0, none⟩) 8 8) (pl st 8)) := ⟨own_far H1.out hA2.gr (fun e => by have := HO.out.lt V.heap.size e; have := HA0.out.gr.size; omega)⟩; clear hA2)
    | (at_builtin; refine append_bk w2 rfl _ _ rfl base v2 (xs ++ bts ⟨#[0, 9, 2]⟩) rfl H2.out.own _ (pl st 8) rfl H2b.out.bt (by have := HX.out.1; have : (bts ⟨#[0, 9, 2]⟩).length = 3 := rfl; simp [pl_len]; omega) (by have := HX.out.2; have := HA0.out.gr.size; have := H2.out.gr.size; omega) ?_; intro v3 w3 hA3; have H3 : Hid (AE base V v w3 v3 (xs ++ bts ⟨#[0, 9, 2]⟩ ++ pl st 8)) := ⟨H2.out.trans hA3⟩; clear hA3))
  clear d0 d1 d2
  have tk2 : True := trivial
  go_upto_region 4 with (go_at_call 38; (with_reducible refine (HFR.out _).mono ?_); rintro e w4 ⟨he, hb4⟩; subst he; have HB4 : Hid _ := ⟨hb4⟩; clear hb4)
  have K7 := Bk.new w4 #[.int .i64 0, .int .i64 1, .int .i64 1, .int .i64 0] 47
  have hA4 : AE base V v (w4.alloc (.cells #[.int .i64 0, .int .i64 1, .int .i64 1, .int .i64 0] 47)) v3 (xs ++ bts ⟨#[0, 9, 2]⟩ ++ pl st 8) := (H3.out.post HB4.out).post ((Below.refl _ _).alloc (Nat.le_refl _) _)
  have h7 : V.heap.size ≤ w4.heap.size := Nat.le_trans H3.out.gr.size HB4.out.size
  generalize w4.alloc (.cells #[.int .i64 0, .int .i64 1, .int .i64 1, .int .i64 0] 47) = V2 at *
  generalize w4.heap.size = B7 at *
  clear H3 HB4 HFR HP
  have HL0 : Hid ((xs ++ bts ⟨#[0, 9, 2]⟩ ++ pl st 8).length ≤ 50000011) := ⟨by have := HX.out.1; have : (bts ⟨#[0, 9, 2]⟩).length = 3 := rfl; simp [pl_len]; omega⟩
  have HE0 : Hid (xs ++ bts ⟨#[0, 9, 2]⟩ ++ pl st 8 = xs ++ ([0, 9, 2] ++ pl st 8)) := ⟨by rw [List.append_assoc]; rfl⟩
  generalize xs ++ bts ⟨#[0, 9, 2]⟩ ++ pl st 8 = X0 at *
  have K3 := hA4.keep HA0.out.own HK3.out (by decide)
  have d0 := K3.cell 0 rfl; have d1 := K3.cell 1 rfl; have d2 := K3.cell 2 rfl
  have HA4 : Hid _ := ⟨hA4⟩
  have HK7 : Hid _ := ⟨K7⟩
  have H7 : Hid _ := ⟨h7⟩
  clear K3 hA4 K7 h7
  go_wp2
  clear d0 d1 d2
  go_loopw [25, 0] (fun iv s0 wr => ∃ k : Nat, k ≤ rows.length ∧ iv = .int .i64 k ∧ Hid (AE base V v wr s0 (X0 ++ rowsR Lr.first (rows.take k)) ∧ Bk wr B7 47 (rA (lastR Lr.first (rows.take k))))) (fun iv _ _ => rows.length - (intOf iv).toNat)
  case atStart => exact ⟨0, by omega, rfl, ⟨by simpa [rowsR] using HA4.out, HK7.out⟩⟩
  case round =>
    obtain ⟨k, hk, rfl, HW⟩ := hrel
    by_cases hlt : k < rows.length
    · obtain ⟨b, off, rfl, hat⟩ : ∃ b off, ao = some ⟨b, off, none⟩ ∧ ∀ j, j < rows.length → LrAt wr b (off + j * 4) (rows.getD j Lr.zero) := by
        rcases HRw.out wr ((HA0.out.trans HW.out.1).bel HO.out HX.out.2) with h | h
        · omega
        · exact h
      have q1 : (k : Int) < (rows.length : Int) := by omega
      have q0 : (0 : Int) ≤ (k : Int) := by omega
      obtain ⟨c0, c1, c2, c3⟩ := hat k hlt
      clear hat
      have HS : Hid _ := ⟨row_step HF.out hsz.2 hlt⟩
      have HR2 : Hid _ := ⟨rowsR_at rows k hlt⟩
      have HLn : Hid ((X0 ++ rowsR Lr.first (rows.take k)).length ≤ 100000000) := ⟨by
        have h1 := rowsR_len Lr.first (rows.take k) (by decide) (fun r hr => (rowsF_lines HF.out r (List.mem_of_mem_take hr)).1)
        have h2 := HL0.out
        have h3 : (rows.take k).length ≤ 4000 := by simp; omega
        rw [List.length_append]; omega⟩
      generalize hs' : lastR Lr.first (rows.take k) = s' at *
      clear hs'
      generalize rows.getD k Lr.zero = r at *
      generalize rowsR Lr.first (rows.take k) = Y at *
      obtain ⟨sa, sf, sl', sc⟩ := s'
      obtain ⟨ra, rf, rl, rc⟩ := r
      dsimp only at c0 c1 c2 c3
      have KB : Bk wr B7 47 #[.int .i64 sa, .int .i64 sf, .int .i64 sl', .int .i64 sc] := HW.out.2
      have e0 := (KB.bel ((Below.refl _ wr).alloc (Nat.le_refl _) (.cells #[.int .i64 ra, .int .i64 rf, .int .i64 rl, .int .i64 rc] 47)) KB.lt).cell 0 rfl
      have e1 := (KB.bel ((Below.refl _ wr).alloc (Nat.le_refl _) (.cells #[.int .i64 ra, .int .i64 rf, .int .i64 rl, .int .i64 rc] 47)) KB.lt).cell 1 rfl
      have e2 := (KB.bel ((Below.refl _ wr).alloc (Nat.le_refl _) (.cells #[.int .i64 ra, .int .i64 rf, .int .i64 rl, .int .i64 rc] 47)) KB.lt).cell 2 rfl
      have e3 := (KB.bel ((Below.refl _ wr).alloc (Nat.le_refl _) (.cells #[.int .i64 ra, .int .i64 rf, .int .i64 rl, .int .i64 rc] 47)) KB.lt).cell 3 rfl
      have HKB : Hid _ := ⟨KB.bel ((Below.refl _ wr).alloc (Nat.le_refl _) (.cells #[.int .i64 ra, .int .i64 rf, .int .i64 rl, .int .i64 rc] 47)) KB.lt⟩
      have HK9 : Hid _ := ⟨Bk.new wr #[.int .i64 ra, .int .i64 rf, .int .i64 rl, .int .i64 rc] 47⟩
      have HOw : Hid _ := ⟨HW.out.1.own.bel ((Below.refl _ wr).alloc (Nat.le_refl _) (.cells #[.int .i64 ra, .int .i64 rf, .int .i64 rl, .int .i64 rc] 47))⟩
      have HC : Hid (Calls Try.prog 39 #[u0, .agg #[.int .i64 sa, .int .i64 sf, .int .i64 sl', .int .i64 sc], .agg #[.int .i64 ra, .int .i64 rf, .int .i64 rl, .int .i64 rc]] (wr.alloc (.cells #[.int .i64 ra, .int .i64 rf, .int .i64 rl, .int .i64 rc] 47)) _) :=
        ⟨appendRow_any HOw.out (by have := HX.out.2; have := HA0.out.gr.size; have := HW.out.1.gr.size; simp; omega) HLn.out ⟨sa, sf, sl', sc⟩ ⟨ra, rf, rl, rc⟩ HS.out.at' HS.out.ls HS.out.lr⟩
      clear KB
      go_upto_region 8 with (go_at_call 39; (with_reducible refine HC.out.mono ?_); rintro e w5 ⟨v5, he, hA5⟩; subst he; have H5 : Hid _ := ⟨hA5⟩; clear hA5)
      have K9 := H5.out.keep HOw.out HK9.out (by decide)
      have f0 := K9.cell 0 rfl; have f1 := K9.cell 1 rfl; have f2 := K9.cell 2 rfl; have f3 := K9.cell 3 rfl
      have HK5 : Hid _ := ⟨H5.out.keep HOw.out HKB.out (by decide)⟩
      clear K9 e0 e1 e2 e3 c0 c1 c2 c3
      have H5' : Hid (AE base V v (w5.setRow B7 #[.int .i64 ra, .int .i64 rf, .int .i64 rl, .int .i64 rc]) v5 (X0 ++ (Y ++ rowR ⟨sa, sf, sl', sc⟩ ⟨ra, rf, rl, rc⟩))) := ⟨((HW.out.1.trans (AE.pre ((Below.refl _ _).alloc (Nat.le_refl _) _) H5.out)).setN HK5.out (by decide) H7.out _).to (by simp)⟩
      go_wp2_with (refine wpList_part (g := B7) (off := 0) (val := .agg #[.int .i64 ra, .int .i64 rf, .int .i64 rl, .int .i64 rc]) (new := #[.int .i64 ra, .int .i64 rf, .int .i64 rl, .int .i64 rc]) rfl rfl (by rfl) (by rfl) HK5.out (by rw [sizeRowL]; rfl) (by show 0 + 4 ≤ 4; omega) (one4 _ _ _ _) rfl ?_)
      go_roundw
      case rel => exact ⟨k + 1, hlt, by go_num, ⟨H5'.out.to (by rw [HR2.out.1]), by rw [HR2.out.2]; exact HK5.out.setR _⟩⟩
      case measure => simp [intOf]; omega
    · obtain rfl : k = rows.length := by omega
      rw [List.take_of_length_le (Nat.le_refl _)] at HW
      have hrest : 0 ≤ sz - (lastR Lr.first rows).at' ∧ sz - (lastR Lr.first rows).at' ≤ 1048576 := by
        rcases last_in rows with ⟨h0, h⟩ | h
        · rw [h0] at hrl; simp at hrl
        · have := rowsF_lines HF.out _ h; omega
      have HLn : Hid ((X0 ++ rowsR Lr.first rows).length ≤ 100000000) := ⟨by
        have h1 := rowsR_len Lr.first rows (by decide) (fun r hr => (rowsF_lines HF.out r hr).1)
        have h2 := HL0.out
        rw [List.length_append]; omega⟩
      have HE1 : Hid (X0 ++ rowsR Lr.first rows = xs ++ ([0, 9, 2] ++ (pl st 8 ++ rowsR Lr.first rows))) := ⟨by rw [HE0.out]; simp⟩
      generalize lastR Lr.first rows = s' at *
      generalize rowsR Lr.first rows = Y at *
      obtain ⟨sa, sf, sl', sc⟩ := s'
      dsimp only at hrest HQ
      have KB : Bk wr B7 47 #[.int .i64 sa, .int .i64 sf, .int .i64 sl', .int .i64 sc] := HW.out.2
      have e0 := KB.cell 0 rfl
      have K3 := HW.out.1.keep HA0.out.own HK3.out (by decide)
      have d1 := K3.cell 1 rfl
      clear K3 KB
      obtain ⟨rest, hw⟩ : ∃ rest, wrap64 (sz - sa) = rest := ⟨_, rfl⟩
      have hw' : sz - sa = rest := by rw [← hw]; unfold wrap64; omega
      rw [hw'] at HQ
      clear hw' hrest hsz
      by_cases h0 : rest = 0
      · have HQ2 : Hid (restR rest = []) := ⟨by unfold restR; rw [if_pos h0]⟩
        subst h0
        go_wp2_with (at_builtin; refine append_str wr rfl _ _ rfl base u0 (X0 ++ Y) rfl HW.out.1.own ⟨#[0, 1, 1]⟩ rfl (by have := HLn.out; have : (ByteArray.size ⟨#[0, 1, 1]⟩) = 3 := rfl; omega) (by have := HX.out.2; have := HA0.out.gr.size; have := HW.out.1.gr.size; omega) ?_; intro v8 w8 hA8; have H8 : Hid (AE base w v w8 v8 (X0 ++ Y ++ bts ⟨#[0, 1, 1]⟩)) := ⟨(HA0.out.trans HW.out.1).trans hA8⟩; clear hA8)
        go_ret
        exact ⟨_, rfl, H8.out.to (by rw [HQ.out, HQ2.out, HE1.out]; simp; rfl)⟩
      · have HQ2 : Hid (restR rest = 2 :: ulB rest) := ⟨by unfold restR; rw [if_neg h0]⟩
        have HUl : Hid _ := ⟨ulB_len rest⟩
        have HC : Hid _ := ⟨appendUleb_any HW.out.1.own (by have := HX.out.2; have := HA0.out.gr.size; have := HW.out.1.gr.size; omega) (by have := HLn.out; omega) 2 rest⟩
        go_wp2_with (first
          | (go_at_call 40; (with_reducible refine HC.out.mono ?_); rintro e w7 ⟨v7, he, hA7⟩; subst he; have H9 : Hid (AE base V v w7 v7 (X0 ++ Y ++ (2 :: ulB rest))) := ⟨HW.out.1.trans hA7⟩; clear hA7)
          | (at_builtin; refine append_str w7 rfl _ _ rfl base v7 (X0 ++ Y ++ (2 :: ulB rest)) rfl H9.out.own ⟨#[0, 1, 1]⟩ rfl (by have := HLn.out; have := HUl.out; have : (ByteArray.size ⟨#[0, 1, 1]⟩) = 3 := rfl; simp at *; omega) (by have := HX.out.2; have := HA0.out.gr.size; have := H9.out.gr.size; omega) ?_; intro v8 w8 hA8; have H8 : Hid (AE base w v w8 v8 (X0 ++ Y ++ (2 :: ulB rest) ++ bts ⟨#[0, 1, 1]⟩)) := ⟨(HA0.out.trans H9.out).trans hA8⟩; clear hA8))
        go_ret
        exact ⟨_, rfl, H8.out.to (by rw [HQ.out, HQ2.out, HE1.out]; simp; rfl)⟩
end Go.Proofs.Ytbhdledlahbokaa
