/- P1507, P1508, of what can be written. -/
import Derived.Test.YtbhdledlahbokaaLookBad
namespace Go.Proofs.Ytbhdledlahbokaa
open Go.ChangeShapes Go.WideShapes Go.ChangeAt Go.RowKit Go.Conc
set_option linter.unusedVariables false
set_option linter.unusedSimpArgs false

/-- What Write leaves of a program that can be written: so many bytes, so many places. -/
def WrOkM (p : Pg) (L : Nat) (w : World) (e : Ending) (w' : World) : Prop := ∃ g c aa ac, e = .returned (.tuple #[.slice (some ⟨g, 0, none⟩) L c, .slice aa p.seqs.length ac, .int .i64 0]) ∧ L ≤ c ∧ c ≤ 9223372036854775807 ∧ Own w' w.heap.size (.slice (some ⟨g, 0, none⟩) L c) (unitR p) ∧ OwnI w' w.heap.size (.slice aa p.seqs.length ac) (atsF ((headR p.files ((cmdR p.seqs).length : Int)).length : Int) p.seqs) ∧ Below w.heap.size w w'
theorem write_okM (fa sa : Option Addr) (fc sc : Nat) (p : Pg) (w : World) (h : PgIn w fa sa p) (he : wriE p = 0) {n : Nat} (hn : (unitR p).length = n) :
    Calls Try.prog 8 #[.agg #[.slice fa p.files.length fc, .slice sa p.seqs.length sc]] w (WrOkM p n w) := by
  subst hn
  refine (write_ok fa sa fc sc p w h he).mono fun e w' ⟨g, c, v, h1, h2, h3, h4, h5, h6, h7, h8⟩ => ?_
  obtain ⟨aa, ac, hv⟩ := h7.sl
  rw [atsF_len] at hv
  subst hv
  exact ⟨g, c, aa, ac, h1, h3, h4, h6, h7, h8⟩
theorem add_fix (a b L : Nat) (h : a + b < L) (hL : L ≤ 1048576) : wrap64 ((a : Int) + (b : Int)) = ((a + b : Nat) : Int) ∧ ((a + b : Nat) : Int) < (L : Int) ∧ (0 : Int) ≤ ((a + b : Nat) : Int) := by unfold wrap64; omega
theorem tmod_in (s n : Int) (h1 : 1 ≤ n) : -n < s.tmod n ∧ s.tmod n < n := by
  rcases Int.le_total 0 s with h | h
  · rw [Int.tmod_eq_emod_of_nonneg h]
    have h2 := Int.emod_nonneg s (show n ≠ 0 by omega)
    have h3 := Int.emod_lt_of_pos s (show 0 < n by omega)
    omega
  · have e : s.tmod n = -((-s).tmod n) := by rw [Int.neg_tmod, Int.neg_neg]
    rw [e, Int.tmod_eq_emod_of_nonneg (show 0 ≤ -s by omega)]
    have h2 := Int.emod_nonneg (-s) (show n ≠ 0 by omega)
    have h3 := Int.emod_lt_of_pos (-s) (show 0 < n by omega)
    omega
theorem tmod_fix (s n : Int) (h1 : 1 ≤ n) (h2 : n ≤ 4611686018427387904) : 0 ≤ (wrap64 (s.tmod n + n)).tmod n ∧ (wrap64 (s.tmod n + n)).tmod n < n := by
  have h := tmod_in s n h1
  have e : wrap64 (s.tmod n + n) = s.tmod n + n := by unfold wrap64; omega
  rw [e, Int.tmod_eq_emod_of_nonneg (by omega)]
  exact ⟨Int.emod_nonneg _ (by omega), Int.emod_lt_of_pos _ (by omega)⟩
theorem grown_add {w1 w2 w3 : World} {row : Option Nat} (h : w1.grownBy w2 row) (g : w2.grownBy w3 row) : w1.grownBy w3 row :=
  ⟨g.os.trans h.os, g.tape.trans h.tape, g.output.trans h.output, Nat.le_trans h.size g.size, fun k hk hn => (g.block k (Nat.lt_of_lt_of_le hk h.size) hn).trans (h.block k hk hn)⟩
theorem mixB_all {a b : List Int} (ha : a.length = 8) (hb : b.length = 8) : mixB a b 8 = a := by
  unfold mixB
  rw [List.take_of_length_le (by omega), List.drop_eq_nil_of_le (by omega), List.append_nil]
theorem read_mov {p : Pg} {K n L : Nat} {T : Int} (hn : p.seqs.length = n) (hK : K < n) (hT : 0 ≤ T ∧ T < 4611686018427387904) (he : wriE p = 0) (hl : (unitR (movP p K T)).length = L) {g c base : Nat} {w0 : World} (ho : Own w0 base (.slice (some ⟨g, 0, none⟩) L c) (unitR (movP p K T))) (h1 : L ≤ c) (h2 : c ≤ 9223372036854775807) :
    Calls Try.prog 19 #[.slice (some ⟨g, 0, none⟩) L c] w0 fun e w' => ∃ fa fc sa sc, e = .returned (.tuple #[.agg #[.slice fa p.files.length fc, .slice sa n sc], .int .i64 0]) ∧ PgIn w' fa sa (movP p K T) ∧ Below w0.heap.size w0 w' := by
  refine (read_unitN (movP p K T) (movP_ok (by omega) ⟨hT.1, by omega⟩ he) hl ho h1 h2 w0 (Below.refl _ _)).mono fun e w' ⟨fa, fc, sa, sc, k1, k2, k3⟩ => ⟨fa, fc, sa, sc, ?_, k2, k3⟩
  rw [k1]
  simp [movP, hn]
theorem find_one (p : Pg) (hw : Few p) (hq : ∀ x ∈ p.seqs, BndQ x) (addr : Int) (ha : -9223372036854775808 ≤ addr ∧ addr ≤ 9223372036854775807) (X : World) (fa sa : Option Addr) (fc sc : Nat) (h : PgIn X fa sa p) :
    Calls Try.prog 16 #[.slice (some ⟨X.heap.size, 0, none⟩) 1 1, .int .i64 addr] (X.alloc (.cells #[.slice fa p.files.length fc, .slice sa p.seqs.length sc] 28)) fun e w' => e = .returned (.tuple #[.string (nameOr (findM [p] addr)), rowV (rowOr ((findM [p] addr).map Prod.snd)), .bool (findM [p] addr).isSome]) ∧ Below X.heap.size X w' := by
  have hp := pgs_one (fc := fc) (sc := sc) (t := 28) h
  have := find_any [p] _ 1 addr _ hp (by simp) ha (fun x hx q hq2 => by
    obtain rfl := List.mem_singleton.1 hx
    exact hq q hq2)
  refine this.mono fun e w' ⟨he, hb2⟩ => ⟨he, ((Below.refl _ _).alloc (Nat.le_refl _) _).trans (hb2.mono (by simp))⟩

set_option maxRecDepth 20000 in
set_option maxHeartbeats 8000000 in
theorem looked_good (p : Pg) (fa sa : Option Addr) (fc sc : Nat) (addr seq to' : Int) (w : World) (h1 : PgIn w fa sa p) (n1 : fa = none → fc = 0) (f1 : Few p) (hq : ∀ x ∈ p.seqs, BndQ x) (hE : wriE p = 0) (ha : -9223372036854775808 ≤ addr ∧ addr ≤ 9223372036854775807) (hs : -9223372036854775808 ≤ seq ∧ seq ≤ 9223372036854775807) (ht : -9223372036854775808 ≤ to' ∧ to' ≤ 9223372036854775807) :
    Calls Try.prog 6 #[.agg #[.slice fa p.files.length fc, .slice sa p.seqs.length sc], .int .i64 addr, .int .i64 seq, .int .i64 to'] w fun e w' => e = .returned (.bool true) ∧ Below w.heap.size w w' := by
  have HK0 : Bk (w.alloc (.cells #[.slice fa p.files.length fc, .slice sa p.seqs.length sc] 25)) w.heap.size 25 #[.slice fa p.files.length fc, .slice sa p.seqs.length sc] := Bk.new _ _ _
  have HB0 : Hid (Below w.heap.size w (w.alloc (.cells #[.slice fa p.files.length fc, .slice sa p.seqs.length sc] 25))) := ⟨(Below.refl _ _).alloc (Nat.le_refl _) _⟩
  obtain ⟨L1, hL1⟩ : ∃ n, (unitR p).length = n := ⟨_, rfl⟩
  have HO1 : Hid (∀ W, Below w.heap.size w W → Calls Try.prog 7 #[.agg #[.slice fa p.files.length fc, .slice sa p.seqs.length sc]] W fun e w' => Made W e p w') := ⟨fun W hW => own_pg p fa sa fc sc W (h1.bel hW) n1 f1⟩
  have HOm : Hid (∀ W, Below w.heap.size w W → Calls Try.prog 7 #[.agg #[.slice fa p.files.length fc, .slice sa p.seqs.length sc]] W fun e w' => Mine W e p w') := ⟨fun W hW => own_mine p fa sa fc sc W (h1.bel hW) n1 f1⟩
  have HW1 : Hid (∀ W a b c d, PgIn W a c p → Calls Try.prog 8 #[.agg #[.slice a p.files.length b, .slice c p.seqs.length d]] W (WrOkM p L1 W)) := ⟨fun W a b c d h => write_okM a c b d p W h hE hL1⟩
  have HRd : Hid (∀ {g c base w0}, Own w0 base (.slice (some ⟨g, 0, none⟩) L1 c) (unitR p) → L1 ≤ c → c ≤ 9223372036854775807 → ∀ W, Below w0.heap.size w0 W → Calls Try.prog 19 #[.slice (some ⟨g, 0, none⟩) L1 c] W fun e w' => ∃ fa fc sa sc, e = .returned (.tuple #[.agg #[.slice fa p.files.length fc, .slice sa p.seqs.length sc], .int .i64 0]) ∧ PgIn w' fa sa p ∧ Below W.heap.size W w') := ⟨fun ho k1 k2 W hb => read_unitN p hE hL1 ho k1 k2 W hb⟩
  obtain ⟨N, hN⟩ : ∃ N, nameOr (findM [p] addr) = N := ⟨_, rfl⟩
  obtain ⟨R, hR⟩ : ∃ R, rowOr ((findM [p] addr).map Prod.snd) = R := ⟨_, rfl⟩
  obtain ⟨B, hB⟩ : ∃ B, (findM [p] addr).isSome = B := ⟨_, rfl⟩
  have HFd : Hid (∀ X fa fc sa sc, PgIn X fa sa p → Calls Try.prog 16 #[.slice (some ⟨X.heap.size, 0, none⟩) 1 1, .int .i64 addr] (X.alloc (.cells #[.slice fa p.files.length fc, .slice sa p.seqs.length sc] 28)) fun e w' => e = .returned (.tuple #[.string N, .agg #[.int .i64 R.at', .int .i64 R.fi, .int .i64 R.li, .int .i64 R.co], .bool B]) ∧ Below X.heap.size X w') := ⟨fun X fa fc sa sc h => by
    have := find_one p f1 hq addr ha X fa sa fc sc h
    rwa [hN, hR, hB] at this⟩
  clear hN hR hB
  obtain ⟨ra, rf, rl, rco⟩ := R
  dsimp only at HFd
  have HFew : Hid _ := ⟨f1⟩
  have HWri : Hid _ := ⟨hE⟩
  have HLn : Hid _ := ⟨hL1⟩
  have hsl : (p.seqs.length : Int) ≤ 1048576 := by have := f1.s; omega
  obtain ⟨n, hn⟩ : ∃ n, p.seqs.length = n := ⟨_, rfl⟩
  have HNl : Hid _ := ⟨hn⟩
  clear h1 n1 f1 hq hE ha hL1
  unfold WrOkM at HW1
  unfold Made at HO1
  unfold Mine at HOm
  rw [hn] at HW1 HO1 HOm HRd HFd hsl HK0 HB0
  rw [hn]
  clear hn
  have a0 := HK0.cell 0 rfl
  have a1 := HK0.cell 1 rfl
  have HK0 : Hid _ := ⟨HK0⟩
  go_enter Try.func6, Try.ntmps6
  go_upto_region 1 with (fail)
  generalize w.alloc (.cells #[.slice fa p.files.length fc, .slice sa n sc] 25) = V at *
  go_upto_region 2 with (first
    | (go_at_call 7; (with_reducible refine (HO1.out _ HB0.out).mono ?_); rintro e w1 ⟨na, nc, ta', tc', he, hp, hb⟩; subst he; have H1 : Hid _ := ⟨hp⟩; have B1 : Hid _ := ⟨hb⟩; clear hp hb)
    | (go_at_call 8; (with_reducible refine (HW1.out _ _ _ _ _ H1.out).mono ?_); rintro e w2 ⟨g1, c1, aa, ac, he, hz1, hz2, ho, hi, hb⟩; subst he; have Z2 : Hid _ := ⟨ho⟩; have I2 : Hid _ := ⟨hi⟩; have B2 : Hid _ := ⟨hb⟩; clear ho hi hb))
  clear a0 a1
  go_upto_region 4 with (first
    | (go_at_call 11; (with_reducible refine (num_any _ _).mono ?_); rintro e wn ⟨he, hwn⟩; subst he; subst wn)
    | (go_at_call 15; (with_reducible refine (knows_any _).mono ?_); rintro e w3 ⟨he, hb⟩; subst he; have B3 : Hid _ := ⟨hb⟩; clear hb))
  have Z3 : Hid _ := ⟨Z2.out.bel B3.out⟩
  have I3 : Hid _ := ⟨I2.out.bel B3.out⟩
  have K3 : Hid (Bk w3 w.heap.size 25 #[.slice fa p.files.length fc, .slice sa n sc]) := ⟨((HK0.out.bel B1.out HK0.out.lt).bel B2.out (HK0.out.bel B1.out HK0.out.lt).lt).bel B3.out ((HK0.out.bel B1.out HK0.out.lt).bel B2.out (HK0.out.bel B1.out HK0.out.lt).lt).lt⟩
  have D3 : Hid (Below w.heap.size w w3) := ⟨HB0.out.trans ((B1.out.trans ((B2.out.trans (B3.out.mono B2.out.size)).mono B1.out.size)).mono HB0.out.size)⟩
  have hga : w1.heap.size ≤ g1 := Z2.out.fr.1
  have hw1 : w.heap.size < w1.heap.size := Nat.lt_of_lt_of_le HK0.out.lt B1.out.size
  clear B1 B2 B3 Z2 I2 HK0 HB0 H1
  have HR3 : Hid _ := ⟨HRd.out Z3.out hz1 hz2 w3 (Below.refl _ _)⟩
  go_upto_region 5 with (go_at_call 19; (with_reducible refine HR3.out.mono ?_); rintro e w4 ⟨pa, pc, qa, qc, he, hp, hb⟩; subst he; have H4 : Hid _ := ⟨hp⟩; have B4 : Hid _ := ⟨hb⟩; clear hp hb)
  clear HR3
  have b5 : Below w3.heap.size w3 (w4.alloc (.cells #[.slice pa p.files.length pc, .slice qa n qc] 28)) := B4.out.alloc B4.out.size _
  have K5 : Hid _ := ⟨Bk.new w4 #[.slice pa p.files.length pc, .slice qa n qc] 28⟩
  have H5 : Hid _ := ⟨H4.out.bel (w' := w4.alloc (.cells #[.slice pa p.files.length pc, .slice qa n qc] 28)) ((Below.refl _ _).alloc (Nat.le_refl _) _)⟩
  have Z5 : Hid _ := ⟨Z3.out.bel b5⟩
  have I5 : Hid _ := ⟨I3.out.bel b5⟩
  have KA5 : Hid _ := ⟨K3.out.bel b5 K3.out.lt⟩
  have D5 : Hid _ := ⟨D3.out.trans (b5.mono D3.out.size)⟩
  have hB12 : w.heap.size < w4.heap.size := Nat.lt_of_lt_of_le K3.out.lt B4.out.size
  clear Z3 I3 K3 b5 B4 H4
  generalize w4.alloc (.cells #[.slice pa p.files.length pc, .slice qa n qc] 28) = V5 at *
  generalize w4.heap.size = b12 at *
  have a0 := KA5.out.cell 0 rfl
  have a1 := KA5.out.cell 1 rfl
  go_upto_region 6 with (first
    | (go_at_call 7; (with_reducible refine (HO1.out _ D5.out).mono ?_); rintro e w6 ⟨xa, xc, ya, yc, he, hp, hb⟩; subst he; have H6 : Hid _ := ⟨hp⟩; have B6 : Hid _ := ⟨hb⟩; clear hp hb)
    | (go_at_call 16; (with_reducible refine (HFd.out _ _ _ _ _ H6.out).mono ?_); rintro e w7 ⟨he, hb⟩; subst he; have B7 : Hid _ := ⟨hb⟩; clear hb))
  clear a0 a1
  have B7a : Hid (Below V5.heap.size V5 (w7.alloc (.cells #[.int .i64 ra, .int .i64 rf, .int .i64 rl, .int .i64 rco] 47))) := ⟨(B6.out.trans (B7.out.mono B6.out.size)).alloc (Nat.le_trans B6.out.size B7.out.size) _⟩
  have K15 : Hid _ := ⟨Bk.new w7 #[.int .i64 ra, .int .i64 rf, .int .i64 rl, .int .i64 rco] 47⟩
  have K12 : Hid _ := ⟨K5.out.bel B7a.out K5.out.lt⟩
  have KA7 : Hid _ := ⟨KA5.out.bel B7a.out KA5.out.lt⟩
  have Z7 : Hid _ := ⟨Z5.out.bel B7a.out⟩
  have I7 : Hid _ := ⟨I5.out.bel B7a.out⟩
  have H7 : Hid _ := ⟨H5.out.bel B7a.out⟩
  have D7 : Hid _ := ⟨D5.out.trans (B7a.out.mono D5.out.size)⟩
  have hB15 : b12 < w7.heap.size := by have := K5.out.lt; have := B6.out.size; have := B7.out.size; omega
  clear K5 KA5 Z5 I5 H5 D5 B7a B6 B7 H6
  generalize w7.alloc (.cells #[.int .i64 ra, .int .i64 rf, .int .i64 rl, .int .i64 rco] 47) = V7 at *
  generalize w7.heap.size = b15 at *
  have d0 := K12.out.cell 0 rfl
  have d1 := K12.out.cell 1 rfl
  have HF7 : Hid _ := ⟨HFd.out V7 pa pc qa qc H7.out⟩
  go_upto_region 7 with (go_at_call 16; (with_reducible refine HF7.out.mono ?_); rintro e w8 ⟨he, hb⟩; subst he; have B8 : Hid _ := ⟨hb⟩; clear hb)
  clear d0 d1 HF7
  have B8a : Hid (Below V7.heap.size V7 (w8.alloc (.cells #[.int .i64 ra, .int .i64 rf, .int .i64 rl, .int .i64 rco] 47))) := ⟨B8.out.alloc B8.out.size _⟩
  have K18 : Hid _ := ⟨Bk.new w8 #[.int .i64 ra, .int .i64 rf, .int .i64 rl, .int .i64 rco] 47⟩
  have K15' : Hid _ := ⟨K15.out.bel B8a.out K15.out.lt⟩
  have KA8 : Hid _ := ⟨KA7.out.bel B8a.out KA7.out.lt⟩
  have Z8 : Hid _ := ⟨Z7.out.bel B8a.out⟩
  have I8 : Hid _ := ⟨I7.out.bel B8a.out⟩
  have D8 : Hid _ := ⟨D7.out.trans (B8a.out.mono D7.out.size)⟩
  clear K12 KA7 Z7 I7 H7 D7 K15 B8 B8a
  generalize w8.alloc (.cells #[.int .i64 ra, .int .i64 rf, .int .i64 rl, .int .i64 rco] 47) = V8 at *
  generalize w8.heap.size = b18 at *
  have x0 := K15'.out.cell 0 rfl
  have x1 := K15'.out.cell 1 rfl
  have x2 := K15'.out.cell 2 rfl
  have x3 := K15'.out.cell 3 rfl
  have y0 := K18.out.cell 0 rfl
  have y1 := K18.out.cell 1 rfl
  have y2 := K18.out.cell 2 rfl
  have y3 := K18.out.cell 3 rfl
  go_upto_region 9 with (go_at_call 11; (with_reducible refine (num_any _ _).mono ?_); rintro e wn ⟨he, hwn⟩; subst he; subst wn)
  clear x0 x1 x2 x3 y0 y1 y2 y3 K15' K18
  by_cases hz : n = 0
  · subst hz
    have a1 := KA8.out.cell 1 rfl
    go_wp2
    go_ret
    exact ⟨rfl, D8.out⟩
  have hn1 : (1 : Int) ≤ (n : Int) := by omega
  have hn0 : ¬ (n : Int) = 0 := by omega
  go_upto_region 13 with (fail)
  have hkk := tmod_fix seq (n : Int) hn1 (by omega)
  have htt := tmod_fix to' 4611686018427387904 (by decide) (by decide)
  generalize (wrap64 (to'.tmod 4611686018427387904 + 4611686018427387904)).tmod 4611686018427387904 = T at *
  obtain ⟨K, hK⟩ : ∃ K : Nat, (wrap64 (seq.tmod (n : Int) + (n : Int))).tmod (n : Int) = (K : Int) := ⟨((wrap64 (seq.tmod (n : Int) + (n : Int))).tmod (n : Int)).toNat, by omega⟩
  rw [hK] at hkk ⊢
  clear hK hs ht
  have hKn : K < n := by omega
  have HMv : Hid _ := ⟨unit_moved p K (by rw [HNl.out]; exact hKn) T⟩
  obtain ⟨P, Q, hU, hU2, hA⟩ := HMv.out
  have HU2 : Hid _ := ⟨hU2⟩
  have hAl : (atsF ((headR p.files ((cmdR p.seqs).length : Int)).length : Int) p.seqs).length = n := by rw [atsF_len, HNl.out]
  obtain ⟨ga, ac', hv, hat⟩ := I8.out.lies (by rw [hAl]; omega)
  rw [hAl] at hv
  injection hv with ev1 _ ev3
  subst ev1 ev3
  have hk0 := (hat K (by rw [hAl]; exact hKn)).1
  rw [hA] at hk0
  have hne : ga ≠ g1 := fun e => I8.out.not_own Z8.out ga rfl (by rw [e]; rfl)
  have HKA : Hid _ := ⟨hk0⟩
  have hLL : P.length + 8 + Q.length = L1 := by have := HLn.out; rw [hU] at this; simp [pl_len] at this; omega
  have HX : Hid (Own V8 w1.heap.size (.slice (some ⟨g1, 0, none⟩) L1 c1) (P ++ (mixB (pl T 8) (pl (p.seqs.getD K Sq.zero).st 8) 0 ++ Q))) := ⟨by
    have := Z8.out
    rw [hU] at this
    simpa [mixB] using this⟩
  clear hat hA hU hU2 hk0 hAl HMv
  have HS0 : Hid ((pl (p.seqs.getD K Sq.zero).st 8).length = 8) := ⟨pl_len _ _⟩
  generalize pl (p.seqs.getD K Sq.zero).st 8 = S0 at *
  have HT : Hid _ := ⟨htt⟩
  have HZ : Hid _ := ⟨And.intro hz1 hz2⟩
  have hsm : L1 ≤ 1048576 := by have := (wri_ok HWri.out).2; rw [HLn.out] at this; exact this
  clear htt hz1 hz2
  obtain ⟨PL, hPL⟩ : ∃ PL, P.length = PL := ⟨_, rfl⟩
  rw [hPL] at HKA hLL
  have HPL : Hid _ := ⟨hPL⟩
  clear hPL
  go_wp2
  go_loopw [21] (fun iv wr => ∃ i : Nat, i ≤ 8 ∧ iv = .int .i64 i ∧ Hid (Own wr w1.heap.size (.slice (some ⟨g1, 0, none⟩) L1 c1) (P ++ (mixB (pl T 8) S0 i ++ Q)) ∧ V8.grownBy wr (some g1))) (fun iv _ => 8 - (intOf iv).toNat)
  case atStart => exact ⟨0, by omega, rfl, ⟨HX.out, ⟨rfl, rfl, rfl, Nat.le_refl _, fun _ _ _ => rfl⟩⟩⟩
  case round =>
    clear HX
    obtain ⟨i, hi, rfl, HW⟩ := hrel
    by_cases hlt : i < 8
    · have hg := HW.out.1.fr
      have c0 : wr.cell? ⟨ga, K, none⟩ = some (.int .i64 (PL : Int)) := by
        rw [← HKA.out]
        refine World.cell?_of_block (a := ⟨ga, K, none⟩) (HW.out.2.block ga ?_ (fun e => hne (by injection e)))
        exact World.block_lt_of_cell? V8 ⟨ga, K, none⟩ HKA.out
      have f0 := hg.2.2.1 (PL + i)
      have hml : (P ++ (mixB (pl T 8) S0 i ++ Q)).length = L1 := by
        rw [List.length_append, List.length_append, mixB_len (by rw [pl_len, HS0.out]) i (by rw [pl_len]; omega), pl_len, HPL.out]; omega
      have e0 : ∃ y, wr.cell? ⟨g1, PL + i, none⟩ = some (.int .u8 y) := ⟨_, by have := bytes_of HW.out.1 hml (PL + i) (by omega); rwa [Nat.zero_add] at this⟩
      obtain ⟨y, e0⟩ := e0
      have q1 : (K : Int) < (n : Int) := by omega
      have q0 : (0 : Int) ≤ (K : Int) := by omega
      obtain ⟨q2, q3, q4⟩ := add_fix PL i L1 (by omega) hsm
      have q5 : (i : Int) < 8 := by omega
      have HLs : Hid _ := ⟨And.intro hml (And.intro hLL hsm)⟩
      clear hg hml hLL hsm
      go_wp2
      go_roundw
      case rel =>
        refine ⟨i + 1, hlt, by go_num, ⟨?_, grown_add HW.out.2 (set_grown _ _ _ _)⟩⟩
        have h8 := HW.out.1.setN HLs.out.1 (k := PL + i) (by have := HLs.out.2; omega) (T / 2 ^ (8 * i) % 256)
        rw [← pl_at T hlt, ← HPL.out, mix_step P Q (pl T 8) S0 (by rw [pl_len, HS0.out]) (by rw [pl_len]; exact hlt)] at h8
        rw [← pl_at T hlt, ← HPL.out]
        exact h8
      case measure => simp [intOf]; omega
    · obtain rfl : i = 8 := by omega
      have HLs0 := hLL
      rw [mixB_all (pl_len _ _) HS0.out, ← HU2.out] at HW
      have D9 : Hid (Below w.heap.size w wr) := ⟨D8.out.trans (bel_grownL HW.out.2 (fun k hk => by injection hk with hk; omega) D8.out.size)⟩
      have KA9 : Hid _ := ⟨KA8.out.grownL HW.out.2 (fun e => by injection e with e; omega)⟩
      have HRm : Hid _ := ⟨read_mov HNl.out hKn HT.out HWri.out (T := T) (by have := HLs0; rw [HU2.out]; simp [pl_len]; have := HPL.out; omega) HW.out.1 HZ.out.1 HZ.out.2⟩
      go_upto_region 18 with (go_at_call 19; (with_reducible refine HRm.out.mono ?_); rintro e w10 ⟨ma, mc, mb, md, he, hp, hb⟩; subst he; have H10 : Hid _ := ⟨hp⟩; have B10 : Hid _ := ⟨hb⟩; clear hp hb)
      have b10 : Below wr.heap.size wr (w10.alloc (.cells #[.slice ma p.files.length mc, .slice mb n md] 28)) := B10.out.alloc B10.out.size _
      have K22 : Hid _ := ⟨Bk.new w10 #[.slice ma p.files.length mc, .slice mb n md] 28⟩
      have HM10 : Hid _ := ⟨H10.out.bel (w' := w10.alloc (.cells #[.slice ma p.files.length mc, .slice mb n md] 28)) ((Below.refl _ _).alloc (Nat.le_refl _) _)⟩
      have D10 : Hid _ := ⟨D9.out.trans (b10.mono D9.out.size)⟩
      have KA10 : Hid _ := ⟨KA9.out.bel b10 KA9.out.lt⟩
      clear b10 B10 H10 D9 KA9 HRm HW
      generalize w10.alloc (.cells #[.slice ma p.files.length mc, .slice mb n md] 28) = V10 at *
      generalize w10.heap.size = b22 at *
      have a0 := KA10.out.cell 0 rfl
      have a1 := KA10.out.cell 1 rfl
      have HOw : Hid _ := ⟨HOm.out V10 D10.out⟩
      go_upto_region 19 with (go_at_call 7; (with_reducible refine HOw.out.mono ?_); rintro e w11 ⟨na', nc', ta, tc, he, hn11, hs11, hb⟩; subst he; have N11 : Hid _ := ⟨hn11⟩; have S11 : Hid _ := ⟨hs11⟩; have B11 : Hid _ := ⟨hb⟩; clear hn11 hs11 hb)
      have hTn : TS w11 V10.heap.size (.slice ta n tc) p.seqs := S11.out
      obtain ⟨gt, rfl⟩ := hTn.zero (by rw [HNl.out]; omega)
      have ba : Below w11.heap.size w11 (w11.alloc (.cells #[.slice na' p.files.length nc', .slice (some ⟨gt, 0, none⟩) n tc] 28)) := (Below.refl _ _).alloc (Nat.le_refl _) _
      have b11 : Below V10.heap.size V10 (w11.alloc (.cells #[.slice na' p.files.length nc', .slice (some ⟨gt, 0, none⟩) n tc] 28)) := B11.out.trans (ba.mono B11.out.size)
      have TS11 : Hid _ := ⟨hTn.bel ba⟩
      have K24 : Hid _ := ⟨Bk.new w11 #[.slice na' p.files.length nc', .slice (some ⟨gt, 0, none⟩) n tc] 28⟩
      have B11' : Hid _ := ⟨b11⟩
      have K22a : Hid _ := ⟨K22.out.bel b11 K22.out.lt⟩
      clear hTn ba b11 N11 S11 B11 HOw a0 a1
      generalize w11.alloc (.cells #[.slice na' p.files.length nc', .slice (some ⟨gt, 0, none⟩) n tc] 28) = V11 at *
      generalize w11.heap.size = b24 at *
      have hfr := TS11.out.fr
      have d1 := K24.out.cell 1 rfl
      obtain ⟨b', o', e', hat'⟩ : ∃ b off, some (⟨gt, 0, none⟩ : Addr) = some ⟨b, off, none⟩ ∧ ∀ j, j < p.seqs.length → SqAt V11 b (off + j * 3) (p.seqs.getD j Sq.zero) := by
        rcases TS11.out.sq with h | h
        · have := HNl.out; omega
        · exact h
      cases e'
      obtain ⟨ra', rc', s0, _, _, _⟩ := hat' K (by rw [HNl.out]; exact hKn)
      rw [Nat.zero_add] at s0
      have f0 := hfr.2.2 (K * 3)
      have q1 : (K : Int) < (n : Int) := by omega
      have q0 : (0 : Int) ≤ (K : Int) := by omega
      clear hat'
      generalize (p.seqs.getD K Sq.zero).st = st0 at *
      have HTS : Hid (TS (V11.setCell ⟨gt, K * 3, none⟩ (.int .i64 T)) V10.heap.size (.slice (some ⟨gt, 0, none⟩) n tc) (movP p K T).seqs) := ⟨TS11.out.setN HNl.out hKn T⟩
      have HGr : Hid _ := ⟨set_grown V11 gt (K * 3) (.int .i64 T)⟩
      have hfr1 : V10.heap.size ≤ gt := hfr.1
      have hKT : Hid (∀ cur, V11.heap[gt]? ≠ some (.cells cur 28 (0, 0))) := ⟨fun cur e => by
        obtain ⟨_, _, c2, e2⟩ := TS11.out.ty gt rfl
        have := e.symm.trans e2
        injection this with this
        injection this with _ e3 _
        exact absurd e3 (by decide)⟩
      clear hfr
      go_upto_region 20 with (fail)
      have K24b : Hid _ := ⟨K24.out.grownL HGr.out (fun e => by injection e with e; subst e; exact hKT.out _ K24.out.hp)⟩
      have b12' : Below V10.heap.size V10 (V11.setCell ⟨gt, K * 3, none⟩ (.int .i64 T)) := B11'.out.trans (bel_grownL HGr.out (fun k hk => by injection hk with hk; omega) B11'.out.size)
      have K22b : Hid _ := ⟨K22.out.bel b12' K22.out.lt⟩
      have HM12 : Hid _ := ⟨(HM10.out.bel b12').sq⟩
      have D12 : Hid _ := ⟨D10.out.trans (b12'.mono D10.out.size)⟩
      have HS12 : Hid _ := ⟨HTS.out.sq⟩
      have hml : (movP p K T).seqs.length = n := by simp [movP, HNl.out]
      have HSh : Hid (∀ x ∈ (movP p K T).seqs, x.rows.length ≤ 1048576) := ⟨(movP_few HFew.out K (by rw [HNl.out]; exact hKn) T).r⟩
      clear d1 s0 f0 b12' HTS HGr hKT K24 K22 K22a HM10 TS11 B11' D10 KA10
      generalize V11.setCell ⟨gt, K * 3, none⟩ (.int .i64 T) = V12 at *
      generalize (movP p K T).seqs = l at *
      have c0 := K22b.out.cell 1 rfl
      have c1 := K24b.out.cell 1 rfl
      go_upto_region 22 with (go_at_call 11; (with_reducible refine (num_any _ _).mono ?_); rintro e wn ⟨he, hwn⟩; subst he; subst wn)
      clear c0 c1
      go_wp2
      go_loopw [25] (fun iv wr => ∃ k : Nat, k ≤ n ∧ iv = .int .i64 k ∧ Hid (Below V12.heap.size V12 wr)) (fun iv _ => n - (intOf iv).toNat)
      case atStart => exact ⟨0, by omega, rfl, ⟨Below.refl _ _⟩⟩
      case round =>
        obtain ⟨k, hk, rfl, HW⟩ := hrel
        have c0 : wr.cell? ⟨b22, 1, none⟩ = some (.slice mb n md) := (K22b.out.bel HW.out K22b.out.lt).cell 1 rfl
        have e0 : wr.cell? ⟨b24, 1, none⟩ = some (.slice (some ⟨gt, 0, none⟩) n tc) := (K24b.out.bel HW.out K24b.out.lt).cell 1 rfl
        by_cases hlt : k < n
        · have r1 : (k : Int) < (n : Int) := by omega
          have r0 : (0 : Int) ≤ (k : Int) := by omega
          obtain ⟨b1, o1, rfl, hc1⟩ : ∃ b off, mb = some ⟨b, off, none⟩ ∧ ∀ j, j < l.length → SqAt wr b (off + j * 3) (l.getD j Sq.zero) := by
            rcases HM12.out.bel HW.out with h | h
            · omega
            · exact h
          obtain ⟨b2, o2, he2, hc2⟩ : ∃ b off, some (⟨gt, 0, none⟩ : Addr) = some ⟨b, off, none⟩ ∧ ∀ j, j < l.length → SqAt wr b (off + j * 3) (l.getD j Sq.zero) := by
            rcases HS12.out.bel HW.out with h | h
            · omega
            · exact h
          have he3 := he2
          rw [he2] at e0
          obtain ⟨ra1, rc1, x0, x1, x2, hL1⟩ := hc1 k (by omega)
          obtain ⟨ua, uc, y0, y1, y2, hL2⟩ := hc2 k (by omega)
          have hsh : ((l.getD k Sq.zero).rows.length : Int) ≤ 1048576 := by have := HSh.out _ (sq_in (show k < l.length by omega)); omega
          clear hc1 hc2 he2
          generalize l.getD k Sq.zero = q at *
          obtain ⟨st, sz, rows⟩ := q
          dsimp only at x0 x1 x2 y0 y1 y2 hL1 hL2 hsh
          have HL1 : Hid _ := ⟨hL1⟩
          have HL2 : Hid _ := ⟨hL2⟩
          clear hL1 hL2
          have K7 : Bk (wr.alloc (.cells #[.int .i64 st, .int .i64 sz, .slice ra1 rows.length rc1] 63)) wr.heap.size 63 #[.int .i64 st, .int .i64 sz, .slice ra1 rows.length rc1] := Bk.new _ _ _
          have b7 : Below (wr.alloc (.cells #[.int .i64 st, .int .i64 sz, .slice ra1 rows.length rc1] 63)).heap.size (wr.alloc (.cells #[.int .i64 st, .int .i64 sz, .slice ra1 rows.length rc1] 63)) ((wr.alloc (.cells #[.int .i64 st, .int .i64 sz, .slice ra1 rows.length rc1] 63)).alloc (.cells #[.int .i64 st, .int .i64 sz, .slice ua rows.length uc] 63)) := (Below.refl _ _).alloc (Nat.le_refl _) _
          have HK7 : Hid _ := ⟨K7.bel b7 K7.lt⟩
          have HK8 : Hid (Bk ((wr.alloc (.cells #[.int .i64 st, .int .i64 sz, .slice ra1 rows.length rc1] 63)).alloc (.cells #[.int .i64 st, .int .i64 sz, .slice ua rows.length uc] 63)) (wr.heap.size + 1) 63 #[.int .i64 st, .int .i64 sz, .slice ua rows.length uc]) := ⟨by
            have := Bk.new (wr.alloc (.cells #[.int .i64 st, .int .i64 sz, .slice ra1 rows.length rc1] 63)) #[.int .i64 st, .int .i64 sz, .slice ua rows.length uc] 63
            rwa [show (wr.alloc (.cells #[.int .i64 st, .int .i64 sz, .slice ra1 rows.length rc1] 63)).heap.size = wr.heap.size + 1 by simp] at this⟩
          have HBX : Hid (Below wr.heap.size wr ((wr.alloc (.cells #[.int .i64 st, .int .i64 sz, .slice ra1 rows.length rc1] 63)).alloc (.cells #[.int .i64 st, .int .i64 sz, .slice ua rows.length uc] 63))) := ⟨((Below.refl _ wr).alloc (Nat.le_refl _) _).alloc (by simp) _⟩
          have yy0 := up_belL (w' := wr.alloc (.cells #[.int .i64 st, .int .i64 sz, .slice ra1 rows.length rc1] 63)) y0 ((Below.refl _ _).alloc (Nat.le_refl _) _)
          have yy1 := up_belL (w' := wr.alloc (.cells #[.int .i64 st, .int .i64 sz, .slice ra1 rows.length rc1] 63)) y1 ((Below.refl _ _).alloc (Nat.le_refl _) _)
          have yy2 := up_belL (w' := wr.alloc (.cells #[.int .i64 st, .int .i64 sz, .slice ra1 rows.length rc1] 63)) y2 ((Below.refl _ _).alloc (Nat.le_refl _) _)
          have ee0 := up_belL (w' := wr.alloc (.cells #[.int .i64 st, .int .i64 sz, .slice ra1 rows.length rc1] 63)) e0 ((Below.refl _ _).alloc (Nat.le_refl _) _)
          clear K7 b7
          rw [he3]
          go_wp2
          clear x0 x1 x2 y0 y1 y2 c0 e0 yy0 yy1 yy2 ee0 he3
          generalize (wr.alloc (.cells #[.int .i64 st, .int .i64 sz, .slice ra1 rows.length rc1] 63)).alloc (.cells #[.int .i64 st, .int .i64 sz, .slice ua rows.length uc] 63) = X at *
          generalize wr = wo at *
          have HX2 : Hid (wo.heap.size < X.heap.size ∧ wo.heap.size + 1 < X.heap.size) := ⟨HK7.out.lt, HK8.out.lt⟩
          go_loopw [28] (fun iv wr => ∃ j : Nat, j ≤ rows.length ∧ iv = .int .i64 j ∧ Hid (Below X.heap.size X wr)) (fun iv _ => rows.length - (intOf iv).toNat)
          case atStart => exact ⟨0, by omega, rfl, ⟨Below.refl _ _⟩⟩
          case round =>
            obtain ⟨j, hj, rfl, HZ2⟩ := hrel
            have c0 : wr.cell? ⟨wo.heap.size, 2, none⟩ = some (.slice ra1 rows.length rc1) := (HK7.out.bel HZ2.out HX2.out.1).cell 2 rfl
            have e0 : wr.cell? ⟨wo.heap.size + 1, 2, none⟩ = some (.slice ua rows.length uc) := (HK8.out.bel HZ2.out HX2.out.2).cell 2 rfl
            have HBv : Hid (Below wo.heap.size wo wr) := ⟨HBX.out.trans (HZ2.out.mono HBX.out.size)⟩
            by_cases hjl : j < rows.length
            · have t1 : (j : Int) < (rows.length : Int) := by omega
              have t0 : (0 : Int) ≤ (j : Int) := by omega
              obtain ⟨b3, o3, rfl, hd1⟩ : ∃ b off, ra1 = some ⟨b, off, none⟩ ∧ ∀ j, j < rows.length → LrAt wr b (off + j * 4) (rows.getD j Lr.zero) := by
                rcases HL1.out.bel HBv.out with h | h
                · omega
                · exact h
              obtain ⟨b4, o4, rfl, hd2⟩ : ∃ b off, ua = some ⟨b, off, none⟩ ∧ ∀ j, j < rows.length → LrAt wr b (off + j * 4) (rows.getD j Lr.zero) := by
                rcases HL2.out.bel HBv.out with h | h
                · omega
                · exact h
              obtain ⟨x0, x1, x2, x3⟩ := hd1 j hjl
              obtain ⟨y0, y1, y2, y3⟩ := hd2 j hjl
              clear hd1 hd2
              generalize rows.getD j Lr.zero = r at *
              obtain ⟨ra', rf', rl', rco'⟩ := r
              dsimp only at x0 x1 x2 x3 y0 y1 y2 y3
              go_upto_region 32 with (fail)
              go_quiet (fail)
              go_wp2
              go_roundw
              case rel => exact ⟨j + 1, hjl, by go_num, ⟨below_drewN HZ2.out _⟩⟩
              case measure => simp [intOf]; omega
            · obtain rfl : j = rows.length := by omega
              go_wp2
              go_roundw
              case rel => exact ⟨k + 1, hlt, by go_num, ⟨HW.out.trans (HBv.out.mono HW.out.size)⟩⟩
              case measure => simp [intOf]; omega
        · obtain rfl : k = n := by omega
          go_wp2
          go_ret
          exact ⟨rfl, D12.out.trans (HW.out.mono D12.out.size)⟩
end Go.Proofs.Ytbhdledlahbokaa
