/- The document's seq and Check. -/
import Derived.Test.YtbhdledlahbokaaWChk
namespace Go.Proofs.Ytbhdledlahbokaa
open Go.ChangeShapes Go.WideShapes Go.ChangeAt Go.RowKit Go.Conc
set_option linter.unusedVariables false
set_option linter.unusedSimpArgs false

theorem inB_no {n lo hi : Int} (h : n < lo ∨ hi < n) : inB n lo hi = false := by
  unfold inB; simp; omega
theorem inB_yes {n lo hi : Int} (h : ¬ n < lo) (g : ¬ hi < n) : inB n lo hi = true := by
  unfold inB; simp; omega
set_option maxRecDepth 10000 in
set_option maxHeartbeats 4000000 in
theorem rseq_any (st sz : Int) (rows : List Lr) (n : Int) (ao : Option Addr) (c : Nat) (w : World) (hr : Lrs w ao rows) (hl : rows.length ≤ 1048576) :
    Calls Try.prog 30 #[.agg #[.int .i64 st, .int .i64 sz, .slice ao rows.length c], .int .i64 n] w fun e w' => e = .returned (.bool (seqB n ⟨st, sz, rows⟩)) ∧ Below w.heap.size w w' := by
  have HR : Hid _ := ⟨hr⟩
  have HV : Hid (seqB n ⟨st, sz, rows⟩ = (inB st 0 4611686018427387904 && (inB sz 0 1048576 && (inB (rows.length : Int) 1 4000 && rowsF sz n 0 rows)))) := ⟨rfl⟩
  obtain ⟨B, hB⟩ : ∃ B, seqB n ⟨st, sz, rows⟩ = B := ⟨_, rfl⟩
  rw [hB] at HV ⊢
  clear hB hr
  have hl' : (rows.length : Int) ≤ 1048576 := by omega
  have HB0 : Hid (Below w.heap.size w (w.alloc (.cells #[.int .i64 st, .int .i64 sz, .slice ao rows.length c] 67))) := ⟨(Below.refl _ _).alloc (Nat.le_refl _) _⟩
  have HK0 : Hid _ := ⟨Bk.new w #[.int .i64 st, .int .i64 sz, .slice ao rows.length c] 67⟩
  by_cases x0 : st < 0
  · obtain rfl : B = false := by rw [HV.out]; simp [inB_no (n := st) (lo := 0) (hi := 4611686018427387904) (by omega)]
    go_enter Try.func30, Try.ntmps30
    go_wp2
    go_ret
    exact ⟨rfl, HB0.out⟩
  by_cases x1 : (4611686018427387904 : Int) < st
  · obtain rfl : B = false := by rw [HV.out]; simp [inB_no (n := st) (lo := 0) (hi := 4611686018427387904) (by omega)]
    go_enter Try.func30, Try.ntmps30
    go_wp2
    go_ret
    exact ⟨rfl, HB0.out⟩
  by_cases x2 : sz < 0
  · obtain rfl : B = false := by rw [HV.out]; simp [inB_no (n := sz) (lo := 0) (hi := 1048576) (by omega)]
    go_enter Try.func30, Try.ntmps30
    go_wp2
    go_ret
    exact ⟨rfl, HB0.out⟩
  by_cases x3 : (1048576 : Int) < sz
  · obtain rfl : B = false := by rw [HV.out]; simp [inB_no (n := sz) (lo := 0) (hi := 1048576) (by omega)]
    go_enter Try.func30, Try.ntmps30
    go_wp2
    go_ret
    exact ⟨rfl, HB0.out⟩
  by_cases x4 : (rows.length : Int) < 1
  · obtain rfl : B = false := by rw [HV.out]; simp [inB_no (n := (rows.length : Int)) (lo := 1) (hi := 4000) (by omega)]
    go_enter Try.func30, Try.ntmps30
    go_wp2
    go_ret
    exact ⟨rfl, HB0.out⟩
  by_cases x5 : (4000 : Int) < (rows.length : Int)
  · obtain rfl : B = false := by rw [HV.out]; simp [inB_no (n := (rows.length : Int)) (lo := 1) (hi := 4000) (by omega)]
    go_enter Try.func30, Try.ntmps30
    go_wp2
    go_ret
    exact ⟨rfl, HB0.out⟩
  have HV2 : Hid (B = rowsF sz n 0 rows) := ⟨by rw [HV.out, inB_yes x0 x1, inB_yes x2 x3, inB_yes x4 x5]; simp⟩
  clear HV
  go_enter Try.func30, Try.ntmps30
  go_wp2
  generalize w.alloc (.cells #[.int .i64 st, .int .i64 sz, .slice ao rows.length c] 67) = V at *
  clear x0 x1 x2 x3 x4 x5
  go_loopw [5, 6] (fun lv iv wr => ∃ k : Nat, k ≤ rows.length ∧ iv = .int .i64 k ∧ lv = .int .i64 (lastAt 0 (rows.take k)) ∧ Hid (Below V.heap.size V wr ∧ rowsF sz n 0 (rows.take k) = true)) (fun lv iv _ => rows.length - (intOf iv).toNat)
  case atStart => exact ⟨0, by omega, rfl, rfl, ⟨Below.refl _ _, rfl⟩⟩
  case round =>
    obtain ⟨k, hk, rfl, rfl, HW⟩ := hrel
    have HBw : Hid (Below w.heap.size w wr) := ⟨HB0.out.trans (HW.out.1.mono HB0.out.size)⟩
    have c1 : wr.cell? ⟨w.heap.size, 1, none⟩ = some (.int .i64 sz) := (HK0.out.bel HW.out.1 HK0.out.lt).cell 1 rfl
    have c2 : wr.cell? ⟨w.heap.size, 2, none⟩ = some (.slice ao rows.length c) := (HK0.out.bel HW.out.1 HK0.out.lt).cell 2 rfl
    by_cases hlt : k < rows.length
    · obtain ⟨b, off, rfl, hat⟩ : ∃ b off, ao = some ⟨b, off, none⟩ ∧ ∀ j, j < rows.length → LrAt wr b (off + j * 4) (rows.getD j Lr.zero) := by
        rcases HR.out.bel HBw.out with h | h
        · omega
        · exact h
      have q1 : (k : Int) < (rows.length : Int) := by omega
      have q0 : (0 : Int) ≤ (k : Int) := by omega
      obtain ⟨y0, y1, y2, y3⟩ := hat k hlt
      clear hat
      have HNo : Hid (rowB1 (lastAt 0 (rows.take k)) sz n (rows.getD k Lr.zero) = false → B = false) := ⟨fun h => by rw [HV2.out]; exact rowsF_stop sz n rows k hlt h⟩
      have HYe : Hid (rowB1 (lastAt 0 (rows.take k)) sz n (rows.getD k Lr.zero) = true → rowsF sz n 0 (rows.take (k + 1)) = true) := ⟨fun h => by rw [rowsF_at sz n rows k hlt, HW.out.2, h]; rfl⟩
      have HLa : Hid _ := ⟨lastAt_at rows k hlt⟩
      generalize lastAt 0 (rows.take k) = la at *
      generalize rows.getD k Lr.zero = r at *
      obtain ⟨ra, rf, rl, rco⟩ := r
      dsimp only at *
      have HBx : Hid (Below V.heap.size V (wr.alloc (.cells #[.int .i64 ra, .int .i64 rf, .int .i64 rl, .int .i64 rco] 50))) := ⟨HW.out.1.alloc HW.out.1.size _⟩
      have c1' : (wr.alloc (.cells #[.int .i64 ra, .int .i64 rf, .int .i64 rl, .int .i64 rco] 50)).cell? ⟨w.heap.size, 1, none⟩ = some (.int .i64 sz) := up_belL c1 ((Below.refl _ _).alloc (Nat.le_refl _) _)
      by_cases x0 : ra < la
      · obtain rfl : B = false := HNo.out (by unfold rowB1; simp [inB_no (n := ra) (lo := la) (hi := sz) (by omega)])
        go_wp2
        go_ret
        exact ⟨rfl, HB0.out.trans (HBx.out.mono HB0.out.size)⟩
      by_cases x1 : sz < ra
      · obtain rfl : B = false := HNo.out (by unfold rowB1; simp [inB_no (n := ra) (lo := la) (hi := sz) (by omega)])
        go_wp2
        go_ret
        exact ⟨rfl, HB0.out.trans (HBx.out.mono HB0.out.size)⟩
      by_cases x2 : rf < 1
      · obtain rfl : B = false := HNo.out (by unfold rowB1; simp [inB_no (n := rf) (lo := 1) (hi := n) (by omega)])
        go_wp2
        go_ret
        exact ⟨rfl, HB0.out.trans (HBx.out.mono HB0.out.size)⟩
      by_cases x3 : n < rf
      · obtain rfl : B = false := HNo.out (by unfold rowB1; simp [inB_no (n := rf) (lo := 1) (hi := n) (by omega)])
        go_wp2
        go_ret
        exact ⟨rfl, HB0.out.trans (HBx.out.mono HB0.out.size)⟩
      by_cases x4 : rl < 0
      · obtain rfl : B = false := HNo.out (by unfold rowB1; simp [inB_no (n := rl) (lo := 0) (hi := 2147483647) (by omega)])
        go_wp2
        go_ret
        exact ⟨rfl, HB0.out.trans (HBx.out.mono HB0.out.size)⟩
      by_cases x5 : (2147483648 : Int) ≤ rl
      · obtain rfl : B = false := HNo.out (by unfold rowB1; simp [inB_no (n := rl) (lo := 0) (hi := 2147483647) (by omega)])
        go_wp2
        go_ret
        exact ⟨rfl, HB0.out.trans (HBx.out.mono HB0.out.size)⟩
      by_cases x6 : rco < 0
      · obtain rfl : B = false := HNo.out (by unfold rowB1; simp [inB_no (n := rco) (lo := 0) (hi := 65535) (by omega)])
        go_wp2
        go_ret
        exact ⟨rfl, HB0.out.trans (HBx.out.mono HB0.out.size)⟩
      by_cases x7 : (65535 : Int) < rco
      · obtain rfl : B = false := HNo.out (by unfold rowB1; simp [inB_no (n := rco) (lo := 0) (hi := 65535) (by omega)])
        go_wp2
        go_ret
        exact ⟨rfl, HB0.out.trans (HBx.out.mono HB0.out.size)⟩
      have HY : Hid _ := ⟨HYe.out (by unfold rowB1; rw [inB_yes x0 x1, inB_yes x2 x3, inB_yes x4 (show ¬ (2147483647 : Int) < rl by omega), inB_yes x6 x7]; rfl)⟩
      go_wp2
      go_roundw
      case rel => exact ⟨k + 1, hlt, by go_num, by rw [HLa.out], ⟨HBx.out, HY.out⟩⟩
      case measure => simp [intOf]; omega
    · obtain rfl : k = rows.length := by omega
      obtain rfl : B = true := by
        rw [HV2.out]
        have := HW.out.2
        rwa [List.take_of_length_le (Nat.le_refl _)] at this
      go_wp2
      go_ret
      exact ⟨rfl, HBw.out⟩

set_option maxRecDepth 20000 in
set_option maxHeartbeats 4000000 in
theorem rcheck_any (fa sa : Option Addr) (fc sc : Nat) (p : Pg) (w : World) (h : PgIn w fa sa p) (hw : Few p) (hb : ∀ s ∈ p.files, s.size ≤ 9223372036854775807) :
    Calls Try.prog 13 #[.agg #[.slice fa p.files.length fc, .slice sa p.seqs.length sc]] w fun e w' => e = .returned (.int .i64 (checkE p)) ∧ Below w.heap.size w w' := by
  obtain ⟨files, seqs⟩ := p
  dsimp only
  have HP : Hid _ := ⟨h⟩
  have HFi : Hid (∀ W, Below w.heap.size w W → Calls Try.prog 29 #[.slice fa files.length fc] W fun e w' => e = .returned (.bool (filesB files)) ∧ w' = W) := ⟨fun W hW => rfiles_any fa fc files W (h.fs.bel hW) hw.f hb⟩
  have HRl : Hid _ := ⟨hw.r⟩
  have HE : Hid (checkE ⟨files, seqs⟩ = if (filesB files && (decide (seqs.length ≤ 64) && seqs.all (seqB (files.length : Int)))) then 0 else 150) := ⟨rfl⟩
  obtain ⟨E, hE⟩ : ∃ E, checkE ⟨files, seqs⟩ = E := ⟨_, rfl⟩
  rw [hE] at HE ⊢
  have hfl : (files.length : Int) ≤ 1048576 := by have := hw.f; dsimp only at this; omega
  have hsl : (seqs.length : Int) ≤ 1048576 := by have := hw.s; dsimp only at this; omega
  clear h hw hb hE
  have HB0 : Hid (Below w.heap.size w (w.alloc (.cells #[.slice fa files.length fc, .slice sa seqs.length sc] 25))) := ⟨(Below.refl _ _).alloc (Nat.le_refl _) _⟩
  have HK0 : Hid _ := ⟨Bk.new w #[.slice fa files.length fc, .slice sa seqs.length sc] 25⟩
  generalize filesB files = x1 at *
  cases x1
  · obtain rfl : E = 150 := by rw [HE.out]; rfl
    go_enter Try.func13, Try.ntmps13
    go_wp2_with (go_at_call 29; (with_reducible refine (HFi.out _ HB0.out).mono ?_); rintro e wn ⟨he, hwn⟩; subst he; subst wn)
    go_ret
    exact ⟨rfl, HB0.out⟩
  by_cases h2 : (64 : Int) < (seqs.length : Int)
  · obtain rfl : E = 150 := by rw [HE.out]; simp; omega
    go_enter Try.func13, Try.ntmps13
    go_wp2_with (go_at_call 29; (with_reducible refine (HFi.out _ HB0.out).mono ?_); rintro e wn ⟨he, hwn⟩; subst he; subst wn)
    go_ret
    exact ⟨rfl, HB0.out⟩
  have HE2 : Hid (E = if seqs.all (seqB (files.length : Int)) then 0 else 150) := ⟨by rw [HE.out]; simp [show seqs.length ≤ 64 by omega]⟩
  go_enter Try.func13, Try.ntmps13
  go_wp2_with (go_at_call 29; (with_reducible refine (HFi.out _ HB0.out).mono ?_); rintro e wn ⟨he, hwn⟩; subst he; subst wn)
  generalize w.alloc (.cells #[.slice fa files.length fc, .slice sa seqs.length sc] 25) = V at *
  clear HE HFi
  go_loopw [3] (fun iv wr => ∃ k : Nat, k ≤ seqs.length ∧ iv = .int .i64 k ∧ Hid (Below V.heap.size V wr ∧ (seqs.take k).all (seqB (files.length : Int)) = true)) (fun iv _ => seqs.length - (intOf iv).toNat)
  case atStart => exact ⟨0, by omega, rfl, ⟨Below.refl _ _, rfl⟩⟩
  case round =>
    obtain ⟨k, hk, rfl, HW⟩ := hrel
    have HBw : Hid (Below w.heap.size w wr) := ⟨HB0.out.trans (HW.out.1.mono HB0.out.size)⟩
    have c0 : wr.cell? ⟨w.heap.size, 0, none⟩ = some (.slice fa files.length fc) := (HK0.out.bel HW.out.1 HK0.out.lt).cell 0 rfl
    have c1 : wr.cell? ⟨w.heap.size, 1, none⟩ = some (.slice sa seqs.length sc) := (HK0.out.bel HW.out.1 HK0.out.lt).cell 1 rfl
    by_cases hlt : k < seqs.length
    · obtain ⟨b, off, rfl, hat⟩ : ∃ b off, sa = some ⟨b, off, none⟩ ∧ ∀ j, j < seqs.length → SqAt wr b (off + j * 3) (seqs.getD j Sq.zero) := by
        rcases HP.out.sq.bel HBw.out with h | h
        · dsimp only at h; omega
        · exact h
      have q1 : (k : Int) < (seqs.length : Int) := by omega
      have q0 : (0 : Int) ≤ (k : Int) := by omega
      obtain ⟨ra, rc, y0, y1, y2, hL⟩ := hat k hlt
      clear hat
      have HSq : Hid (∀ W, Below wr.heap.size wr W → Calls Try.prog 30 #[.agg #[.int .i64 (seqs.getD k Sq.zero).st, .int .i64 (seqs.getD k Sq.zero).sz, .slice ra (seqs.getD k Sq.zero).rows.length rc], .int .i64 (files.length : Int)] W fun e w' => e = .returned (.bool (seqB (files.length : Int) (seqs.getD k Sq.zero))) ∧ Below W.heap.size W w') := ⟨fun W hW => rseq_any _ _ _ _ ra rc W (hL.bel hW) (HRl.out _ (sq_in hlt))⟩
      have HNo : Hid (seqB (files.length : Int) (seqs.getD k Sq.zero) = false → E = 150) := ⟨fun h => by rw [HE2.out, all_stop (seqB (files.length : Int)) seqs Sq.zero k hlt h]; rfl⟩
      have HYe : Hid (seqB (files.length : Int) (seqs.getD k Sq.zero) = true → (seqs.take (k + 1)).all (seqB (files.length : Int)) = true) := ⟨fun h => by rw [all_snoc (seqB (files.length : Int)) seqs Sq.zero k hlt, HW.out.2, h]; rfl⟩
      clear hL
      generalize seqB (files.length : Int) (seqs.getD k Sq.zero) = sb at *
      generalize seqs.getD k Sq.zero = q at *
      obtain ⟨st, sz, rows⟩ := q
      dsimp only at *
      go_upto_region 6 with (fail)
      have HD : Hid (Below wr.heap.size wr wr.drew) := ⟨(Below.refl _ _).drew⟩
      have d0 := up_belL c0 HD.out
      have d1 := up_belL c1 HD.out
      have z0 := up_belL y0 HD.out
      have z1 := up_belL y1 HD.out
      have z2 := up_belL y2 HD.out
      clear c0 c1 y0 y1 y2
      go_region_held3 (fun v => v.cell? ⟨w.heap.size, 0, none⟩ = some (.slice fa files.length fc) ∧ v.cell? ⟨w.heap.size, 1, none⟩ = some (.slice (some ⟨b, off, none⟩) seqs.length sc) ∧ v.cell? ⟨b, off + k * 3, none⟩ = some (.int .i64 st) ∧ v.cell? ⟨b, off + k * 3 + 1, none⟩ = some (.int .i64 sz) ∧ v.cell? ⟨b, off + k * 3 + 2, none⟩ = some (.slice ra rows.length rc))
        (first | (with_reducible assumption) | exact ⟨e0, e1, f0, f1, f2⟩ | exact ⟨d0, d1, z0, z1, z2⟩)
        ((go_at_call 30; (with_reducible refine (HSq.out _ HD.out).mono ?_); rintro e u ⟨rfl, hu⟩; have HU : Hid (Below wr.heap.size wr u) := ⟨HD.out.trans (hu.mono HD.out.size)⟩; have e0 := up_belL d0 hu; have e1 := up_belL d1 hu; have f0 := up_belL z0 hu; have f1 := up_belL z1 hu; have f2 := up_belL z2 hu; clear hu))
      have HUb : Hid (Below V.heap.size V u) := ⟨HW.out.1.trans (HU.out.mono HW.out.1.size)⟩
      cases sb
      · obtain rfl : E = 150 := HNo.out rfl
        go_wp2
        go_ret
        exact ⟨rfl, HB0.out.trans (HUb.out.mono HB0.out.size)⟩
      · have HY : Hid _ := ⟨HYe.out rfl⟩
        go_wp2
        go_roundw
        case rel => exact ⟨k + 1, hlt, by go_num, ⟨HUb.out, HY.out⟩⟩
        case measure => simp [intOf]; omega
    · obtain rfl : k = seqs.length := by omega
      obtain rfl : E = 0 := by
        rw [HE2.out]
        have := HW.out.2
        rw [List.take_of_length_le (Nat.le_refl _)] at this
        rw [this]; rfl
      go_wp2
      go_ret
      exact ⟨rfl, HBw.out⟩
end Go.Proofs.Ytbhdledlahbokaa
