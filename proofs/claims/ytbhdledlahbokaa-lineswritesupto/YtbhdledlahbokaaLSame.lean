/- The law's row and same, of what is the same. -/
import Derived.Test.YtbhdledlahbokaaLKnowX
namespace Go.Proofs.Ytbhdledlahbokaa
open Go.ChangeShapes Go.WideShapes Go.ChangeAt Go.RowKit Go.Conc
set_option linter.unusedVariables false
set_option linter.unusedSimpArgs false

theorem row_same (r : Lr) (w : World) : Calls Try.prog 18 #[.agg #[.int .i64 r.at', .int .i64 r.fi, .int .i64 r.li, .int .i64 r.co], .agg #[.int .i64 r.at', .int .i64 r.fi, .int .i64 r.li, .int .i64 r.co]] w fun e w' => e = .returned (.bool true) ∧ Below w.heap.size w w' := by
  obtain ⟨a, f, l, c⟩ := r
  dsimp only
  go_enter Try.func18, Try.ntmps18
  go_wp2
  go_ret
  exact ⟨rfl, ((Below.refl _ w).alloc (Nat.le_refl _) _).alloc (by simp) _⟩

set_option maxRecDepth 20000 in
set_option maxHeartbeats 4000000 in
theorem same_any (p : Pg) (fa sa ga ta : Option Addr) (fc sc gc tc : Nat) (w : World) (h1 : PgIn w fa sa p) (h2 : PgIn w ga ta p) :
    Calls Try.prog 14 #[.agg #[.slice fa p.files.length fc, .slice sa p.seqs.length sc], .agg #[.slice ga p.files.length gc, .slice ta p.seqs.length tc]] w fun e w' => e = .returned (.bool true) ∧ Below w.heap.size w w' := by
  obtain ⟨files, seqs⟩ := p
  dsimp only
  have HP : Hid _ := ⟨h1⟩
  have HQ : Hid _ := ⟨h2⟩
  have hfl : (files.length : Int) ≤ 140737488355328 := by have := h1.fl; dsimp only at this; omega
  have hsl : (seqs.length : Int) ≤ 140737488355328 := by have := h1.sl; dsimp only at this; omega
  clear h1 h2
  have K2 : Bk (w.alloc (.cells #[.slice fa files.length fc, .slice sa seqs.length sc] 28)) w.heap.size 28 #[.slice fa files.length fc, .slice sa seqs.length sc] := Bk.new _ _ _
  have b1 : Below (w.alloc (.cells #[.slice fa files.length fc, .slice sa seqs.length sc] 28)).heap.size (w.alloc (.cells #[.slice fa files.length fc, .slice sa seqs.length sc] 28)) ((w.alloc (.cells #[.slice fa files.length fc, .slice sa seqs.length sc] 28)).alloc (.cells #[.slice ga files.length gc, .slice ta seqs.length tc] 25)) := (Below.refl _ _).alloc (Nat.le_refl _) _
  have HK2 : Hid _ := ⟨K2.bel b1 K2.lt⟩
  have HK3 : Hid (Bk ((w.alloc (.cells #[.slice fa files.length fc, .slice sa seqs.length sc] 28)).alloc (.cells #[.slice ga files.length gc, .slice ta seqs.length tc] 25)) (w.heap.size + 1) 25 #[.slice ga files.length gc, .slice ta seqs.length tc]) := ⟨by
    have := Bk.new (w.alloc (.cells #[.slice fa files.length fc, .slice sa seqs.length sc] 28)) #[.slice ga files.length gc, .slice ta seqs.length tc] 25
    rwa [show (w.alloc (.cells #[.slice fa files.length fc, .slice sa seqs.length sc] 28)).heap.size = w.heap.size + 1 by simp] at this⟩
  have HB0 : Hid (Below w.heap.size w ((w.alloc (.cells #[.slice fa files.length fc, .slice sa seqs.length sc] 28)).alloc (.cells #[.slice ga files.length gc, .slice ta seqs.length tc] 25))) := ⟨((Below.refl _ w).alloc (Nat.le_refl _) _).alloc (by simp) _⟩
  clear K2 b1
  go_enter Try.func14, Try.ntmps14
  go_wp2
  generalize (w.alloc (.cells #[.slice fa files.length fc, .slice sa seqs.length sc] 28)).alloc (.cells #[.slice ga files.length gc, .slice ta seqs.length tc] 25) = V at *
  have HV2 : Hid (w.heap.size < V.heap.size ∧ w.heap.size + 1 < V.heap.size) := ⟨HK2.out.lt, HK3.out.lt⟩
  go_loopw [5] (fun iv wr => ∃ k : Nat, k ≤ files.length ∧ iv = .int .i64 k ∧ Hid (Below V.heap.size V wr)) (fun iv _ => files.length - (intOf iv).toNat)
  case atStart => exact ⟨0, by omega, rfl, ⟨Below.refl _ _⟩⟩
  case round =>
    obtain ⟨k, hk, rfl, HW⟩ := hrel
    have c0 : wr.cell? ⟨w.heap.size, 0, none⟩ = some (.slice fa files.length fc) := (HK2.out.bel HW.out HV2.out.1).cell 0 rfl
    have e0 : wr.cell? ⟨w.heap.size + 1, 0, none⟩ = some (.slice ga files.length gc) := (HK3.out.bel HW.out HV2.out.2).cell 0 rfl
    have HBw : Hid (Below w.heap.size w wr) := ⟨HB0.out.trans (HW.out.mono HB0.out.size)⟩
    by_cases hlt : k < files.length
    · have q1 : (k : Int) < (files.length : Int) := by omega
      have q0 : (0 : Int) ≤ (k : Int) := by omega
      obtain ⟨b1, o1, rfl, hc1⟩ : ∃ b off, fa = some ⟨b, off, none⟩ ∧ ∀ i, i < files.length → wr.cell? ⟨b, off + i, none⟩ = some (.string (files.getD i ByteArray.empty)) := by
        rcases HP.out.fs.bel HBw.out with h | h
        · dsimp only at h; omega
        · exact h
      obtain ⟨b2, o2, rfl, hc2⟩ : ∃ b off, ga = some ⟨b, off, none⟩ ∧ ∀ i, i < files.length → wr.cell? ⟨b, off + i, none⟩ = some (.string (files.getD i ByteArray.empty)) := by
        rcases HQ.out.fs.bel HBw.out with h | h
        · dsimp only at h; omega
        · exact h
      have n1 := hc1 k hlt
      have n2 := hc2 k hlt
      clear hc1 hc2
      generalize files.getD k ByteArray.empty = nm at *
      go_wp2
      go_quiet (fail)
      go_wp2
      go_roundw
      case rel => exact ⟨k + 1, hlt, by go_num, ⟨below_drewN HW.out _⟩⟩
      case measure => simp [intOf]; omega
    · obtain rfl : k = files.length := by omega
      go_wp2
      clear c0 e0
      generalize wr = V1 at *
      go_loopw [6] (fun iv wr => ∃ k : Nat, k ≤ seqs.length ∧ iv = .int .i64 k ∧ Hid (Below V.heap.size V wr)) (fun iv _ => seqs.length - (intOf iv).toNat)
      case atStart => exact ⟨0, by omega, rfl, ⟨HW.out⟩⟩
      case round =>
        clear HW HBw
        obtain ⟨k, hk, rfl, HW⟩ := hrel
        have c0 : wr.cell? ⟨w.heap.size, 1, none⟩ = some (.slice sa seqs.length sc) := (HK2.out.bel HW.out HV2.out.1).cell 1 rfl
        have e0 : wr.cell? ⟨w.heap.size + 1, 1, none⟩ = some (.slice ta seqs.length tc) := (HK3.out.bel HW.out HV2.out.2).cell 1 rfl
        have HBw : Hid (Below w.heap.size w wr) := ⟨HB0.out.trans (HW.out.mono HB0.out.size)⟩
        by_cases hlt : k < seqs.length
        · have q1 : (k : Int) < (seqs.length : Int) := by omega
          have q0 : (0 : Int) ≤ (k : Int) := by omega
          obtain ⟨b1, o1, rfl, hc1⟩ : ∃ b off, sa = some ⟨b, off, none⟩ ∧ ∀ j, j < seqs.length → SqAt wr b (off + j * 3) (seqs.getD j Sq.zero) := by
            rcases HP.out.sq.bel HBw.out with h | h
            · dsimp only at h; omega
            · exact h
          obtain ⟨b2, o2, rfl, hc2⟩ : ∃ b off, ta = some ⟨b, off, none⟩ ∧ ∀ j, j < seqs.length → SqAt wr b (off + j * 3) (seqs.getD j Sq.zero) := by
            rcases HQ.out.sq.bel HBw.out with h | h
            · dsimp only at h; omega
            · exact h
          obtain ⟨ra, rc, x0, x1, x2, hL1⟩ := hc1 k hlt
          obtain ⟨ua, uc, y0, y1, y2, hL2⟩ := hc2 k hlt
          have hsh : ((seqs.getD k Sq.zero).rows.length : Int) ≤ 140737488355328 := by have := HP.out.sh _ (sq_in hlt); dsimp only at this; omega
          clear hc1 hc2
          generalize seqs.getD k Sq.zero = q at *
          obtain ⟨st, sz, rows⟩ := q
          dsimp only at *
          have HL1 : Hid _ := ⟨hL1⟩
          have HL2 : Hid _ := ⟨hL2⟩
          clear hL1 hL2
          have K7 : Bk (wr.alloc (.cells #[.int .i64 st, .int .i64 sz, .slice ra rows.length rc] 63)) wr.heap.size 63 #[.int .i64 st, .int .i64 sz, .slice ra rows.length rc] := Bk.new _ _ _
          have b7 : Below (wr.alloc (.cells #[.int .i64 st, .int .i64 sz, .slice ra rows.length rc] 63)).heap.size (wr.alloc (.cells #[.int .i64 st, .int .i64 sz, .slice ra rows.length rc] 63)) ((wr.alloc (.cells #[.int .i64 st, .int .i64 sz, .slice ra rows.length rc] 63)).alloc (.cells #[.int .i64 st, .int .i64 sz, .slice ua rows.length uc] 67)) := (Below.refl _ _).alloc (Nat.le_refl _) _
          have HK7 : Hid _ := ⟨K7.bel b7 K7.lt⟩
          have HK8 : Hid (Bk ((wr.alloc (.cells #[.int .i64 st, .int .i64 sz, .slice ra rows.length rc] 63)).alloc (.cells #[.int .i64 st, .int .i64 sz, .slice ua rows.length uc] 67)) (wr.heap.size + 1) 67 #[.int .i64 st, .int .i64 sz, .slice ua rows.length uc]) := ⟨by
            have := Bk.new (wr.alloc (.cells #[.int .i64 st, .int .i64 sz, .slice ra rows.length rc] 63)) #[.int .i64 st, .int .i64 sz, .slice ua rows.length uc] 67
            rwa [show (wr.alloc (.cells #[.int .i64 st, .int .i64 sz, .slice ra rows.length rc] 63)).heap.size = wr.heap.size + 1 by simp] at this⟩
          have HBX : Hid (Below wr.heap.size wr ((wr.alloc (.cells #[.int .i64 st, .int .i64 sz, .slice ra rows.length rc] 63)).alloc (.cells #[.int .i64 st, .int .i64 sz, .slice ua rows.length uc] 67))) := ⟨((Below.refl _ wr).alloc (Nat.le_refl _) _).alloc (by simp) _⟩
          clear K7 b7
          have yy0 := up_belL (w' := wr.alloc (.cells #[.int .i64 st, .int .i64 sz, .slice ra rows.length rc] 63)) y0 ((Below.refl _ _).alloc (Nat.le_refl _) _)
          have yy1 := up_belL (w' := wr.alloc (.cells #[.int .i64 st, .int .i64 sz, .slice ra rows.length rc] 63)) y1 ((Below.refl _ _).alloc (Nat.le_refl _) _)
          have yy2 := up_belL (w' := wr.alloc (.cells #[.int .i64 st, .int .i64 sz, .slice ra rows.length rc] 63)) y2 ((Below.refl _ _).alloc (Nat.le_refl _) _)
          have ee0 := up_belL (w' := wr.alloc (.cells #[.int .i64 st, .int .i64 sz, .slice ra rows.length rc] 63)) e0 ((Below.refl _ _).alloc (Nat.le_refl _) _)
          go_wp2
          clear x0 x1 x2 y0 y1 y2 c0 e0 yy0 yy1 yy2 ee0
          generalize (wr.alloc (.cells #[.int .i64 st, .int .i64 sz, .slice ra rows.length rc] 63)).alloc (.cells #[.int .i64 st, .int .i64 sz, .slice ua rows.length uc] 67) = X at *
          generalize wr = wo at *
          have HX2 : Hid (wo.heap.size < X.heap.size ∧ wo.heap.size + 1 < X.heap.size) := ⟨HK7.out.lt, HK8.out.lt⟩
          go_loopw [9] (fun iv wr => ∃ j : Nat, j ≤ rows.length ∧ iv = .int .i64 j ∧ Hid (Below X.heap.size X wr)) (fun iv _ => rows.length - (intOf iv).toNat)
          case atStart => exact ⟨0, by omega, rfl, ⟨Below.refl _ _⟩⟩
          case round =>
            obtain ⟨j, hj, rfl, HZ⟩ := hrel
            have c0 : wr.cell? ⟨wo.heap.size, 2, none⟩ = some (.slice ra rows.length rc) := (HK7.out.bel HZ.out HX2.out.1).cell 2 rfl
            have e0 : wr.cell? ⟨wo.heap.size + 1, 2, none⟩ = some (.slice ua rows.length uc) := (HK8.out.bel HZ.out HX2.out.2).cell 2 rfl
            have HBv : Hid (Below wo.heap.size wo wr) := ⟨HBX.out.trans (HZ.out.mono HBX.out.size)⟩
            by_cases hjl : j < rows.length
            · have r1 : (j : Int) < (rows.length : Int) := by omega
              have r0 : (0 : Int) ≤ (j : Int) := by omega
              obtain ⟨b3, o3, rfl, hd1⟩ : ∃ b off, ra = some ⟨b, off, none⟩ ∧ ∀ j, j < rows.length → LrAt wr b (off + j * 4) (rows.getD j Lr.zero) := by
                rcases HL1.out.bel HBv.out with h | h
                · omega
                · exact h
              obtain ⟨b4, o4, rfl, hd2⟩ : ∃ b off, ua = some ⟨b, off, none⟩ ∧ ∀ j, j < rows.length → LrAt wr b (off + j * 4) (rows.getD j Lr.zero) := by
                rcases HL2.out.bel HBv.out with h | h
                · omega
                · exact h
              obtain ⟨x0, x1, x2, x3⟩ := hd1 j hjl
              obtain ⟨y0, y1, y2, y3⟩ := hd2 j hjl
              clear hd1 hd2
              generalize rows.getD j Lr.zero = r at *
              obtain ⟨ra', rf, rl, rco⟩ := r
              dsimp only at *
              have HRow : Hid (∀ W, Calls Try.prog 18 #[.agg #[.int .i64 ra', .int .i64 rf, .int .i64 rl, .int .i64 rco], .agg #[.int .i64 ra', .int .i64 rf, .int .i64 rl, .int .i64 rco]] W fun e w' => e = .returned (.bool true) ∧ Below W.heap.size W w') := ⟨fun W => row_same ⟨ra', rf, rl, rco⟩ W⟩
              go_upto_region 18 with (fail)
              have HD : Hid (Below wr.heap.size wr wr.drew) := ⟨(Below.refl _ _).drew⟩
              have c0' : wr.drew.cell? ⟨wo.heap.size, 2, none⟩ = some (.slice (some ⟨b3, o3, none⟩) rows.length rc) := c0
              have e0' : wr.drew.cell? ⟨wo.heap.size + 1, 2, none⟩ = some (.slice (some ⟨b4, o4, none⟩) rows.length uc) := e0
              have x0' : wr.drew.cell? ⟨b3, o3 + j * 4, none⟩ = some (.int .i64 ra') := x0
              have x1' : wr.drew.cell? ⟨b3, o3 + j * 4 + 1, none⟩ = some (.int .i64 rf) := x1
              have x2' : wr.drew.cell? ⟨b3, o3 + j * 4 + 2, none⟩ = some (.int .i64 rl) := x2
              have x3' : wr.drew.cell? ⟨b3, o3 + j * 4 + 3, none⟩ = some (.int .i64 rco) := x3
              have y0' : wr.drew.cell? ⟨b4, o4 + j * 4, none⟩ = some (.int .i64 ra') := y0
              have y1' : wr.drew.cell? ⟨b4, o4 + j * 4 + 1, none⟩ = some (.int .i64 rf) := y1
              have y2' : wr.drew.cell? ⟨b4, o4 + j * 4 + 2, none⟩ = some (.int .i64 rl) := y2
              have y3' : wr.drew.cell? ⟨b4, o4 + j * 4 + 3, none⟩ = some (.int .i64 rco) := y3
              clear c0 e0 x0 x1 x2 x3 y0 y1 y2 y3
              go_region_held3 (fun v => v.cell? ⟨wo.heap.size, 2, none⟩ = some (.slice (some ⟨b3, o3, none⟩) rows.length rc) ∧ v.cell? ⟨wo.heap.size + 1, 2, none⟩ = some (.slice (some ⟨b4, o4, none⟩) rows.length uc) ∧ v.cell? ⟨b3, o3 + j * 4, none⟩ = some (.int .i64 ra') ∧ v.cell? ⟨b3, o3 + j * 4 + 1, none⟩ = some (.int .i64 rf) ∧ v.cell? ⟨b3, o3 + j * 4 + 2, none⟩ = some (.int .i64 rl) ∧ v.cell? ⟨b3, o3 + j * 4 + 3, none⟩ = some (.int .i64 rco) ∧ v.cell? ⟨b4, o4 + j * 4, none⟩ = some (.int .i64 ra') ∧ v.cell? ⟨b4, o4 + j * 4 + 1, none⟩ = some (.int .i64 rf) ∧ v.cell? ⟨b4, o4 + j * 4 + 2, none⟩ = some (.int .i64 rl) ∧ v.cell? ⟨b4, o4 + j * 4 + 3, none⟩ = some (.int .i64 rco))
                ((refine ⟨?_, ?_, ?_, ?_, ?_, ?_, ?_, ?_, ?_, ?_⟩) <;> (with_reducible assumption))
                ((go_at_call 18; (with_reducible refine (HRow.out _).mono ?_); rintro e u ⟨rfl, hu⟩; have HU : Hid _ := ⟨hu⟩; have a0 := up_belL c0' hu; have a1 := up_belL e0' hu; have a2 := up_belL x0' hu; have a3 := up_belL x1' hu; have a4 := up_belL x2' hu; have a5 := up_belL x3' hu; have a6 := up_belL y0' hu; have a7 := up_belL y1' hu; have a8 := up_belL y2' hu; have a9 := up_belL y3' hu; clear hu))
              go_wp2
              go_roundw
              case rel => exact ⟨j + 1, hjl, by go_num, ⟨HZ.out.trans ((HD.out.trans (HU.out.mono HD.out.size)).mono HZ.out.size)⟩⟩
              case measure => simp [intOf]; omega
            · obtain rfl : j = rows.length := by omega
              go_wp2
              go_roundw
              case rel => exact ⟨k + 1, hlt, by go_num, ⟨HW.out.trans (HBv.out.mono HW.out.size)⟩⟩
              case measure => simp [intOf]; omega
        · obtain rfl : k = seqs.length := by omega
          go_wp2
          go_ret
          exact ⟨rfl, HBw.out⟩
end Go.Proofs.Ytbhdledlahbokaa
