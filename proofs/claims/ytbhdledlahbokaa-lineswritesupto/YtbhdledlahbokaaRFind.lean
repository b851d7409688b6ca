/- The row of an address: the document's Find. -/
import Derived.Test.YtbhdledlahbokaaLSame
namespace Go.Proofs.Ytbhdledlahbokaa
open Go.ChangeShapes Go.WideShapes Go.ChangeAt Go.RowKit Go.Conc
set_option linter.unusedVariables false
set_option linter.unusedSimpArgs false

theorem sizeRowD : (Try.prog.info? 50).map (·.size) = some 4 := by kernel_rfl
theorem Bk.loadRowD {w : World} {g : Nat} {cs : Array Value} (h : Bk w g 50 cs) (hs : cs.size = 4) : (loadVar 50 ⟨g, 0, none⟩).run Try.prog w = .ok (.agg cs) w :=
  run_loadVar_row (P := Try.prog) w g 50 50 cs (0, 0) _ h.hp Try.underlying50 rfl (by rw [sizeRowD, hs])
theorem res_findD {fn : Func} {p q s : Tmp} (h : fn.results = #[.tmp p, .cell q 50, .tmp s]) (tmps : Array Value) (w : World) (v z : Value) (g : Nat) (cs : Array Value) (hs : cs.size = 4) (hv : tmps.getD p undef = v) (hp : tmps.getD q undef = .pointer (some ⟨g, 0, none⟩)) (hz : tmps.getD s undef = z) (hg : w.heap[g]? = some (.cells cs 50 (0, 0))) :
    (results fn tmps).run Try.prog w = .ok (.tuple #[v, .agg cs, z]) w := by
  have hl := run_loadVar_row (P := Try.prog) w g 50 50 cs (0, 0) _ hg Try.underlying50 rfl (by rw [sizeRowD, hs])
  have hp' : tmps[q]?.getD undef = .pointer (some ⟨g, 0, none⟩) := by simpa using hp
  have hv' : tmps[p]?.getD undef = v := by simpa using hv
  have hz' : tmps[s]?.getD undef = z := by simpa using hz
  simp [results, h, hp', hv', hz', asAddr, hl]
theorem Below.putR {B : Nat} {a w W : World} (h : Below B a w) (h1 : W.os = w.os) (h2 : W.tape = w.tape) (h3 : W.output = w.output) (h4 : W.heap = w.heap) {g : Nat} (hg : B ≤ g) (V : Array Value) : Below B a (W.setRow g V) :=
  ⟨h1.trans h.os, h2.trans h.tape, h3.trans h.output, by simpa [h4] using h.size, fun k hk => by rw [setRow_other _ _ k _ (by omega), h4]; exact h.block k hk⟩
theorem wrap_far {x : Int} (h : 0 ≤ x) (h2 : x < 18446744073709551616) : (0 ≤ wrap64 x → wrap64 x = x) ∧ (wrap64 x < 0 → 9223372036854775808 ≤ x) := by
  unfold wrap64; omega

set_option maxRecDepth 20000 in
set_option maxHeartbeats 4000000 in
theorem rfind_any (l : List Pg) (ao : Option Addr) (c : Nat) (addr : Int) (w : World) (h : Pgs w ao l) (hl : l.length ≤ 140737488355328) (ha : -9223372036854775808 ≤ addr ∧ addr ≤ 9223372036854775807) (hbd : ∀ p ∈ l, ∀ q ∈ p.seqs, BndQ q) :
    Calls Try.prog 17 #[.slice ao l.length c, .int .i64 addr] w fun e w' => e = .returned (.tuple #[.string (nameOr (findM l addr)), rowV (rowOr ((findM l addr).map Prod.snd)), .bool (findM l addr).isSome]) ∧ Below w.heap.size w w' := by
  obtain ⟨O, hO⟩ : ∃ O, findM l addr = O := ⟨_, rfl⟩
  rw [hO]
  rw [findM_pf] at hO
  have HO : Hid _ := ⟨hO⟩
  have HP : Hid _ := ⟨h⟩
  have HA : Hid _ := ⟨ha⟩
  have HBd : Hid _ := ⟨hbd⟩
  clear hO h ha hbd
  have HK : Hid (Bk (w.alloc (.cells #[.int .i64 0, .int .i64 0, .int .i64 0, .int .i64 0] 50)) w.heap.size 50 #[.int .i64 0, .int .i64 0, .int .i64 0, .int .i64 0]) := ⟨Bk.new _ _ _⟩
  have HB : Hid (Below w.heap.size w (w.alloc (.cells #[.int .i64 0, .int .i64 0, .int .i64 0, .int .i64 0] 50))) := ⟨(Below.refl _ w).alloc (Nat.le_refl _) _⟩
  have hn : (l.length : Int) ≤ 140737488355328 := by omega
  go_enter Try.func17, Try.ntmps17
  go_wp2
  generalize w.alloc (.cells #[.int .i64 0, .int .i64 0, .int .i64 0, .int .i64 0] 50) = V at *
  have HV : Hid (w.heap.size < V.heap.size) := ⟨HK.out.lt⟩
  go_loopw [7] (fun iv wr => ∃ k : Nat, k ≤ l.length ∧ iv = .int .i64 k ∧ Hid (Below V.heap.size V wr ∧ (l.take k).findSome? (pf addr) = none)) (fun iv _ => l.length - (intOf iv).toNat)
  case atStart => exact ⟨0, by omega, rfl, ⟨Below.refl _ _, by simp⟩⟩
  case round =>
    obtain ⟨k, hk, rfl, HW⟩ := hrel
    have HBw : Hid (Below w.heap.size w wr) := ⟨HB.out.trans (HW.out.1.mono (Nat.le_of_lt HV.out))⟩
    by_cases hlt : k < l.length
    · obtain ⟨b, off, rfl, hat⟩ : ∃ b off, ao = some ⟨b, off, none⟩ ∧ ∀ j, j < l.length → PgAt wr b (off + j * 2) (l.getD j pg0) := by
        rcases HP.out.bel HBw.out with h | h
        · omega
        · exact h
      have q1 : (k : Int) < (l.length : Int) := by omega
      have q0 : (0 : Int) ≤ (k : Int) := by omega
      obtain ⟨fa, fc, sa, sc, c0, c1, hin⟩ := hat k hlt
      clear hat
      have HBq : Hid (∀ q ∈ (l.getD k pg0).seqs, BndQ q) := ⟨HBd.out _ (by simp [hlt])⟩
      have HSm : Hid (∀ x, pf addr (l.getD k pg0) = some x → O = some x) := ⟨fun x hx => by rw [← HO.out]; exact some_at _ l pg0 k hlt HW.out.2 hx⟩
      have HSn : Hid (pf addr (l.getD k pg0) = none → (l.take (k + 1)).findSome? (pf addr) = none) := ⟨fun hx => some_next _ l pg0 k hlt HW.out.2 hx⟩
      generalize l.getD k pg0 = p at *
      obtain ⟨files, seqs⟩ := p
      dsimp only at *
      have hsl : (seqs.length : Int) ≤ 140737488355328 := by have := hin.sl; dsimp only at this; omega
      have hfl : (files.length : Int) ≤ 140737488355328 := by have := hin.fl; dsimp only at this; omega
      have HI : Hid _ := ⟨hin⟩
      have HW1 : Hid (Below V.heap.size V wr) := ⟨HW.out.1⟩
      have HC0 : Hid _ := ⟨c0⟩
      have HC1 : Hid _ := ⟨c1⟩
      clear hin HW c0 c1
      go_wp2
      generalize wr = wo at *
      go_loopw [8] (fun iv wi => ∃ j : Nat, j ≤ seqs.length ∧ iv = .int .i64 j ∧ Hid (Below wo.heap.size wo wi ∧ (seqs.take j).findSome? (fun q => rowM q addr) = none)) (fun iv _ => seqs.length - (intOf iv).toNat)
      case atStart => exact ⟨0, by omega, rfl, ⟨Below.refl _ _, by simp⟩⟩
      case round =>
        obtain ⟨j, hj, rfl, HX⟩ := hrel
        have HBv : Hid (Below wo.heap.size wo wr) := ⟨HX.out.1⟩
        have HBV : Hid (Below V.heap.size V wr) := ⟨HW1.out.trans (HBv.out.mono HW1.out.size)⟩
        have HBz0 : Hid (Below w.heap.size w wr) := ⟨HBw.out.trans (HBv.out.mono HBw.out.size)⟩
        have c1 := up_belL HC1.out HBv.out
        by_cases hjl : j < seqs.length
        · obtain ⟨b2, off2, rfl, hat⟩ : ∃ b off, sa = some ⟨b, off, none⟩ ∧ ∀ j, j < seqs.length → SqAt wr b (off + j * 3) (seqs.getD j Sq.zero) := by
            rcases HI.out.sq.bel HBv.out with h | h
            · dsimp only at h; omega
            · exact h
          have r1 : (j : Int) < (seqs.length : Int) := by omega
          have r0 : (0 : Int) ≤ (j : Int) := by omega
          obtain ⟨ra, rc, x0, x1, x2, hLr⟩ := hat j hjl
          clear hat
          have hq := HBq.out _ (sq_in hjl)
          have hsh : ((seqs.getD j Sq.zero).rows.length : Int) ≤ 140737488355328 := by have := HI.out.sh _ (sq_in hjl); dsimp only at this; omega
          have HRm : Hid (∀ r, rowM (seqs.getD j Sq.zero) addr = some r → O = some (fileV files r.fi, r)) := ⟨fun r hr => HSm.out _ (by
            show (pgFind ⟨files, seqs⟩ addr).map _ = _
            rw [show pgFind ⟨files, seqs⟩ addr = some r from some_at _ seqs Sq.zero j hjl HX.out.2 hr]; rfl)⟩
          have HRn : Hid (rowM (seqs.getD j Sq.zero) addr = none → (seqs.take (j + 1)).findSome? (fun q => rowM q addr) = none) := ⟨fun hx => some_next _ seqs Sq.zero j hjl HX.out.2 hx⟩
          generalize seqs.getD j Sq.zero = q at *
          obtain ⟨st, sz, rows⟩ := q
          dsimp only at *
          obtain ⟨hq1, hq2⟩ := hq
          dsimp only at hq1 hq2
          have HL : Hid _ := ⟨hLr⟩
          have HB9 : Hid (Below wr.heap.size wr (wr.alloc (.cells #[.int .i64 st, .int .i64 sz, .slice ra rows.length rc] 67))) := ⟨(Below.refl _ _).alloc (Nat.le_refl _) _⟩
          have HK9 : Hid (Bk (wr.alloc (.cells #[.int .i64 st, .int .i64 sz, .slice ra rows.length rc] 67)) wr.heap.size 67 #[.int .i64 st, .int .i64 sz, .slice ra rows.length rc]) := ⟨Bk.new _ _ _⟩
          clear hLr
          have haa := HA.out
          have HSk : Hid (rowM ⟨st, sz, rows⟩ addr = none → Below wo.heap.size wo (wr.alloc (.cells #[.int .i64 st, .int .i64 sz, .slice ra rows.length rc] 67)) ∧ (seqs.take (j + 1)).findSome? (fun q => rowM q addr) = none) := ⟨fun hx => ⟨HBv.out.trans (HB9.out.mono HBv.out.size), HRn.out hx⟩⟩
          by_cases h1 : addr < st
          · have HN := HSk.out (by unfold rowM hasB; simp [show ¬ st ≤ addr by omega])
            have HN' : Hid _ := ⟨HN⟩
            clear HN HSk HRm HRn haa hq1 hq2
            go_wp2
            go_roundw
            case rel => exact ⟨j + 1, hjl, by go_num, HN'⟩
            case measure => simp [intOf]; omega
          have hfar := wrap_far (x := addr - st) (by omega) (by omega)
          obtain ⟨D, hD⟩ : ∃ D, wrap64 (addr - st) = D := ⟨_, rfl⟩
          rw [hD] at hfar
          by_cases h2 : D < 0
          · have HN := HSk.out (by unfold rowM hasB; simp [show ¬ addr - st < sz by have := hfar.2 h2; omega])
            have HN' : Hid _ := ⟨HN⟩
            clear HN HSk HRm HRn hfar haa hq1 hq2
            go_wp2
            go_roundw
            case rel => exact ⟨j + 1, hjl, by go_num, HN'⟩
            case measure => simp [intOf]; omega
          have hDe : addr - st = D := (hfar.1 (by omega)).symm
          by_cases h3 : sz ≤ D
          · have HN := HSk.out (by unfold rowM hasB; simp [show ¬ addr - st < sz by omega])
            have HN' : Hid _ := ⟨HN⟩
            clear HN HSk HRm HRn hfar haa hq1 hq2 hDe
            go_wp2
            go_roundw
            case rel => exact ⟨j + 1, hjl, by go_num, HN'⟩
            case measure => simp [intOf]; omega
          have HRw : Hid (rowM ⟨st, sz, rows⟩ addr = rows.reverse.find? (fun r => decide (r.at' ≤ D))) := ⟨by unfold rowM hasB; simp [hDe, show st ≤ addr by omega, show 0 < sz by omega, show D < sz by omega]⟩
          clear hfar haa hq1 hq2 hDe
          go_wp2
          clear x0 x1 x2 c1
          generalize wr.alloc (.cells #[.int .i64 st, .int .i64 sz, .slice ra rows.length rc] 67) = X at *
          have HX9 : Hid (wr.heap.size < X.heap.size) := ⟨HK9.out.lt⟩
          generalize wr = wo2 at *
          go_loopw [11] (fun iv wr => ∃ i : Nat, i ≤ rows.length ∧ iv = .int .i64 ((i : Int) - 1) ∧ Hid (Below X.heap.size X wr ∧ ∀ u, i ≤ u → u < rows.length → ¬ (rows.getD u Lr.zero).at' ≤ D)) (fun iv _ => ((intOf iv) + 1).toNat)
          case atStart => exact ⟨rows.length, by omega, by go_num, ⟨Below.refl _ _, fun u a b => by omega⟩⟩
          case round =>
            obtain ⟨i, hi, rfl, HZ⟩ := hrel
            have HBx : Hid (Below wo2.heap.size wo2 wr) := ⟨HB9.out.trans (HZ.out.1.mono HB9.out.size)⟩
            cases i with
            | zero =>
              have HNn : Hid (Below wo.heap.size wo wr ∧ (seqs.take (j + 1)).findSome? (fun q => rowM q addr) = none) := ⟨HBv.out.trans (HBx.out.mono HBv.out.size), HRn.out (by
                rw [HRw.out, List.find?_eq_none]
                intro x hx
                obtain ⟨u, hu, rfl⟩ := List.mem_iff_getElem.1 (List.mem_reverse.1 hx)
                have := HZ.out.2 u (by omega) hu
                simp [hu] at this
                simp; omega)⟩
              go_wp2
              go_roundw
              case rel => exact ⟨j + 1, hjl, by go_num, HNn⟩
              case measure => simp [intOf]; omega
            | succ i =>
              have hil : i < rows.length := by omega
              obtain ⟨b3, off3, rfl, hat⟩ : ∃ b off, ra = some ⟨b, off, none⟩ ∧ ∀ j, j < rows.length → LrAt wr b (off + j * 4) (rows.getD j Lr.zero) := by
                rcases HL.out.bel HBx.out with h | h
                · omega
                · exact h
              have s1 : (i : Int) < (rows.length : Int) := by omega
              have s0 : (0 : Int) ≤ (i : Int) := by omega
              obtain ⟨x0, x1, x2, x3⟩ := hat i hil
              clear hat
              have c2 : wr.cell? ⟨wo2.heap.size, 2, none⟩ = some (.slice (some ⟨b3, off3, none⟩) rows.length rc) := (HK9.out.bel HZ.out.1 HX9.out).cell 2 rfl
              have HF : Hid ((rows.getD i Lr.zero).at' ≤ D → O = some (fileV files (rows.getD i Lr.zero).fi, rows.getD i Lr.zero)) := ⟨fun h => HRm.out _ (by
                rw [HRw.out]
                exact find_rev rows _ i hil (by simpa using h) (fun u h1 h2 => by simpa using HZ.out.2 u h1 h2))⟩
              have HG : Hid (¬ (rows.getD i Lr.zero).at' ≤ D → ∀ u, i ≤ u → u < rows.length → ¬ (rows.getD u Lr.zero).at' ≤ D) := ⟨fun h u h1 h2 => by
                by_cases hik : u = i
                · rw [hik]; exact h
                · exact HZ.out.2 u (by omega) h2⟩
              have HZ1 : Hid _ := ⟨HZ.out.1⟩
              clear HZ
              rw [show ((i + 1 : Nat) : Int) - 1 = (i : Int) by omega]
              generalize rows.getD i Lr.zero = r at *
              obtain ⟨ra', rf, rl, rco⟩ := r
              dsimp only at *
              have HB12 : Hid (Below wr.heap.size wr (wr.alloc (.cells #[.int .i64 ra', .int .i64 rf, .int .i64 rl, .int .i64 rco] 50))) := ⟨(Below.refl _ _).alloc (Nat.le_refl _) _⟩
              by_cases hle : ra' ≤ D
              · have hOs : O = some (fileV files rf, ⟨ra', rf, rl, rco⟩) := HF.out hle
                have HIf : Hid _ := ⟨HI.out.fs.bel (HBv.out.trans (HBx.out.mono HBv.out.size))⟩
                have HBall : Hid (Below w.heap.size w (wr.alloc (.cells #[.int .i64 ra', .int .i64 rf, .int .i64 rl, .int .i64 rco] 50))) := ⟨HBz0.out.trans ((HBx.out.trans (HB12.out.mono HBx.out.size)).mono HBz0.out.size)⟩
                have HK12 : Hid (Bk (wr.alloc (.cells #[.int .i64 ra', .int .i64 rf, .int .i64 rl, .int .i64 rco] 50)) wr.heap.size 50 #[.int .i64 ra', .int .i64 rf, .int .i64 rl, .int .i64 rco]) := ⟨Bk.new _ _ _⟩
                have HKr : Hid (Bk (wr.alloc (.cells #[.int .i64 ra', .int .i64 rf, .int .i64 rl, .int .i64 rco] 50)) w.heap.size 50 #[.int .i64 0, .int .i64 0, .int .i64 0, .int .i64 0]) := ⟨((HK.out.bel HBV.out HV.out).bel HBx.out (by have := HV.out; have := HBV.out.size; omega)).bel HB12.out (by have := HV.out; have := HBV.out.size; have := HBx.out.size; omega)⟩
                have hne : wr.heap.size ≠ w.heap.size := by have := HV.out; have := HBV.out.size; have := HBx.out.size; omega
                have d0 := up_belL (up_belL HC0.out (HBv.out.trans (HBx.out.mono HBv.out.size))) HB12.out
                go_wp2
                clear x0 x1 x2 x3 c2
                generalize hZd : wr.alloc (.cells #[.int .i64 ra', .int .i64 rf, .int .i64 rl, .int .i64 rco] 50) = Z at *
                have HFz : Hid (Strs Z fa files) := ⟨HIf.out.bel HB12.out⟩
                clear hZd
                have y1 : Z.cell? ⟨wr.heap.size, 1, none⟩ = some (.int .i64 rf) := HK12.out.cell 1 rfl
                generalize wr = wq at *
                obtain ⟨NM, hNM⟩ : ∃ NM, fileV files rf = NM := ⟨_, rfl⟩
                rw [hNM] at hOs
                subst hOs
                have HNM : Hid _ := ⟨hNM⟩
                clear hNM
                by_cases g1 : 1 ≤ rf
                · by_cases g2 : rf ≤ (files.length : Int)
                  · obtain ⟨k5, hk5⟩ : ∃ k5 : Nat, rf - 1 = (k5 : Int) := ⟨(rf - 1).toNat, by omega⟩
                    have hlt5 : k5 < files.length := by omega
                    obtain ⟨b5, o5, rfl, hc5⟩ : ∃ b off, fa = some ⟨b, off, none⟩ ∧ ∀ j, j < files.length → Z.cell? ⟨b, off + j, none⟩ = some (.string (files.getD j ByteArray.empty)) := by
                      rcases HFz.out with h | h
                      · omega
                      · exact h
                    have n1 := hc5 k5 hlt5
                    have hNM2 : NM = files.getD k5 ByteArray.empty := by
                      rw [← HNM.out]; unfold fileV; rw [hk5]; simp [inB, g1, g2]
                    rw [← hNM2] at n1
                    have t0 : (0 : Int) ≤ (k5 : Int) := by omega
                    have t1 : (k5 : Int) < (files.length : Int) := by omega
                    have w1 : wrap64 (rf - 1) = (k5 : Int) := by rw [hk5]; exact w64_id (by omega)
                    have w2 : IntKind.i64.wrap (rf - 1) = (k5 : Int) := by rw [IntKind.wrap_i64]; omega
                    have gd1 : decide (1 ≤ rf) = true := by simpa using g1
                    have gd2 : decide (rf ≤ (files.length : Int)) = true := by simpa using g2
                    clear hNM2 hc5 hk5
                    go_upto_region 16 with (fail)
                    go_quiet (fail)
                    go_upto_region 17 with (fail)
                    go_quiet (fail)
                    go_upto_region 18 with (fail)
                    refine wp_region_held_drew (S := fun u => (loadVar 50 ⟨wq.heap.size, 0, none⟩).run Try.prog u = .ok (.agg #[.int .i64 ra', .int .i64 rf, .int .i64 rl, .int .i64 rco]) u) (by kernel_rfl) ((HK12.out.of (by simp)).loadRowD rfl) (fun hS => ?_)
                    refine wpAnyH_take (i := 0) (v := .string NM) rfl (by kernel_rfl) (by kernel_rfl) (by kernel_rfl) (fun _ _ _ h => h) (Or.inl ⟨by kernel_rfl, fun u hu => by kernel_rfl⟩) hS ?_
                    simp only [Act.put, List.getElem_toArray, List.getElem_cons_succ, List.getElem_cons_zero, List.setIfInBounds_toArray, List.set_cons_zero, List.set_cons_succ]
                    refine wpAnyH_take (i := 1) (v := .agg #[.int .i64 ra', .int .i64 rf, .int .i64 rl, .int .i64 rco]) rfl (by kernel_rfl) (by kernel_rfl) (by kernel_rfl) (fun _ _ _ h => h) (Or.inl ⟨by kernel_rfl, fun u hu => exec_loadV (t := 50) (p := ⟨wq.heap.size, 0, none⟩) rfl (by kernel_rfl) hu⟩) hS ?_
                    simp only [Act.put, List.getElem_toArray, List.getElem_cons_succ, List.getElem_cons_zero, List.setIfInBounds_toArray, List.set_cons_zero, List.set_cons_succ]
                    refine wpAnyH_take (i := 2) (v := .string NM) rfl (by kernel_rfl) (by kernel_rfl) (by kernel_rfl) (fun _ _ _ h => h) (Or.inl ⟨by kernel_rfl, fun u hu => by kernel_rfl⟩) hS ?_
                    simp only [Act.put, List.getElem_toArray, List.getElem_cons_succ, List.getElem_cons_zero, List.setIfInBounds_toArray, List.set_cons_zero, List.set_cons_succ]
                    refine wpAnyH_ready (rs := [3]) (by kernel_rfl) (by simp) ?_
                    refine AllReadyH.cons rfl (fun K hK => ?_) AllReadyH.nil
                    simp only [List.getElem_toArray, List.getElem_cons_succ, List.getElem_cons_zero]
                    refine wp_if (by kernel_rfl) ?_
                    refine wp_part (g := w.heap.size) (off := 0) (val := .agg #[.int .i64 ra', .int .i64 rf, .int .i64 rl, .int .i64 rco]) (new := #[.int .i64 ra', .int .i64 rf, .int .i64 rl, .int .i64 rco]) rfl (by kernel_rfl) (by kernel_rfl) (HKr.out.of (by simp)) (by rw [sizeRowD]; rfl) (by show 0 + 4 ≤ 4; omega) (one4 _ _ _ _) rfl ?_
                    refine hK.out _ _ (((HK12.out.of (by simp)).setO hne _).loadRowD rfl) (fun hS => ?_)
                    clear hK
                    simp only [Act.put, List.getElem_toArray, List.getElem_cons_succ, List.getElem_cons_zero, List.setIfInBounds_toArray, List.set_cons_zero, List.set_cons_succ]
                    refine wpAnyH_take (i := 4) (v := .bool true) rfl (by kernel_rfl) (by kernel_rfl) (by kernel_rfl) (fun _ _ _ h => h) (Or.inl ⟨by kernel_rfl, fun u hu => by kernel_rfl⟩) hS ?_
                    simp only [Act.put, List.getElem_toArray, List.getElem_cons_succ, List.getElem_cons_zero, List.setIfInBounds_toArray, List.set_cons_zero, List.set_cons_succ]
                    refine wpAnyH_done (by kernel_rfl) ?_ _
                    clear hS
                    go_wp2_with fail
                    refine bodyPost_ret (v := .tuple #[.string NM, .agg #[.int .i64 ra', .int .i64 rf, .int .i64 rl, .int .i64 rco], .bool true]) ?_ rfl ⟨rfl, ?_⟩
                    · exact res_findD (p := 4) (q := 5) (s := 6) (by kernel_rfl) _ _ _ _ w.heap.size _ rfl (by kernel_rfl) (by kernel_rfl) (by kernel_rfl) ((Bk.setR (HKr.out.of (by simp)) _).hp)
                    · (refine Below.putR HBall.out ?_ ?_ ?_ ?_ (Nat.le_refl _) _) <;> rfl
                  · have hNM2 : NM = ⟨#[]⟩ := by rw [← HNM.out]; unfold fileV; simp [inB, g2]
                    subst hNM2
                    have gd1 : decide (1 ≤ rf) = true := by simpa using g1
                    have gd2 : decide (rf ≤ (files.length : Int)) = false := by simpa using g2
                    go_upto_region 16 with (fail)
                    go_quiet (fail)
                    go_upto_region 18 with (fail)
                    refine wp_region_held_drew (S := fun u => (loadVar 50 ⟨wq.heap.size, 0, none⟩).run Try.prog u = .ok (.agg #[.int .i64 ra', .int .i64 rf, .int .i64 rl, .int .i64 rco]) u) (by kernel_rfl) ((HK12.out.of (by simp)).loadRowD rfl) (fun hS => ?_)
                    refine wpAnyH_take (i := 0) (v := .string ⟨#[]⟩) rfl (by kernel_rfl) (by kernel_rfl) (by kernel_rfl) (fun _ _ _ h => h) (Or.inl ⟨by kernel_rfl, fun u hu => by kernel_rfl⟩) hS ?_
                    simp only [Act.put, List.getElem_toArray, List.getElem_cons_succ, List.getElem_cons_zero, List.setIfInBounds_toArray, List.set_cons_zero, List.set_cons_succ]
                    refine wpAnyH_take (i := 1) (v := .agg #[.int .i64 ra', .int .i64 rf, .int .i64 rl, .int .i64 rco]) rfl (by kernel_rfl) (by kernel_rfl) (by kernel_rfl) (fun _ _ _ h => h) (Or.inl ⟨by kernel_rfl, fun u hu => exec_loadV (t := 50) (p := ⟨wq.heap.size, 0, none⟩) rfl (by kernel_rfl) hu⟩) hS ?_
                    simp only [Act.put, List.getElem_toArray, List.getElem_cons_succ, List.getElem_cons_zero, List.setIfInBounds_toArray, List.set_cons_zero, List.set_cons_succ]
                    refine wpAnyH_take (i := 2) (v := .string ⟨#[]⟩) rfl (by kernel_rfl) (by kernel_rfl) (by kernel_rfl) (fun _ _ _ h => h) (Or.inl ⟨by kernel_rfl, fun u hu => by kernel_rfl⟩) hS ?_
                    simp only [Act.put, List.getElem_toArray, List.getElem_cons_succ, List.getElem_cons_zero, List.setIfInBounds_toArray, List.set_cons_zero, List.set_cons_succ]
                    refine wpAnyH_ready (rs := [3]) (by kernel_rfl) (by simp) ?_
                    refine AllReadyH.cons rfl (fun K hK => ?_) AllReadyH.nil
                    simp only [List.getElem_toArray, List.getElem_cons_succ, List.getElem_cons_zero]
                    refine wp_if (by kernel_rfl) ?_
                    refine wp_part (g := w.heap.size) (off := 0) (val := .agg #[.int .i64 ra', .int .i64 rf, .int .i64 rl, .int .i64 rco]) (new := #[.int .i64 ra', .int .i64 rf, .int .i64 rl, .int .i64 rco]) rfl (by kernel_rfl) (by kernel_rfl) (HKr.out.of (by simp)) (by rw [sizeRowD]; rfl) (by show 0 + 4 ≤ 4; omega) (one4 _ _ _ _) rfl ?_
                    refine hK.out _ _ (((HK12.out.of (by simp)).setO hne _).loadRowD rfl) (fun hS => ?_)
                    clear hK
                    simp only [Act.put, List.getElem_toArray, List.getElem_cons_succ, List.getElem_cons_zero, List.setIfInBounds_toArray, List.set_cons_zero, List.set_cons_succ]
                    refine wpAnyH_take (i := 4) (v := .bool true) rfl (by kernel_rfl) (by kernel_rfl) (by kernel_rfl) (fun _ _ _ h => h) (Or.inl ⟨by kernel_rfl, fun u hu => by kernel_rfl⟩) hS ?_
                    simp only [Act.put, List.getElem_toArray, List.getElem_cons_succ, List.getElem_cons_zero, List.setIfInBounds_toArray, List.set_cons_zero, List.set_cons_succ]
                    refine wpAnyH_done (by kernel_rfl) ?_ _
                    clear hS
                    go_wp2_with fail
                    refine bodyPost_ret (v := .tuple #[.string ⟨#[]⟩, .agg #[.int .i64 ra', .int .i64 rf, .int .i64 rl, .int .i64 rco], .bool true]) ?_ rfl ⟨rfl, ?_⟩
                    · exact res_findD (p := 4) (q := 5) (s := 6) (by kernel_rfl) _ _ _ _ w.heap.size _ rfl (by kernel_rfl) (by kernel_rfl) (by kernel_rfl) ((Bk.setR (HKr.out.of (by simp)) _).hp)
                    · (refine Below.putR HBall.out ?_ ?_ ?_ ?_ (Nat.le_refl _) _) <;> rfl
                · have hNM2 : NM = ⟨#[]⟩ := by rw [← HNM.out]; unfold fileV; simp [inB, g1]
                  subst hNM2
                  have gd1 : decide (1 ≤ rf) = false := by simpa using g1
                  go_upto_region 16 with (fail)
                  go_quiet (fail)
                  go_upto_region 18 with (fail)
                  refine wp_region_held_drew (S := fun u => (loadVar 50 ⟨wq.heap.size, 0, none⟩).run Try.prog u = .ok (.agg #[.int .i64 ra', .int .i64 rf, .int .i64 rl, .int .i64 rco]) u) (by kernel_rfl) ((HK12.out.of (by simp)).loadRowD rfl) (fun hS => ?_)
                  refine wpAnyH_take (i := 0) (v := .string ⟨#[]⟩) rfl (by kernel_rfl) (by kernel_rfl) (by kernel_rfl) (fun _ _ _ h => h) (Or.inl ⟨by kernel_rfl, fun u hu => by kernel_rfl⟩) hS ?_
                  simp only [Act.put, List.getElem_toArray, List.getElem_cons_succ, List.getElem_cons_zero, List.setIfInBounds_toArray, List.set_cons_zero, List.set_cons_succ]
                  refine wpAnyH_take (i := 1) (v := .agg #[.int .i64 ra', .int .i64 rf, .int .i64 rl, .int .i64 rco]) rfl (by kernel_rfl) (by kernel_rfl) (by kernel_rfl) (fun _ _ _ h => h) (Or.inl ⟨by kernel_rfl, fun u hu => exec_loadV (t := 50) (p := ⟨wq.heap.size, 0, none⟩) rfl (by kernel_rfl) hu⟩) hS ?_
                  simp only [Act.put, List.getElem_toArray, List.getElem_cons_succ, List.getElem_cons_zero, List.setIfInBounds_toArray, List.set_cons_zero, List.set_cons_succ]
                  refine wpAnyH_take (i := 2) (v := .string ⟨#[]⟩) rfl (by kernel_rfl) (by kernel_rfl) (by kernel_rfl) (fun _ _ _ h => h) (Or.inl ⟨by kernel_rfl, fun u hu => by kernel_rfl⟩) hS ?_
                  simp only [Act.put, List.getElem_toArray, List.getElem_cons_succ, List.getElem_cons_zero, List.setIfInBounds_toArray, List.set_cons_zero, List.set_cons_succ]
                  refine wpAnyH_ready (rs := [3]) (by kernel_rfl) (by simp) ?_
                  refine AllReadyH.cons rfl (fun K hK => ?_) AllReadyH.nil
                  simp only [List.getElem_toArray, List.getElem_cons_succ, List.getElem_cons_zero]
                  refine wp_if (by kernel_rfl) ?_
                  refine wp_part (g := w.heap.size) (off := 0) (val := .agg #[.int .i64 ra', .int .i64 rf, .int .i64 rl, .int .i64 rco]) (new := #[.int .i64 ra', .int .i64 rf, .int .i64 rl, .int .i64 rco]) rfl (by kernel_rfl) (by kernel_rfl) (HKr.out.of (by simp)) (by rw [sizeRowD]; rfl) (by show 0 + 4 ≤ 4; omega) (one4 _ _ _ _) rfl ?_
                  refine hK.out _ _ (((HK12.out.of (by simp)).setO hne _).loadRowD rfl) (fun hS => ?_)
                  clear hK
                  simp only [Act.put, List.getElem_toArray, List.getElem_cons_succ, List.getElem_cons_zero, List.setIfInBounds_toArray, List.set_cons_zero, List.set_cons_succ]
                  refine wpAnyH_take (i := 4) (v := .bool true) rfl (by kernel_rfl) (by kernel_rfl) (by kernel_rfl) (fun _ _ _ h => h) (Or.inl ⟨by kernel_rfl, fun u hu => by kernel_rfl⟩) hS ?_
                  simp only [Act.put, List.getElem_toArray, List.getElem_cons_succ, List.getElem_cons_zero, List.setIfInBounds_toArray, List.set_cons_zero, List.set_cons_succ]
                  refine wpAnyH_done (by kernel_rfl) ?_ _
                  clear hS
                  go_wp2_with fail
                  refine bodyPost_ret (v := .tuple #[.string ⟨#[]⟩, .agg #[.int .i64 ra', .int .i64 rf, .int .i64 rl, .int .i64 rco], .bool true]) ?_ rfl ⟨rfl, ?_⟩
                  · exact res_findD (p := 4) (q := 5) (s := 6) (by kernel_rfl) _ _ _ _ w.heap.size _ rfl (by kernel_rfl) (by kernel_rfl) (by kernel_rfl) ((Bk.setR (HKr.out.of (by simp)) _).hp)
                  · (refine Below.putR HBall.out ?_ ?_ ?_ ?_ (Nat.le_refl _) _) <;> rfl
              · have HG2 : Hid _ := ⟨HG.out hle⟩
                clear HF HG
                go_wp2
                go_roundw
                case rel => exact ⟨i, by omega, by go_num, ⟨HZ1.out.trans (HB12.out.mono HZ1.out.size), fun u a b => HG2.out u a b⟩⟩
                case measure => simp [intOf]
        · obtain rfl : j = seqs.length := by omega
          have HNx : Hid _ := ⟨HSn.out (by
            show (pgFind ⟨files, seqs⟩ addr).map _ = _
            rw [show pgFind ⟨files, seqs⟩ addr = none by have := HX.out.2; rwa [List.take_of_length_le (Nat.le_refl _)] at this]; rfl)⟩
          go_wp2
          go_roundw
          case rel => exact ⟨k + 1, hlt, by go_num, ⟨HBV.out, HNx.out⟩⟩
          case measure => simp [intOf]; omega
    · obtain rfl : k = l.length := by omega
      have : O = none := by rw [← HO.out]; have := HW.out.2; rwa [List.take_of_length_le (Nat.le_refl _)] at this
      subst this
      have HK4 : Hid _ := ⟨HK.out.bel HW.out.1 HV.out⟩
      go_wp2_with (refine wpList_part (g := w.heap.size) (off := 0) (val := .agg #[.int .i64 0, .int .i64 0, .int .i64 0, .int .i64 0]) (new := #[.int .i64 0, .int .i64 0, .int .i64 0, .int .i64 0]) rfl rfl (by rfl) (by rfl) HK4.out (by rw [sizeRowD]; rfl) (by show 0 + 4 ≤ 4; omega) (one4 _ _ _ _) rfl ?_)
      refine bodyPost_ret (v := .tuple #[.string ⟨#[]⟩, .agg #[.int .i64 0, .int .i64 0, .int .i64 0, .int .i64 0], .bool false]) ?_ rfl ⟨rfl, HBw.out.trans ⟨rfl, rfl, rfl, by simp, fun k hk => setRow_other _ _ k _ (by omega)⟩⟩
      exact res_findD (p := 4) (q := 5) (s := 6) (by kernel_rfl) _ _ _ _ w.heap.size _ rfl (by kernel_rfl) (by kernel_rfl) (by kernel_rfl) ((HK4.out.setR _).hp)
end Go.Proofs.Ytbhdledlahbokaa
