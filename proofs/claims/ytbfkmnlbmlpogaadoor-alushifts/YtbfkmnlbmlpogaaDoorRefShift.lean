/- The contracts of the document's shift, by one place at a time. -/
import Derived.Test.YtbfkmnlbmlpogaaDoorRefSums
import Derived.Test.YtbfkmnlbmlpogaaDoorRefShiftPlain
namespace Go.Proofs.YtbfkmnlbmlpogaaDoor
open Go.ChangeShapes Go.WideShapes Go.ChangeAt Go.RowKit
set_option linter.unusedVariables false
set_option linter.unusedSimpArgs false

set_option maxRecDepth 4000 in
set_option maxHeartbeats 1000000 in
theorem rsh_shl (a : Int) (m : Nat) (oC oP oZ oS oO : Bool) (n : Nat) (w : World) (l0 : 1 ≤ n) (l1 : n ≤ 64) (m0 : 1 ≤ m) (m1 : m ≤ 63) (h0 : 0 ≤ a) (h1 : a < 18446744073709551616) :
    Calls Tryd.prog 50 #[.int .i64 17, .int .u64 a, .int .i64 m, .agg #[.bool oC, .bool oP, .bool oZ, .bool oS, .bool oO], .int .i64 n] w fun e w' =>
      e = .returned (.tuple #[.int .u64 (a * 2 ^ m % 2 ^ n), resF n (tb (n - 1) (a * 2 ^ (m - 1))) ((m == 1) && (tb (n - 1) (a * 2 ^ m) != tb (n - 1) (a * 2 ^ (m - 1)))) (a * 2 ^ m % 2 ^ n), .int .i64 0]) ∧ Below w.heap.size w w' := by
  have HX := hid2 h0 h1
  have en : ((n : Int) - 1) = ((n - 1 : Nat) : Int) := by omega
  have mz : ((m : Int) == 0) = false := by simp; omega
  clear h0 h1
  go_enter Tryd.func50, Tryd.ntmps50
  go_wp2_with (go_at_call 42; refine (rlow_any _ _ _ HX.out.1 HX.out.2 l1).mono ?_; rintro e w0 ⟨rfl, hq⟩; subst w0)
  go_loop [13, 14, 15] (fun r o i => ∃ j : Nat, j ≤ m ∧ i = .int .i64 j ∧ r = .int .u64 (a * 2 ^ j % 2 ^ n) ∧ ∃ z : Int, o = .int .i64 z ∧ (1 ≤ j → (z == 1) = (tb (n - 1) (a * 2 ^ (j - 1))))) (fun _ _ i => m - (intOf i).toNat)
  case atStart => exact ⟨0, by omega, rfl, by simp, 0, rfl, by omega⟩
  case round =>
    obtain ⟨j, hj, rfl, rfl, z, rfl, hzc⟩ := hrel
    by_cases hlt : j < m
    · clear hzc
      have HB := hid (lowb n l1 (a * 2 ^ j))
      have st := shl_step n l1 a j
      have HS := hid (show 0 ≤ IntKind.u64.wrap (a * 2 ^ j % 2 ^ n * 2) ∧ IntKind.u64.wrap (a * 2 ^ j % 2 ^ n * 2) < 18446744073709551616 by rw [IntKind.wrap_u64]; omega)
      go_wp2_with (first
        | (go_at_call 44; refine (rbit_any (a * 2 ^ j % 2 ^ n) (n - 1) _ HB.out.1 HB.out.2 (by omega)).mono ?_; rintro e w0 ⟨rfl, hq⟩; subst w0)
        | (go_at_call 42; refine (rlow_any _ _ _ HS.out.1 HS.out.2 l1).mono ?_; rintro e w0 ⟨rfl, hq⟩; subst w0))
      go_round
      case rel => exact ⟨j + 1, by omega, by go_num, rfl, _, rfl, fun _ => by rw [top_of n l0]; simp⟩
      case measure => simp [intOf]; omega
    · have e : j = m := by omega
      subst e
      have zc := hzc m0
      clear hzc
      have HR := hid (show 0 ≤ (a * 2 ^ j % 2 ^ n) ∧ (a * 2 ^ j % 2 ^ n) < 18446744073709551616 from lowb n l1 (a * 2 ^ j))
      have tt : decide (sx n (a * 2 ^ j % 2 ^ n) < 0) = tb (n - 1) (a * 2 ^ j) := by rw [sx_neg n l0]; exact tb_congr n l0 (Int.emod_emod_of_dvd _ (Int.dvd_refl _))
      generalize hr : (a * 2 ^ j % 2 ^ n) = r at *
      generalize hC : (tb (n - 1) (a * 2 ^ (j - 1))) = Cc at *
      by_cases hm : j = 1
      · have x1 : ((j : Int) == 1) = true := by simp [hm]
        have x2 : (j == 1) = true := by simpa using hm
        have OO : Hid (((j == 1) && (tb (n - 1) (a * 2 ^ j) != Cc)) = (decide (sx n r < 0) != Cc)) := by rw [x2, tt]; rfl
        have o1 : (!(decide (sx n r < 0) == Cc)) = (decide (sx n r < 0) != Cc) := rfl
        clear tt
        generalize hO : (decide (sx n r < 0) != Cc) = O at *
        go_wp2_with (first
          | (go_at_call 38; refine (rflags_any _ _ _ HR.out.1 HR.out.2 l0 l1).mono ?_; rintro e w1 ⟨rfl, hb⟩))
        have T2 := hid (Fl.new w1 Cc (evenB r) (r == 0) (decide (sx n r < 0)) O 24)
        have R1 := hid ((Fl.new (w.alloc (.cells #[.bool oC, .bool oP, .bool oZ, .bool oS, .bool oO] 24)) false false false false false 24).bel hb)
        have eb : (w.alloc (Obj.cells #[.bool oC, .bool oP, .bool oZ, .bool oS, .bool oO] 24)).heap.size = w.heap.size + 1 := by simp
        rw [eb] at R1
        have R2 := hid (R1.out.up (.cells #[.bool Cc, .bool (evenB r), .bool (r == 0), .bool (decide (sx n r < 0)), .bool O] 24))
        have B2 := hid (bel_alloc (bel_trans (bel_alloc (bel_alloc (Below.refl _ _) _) _) hb) (.cells #[.bool Cc, .bool (evenB r), .bool (r == 0), .bool (decide (sx n r < 0)), .bool O] 24))
        have nb : w.heap.size + 1 < w1.heap.size := R1.out.lt
        clear R1 hb eb HR HX
        generalize w1.heap.size = bt at *
        generalize w1.alloc (.cells #[.bool Cc, .bool (evenB r), .bool (r == 0), .bool (decide (sx n r < 0)), .bool O] 24) = U at *
        generalize hfP : evenB r = fP at *
        generalize hfZ : (r == 0) = fZ at *
        generalize hfS : decide (sx n r < 0) = fS at *
        obtain ⟨t0, t1, t2, t3, t4, y0, y1, y2, y3, y4⟩ := T2.out
        obtain ⟨r0, r1, r2, r3, r4, x0, x1, x2, x3, x4⟩ := R2.out
        go_region_held3 (fun v => v.cell? ⟨bt, 0, none⟩ = some (.bool Cc) ∧ v.cell? ⟨bt, 1, none⟩ = some (.bool fP) ∧ v.cell? ⟨bt, 2, none⟩ = some (.bool fZ) ∧ v.cell? ⟨bt, 3, none⟩ = some (.bool fS) ∧ v.cell? ⟨bt, 4, none⟩ = some (.bool O)) ((refine ⟨?_, ?_, ?_, ?_, ?_⟩) <;> (repeat (first | (with_reducible assumption) | (with_reducible refine up_drew ?_) | ((with_reducible refine up_set ?_ ?_); rotate_left; (focus (dsimp only; omega)))))) (fail)
        go_wp2
        refine bodyPost_ret (v := .tuple #[.int .u64 r, .agg #[.bool Cc, .bool fP, .bool fZ, .bool fS, .bool O], .int .i64 0]) (by simp [results, Tryd.results50, go_sem, r0, r1, r2, r3, r4]) rfl ⟨?_, ?_⟩
        · have oo := OO.out
          subst hfS; subst hfZ; subst hfP; subst hC; subst hr
          first | rfl | rw [oo] | (rw [oo]; rfl)
        repeat (first | (with_reducible exact B2.out) | (with_reducible refine Below.drew ?_) | ((with_reducible refine Below.setCell ?_ ?_ _); rotate_left; (focus (dsimp only; omega))))

      · have x1 : ((j : Int) == 1) = false := by simp; omega
        have x2 : (j == 1) = false := by simpa using hm
        have OO : Hid (((j == 1) && (tb (n - 1) (a * 2 ^ j) != Cc)) = false) := by rw [x2]; rfl
        clear tt
        go_wp2_with (first
          | (go_at_call 38; refine (rflags_any _ _ _ HR.out.1 HR.out.2 l0 l1).mono ?_; rintro e w1 ⟨rfl, hb⟩))
        have T2 := hid (Fl.new w1 Cc (evenB r) (r == 0) (decide (sx n r < 0)) false 24)
        have R1 := hid ((Fl.new (w.alloc (.cells #[.bool oC, .bool oP, .bool oZ, .bool oS, .bool oO] 24)) false false false false false 24).bel hb)
        have eb : (w.alloc (Obj.cells #[.bool oC, .bool oP, .bool oZ, .bool oS, .bool oO] 24)).heap.size = w.heap.size + 1 := by simp
        rw [eb] at R1
        have R2 := hid (R1.out.up (.cells #[.bool Cc, .bool (evenB r), .bool (r == 0), .bool (decide (sx n r < 0)), .bool false] 24))
        have B2 := hid (bel_alloc (bel_trans (bel_alloc (bel_alloc (Below.refl _ _) _) _) hb) (.cells #[.bool Cc, .bool (evenB r), .bool (r == 0), .bool (decide (sx n r < 0)), .bool false] 24))
        have nb : w.heap.size + 1 < w1.heap.size := R1.out.lt
        clear R1 hb eb HR HX
        generalize w1.heap.size = bt at *
        generalize w1.alloc (.cells #[.bool Cc, .bool (evenB r), .bool (r == 0), .bool (decide (sx n r < 0)), .bool false] 24) = U at *
        generalize hfP : evenB r = fP at *
        generalize hfZ : (r == 0) = fZ at *
        generalize hfS : decide (sx n r < 0) = fS at *
        obtain ⟨t0, t1, t2, t3, t4, y0, y1, y2, y3, y4⟩ := T2.out
        obtain ⟨r0, r1, r2, r3, r4, x0, x1, x2, x3, x4⟩ := R2.out
        go_region_held3 (fun v => v.cell? ⟨bt, 0, none⟩ = some (.bool Cc) ∧ v.cell? ⟨bt, 1, none⟩ = some (.bool fP) ∧ v.cell? ⟨bt, 2, none⟩ = some (.bool fZ) ∧ v.cell? ⟨bt, 3, none⟩ = some (.bool fS) ∧ v.cell? ⟨bt, 4, none⟩ = some (.bool false)) ((refine ⟨?_, ?_, ?_, ?_, ?_⟩) <;> (repeat (first | (with_reducible assumption) | (with_reducible refine up_drew ?_) | ((with_reducible refine up_set ?_ ?_); rotate_left; (focus (dsimp only; omega)))))) (fail)
        go_wp2
        refine bodyPost_ret (v := .tuple #[.int .u64 r, .agg #[.bool Cc, .bool fP, .bool fZ, .bool fS, .bool false], .int .i64 0]) (by simp [results, Tryd.results50, go_sem, r0, r1, r2, r3, r4]) rfl ⟨?_, ?_⟩
        · have oo := OO.out
          subst hfS; subst hfZ; subst hfP; subst hC; subst hr
          first | rfl | rw [oo] | (rw [oo]; rfl)
        repeat (first | (with_reducible exact B2.out) | (with_reducible refine Below.drew ?_) | ((with_reducible refine Below.setCell ?_ ?_ _); rotate_left; (focus (dsimp only; omega))))



set_option maxRecDepth 4000 in
set_option maxHeartbeats 1000000 in
theorem rsh_shr (a : Int) (m : Nat) (oC oP oZ oS oO : Bool) (n : Nat) (w : World) (l0 : 1 ≤ n) (l1 : n ≤ 64) (m0 : 1 ≤ m) (m1 : m ≤ 63) (h0 : 0 ≤ a) (h1 : a < 18446744073709551616) :
    Calls Tryd.prog 50 #[.int .i64 18, .int .u64 a, .int .i64 m, .agg #[.bool oC, .bool oP, .bool oZ, .bool oS, .bool oO], .int .i64 n] w fun e w' =>
      e = .returned (.tuple #[.int .u64 (a % 2 ^ n / 2 ^ m), resF n (tb (m - 1) (a % 2 ^ n)) ((m == 1) && tb (n - 1) a) (a % 2 ^ n / 2 ^ m), .int .i64 0]) ∧ Below w.heap.size w w' := by
  have HX := hid2 h0 h1
  have en : ((n : Int) - 1) = ((n - 1 : Nat) : Int) := by omega
  have mz : ((m : Int) == 0) = false := by simp; omega
  clear h0 h1
  go_enter Tryd.func50, Tryd.ntmps50
  go_wp2_with (go_at_call 42; refine (rlow_any _ _ _ HX.out.1 HX.out.2 l1).mono ?_; rintro e w0 ⟨rfl, hq⟩; subst w0)
  go_loop [13, 14, 15] (fun r o i => ∃ j : Nat, j ≤ m ∧ i = .int .i64 j ∧ r = .int .u64 (a % 2 ^ n / 2 ^ j) ∧ ∃ z : Int, o = .int .i64 z ∧ (1 ≤ j → (z == 1) = (tb (j - 1) (a % 2 ^ n)))) (fun _ _ i => m - (intOf i).toNat)
  case atStart => exact ⟨0, by omega, rfl, by simp, 0, rfl, by omega⟩
  case round =>
    obtain ⟨j, hj, rfl, rfl, z, rfl, hzc⟩ := hrel
    by_cases hlt : j < m
    · clear hzc
      have HB := hid (shr_in (a % 2 ^ n) j (lowb n l1 a).1 (lowb n l1 a).2)
      have BZ := rbit_any (a % 2 ^ n / 2 ^ j) 0
      have B0 : Hid (∀ v, Calls Tryd.prog 44 #[.int .u64 (a % 2 ^ n / 2 ^ j), .int .i64 0] v fun e w' => e = .returned (.int .i64 ((a % 2 ^ n / 2 ^ j) % 2)) ∧ w' = v) := fun v => by simpa using rbit_any (a % 2 ^ n / 2 ^ j) 0 v HB.out.1 HB.out.2 (by decide)
      clear BZ
      have st := shr_step (a % 2 ^ n) j
      have bi := bit_in (a % 2 ^ n / 2 ^ j) (n - 1)
      have bj : 0 ≤ (a % 2 ^ n / 2 ^ j) % 2 ∧ (a % 2 ^ n / 2 ^ j) % 2 ≤ 1 := by omega
      go_wp2_with (first
        | (go_at_call_of 44 (Value.int IntKind.i64 0); refine (B0.out _).mono ?_; rintro e w0 ⟨rfl, hq⟩; subst w0)
        | (go_at_call 44; refine (rbit_any (a % 2 ^ n / 2 ^ j) (n - 1) _ HB.out.1 HB.out.2 (by omega)).mono ?_; rintro e w0 ⟨rfl, hq⟩; subst w0))
      go_round
      case rel => exact ⟨j + 1, by omega, by go_num, rfl, _, rfl, fun _ => by rw [odd_tb]; simp⟩
      case measure => simp [intOf]; omega
    · have e : j = m := by omega
      subst e
      have zc := hzc m0
      clear hzc
      have HR := hid (show 0 ≤ (a % 2 ^ n / 2 ^ j) ∧ (a % 2 ^ n / 2 ^ j) < 18446744073709551616 from shr_in (a % 2 ^ n) j (lowb n l1 a).1 (lowb n l1 a).2)
      have ta := odd_tb a (n - 1)
      generalize hr : (a % 2 ^ n / 2 ^ j) = r at *
      generalize hC : (tb (j - 1) (a % 2 ^ n)) = Cc at *
      by_cases hm : j = 1
      · have x1 : ((j : Int) == 1) = true := by simp [hm]
        have x2 : (j == 1) = true := by simpa using hm
        have OO : Hid (((j == 1) && tb (n - 1) a) = tb (n - 1) a) := by rw [x2]; rfl
        have ba := bit_in a (n - 1)
        go_wp2_with (first
          | (go_at_call 38; refine (rflags_any _ _ _ HR.out.1 HR.out.2 l0 l1).mono ?_; rintro e w1 ⟨rfl, hb⟩)
          | (go_at_call 44; refine (rbit_any a (n - 1) _ HX.out.1 HX.out.2 (by omega)).mono ?_; rintro e w0 ⟨rfl, hq⟩; subst w0))
        have T2 := hid (Fl.new w1 Cc (evenB r) (r == 0) (decide (sx n r < 0)) (tb (n - 1) a) 24)
        have R1 := hid ((Fl.new (w.alloc (.cells #[.bool oC, .bool oP, .bool oZ, .bool oS, .bool oO] 24)) false false false false false 24).bel hb)
        have eb : (w.alloc (Obj.cells #[.bool oC, .bool oP, .bool oZ, .bool oS, .bool oO] 24)).heap.size = w.heap.size + 1 := by simp
        rw [eb] at R1
        have R2 := hid (R1.out.up (.cells #[.bool Cc, .bool (evenB r), .bool (r == 0), .bool (decide (sx n r < 0)), .bool (tb (n - 1) a)] 24))
        have B2 := hid (bel_alloc (bel_trans (bel_alloc (bel_alloc (Below.refl _ _) _) _) hb) (.cells #[.bool Cc, .bool (evenB r), .bool (r == 0), .bool (decide (sx n r < 0)), .bool (tb (n - 1) a)] 24))
        have nb : w.heap.size + 1 < w1.heap.size := R1.out.lt
        clear R1 hb eb HR HX
        generalize w1.heap.size = bt at *
        generalize w1.alloc (.cells #[.bool Cc, .bool (evenB r), .bool (r == 0), .bool (decide (sx n r < 0)), .bool (tb (n - 1) a)] 24) = U at *
        generalize hfP : evenB r = fP at *
        generalize hfZ : (r == 0) = fZ at *
        generalize hfS : decide (sx n r < 0) = fS at *
        obtain ⟨t0, t1, t2, t3, t4, y0, y1, y2, y3, y4⟩ := T2.out
        obtain ⟨r0, r1, r2, r3, r4, x0, x1, x2, x3, x4⟩ := R2.out
        go_region_held3 (fun v => v.cell? ⟨bt, 0, none⟩ = some (.bool Cc) ∧ v.cell? ⟨bt, 1, none⟩ = some (.bool fP) ∧ v.cell? ⟨bt, 2, none⟩ = some (.bool fZ) ∧ v.cell? ⟨bt, 3, none⟩ = some (.bool fS) ∧ v.cell? ⟨bt, 4, none⟩ = some (.bool (tb (n - 1) a))) ((refine ⟨?_, ?_, ?_, ?_, ?_⟩) <;> (repeat (first | (with_reducible assumption) | (with_reducible refine up_drew ?_) | ((with_reducible refine up_set ?_ ?_); rotate_left; (focus (dsimp only; omega)))))) (fail)
        go_wp2
        refine bodyPost_ret (v := .tuple #[.int .u64 r, .agg #[.bool Cc, .bool fP, .bool fZ, .bool fS, .bool (tb (n - 1) a)], .int .i64 0]) (by simp [results, Tryd.results50, go_sem, r0, r1, r2, r3, r4]) rfl ⟨?_, ?_⟩
        · have oo := OO.out
          subst hfS; subst hfZ; subst hfP; subst hC; subst hr
          first | rfl | rw [oo] | (rw [oo]; rfl)
        repeat (first | (with_reducible exact B2.out) | (with_reducible refine Below.drew ?_) | ((with_reducible refine Below.setCell ?_ ?_ _); rotate_left; (focus (dsimp only; omega))))

      · have x1 : ((j : Int) == 1) = false := by simp; omega
        have x2 : (j == 1) = false := by simpa using hm
        have OO : Hid (((j == 1) && tb (n - 1) a) = false) := by rw [x2]; rfl
        go_wp2_with (first
          | (go_at_call 38; refine (rflags_any _ _ _ HR.out.1 HR.out.2 l0 l1).mono ?_; rintro e w1 ⟨rfl, hb⟩))
        have T2 := hid (Fl.new w1 Cc (evenB r) (r == 0) (decide (sx n r < 0)) false 24)
        have R1 := hid ((Fl.new (w.alloc (.cells #[.bool oC, .bool oP, .bool oZ, .bool oS, .bool oO] 24)) false false false false false 24).bel hb)
        have eb : (w.alloc (Obj.cells #[.bool oC, .bool oP, .bool oZ, .bool oS, .bool oO] 24)).heap.size = w.heap.size + 1 := by simp
        rw [eb] at R1
        have R2 := hid (R1.out.up (.cells #[.bool Cc, .bool (evenB r), .bool (r == 0), .bool (decide (sx n r < 0)), .bool false] 24))
        have B2 := hid (bel_alloc (bel_trans (bel_alloc (bel_alloc (Below.refl _ _) _) _) hb) (.cells #[.bool Cc, .bool (evenB r), .bool (r == 0), .bool (decide (sx n r < 0)), .bool false] 24))
        have nb : w.heap.size + 1 < w1.heap.size := R1.out.lt
        clear R1 hb eb HR HX
        generalize w1.heap.size = bt at *
        generalize w1.alloc (.cells #[.bool Cc, .bool (evenB r), .bool (r == 0), .bool (decide (sx n r < 0)), .bool false] 24) = U at *
        generalize hfP : evenB r = fP at *
        generalize hfZ : (r == 0) = fZ at *
        generalize hfS : decide (sx n r < 0) = fS at *
        obtain ⟨t0, t1, t2, t3, t4, y0, y1, y2, y3, y4⟩ := T2.out
        obtain ⟨r0, r1, r2, r3, r4, x0, x1, x2, x3, x4⟩ := R2.out
        go_region_held3 (fun v => v.cell? ⟨bt, 0, none⟩ = some (.bool Cc) ∧ v.cell? ⟨bt, 1, none⟩ = some (.bool fP) ∧ v.cell? ⟨bt, 2, none⟩ = some (.bool fZ) ∧ v.cell? ⟨bt, 3, none⟩ = some (.bool fS) ∧ v.cell? ⟨bt, 4, none⟩ = some (.bool false)) ((refine ⟨?_, ?_, ?_, ?_, ?_⟩) <;> (repeat (first | (with_reducible assumption) | (with_reducible refine up_drew ?_) | ((with_reducible refine up_set ?_ ?_); rotate_left; (focus (dsimp only; omega)))))) (fail)
        go_wp2
        refine bodyPost_ret (v := .tuple #[.int .u64 r, .agg #[.bool Cc, .bool fP, .bool fZ, .bool fS, .bool false], .int .i64 0]) (by simp [results, Tryd.results50, go_sem, r0, r1, r2, r3, r4]) rfl ⟨?_, ?_⟩
        · have oo := OO.out
          subst hfS; subst hfZ; subst hfP; subst hC; subst hr
          first | rfl | rw [oo] | (rw [oo]; rfl)
        repeat (first | (with_reducible exact B2.out) | (with_reducible refine Below.drew ?_) | ((with_reducible refine Below.setCell ?_ ?_ _); rotate_left; (focus (dsimp only; omega))))



set_option maxRecDepth 4000 in
set_option maxHeartbeats 1000000 in
theorem rsh_sar (a : Int) (m : Nat) (oC oP oZ oS oO : Bool) (n : Nat) (w : World) (l0 : 1 ≤ n) (l1 : n ≤ 64) (m0 : 1 ≤ m) (m1 : m ≤ 63) (h0 : 0 ≤ a) (h1 : a < 18446744073709551616) :
    Calls Tryd.prog 50 #[.int .i64 19, .int .u64 a, .int .i64 m, .agg #[.bool oC, .bool oP, .bool oZ, .bool oS, .bool oO], .int .i64 n] w fun e w' =>
      e = .returned (.tuple #[.int .u64 (sx n a / 2 ^ m % 2 ^ n), resF n (tb (m - 1) (sx n a)) (false) (sx n a / 2 ^ m % 2 ^ n), .int .i64 0]) ∧ Below w.heap.size w w' := by
  have HX := hid2 h0 h1
  have en : ((n : Int) - 1) = ((n - 1 : Nat) : Int) := by omega
  have mz : ((m : Int) == 0) = false := by simp; omega
  clear h0 h1
  go_enter Tryd.func50, Tryd.ntmps50
  go_wp2_with (go_at_call 42; refine (rlow_any _ _ _ HX.out.1 HX.out.2 l1).mono ?_; rintro e w0 ⟨rfl, hq⟩; subst w0)
  go_loop [13, 14, 15] (fun r o i => ∃ j : Nat, j ≤ m ∧ i = .int .i64 j ∧ r = .int .u64 (sx n a / 2 ^ j % 2 ^ n) ∧ ∃ z : Int, o = .int .i64 z ∧ (1 ≤ j → (z == 1) = (tb (j - 1) (sx n a)))) (fun _ _ i => m - (intOf i).toNat)
  case atStart => exact ⟨0, by omega, rfl, by simp [sx_md], 0, rfl, by omega⟩
  case round =>
    obtain ⟨j, hj, rfl, rfl, z, rfl, hzc⟩ := hrel
    by_cases hlt : j < m
    · clear hzc
      have HB := hid (lowb n l1 (sx n a / 2 ^ j))
      have BZ := rbit_any (sx n a / 2 ^ j % 2 ^ n) 0
      have B0 : Hid (∀ v, Calls Tryd.prog 44 #[.int .u64 (sx n a / 2 ^ j % 2 ^ n), .int .i64 0] v fun e w' => e = .returned (.int .i64 ((sx n a / 2 ^ j % 2 ^ n) % 2)) ∧ w' = v) := fun v => by simpa using rbit_any (sx n a / 2 ^ j % 2 ^ n) 0 v HB.out.1 HB.out.2 (by decide)
      clear BZ
      have st := sar_step n l0 l1 a j
      have bi := bit_in (sx n a / 2 ^ j % 2 ^ n) (n - 1)
      have bj : 0 ≤ (sx n a / 2 ^ j % 2 ^ n) % 2 ∧ (sx n a / 2 ^ j % 2 ^ n) % 2 ≤ 1 := by omega
      go_wp2_with (first
        | (go_at_call_of 44 (Value.int IntKind.i64 0); refine (B0.out _).mono ?_; rintro e w0 ⟨rfl, hq⟩; subst w0)
        | (go_at_call 44; refine (rbit_any (sx n a / 2 ^ j % 2 ^ n) (n - 1) _ HB.out.1 HB.out.2 (by omega)).mono ?_; rintro e w0 ⟨rfl, hq⟩; subst w0))
      go_round
      case rel => exact ⟨j + 1, by omega, by go_num, rfl, _, rfl, fun _ => by rw [sar_bit n l0]; simp⟩
      case measure => simp [intOf]; omega
    · have e : j = m := by omega
      subst e
      have zc := hzc m0
      clear hzc
      have HR := hid (show 0 ≤ (sx n a / 2 ^ j % 2 ^ n) ∧ (sx n a / 2 ^ j % 2 ^ n) < 18446744073709551616 from lowb n l1 (sx n a / 2 ^ j))

      generalize hr : (sx n a / 2 ^ j % 2 ^ n) = r at *
      generalize hC : (tb (j - 1) (sx n a)) = Cc at *
      by_cases hm : j = 1
      · have x1 : ((j : Int) == 1) = true := by simp [hm]
        have OO : Hid (false = false) := rfl
        go_wp2_with (first
          | (go_at_call 38; refine (rflags_any _ _ _ HR.out.1 HR.out.2 l0 l1).mono ?_; rintro e w1 ⟨rfl, hb⟩))
        have T2 := hid (Fl.new w1 Cc (evenB r) (r == 0) (decide (sx n r < 0)) false 24)
        have R1 := hid ((Fl.new (w.alloc (.cells #[.bool oC, .bool oP, .bool oZ, .bool oS, .bool oO] 24)) false false false false false 24).bel hb)
        have eb : (w.alloc (Obj.cells #[.bool oC, .bool oP, .bool oZ, .bool oS, .bool oO] 24)).heap.size = w.heap.size + 1 := by simp
        rw [eb] at R1
        have R2 := hid (R1.out.up (.cells #[.bool Cc, .bool (evenB r), .bool (r == 0), .bool (decide (sx n r < 0)), .bool false] 24))
        have B2 := hid (bel_alloc (bel_trans (bel_alloc (bel_alloc (Below.refl _ _) _) _) hb) (.cells #[.bool Cc, .bool (evenB r), .bool (r == 0), .bool (decide (sx n r < 0)), .bool false] 24))
        have nb : w.heap.size + 1 < w1.heap.size := R1.out.lt
        clear R1 hb eb HR HX
        generalize w1.heap.size = bt at *
        generalize w1.alloc (.cells #[.bool Cc, .bool (evenB r), .bool (r == 0), .bool (decide (sx n r < 0)), .bool false] 24) = U at *
        generalize hfP : evenB r = fP at *
        generalize hfZ : (r == 0) = fZ at *
        generalize hfS : decide (sx n r < 0) = fS at *
        obtain ⟨t0, t1, t2, t3, t4, y0, y1, y2, y3, y4⟩ := T2.out
        obtain ⟨r0, r1, r2, r3, r4, x0, x1, x2, x3, x4⟩ := R2.out
        go_region_held3 (fun v => v.cell? ⟨bt, 0, none⟩ = some (.bool Cc) ∧ v.cell? ⟨bt, 1, none⟩ = some (.bool fP) ∧ v.cell? ⟨bt, 2, none⟩ = some (.bool fZ) ∧ v.cell? ⟨bt, 3, none⟩ = some (.bool fS) ∧ v.cell? ⟨bt, 4, none⟩ = some (.bool false)) ((refine ⟨?_, ?_, ?_, ?_, ?_⟩) <;> (repeat (first | (with_reducible assumption) | (with_reducible refine up_drew ?_) | ((with_reducible refine up_set ?_ ?_); rotate_left; (focus (dsimp only; omega)))))) (fail)
        go_wp2
        refine bodyPost_ret (v := .tuple #[.int .u64 r, .agg #[.bool Cc, .bool fP, .bool fZ, .bool fS, .bool false], .int .i64 0]) (by simp [results, Tryd.results50, go_sem, r0, r1, r2, r3, r4]) rfl ⟨?_, ?_⟩
        · have oo := OO.out
          subst hfS; subst hfZ; subst hfP; subst hC; subst hr
          first | rfl | rw [oo] | (rw [oo]; rfl)
        repeat (first | (with_reducible exact B2.out) | (with_reducible refine Below.drew ?_) | ((with_reducible refine Below.setCell ?_ ?_ _); rotate_left; (focus (dsimp only; omega))))

      · have x1 : ((j : Int) == 1) = false := by simp; omega
        have x2 : (j == 1) = false := by simpa using hm
        have OO : Hid (false = false) := rfl
        go_wp2_with (first
          | (go_at_call 38; refine (rflags_any _ _ _ HR.out.1 HR.out.2 l0 l1).mono ?_; rintro e w1 ⟨rfl, hb⟩))
        have T2 := hid (Fl.new w1 Cc (evenB r) (r == 0) (decide (sx n r < 0)) false 24)
        have R1 := hid ((Fl.new (w.alloc (.cells #[.bool oC, .bool oP, .bool oZ, .bool oS, .bool oO] 24)) false false false false false 24).bel hb)
        have eb : (w.alloc (Obj.cells #[.bool oC, .bool oP, .bool oZ, .bool oS, .bool oO] 24)).heap.size = w.heap.size + 1 := by simp
        rw [eb] at R1
        have R2 := hid (R1.out.up (.cells #[.bool Cc, .bool (evenB r), .bool (r == 0), .bool (decide (sx n r < 0)), .bool false] 24))
        have B2 := hid (bel_alloc (bel_trans (bel_alloc (bel_alloc (Below.refl _ _) _) _) hb) (.cells #[.bool Cc, .bool (evenB r), .bool (r == 0), .bool (decide (sx n r < 0)), .bool false] 24))
        have nb : w.heap.size + 1 < w1.heap.size := R1.out.lt
        clear R1 hb eb HR HX
        generalize w1.heap.size = bt at *
        generalize w1.alloc (.cells #[.bool Cc, .bool (evenB r), .bool (r == 0), .bool (decide (sx n r < 0)), .bool false] 24) = U at *
        generalize hfP : evenB r = fP at *
        generalize hfZ : (r == 0) = fZ at *
        generalize hfS : decide (sx n r < 0) = fS at *
        obtain ⟨t0, t1, t2, t3, t4, y0, y1, y2, y3, y4⟩ := T2.out
        obtain ⟨r0, r1, r2, r3, r4, x0, x1, x2, x3, x4⟩ := R2.out
        go_region_held3 (fun v => v.cell? ⟨bt, 0, none⟩ = some (.bool Cc) ∧ v.cell? ⟨bt, 1, none⟩ = some (.bool fP) ∧ v.cell? ⟨bt, 2, none⟩ = some (.bool fZ) ∧ v.cell? ⟨bt, 3, none⟩ = some (.bool fS) ∧ v.cell? ⟨bt, 4, none⟩ = some (.bool false)) ((refine ⟨?_, ?_, ?_, ?_, ?_⟩) <;> (repeat (first | (with_reducible assumption) | (with_reducible refine up_drew ?_) | ((with_reducible refine up_set ?_ ?_); rotate_left; (focus (dsimp only; omega)))))) (fail)
        go_wp2
        refine bodyPost_ret (v := .tuple #[.int .u64 r, .agg #[.bool Cc, .bool fP, .bool fZ, .bool fS, .bool false], .int .i64 0]) (by simp [results, Tryd.results50, go_sem, r0, r1, r2, r3, r4]) rfl ⟨?_, ?_⟩
        · have oo := OO.out
          subst hfS; subst hfZ; subst hfP; subst hC; subst hr
          first | rfl | rw [oo] | (rw [oo]; rfl)
        repeat (first | (with_reducible exact B2.out) | (with_reducible refine Below.drew ?_) | ((with_reducible refine Below.setCell ?_ ?_ _); rotate_left; (focus (dsimp only; omega))))


end Go.Proofs.YtbfkmnlbmlpogaaDoor
