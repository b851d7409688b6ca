/- The walk of the law on numbers as bytes. -/
import Derived.Test.YtlecnehahmdlaaaRefPut
namespace Go.Proofs.Ytlecnehahmdlaaa
open Go.ChangeShapes Go.WideShapes Go.ChangeAt Go.RowKit
set_option linter.unusedVariables false

/-- Get of any bytes at any place in any size: what both answer. -/
theorem get_is (len : Nat) (bs : Nat → Int) (t s : Int) (sg : Bool) (hbs : ∀ i, 0 ≤ bs i ∧ bs i < 256) (hl : len ≤ 140737488355328) (ht : t ≤ 9223372036854775807) :
    ∃ x g : Int, (∀ ao cap w, Row w ao len bs → Calls Try.prog 11 #[.slice ao len cap, .int .i64 t, .int .i64 s, .bool sg] w fun e w' => e = .returned (.tuple #[.int .i64 x, .int .i64 g]) ∧ Below w.heap.size w w') ∧
      (∀ ao cap w, Row w ao len bs → Calls Try.prog 13 #[.slice ao len cap, .int .i64 t, .int .i64 s, .bool sg] w fun e w' => e = .returned (.tuple #[.int .i64 x, .int .i64 g]) ∧ w' = w) := by
  by_cases hs : s = 1 ∨ s = 2 ∨ s = 4 ∨ s = 8
  · by_cases h : t < 0 ∨ (len : Int) - t < s
    · exact ⟨0, 20, fun ao cap w _ => get_end ao len cap t s sg w hl ht hs h, fun ao cap w _ => rget_end ao len cap t s sg w hl hs h⟩
    · obtain ⟨a, rfl⟩ := Int.eq_ofNat_of_zero_le (show 0 ≤ t by omega)
      obtain ⟨S, rfl⟩ := Int.eq_ofNat_of_zero_le (show 0 ≤ s by omega)
      exact ⟨_, 0, fun ao cap w hr => get_ok ao len cap a S sg bs w hr hbs hl (by omega) (by omega), fun ao cap w hr => rget_ok ao len cap a S sg bs w hr hbs hl (by omega) (by omega)⟩
  · exact ⟨0, 1, fun ao cap w _ => get_arg ao len cap t s sg w hs, fun ao cap w _ => rget_arg ao len cap t s sg w hs⟩

theorem put_fits (n : Int) (b : Nat) (hb : 1 ≤ b) (hb2 : b ≤ 64) (h : -(2 ^ (b - 1)) ≤ n ∧ n < 2 ^ b) : fitsB n b true = true ∨ fitsB n b false = true := by
  have e1 : (1 : Int) ≤ (b : Int) := by omega
  have e2 : (b : Int) ≤ 64 := by omega
  by_cases h0 : 0 ≤ n
  · right; simp [fitsB, e1, e2, h0, h.2]
  · left
    have hp := pow_pos_i (b - 1)
    simp [fitsB, e1, e2, h.1]; omega

theorem put_fits_not (n : Int) (b : Nat) (hb : 1 ≤ b) (h : ¬ (-(2 ^ (b - 1)) ≤ n ∧ n < 2 ^ b)) : fitsB n b true = false ∧ fitsB n b false = false := by
  have hp := pow_pos_i (b - 1)
  have hp2 := pow_pos_i b
  have e : (2 : Int) ^ b = 2 * 2 ^ (b - 1) := by
    rw [show b = 1 + (b - 1) from by omega, Int.pow_add]; simp
  constructor
  · have : ¬ (-(2 ^ (b - 1)) ≤ n ∧ n < 2 ^ (b - 1)) := by omega
    by_cases h1 : -(2 ^ (b - 1)) ≤ n
    · have h2 : ¬ n < 2 ^ (b - 1) := fun h2 => this ⟨h1, h2⟩
      simp [fitsB, h2]
    · simp [fitsB, h1]
  · by_cases h1 : 0 ≤ n
    · have h2 : ¬ n < 2 ^ b := fun h2 => h ⟨by omega, h2⟩
      simp [fitsB, h2]
    · simp [fitsB, h1]

/-- Put of any number in any size: what both answer. -/
theorem put_is (n s : Int) (hn : -9223372036854775808 ≤ n ∧ n ≤ 9223372036854775807) :
    (∃ E : Int, (∀ w, Calls Try.prog 10 #[.int .i64 n, .int .i64 s] w fun e w' => e = .returned (.tuple #[.slice none 0 0, .int .i64 E]) ∧ w' = w) ∧
      ∀ w, Calls Try.prog 12 #[.int .i64 n, .int .i64 s] w fun e w' => e = .returned (.tuple #[.slice none 0 0, .int .i64 E]) ∧ w' = w) ∨
    ∃ l : List Int, 1 ≤ l.length ∧ (∀ w, Calls Try.prog 10 #[.int .i64 n, .int .i64 s] w fun e w' => ∃ v, e = .returned (.tuple #[v, .int .i64 0]) ∧ Own w' w.heap.size v l ∧ Below w.heap.size w w') ∧
      ∀ w, Calls Try.prog 12 #[.int .i64 n, .int .i64 s] w fun e w' => ∃ v, e = .returned (.tuple #[v, .int .i64 0]) ∧ Own w' w.heap.size v l ∧ Below w.heap.size w w' := by
  by_cases hs : s = 1 ∨ s = 2 ∨ s = 4 ∨ s = 8
  · rcases hs with rfl | rfl | rfl | rfl
    · by_cases h : -128 ≤ n ∧ n < 256
      · right
        refine ⟨pl n 1, by rw [pl_len]; omega, fun w => ?_, fun w => rput_1 n w h⟩
        refine (put_1 n w (put_fits n 8 (by omega) (by omega) h)).mono ?_
        rintro e w' ⟨rfl, hown, hb⟩
        exact ⟨_, rfl, by unfold Own; rw [← part_full, pl_len]; exact hown, hb⟩
      · left
        obtain ⟨f1, f2⟩ := put_fits_not n 8 (by omega) h
        exact ⟨11, fun w => put_range n 1 w (by omega) f1 f2, fun w => rput_range_1 n w (by omega)⟩
    · by_cases h : -32768 ≤ n ∧ n < 65536
      · right
        refine ⟨pl n 2, by rw [pl_len]; omega, fun w => ?_, fun w => rput_2 n w h⟩
        refine (put_2 n w (put_fits n 16 (by omega) (by omega) h)).mono ?_
        rintro e w' ⟨rfl, hown, hb⟩
        exact ⟨_, rfl, by unfold Own; rw [← part_full, pl_len]; exact hown, hb⟩
      · left
        obtain ⟨f1, f2⟩ := put_fits_not n 16 (by omega) h
        exact ⟨11, fun w => put_range n 2 w (by omega) f1 f2, fun w => rput_range_2 n w (by omega)⟩
    · by_cases h : -2147483648 ≤ n ∧ n < 4294967296
      · right
        refine ⟨pl n 4, by rw [pl_len]; omega, fun w => ?_, fun w => rput_4 n w h⟩
        refine (put_4 n w (put_fits n 32 (by omega) (by omega) h)).mono ?_
        rintro e w' ⟨rfl, hown, hb⟩
        exact ⟨_, rfl, by unfold Own; rw [← part_full, pl_len]; exact hown, hb⟩
      · left
        obtain ⟨f1, f2⟩ := put_fits_not n 32 (by omega) h
        exact ⟨11, fun w => put_range n 4 w (by omega) f1 f2, fun w => rput_range_4 n w (by omega)⟩
    · right
      refine ⟨pl n 8, by rw [pl_len]; omega, fun w => ?_, fun w => rput_8 n w trivial⟩
      refine (put_8 n w (put_fits n 64 (by omega) (by omega) (by omega))).mono ?_
      rintro e w' ⟨rfl, hown, hb⟩
      exact ⟨_, rfl, by unfold Own; rw [← part_full, pl_len]; exact hown, hb⟩
  · exact .inl ⟨1, fun w => put_arg n s w hs, fun w => rput_arg n s w hs⟩

theorem Own.strs {w : World} {base : Nat} {v : Value} {xs : List Int} (h : Own w base v xs) (hne : 1 ≤ xs.length) :
    ∃ g cap, v = .slice (some ⟨g, 0, none⟩) xs.length cap ∧ ∀ W, Below w.heap.size w W → Sem.run Try.prog (convert 22 9 (.slice (some ⟨g, 0, none⟩) xs.length cap)) W = .ok (.string (strOfNums xs)) W := by
  obtain ⟨g, cap, hv, _, hg, hc⟩ := h.lies hne
  refine ⟨g, cap, hv, fun W hb => ?_⟩
  exact run_convert_bytes_arg (P := Try.prog) W 22 5 Try.underlying22 Try.underlying5 g 0 xs.length cap xs rfl
    (by intro i hi; rw [Nat.zero_add, hb.cell (p := ⟨g, i, none⟩) hg]; exact hc i hi) 9 Try.underlying9

set_option maxHeartbeats 1600000 in
theorem lebPuts_walk (n s : Int) (ao : Option Addr) (len cap : Nat) (bs : Nat → Int) (t : Int) (sg : Bool) (w : World) (hn : (Lit.int .i64 n).wf = true) (hs : (Lit.int .i64 s).wf = true) (hr : IsRow w ao len cap bs) (hl : len ≤ 140737488351232) (ht : (Lit.int .i64 t).wf = true) :
    Calls Try.prog 3 #[.int .i64 n, .int .i64 s, .slice ao len cap, .int .i64 t, .bool sg] w fun e w' => e = .returned (.bool true) ∧ Below w.heap.size w w' := by
  have bn := i64_bounds hn
  have bt := i64_bounds ht
  obtain ⟨x, g, GL, GR⟩ := get_is len bs t s sg hr.byte (by omega) bt.2
  have LE := lent_any ao len cap bs w hr.row hr.nil hl
  have HR := hr.row
  have HN : Hid (ao = none → len = 0) := fun h => (hr.nil h).1
  have knil : ∀ w, Sem.run Try.prog (convert 22 9 (.slice none 0 0)) w = .ok (.string ByteArray.empty) w :=
    fun w => run_convert_bytes_nil (P := Try.prog) w 22 5 Try.underlying22 Try.underlying5 0 0 9 Try.underlying9
  have P := put_is n s bn
  clear hn hs ht bn bt hr
  rcases P with ⟨E, PL, PR⟩ | ⟨l, hl1, PL, PR⟩
  · go_enter Try.func3, Try.ntmps3
    go_wp2_with (first
      | (go_at_call 9; refine LE.mono ?_; rintro e w1 ⟨g1, cap1, rfl, p1, q1, F1, hb1⟩)
      | (go_at_call 10; refine (PL _).mono ?_; rintro e w2 ⟨rfl, hw2⟩; subst hw2)
      | (go_at_call 11; refine (GL _ _ _ (F1 _ (Below.refl _ _)).row).mono ?_; rintro e w3 ⟨rfl, hb3⟩; have c3 := hb1.trans (hb3.mono hb1.size))
      | (go_at_call 12; refine (PR _).mono ?_; rintro e w4 ⟨rfl, hw4⟩; subst hw4)
      | (go_at_call 13; refine (GR _ _ _ (HR.below c3 (Nat.le_refl _))).mono ?_; rintro e w5 ⟨rfl, hw5⟩; subst hw5)
      | (go_at_call 14; refine (num_any _ _).mono ?_; rintro e' w' ⟨rfl, hw'⟩; subst hw')
      | (go_at_call 15; refine (stays_any _ _ _ _ _ bs _ (F1 _ hb3) (HR.below c3 (Nat.le_refl _)) HN.out hl p1 q1).mono ?_; rintro e w6 ⟨rfl, hb6⟩; have c6 := c3.trans (hb6.mono c3.size))
      | (go_at_call 16; refine (knows_any _).mono ?_; rintro e w7 ⟨rfl, hb7⟩; have c7 := c6.trans (hb7.mono c6.size)))
    go_ret
    exact ⟨rfl, c7⟩
  · go_enter Try.func3, Try.ntmps3
    go_wp2_with (first
      | (go_at_call 9; refine LE.mono ?_; rintro e w1 ⟨g1, cap1, rfl, p1, q1, F1, hb1⟩)
      | (go_at_call 10; refine (PL _).mono ?_; rintro e w2 ⟨v2, rfl, hown2, hb2⟩; obtain ⟨g2, cap2, hv2, F2⟩ := hown2.strs hl1; rw [hv2]; have c2 := hb1.trans (hb2.mono hb1.size); clear hown2)
      | (go_at_call 11; refine (GL _ _ _ (F1 _ hb2).row).mono ?_; rintro e w3 ⟨rfl, hb3⟩; have c3 := c2.trans (hb3.mono c2.size))
      | (go_at_call 12; refine (PR _).mono ?_; rintro e w4 ⟨v4, rfl, hown4, hb4⟩; obtain ⟨g4, cap4, hv4, F4⟩ := hown4.strs hl1; rw [hv4]; have c4 := c3.trans (hb4.mono c3.size); have d4 := hb3.trans (hb4.mono hb3.size); have k2 := F2 _ d4; have k4 := F4 _ (Below.refl _ _); clear hown4)
      | (go_at_call 13; refine (GR _ _ _ (HR.below c4 (Nat.le_refl _))).mono ?_; rintro e w5 ⟨rfl, hw5⟩; subst hw5)
      | (go_at_call 14; refine (num_any _ _).mono ?_; rintro e' w' ⟨rfl, hw'⟩; subst hw')
      | (go_at_call 15; refine (stays_any _ _ _ _ _ bs _ (F1 _ (hb2.trans (d4.mono hb2.size))) (HR.below c4 (Nat.le_refl _)) HN.out hl p1 q1).mono ?_; rintro e w6 ⟨rfl, hb6⟩; have c6 := c4.trans (hb6.mono c4.size))
      | (go_at_call 16; refine (knows_any _).mono ?_; rintro e w7 ⟨rfl, hb7⟩; have c7 := c6.trans (hb7.mono c6.size)))
    go_ret
    exact ⟨rfl, c7⟩
end Go.Proofs.Ytlecnehahmdlaaa
