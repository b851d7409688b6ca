/- The document's own answers. -/
import Derived.Test.YtjbepojopfbajaaVFits
namespace Go.Proofs.Ytjbepojopfbajaa
open Go.ChangeShapes Go.WideShapes Go.ChangeAt Go.RowKit
set_option linter.unusedVariables false
set_option linter.unusedSimpArgs false

/-- A type that has no value. -/
def NoV (t : Int) : Prop := t ≠ 1 ∧ t ≠ 2 ∧ t ≠ 4 ∧ t ≠ 9 ∧ t ≠ 10 ∧ t ≠ 11 ∧ t ≠ 21 ∧ t ≠ 22 ∧ t ≠ 23
theorem noV {t : Int} (h : NoV t) : (kdOf t).v = 0 := by
  have : ∀ t, NoV t → (kdOf t).v = 0 := by
    apply kd_cases (fun t k => NoV t → k.v = 0)
    · intro t _ _; rfl
    · intro t ht h
      have : ∀ k, k < 38 → (k = 1 ∨ k = 2 ∨ k = 4 ∨ k = 9 ∨ k = 10 ∨ k = 11 ∨ k = 21 ∨ k = 22 ∨ k = 23 ∨ (kdsL.getD k Kd.zero).v = 0) := by decide +kernel
      obtain ⟨a, b, c, d, e, f, g, i, j⟩ := h
      rcases this t ht with h | h | h | h | h | h | h | h | h | h
      all_goals first | exact h | omega
  exact this t h
theorem v_cases (t : Int) : (t = 1 ∨ t = 2 ∨ t = 4 ∨ t = 9 ∨ t = 10 ∨ t = 11 ∨ t = 21 ∨ t = 22 ∨ t = 23) ∨ NoV t := by
  unfold NoV
  omega
set_option maxHeartbeats 400000 in
set_option maxRecDepth 20000 in
theorem rsize_any (t : Int) (w : World) :
    Calls Try.prog 9 #[.int .i64 t] w fun e w' => e = .returned (.tuple #[.int .i64 (wkM t).sz, .int .i64 (wkE t)]) ∧ w' = w := by
  rcases v_cases t with h | h
  · rcases h with rfl | rfl | rfl | rfl | rfl | rfl | rfl | rfl | rfl
    all_goals
      go_enter Try.func9, Try.ntmps9
      go_wp2
      go_ret2
      exact ⟨by kernel_rfl, rfl⟩
  · have e1 : wkM t = Kd.zero := if_pos (noV h)
    have e2 : wkE t = 200 := if_pos (noV h)
    rw [e1, e2]
    obtain ⟨a, b, c, d, e, f, g, i, j⟩ := h
    have a1 : (t == 1) = false := by simp; omega
    have a2 : (t == 2) = false := by simp; omega
    have a3 : (t == 4) = false := by simp; omega
    have a4 : (t == 9) = false := by simp; omega
    have a5 : (t == 10) = false := by simp; omega
    have a6 : (t == 11) = false := by simp; omega
    have a7 : (t == 21) = false := by simp; omega
    have a8 : (t == 22) = false := by simp; omega
    have a9 : (t == 23) = false := by simp; omega
    clear a b c d e f g i j e1 e2
    go_enter Try.func9, Try.ntmps9
    go_wp2
    go_ret2
    exact ⟨rfl, rfl⟩
theorem rslot_any (t : Int) (w : World) : Calls Try.prog 16 #[.int .i64 t] w fun e w' => e = .returned (.tuple #[.bool (t == 9), .bool (t == 22)]) ∧ w' = w := by
  go_enter Try.func16, Try.ntmps16
  go_wp2
  go_ret2
  exact ⟨rfl, rfl⟩
theorem rleft_any (t : Int) (w : World) : Calls Try.prog 19 #[.int .i64 t] w fun e w' => e = .returned (.bool (t == 1)) ∧ w' = w := by
  go_enter Try.func19, Try.ntmps19
  go_wp2
  go_ret
  exact ⟨rfl, rfl⟩
/-- A type that has no name. -/
def NoN (t : Int) : Prop := NoV t ∧ t ≠ 0 ∧ t ≠ 6 ∧ t ≠ 8 ∧ t ≠ 19 ∧ t ≠ 20 ∧ t ≠ 37
theorem noN {t : Int} (h : NoN t) : nameM t = ⟨#[]⟩ := by
  have : ∀ t, NoN t → (kdOf t).nm.toList.isEmpty = true := by
    apply kd_cases (fun t k => NoN t → k.nm.toList.isEmpty = true)
    · intro t _ _; decide +kernel
    · intro t ht h
      have : ∀ k, k < 38 → (k = 1 ∨ k = 2 ∨ k = 4 ∨ k = 9 ∨ k = 10 ∨ k = 11 ∨ k = 21 ∨ k = 22 ∨ k = 23 ∨ k = 0 ∨ k = 6 ∨ k = 8 ∨ k = 19 ∨ k = 20 ∨ k = 37 ∨ (kdsL.getD k Kd.zero).nm.toList.isEmpty = true) := by decide +kernel
      obtain ⟨⟨a, b, c, d, e, f, g, i, j⟩, k, l, m, n, o, p⟩ := h
      rcases this t ht with h | h | h | h | h | h | h | h | h | h | h | h | h | h | h | h
      all_goals first | exact h | omega
  exact if_pos (this t h)
theorem n_cases (t : Int) : ((t = 1 ∨ t = 2 ∨ t = 4 ∨ t = 9 ∨ t = 10 ∨ t = 11 ∨ t = 21 ∨ t = 22 ∨ t = 23) ∨ (t = 0 ∨ t = 6 ∨ t = 8 ∨ t = 19 ∨ t = 20 ∨ t = 37)) ∨ NoN t := by
  unfold NoN NoV
  omega
set_option maxHeartbeats 1000000 in
set_option maxRecDepth 20000 in
theorem rname_any (t : Int) (w : World) :
    Calls Try.prog 21 #[.int .i64 t] w fun e w' => e = .returned (.string (nameM t)) ∧ w' = w := by
  rcases n_cases t with h | h
  · rcases h with h | h
    · rcases h with rfl | rfl | rfl | rfl | rfl | rfl | rfl | rfl | rfl
      all_goals
        go_enter Try.func21, Try.ntmps21
        go_wp2
        go_ret
        exact ⟨by kernel_rfl, rfl⟩
    · rcases h with rfl | rfl | rfl | rfl | rfl | rfl
      all_goals
        go_enter Try.func21, Try.ntmps21
        go_wp2
        go_ret
        exact ⟨by kernel_rfl, rfl⟩
  · have e1 := noN h
    rw [e1]
    obtain ⟨⟨a, b, c, d, e, f, g, i, j⟩, k, l, m, n, o, p⟩ := h
    have a1 : (t == 1) = false := by simp; omega
    have a2 : (t == 2) = false := by simp; omega
    have a3 : (t == 4) = false := by simp; omega
    have a4 : (t == 9) = false := by simp; omega
    have a5 : (t == 10) = false := by simp; omega
    have a6 : (t == 11) = false := by simp; omega
    have a7 : (t == 21) = false := by simp; omega
    have a8 : (t == 22) = false := by simp; omega
    have a9 : (t == 23) = false := by simp; omega
    have b1 : (t == 0) = false := by simp; omega
    have b2 : (t == 6) = false := by simp; omega
    have b3 : (t == 8) = false := by simp; omega
    have b4 : (t == 19) = false := by simp; omega
    have b5 : (t == 20) = false := by simp; omega
    have b6 : (t == 37) = false := by simp; omega
    clear a b c d e f g i j k l m n o p e1
    go_enter Try.func21, Try.ntmps21
    go_wp2
    go_ret
    exact ⟨rfl, rfl⟩
theorem farV_any (n : Int) (w : World) : Calls Try.prog 31 #[.int .i64 n] w fun e w' => e = .returned (.bool (farB n)) ∧ w' = w := by
  obtain ⟨p, hp⟩ : ∃ p, decide (n < -1152921504606846976) = p := ⟨_, rfl⟩
  obtain ⟨q, hq⟩ : ∃ q, decide (1152921504606846976 < n) = q := ⟨_, rfl⟩
  unfold farB
  rw [hp, hq]
  go_enter Try.func31, Try.ntmps31
  cases p
  all_goals
    go_wp2
    go_ret
    exact ⟨by simp, rfl⟩
/-- The document's place, as it is boxed. -/
abbrev Pl.row (p : Pl) : Array Value := #[.int .i64 p.s, .int .i64 p.a, .int .i64 p.p, .int .i64 p.g, .int .i64 p.t]
set_option maxHeartbeats 1000000 in
set_option maxRecDepth 20000 in
theorem rvalue_any (t : Int) (p : Pl) (w : World) :
    Calls Try.prog 11 #[.int .i64 t, p.val] w fun e w' => e = .returned (.tuple #[.int .i64 (valM t p), .int .i64 (valE t p)]) ∧ Below w.heap.size w w' := by
  have HS : Hid (∀ W, _) := ⟨fun W => rsize_any t W⟩
  have HF : Hid (∀ n W, _) := ⟨fun n W => farV_any n W⟩
  obtain ⟨s, a, pp, g, tt⟩ := p
  have HB : Hid (Below w.heap.size w (w.alloc (.cells #[.int .i64 s, .int .i64 a, .int .i64 pp, .int .i64 g, .int .i64 tt] 31))) := ⟨vb_alloc (Below.refl _ _) _⟩
  dsimp only [Pl.val] at *
  by_cases hv : (kdOf t).v = 0
  · have e1 : wkE t = 200 := if_pos hv
    have e2 : valM t ⟨s, a, pp, g, tt⟩ = 0 := if_pos hv
    have e3 : valE t ⟨s, a, pp, g, tt⟩ = 200 := if_pos hv
    rw [e1] at HS
    rw [e2, e3]
    clear e1 e2 e3 hv
    go_enter Try.func11, Try.ntmps11
    go_wp2_with (go_at_call 9; refine (HS.out _).mono ?_; rintro e w1 ⟨rfl, rfl⟩)
    go_ret2
    exact ⟨rfl, HB.out⟩
  · have e1 : wkE t = 0 := if_neg hv
    rw [e1] at HS
    clear e1
    by_cases ho : (Pl.okB ⟨s, a, pp, g, tt⟩) = true
    · have e3 : valE t ⟨s, a, pp, g, tt⟩ = 0 := by unfold valE; rw [if_neg hv, if_pos ho]
      have e2 : valM t ⟨s, a, pp, g, tt⟩ = vOf (kdOf t).v ⟨s, a, pp, g, tt⟩ := by unfold valM; rw [if_neg hv, if_pos ho]
      rw [e2, e3]
      obtain ⟨f1, f2, f3, f4, f5⟩ := ok_in ho
      have b1 := far_in f1
      have b2 := far_in f2
      have b3 := far_in f3
      have b4 := far_in f4
      have b5 := far_in f5
      dsimp only at f1 f2 f3 f4 f5 b1 b2 b3 b4 b5
      have HF1 : Hid (∀ W, _) := ⟨fun W => farV_any s W⟩
      have HF2 : Hid (∀ W, _) := ⟨fun W => farV_any a W⟩
      have HF3 : Hid (∀ W, _) := ⟨fun W => farV_any pp W⟩
      have HF4 : Hid (∀ W, _) := ⟨fun W => farV_any g W⟩
      have HF5 : Hid (∀ W, _) := ⟨fun W => farV_any tt W⟩
      rw [f1] at HF1
      rw [f2] at HF2
      rw [f3] at HF3
      rw [f4] at HF4
      rw [f5] at HF5
      clear e2 e3 ho f1 f2 f3 f4 f5 HF
      rcases v_cases t with h | h
      · rcases h with rfl | rfl | rfl | rfl | rfl | rfl | rfl | rfl | rfl
        all_goals
          go_enter Try.func11, Try.ntmps11
          go_wp2_with (first
            | (go_at_call 9; refine (HS.out _).mono ?_; rintro e w1 ⟨rfl, rfl⟩)
            | (go_at_call 31; (with_reducible refine (HF1.out _).mono ?_); rintro e w1 ⟨rfl, rfl⟩)
            | (go_at_call 31; (with_reducible refine (HF2.out _).mono ?_); rintro e w1 ⟨rfl, rfl⟩)
            | (go_at_call 31; (with_reducible refine (HF3.out _).mono ?_); rintro e w1 ⟨rfl, rfl⟩)
            | (go_at_call 31; (with_reducible refine (HF4.out _).mono ?_); rintro e w1 ⟨rfl, rfl⟩)
            | (go_at_call 31; (with_reducible refine (HF5.out _).mono ?_); rintro e w1 ⟨rfl, rfl⟩))
          go_ret2
          exact ⟨by rfl, HB.out⟩
      · exact absurd (noV h) hv
    · have e3 : valE t ⟨s, a, pp, g, tt⟩ = 11 := by unfold valE; rw [if_neg hv, if_neg ho]
      have e2 : valM t ⟨s, a, pp, g, tt⟩ = 0 := by unfold valM; rw [if_neg hv, if_neg ho]
      rw [e2, e3]
      have hfar : (farB s || farB a || farB pp || farB g || farB tt) = true := by
        unfold Pl.okB at ho
        simp only [Bool.not_eq_true, Bool.and_eq_false_iff, Bool.not_eq_false'] at ho
        simp only [Bool.or_eq_true]
        rcases ho with ((((h | h) | h) | h) | h) <;> simp [h]
      obtain ⟨x1, hx1⟩ : ∃ x, farB s = x := ⟨_, rfl⟩
      obtain ⟨x2, hx2⟩ : ∃ x, farB a = x := ⟨_, rfl⟩
      obtain ⟨x3, hx3⟩ : ∃ x, farB pp = x := ⟨_, rfl⟩
      obtain ⟨x4, hx4⟩ : ∃ x, farB g = x := ⟨_, rfl⟩
      obtain ⟨x5, hx5⟩ : ∃ x, farB tt = x := ⟨_, rfl⟩
      have HF1 : Hid (∀ W, _) := ⟨fun W => farV_any s W⟩
      have HF2 : Hid (∀ W, _) := ⟨fun W => farV_any a W⟩
      have HF3 : Hid (∀ W, _) := ⟨fun W => farV_any pp W⟩
      have HF4 : Hid (∀ W, _) := ⟨fun W => farV_any g W⟩
      have HF5 : Hid (∀ W, _) := ⟨fun W => farV_any tt W⟩
      rw [hx1] at HF1
      rw [hx2] at HF2
      rw [hx3] at HF3
      rw [hx4] at HF4
      rw [hx5] at HF5
      rw [hx1, hx2, hx3, hx4, hx5] at hfar
      clear e2 e3 ho hx1 hx2 hx3 hx4 hx5 HF hv
      cases x1
      · cases x2
        · cases x3
          · cases x4
            · cases x5
              · cases hfar
              · skip
                go_enter Try.func11, Try.ntmps11
                go_wp2_with (first
                    | (go_at_call 9; refine (HS.out _).mono ?_; rintro e w1 ⟨rfl, rfl⟩)
                    | (go_at_call 31; (with_reducible refine (HF1.out _).mono ?_); rintro e w1 ⟨rfl, rfl⟩)
                    | (go_at_call 31; (with_reducible refine (HF2.out _).mono ?_); rintro e w1 ⟨rfl, rfl⟩)
                    | (go_at_call 31; (with_reducible refine (HF3.out _).mono ?_); rintro e w1 ⟨rfl, rfl⟩)
                    | (go_at_call 31; (with_reducible refine (HF4.out _).mono ?_); rintro e w1 ⟨rfl, rfl⟩)
                    | (go_at_call 31; (with_reducible refine (HF5.out _).mono ?_); rintro e w1 ⟨rfl, rfl⟩))
                go_ret2
                exact ⟨rfl, HB.out⟩
            · go_enter Try.func11, Try.ntmps11
              go_wp2_with (first
                | (go_at_call 9; refine (HS.out _).mono ?_; rintro e w1 ⟨rfl, rfl⟩)
                | (go_at_call 31; (with_reducible refine (HF1.out _).mono ?_); rintro e w1 ⟨rfl, rfl⟩)
                | (go_at_call 31; (with_reducible refine (HF2.out _).mono ?_); rintro e w1 ⟨rfl, rfl⟩)
                | (go_at_call 31; (with_reducible refine (HF3.out _).mono ?_); rintro e w1 ⟨rfl, rfl⟩)
                | (go_at_call 31; (with_reducible refine (HF4.out _).mono ?_); rintro e w1 ⟨rfl, rfl⟩)
                | (go_at_call 31; (with_reducible refine (HF5.out _).mono ?_); rintro e w1 ⟨rfl, rfl⟩))
              go_ret2
              exact ⟨rfl, HB.out⟩
          · go_enter Try.func11, Try.ntmps11
            go_wp2_with (first
              | (go_at_call 9; refine (HS.out _).mono ?_; rintro e w1 ⟨rfl, rfl⟩)
              | (go_at_call 31; (with_reducible refine (HF1.out _).mono ?_); rintro e w1 ⟨rfl, rfl⟩)
              | (go_at_call 31; (with_reducible refine (HF2.out _).mono ?_); rintro e w1 ⟨rfl, rfl⟩)
              | (go_at_call 31; (with_reducible refine (HF3.out _).mono ?_); rintro e w1 ⟨rfl, rfl⟩)
              | (go_at_call 31; (with_reducible refine (HF4.out _).mono ?_); rintro e w1 ⟨rfl, rfl⟩)
              | (go_at_call 31; (with_reducible refine (HF5.out _).mono ?_); rintro e w1 ⟨rfl, rfl⟩))
            go_ret2
            exact ⟨rfl, HB.out⟩
        · go_enter Try.func11, Try.ntmps11
          go_wp2_with (first
            | (go_at_call 9; refine (HS.out _).mono ?_; rintro e w1 ⟨rfl, rfl⟩)
            | (go_at_call 31; (with_reducible refine (HF1.out _).mono ?_); rintro e w1 ⟨rfl, rfl⟩)
            | (go_at_call 31; (with_reducible refine (HF2.out _).mono ?_); rintro e w1 ⟨rfl, rfl⟩)
            | (go_at_call 31; (with_reducible refine (HF3.out _).mono ?_); rintro e w1 ⟨rfl, rfl⟩)
            | (go_at_call 31; (with_reducible refine (HF4.out _).mono ?_); rintro e w1 ⟨rfl, rfl⟩)
            | (go_at_call 31; (with_reducible refine (HF5.out _).mono ?_); rintro e w1 ⟨rfl, rfl⟩))
          go_ret2
          exact ⟨rfl, HB.out⟩
      · go_enter Try.func11, Try.ntmps11
        go_wp2_with (first
          | (go_at_call 9; refine (HS.out _).mono ?_; rintro e w1 ⟨rfl, rfl⟩)
          | (go_at_call 31; (with_reducible refine (HF1.out _).mono ?_); rintro e w1 ⟨rfl, rfl⟩)
          | (go_at_call 31; (with_reducible refine (HF2.out _).mono ?_); rintro e w1 ⟨rfl, rfl⟩)
          | (go_at_call 31; (with_reducible refine (HF3.out _).mono ?_); rintro e w1 ⟨rfl, rfl⟩)
          | (go_at_call 31; (with_reducible refine (HF4.out _).mono ?_); rintro e w1 ⟨rfl, rfl⟩)
          | (go_at_call 31; (with_reducible refine (HF5.out _).mono ?_); rintro e w1 ⟨rfl, rfl⟩))
        go_ret2
        exact ⟨rfl, HB.out⟩
end Go.Proofs.Ytjbepojopfbajaa
