/- The document's Fits; place. -/
import Derived.Test.YtjbepojopfbajaaVRef
namespace Go.Proofs.Ytjbepojopfbajaa
open Go.ChangeShapes Go.WideShapes Go.ChangeAt Go.RowKit
set_option linter.unusedVariables false
set_option linter.unusedSimpArgs false

set_option maxHeartbeats 400000 in
set_option maxRecDepth 20000 in
theorem rfits_any (t n : Int) (w : World) :
    Calls Try.prog 14 #[.int .i64 t, .int .i64 n] w fun e w' => e = .returned (.tuple #[.bool (fitM t n), .int .i64 (wkE t)]) ∧ w' = w := by
  have HS : Hid (∀ W, _) := ⟨fun W => rsize_any t W⟩
  rcases v_cases t with h | h
  · obtain ⟨x1, h1⟩ : ∃ x, decide (0 ≤ n) = x := ⟨_, rfl⟩
    obtain ⟨x2, h2⟩ : ∃ x, decide (-2147483648 ≤ n) = x := ⟨_, rfl⟩
    rcases h with rfl | rfl | rfl | rfl | rfl | rfl | rfl | rfl | rfl
    · rw [show fitM 1 n = true from rfl]
      go_enter Try.func14, Try.ntmps14
      go_wp2_with (go_at_call 9; refine (HS.out _).mono ?_; rintro e w1 ⟨rfl, rfl⟩)
      go_ret2
      exact ⟨rfl, rfl⟩
    · rw [show fitM 2 n = fitsB n 32 true from rfl, fits_s32, show wkE 2 = 0 from rfl]
      have HS2 : Hid (∀ W, Calls Try.prog 9 #[.int .i64 2] W fun e w' => e = .returned (.tuple #[.int .i64 4, .int .i64 0]) ∧ w' = W) := ⟨HS.out⟩
      rw [h2]
      go_enter Try.func14, Try.ntmps14
      cases x2
      all_goals
        go_wp2_with (go_at_call 9; refine (HS2.out _).mono ?_; rintro e w1 ⟨rfl, rfl⟩)
        go_ret2
        exact ⟨by simp, by rfl⟩
    · rw [show fitM 4 n = fitsB n 32 true from rfl, fits_s32, show wkE 4 = 0 from rfl]
      have HS2 : Hid (∀ W, Calls Try.prog 9 #[.int .i64 4] W fun e w' => e = .returned (.tuple #[.int .i64 4, .int .i64 0]) ∧ w' = W) := ⟨HS.out⟩
      rw [h2]
      go_enter Try.func14, Try.ntmps14
      cases x2
      all_goals
        go_wp2_with (go_at_call 9; refine (HS2.out _).mono ?_; rintro e w1 ⟨rfl, rfl⟩)
        go_ret2
        exact ⟨by simp, by rfl⟩
    · rw [show fitM 9 n = fitsB n 32 true from rfl, fits_s32, show wkE 9 = 0 from rfl]
      have HS2 : Hid (∀ W, Calls Try.prog 9 #[.int .i64 9] W fun e w' => e = .returned (.tuple #[.int .i64 4, .int .i64 0]) ∧ w' = W) := ⟨HS.out⟩
      rw [h2]
      go_enter Try.func14, Try.ntmps14
      cases x2
      all_goals
        go_wp2_with (go_at_call 9; refine (HS2.out _).mono ?_; rintro e w1 ⟨rfl, rfl⟩)
        go_ret2
        exact ⟨by simp, by rfl⟩
    · rw [show fitM 10 n = fitsB n 32 false from rfl, fits_u32, show wkE 10 = 0 from rfl]
      have HS2 : Hid (∀ W, Calls Try.prog 9 #[.int .i64 10] W fun e w' => e = .returned (.tuple #[.int .i64 4, .int .i64 0]) ∧ w' = W) := ⟨HS.out⟩
      rw [h1]
      go_enter Try.func14, Try.ntmps14
      cases x1
      all_goals
        go_wp2_with (go_at_call 9; refine (HS2.out _).mono ?_; rintro e w1 ⟨rfl, rfl⟩)
        go_ret2
        exact ⟨by simp, by rfl⟩
    · rw [show fitM 11 n = fitsB n 32 true from rfl, fits_s32, show wkE 11 = 0 from rfl]
      have HS2 : Hid (∀ W, Calls Try.prog 9 #[.int .i64 11] W fun e w' => e = .returned (.tuple #[.int .i64 4, .int .i64 0]) ∧ w' = W) := ⟨HS.out⟩
      rw [h2]
      go_enter Try.func14, Try.ntmps14
      cases x2
      all_goals
        go_wp2_with (go_at_call 9; refine (HS2.out _).mono ?_; rintro e w1 ⟨rfl, rfl⟩)
        go_ret2
        exact ⟨by simp, by rfl⟩
    · rw [show fitM 21 n = fitsB n 32 true from rfl, fits_s32, show wkE 21 = 0 from rfl]
      have HS2 : Hid (∀ W, Calls Try.prog 9 #[.int .i64 21] W fun e w' => e = .returned (.tuple #[.int .i64 4, .int .i64 0]) ∧ w' = W) := ⟨HS.out⟩
      rw [h2]
      go_enter Try.func14, Try.ntmps14
      cases x2
      all_goals
        go_wp2_with (go_at_call 9; refine (HS2.out _).mono ?_; rintro e w1 ⟨rfl, rfl⟩)
        go_ret2
        exact ⟨by simp, by rfl⟩
    · rw [show fitM 22 n = fitsB n 32 true from rfl, fits_s32, show wkE 22 = 0 from rfl]
      have HS2 : Hid (∀ W, Calls Try.prog 9 #[.int .i64 22] W fun e w' => e = .returned (.tuple #[.int .i64 4, .int .i64 0]) ∧ w' = W) := ⟨HS.out⟩
      rw [h2]
      go_enter Try.func14, Try.ntmps14
      cases x2
      all_goals
        go_wp2_with (go_at_call 9; refine (HS2.out _).mono ?_; rintro e w1 ⟨rfl, rfl⟩)
        go_ret2
        exact ⟨by simp, by rfl⟩
    · rw [show fitM 23 n = fitsB n 32 true from rfl, fits_s32, show wkE 23 = 0 from rfl]
      have HS2 : Hid (∀ W, Calls Try.prog 9 #[.int .i64 23] W fun e w' => e = .returned (.tuple #[.int .i64 4, .int .i64 0]) ∧ w' = W) := ⟨HS.out⟩
      rw [h2]
      go_enter Try.func14, Try.ntmps14
      cases x2
      all_goals
        go_wp2_with (go_at_call 9; refine (HS2.out _).mono ?_; rintro e w1 ⟨rfl, rfl⟩)
        go_ret2
        exact ⟨by simp, by rfl⟩
  · have e1 : wkE t = 200 := if_pos (noV h)
    have e2 : fitM t n = false := if_pos (noV h)
    rw [e1] at HS
    rw [e1, e2]
    clear e1 e2 h
    go_enter Try.func14, Try.ntmps14
    go_wp2_with (go_at_call 9; refine (HS.out _).mono ?_; rintro e w1 ⟨rfl, rfl⟩)
    go_ret2
    exact ⟨rfl, rfl⟩
theorem res_pl {fn : Func} {q : Tmp} (h : fn.results = #[.cell q 31]) (tmps : Array Value) (w : World) (g : Nat) (p : Pl) (hp : tmps.getD q undef = .pointer (some ⟨g, 0, none⟩)) (hg : VB w g 31 p.row) :
    (results fn tmps).run Try.prog w = .ok p.val w :=
  results_cell_row (p := q) (ty := 31) h tmps w g 31 p.row (0, 0) _ hp hg.hp Try.underlying31 rfl (by kernel_rfl)
set_option maxHeartbeats 400000 in
set_option maxRecDepth 20000 in
theorem placeV_any (p : Pl) (w : World) : Calls Try.prog 12 #[p.val] w fun e w' => e = .returned p.val ∧ Below w.heap.size w w' := by
  obtain ⟨s, a, pp, g, tt⟩ := p
  have HB : Hid (Below w.heap.size w ((w.alloc (.cells #[.int .i64 s, .int .i64 a, .int .i64 pp, .int .i64 g, .int .i64 tt] 23)).alloc (.cells #[.int .i64 s, .int .i64 a, .int .i64 pp, .int .i64 g, .int .i64 tt] 31))) := ⟨vb_alloc (vb_alloc (Below.refl _ _) _) _⟩
  dsimp only [Pl.val] at *
  go_enter Try.func12, Try.ntmps12
  go_wp2
  first
    | (go_ret; exact ⟨rfl, HB.out⟩)
    | exact bodyPost_ret (v := (⟨s, a, pp, g, tt⟩ : Pl).val) (res_pl (q := 2) (by kernel_rfl) _ _ (w.heap.size + 1) ⟨s, a, pp, g, tt⟩ (by kernel_rfl) (by have := VB.new (w.alloc (.cells #[.int .i64 s, .int .i64 a, .int .i64 pp, .int .i64 g, .int .i64 tt] 23)) #[.int .i64 s, .int .i64 a, .int .i64 pp, .int .i64 g, .int .i64 tt] 31; simpa using this)) rfl ⟨rfl, HB.out⟩
    | trace_state
end Go.Proofs.Ytjbepojopfbajaa
