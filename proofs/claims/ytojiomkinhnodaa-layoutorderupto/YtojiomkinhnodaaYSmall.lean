/- up, pagesOf, isMixed, groupOf, Compare. -/
import Derived.Test.YtojiomkinhnodaaYInv
import Derived.Test.YtojiomkinhnodaaYBits
namespace Go.Proofs.Ytojiomkinhnodaa
open Go.ChangeShapes Go.WideShapes Go.ChangeAt Go.RowKit Go.Maps
set_option linter.unusedVariables false
set_option linter.unusedSimpArgs false

abbrev Ou.val (x : Ou) : Value := .agg #[.string x.nm, .int .i64 x.ty, .int .i64 x.fl, .int .i64 x.al, .int .i64 x.ad, .int .i64 x.sz]
theorem ret_i64 {a b : Int} (h : a = b) : Ending.returned (.int .i64 a) = .returned (.int .i64 b) := by rw [h]
theorem pow_le12 (j : Nat) (hj : j ≤ 12) : (2 : Int) ^ j ≤ 4096 := by
  have h4 : (4096 : Int) = 2 ^ j * 2 ^ (12 - j) := by rw [← Int.pow_add, show j + (12 - j) = 12 by omega]; decide
  have h5 := pow_pos2 (12 - j)
  have h6 := pow_pos2 j
  rw [h4]
  have := Int.mul_le_mul_of_nonneg_left h5 (show (0 : Int) ≤ 2 ^ j by omega)
  omega
theorem up_any (n a : Int) (j : Nat) (hj : j ≤ 12) (ha : a = 2 ^ j) (h0 : 0 ≤ n) (h1 : n ≤ 4611686018427387904) (w : World) : Calls Try.prog 36 #[.int .i64 n, .int .i64 a] w fun e w' => e = .returned (.int .i64 (upA n a)) ∧ w' = w := by
  have p1 : (1 : Int) ≤ a := by rw [ha]; exact pow_pos2 j
  have p2 : a ≤ 4096 := by rw [ha]; exact pow_le12 j hj
  have p3 : bits .and .i64 a (a - 1) = 0 := by rw [ha]; exact pow2_and j (by omega)
  have p4 : bits .andNot .i64 (n + a - 1) (a - 1) = upA n a := by
    unfold upA
    rw [ha]
    exact andNot_mask _ j (by omega) (by have := pow_pos2 j; omega) (by have := pow_pos2 j; omega)
  have t : (bits .and .i64 a (a - 1) != 0) = false := by simp [p3]
  have HL : Hid (Calls Try.prog 50 #[.int .i64 n, .int .i64 a] w fun e w' => e = .returned (.tuple #[.int .i64 (upA n a), .int .i64 0]) ∧ w' = w) := by
    refine ⟨?_⟩
    rw [← p4]
    clear p4 ha p3
    go_enter Try.func50, Try.ntmps50
    go_wp2
    go_ret2
    exact ⟨rfl, rfl⟩
  clear p3 p4 t ha
  generalize upA n a = r at *
  go_enter Try.func36, Try.ntmps36
  go_wp2_with (go_at_call 50; refine HL.out.mono ?_; rintro e w' ⟨rfl, hw'⟩; subst w')
  go_ret
  exact ⟨rfl, rfl⟩
theorem pagesOf_any (g : Nat) (hg : g ≤ 8) (w : World) : Calls Try.prog 35 #[.int .i64 (g : Int)] w fun e w' => e = .returned (.int .i64 ((min g 3 : Nat) : Int)) ∧ w' = w := by
  have e1 : ((min g 3 : Nat) : Int) = min (g : Int) 3 := by omega
  rw [e1]
  go_enter Try.func35, Try.ntmps35
  go_wp2
  all_goals (go_ret; exact ⟨ret_i64 (by omega), rfl⟩)
theorem num19_any (n : Int) (w : World) : Calls Try.prog 12 #[.int .i64 n] w fun e w' => e = .returned (.int .i64 n) ∧ w' = w := by
  go_enter Try.func12, Try.ntmps12
  go_wp2
  go_ret
  exact ⟨rfl, rfl⟩
set_option maxRecDepth 10000 in
theorem isMixed_any (s : Sec) (w : World) : Calls Try.prog 34 #[s.val] w fun e w' => e = .returned (.bool (mixB s)) ∧ Below w.heap.size w w' := by
  obtain ⟨nm, ty, fl, al, da, dn, dc, sz, ra, rn, rc⟩ := s
  unfold mixB
  dsimp only [Sec.val] at *
  obtain ⟨a, h1⟩ : ∃ p, (bits BinOp.and IntKind.i64 fl 6 == 6) = p := ⟨_, rfl⟩
  obtain ⟨b, h2⟩ : ∃ p, (bits BinOp.and IntKind.i64 fl 1025 == 0) = p := ⟨_, rfl⟩
  have h2' : (bits BinOp.and IntKind.i64 fl 1025 != 0) = !b := by rw [bne, h2]
  rw [h1, h2]
  have HB : Hid _ := ⟨(Below.refl _ w).alloc (Nat.le_refl _) (.cells #[.string nm, .int .i64 ty, .int .i64 fl, .int .i64 al, .slice da dn dc, .int .i64 sz, .slice ra rn rc] 52)⟩
  go_enter Try.func34, Try.ntmps34
  cases a <;> cases b <;> (go_wp2; go_ret; exact ⟨rfl, HB.out⟩)
set_option maxHeartbeats 4000000 in
set_option maxRecDepth 10000 in
theorem groupOf_any (x : Ou) (w : World) : Calls Try.prog 40 #[x.val] w fun e w' => e = .returned (.int .i64 ((grpO x : Nat) : Int)) ∧ Below w.heap.size w w' := by
  obtain ⟨nm, ty, fl, al, ad, sz⟩ := x
  dsimp only [Ou.val] at *
  obtain ⟨f2, h2⟩ : ∃ p, (bits BinOp.and IntKind.i64 fl 2 == 0) = p := ⟨_, rfl⟩
  obtain ⟨f1029, h1029⟩ : ∃ p, (bits BinOp.and IntKind.i64 fl 1029 == 0) = p := ⟨_, rfl⟩
  obtain ⟨f4, h4⟩ : ∃ p, (bits BinOp.and IntKind.i64 fl 4 == 0) = p := ⟨_, rfl⟩
  obtain ⟨f1024, h1024⟩ : ∃ p, (bits BinOp.and IntKind.i64 fl 1024 == 0) = p := ⟨_, rfl⟩
  obtain ⟨t8, e8⟩ : ∃ p, (ty == 8) = p := ⟨_, rfl⟩
  obtain ⟨t14, e14⟩ : ∃ p, (ty == 14) = p := ⟨_, rfl⟩
  obtain ⟨t15, e15⟩ : ∃ p, (ty == 15) = p := ⟨_, rfl⟩
  have h4' : (bits BinOp.and IntKind.i64 fl 4 != 0) = !f4 := by rw [bne, h4]
  have h1024' : (bits BinOp.and IntKind.i64 fl 1024 != 0) = !f1024 := by rw [bne, h1024]
  have HR : Hid (grpO ⟨nm, ty, fl, al, ad, sz⟩ = (if f2 then 0 else if f1029 then 1 else if !f4 then 2 else if !f1024 && !t8 then 3 else if !f1024 then 4 else if t14 then 5 else if t15 then 6 else if !t8 then 7 else 8)) := ⟨by unfold grpO grp; dsimp only; rw [h2, h1029, h4, h1024, e8, e14, e15]⟩
  generalize grpO ⟨nm, ty, fl, al, ad, sz⟩ = R at *
  have HB : Hid _ := ⟨(Below.refl _ w).alloc (Nat.le_refl _) (.cells #[.string nm, .int .i64 ty, .int .i64 fl, .int .i64 al, .int .i64 ad, .int .i64 sz] 47)⟩
  go_enter Try.func40, Try.ntmps40
  cases f2
  · cases f1029
    · cases f4
      · go_wp2
        all_goals (go_ret; exact ⟨ret_i64 (by rw [HR.out]; rfl), HB.out⟩)
      · cases f1024 <;> cases t8 <;> cases t14 <;> cases t15
        all_goals (go_wp2; go_ret; exact ⟨ret_i64 (by rw [HR.out]; rfl), HB.out⟩)
    · go_wp2
      all_goals (go_ret; exact ⟨ret_i64 (by rw [HR.out]; rfl), HB.out⟩)
  · go_wp2
    all_goals (go_ret; exact ⟨ret_i64 (by rw [HR.out]; rfl), HB.out⟩)
def cmpI (x y : Int) : Int := if x < y then -1 else if y < x then 1 else 0
theorem isNaN_any (x : Int) (w : World) : Calls Try.prog 70 #[.int .i64 x] w fun e w' => e = .returned (.bool false) ∧ w' = w := by
  have h : (x != x) = false := by simp
  go_enter Try.func70, Try.ntmps70
  go_wp2
  go_ret
  exact ⟨rfl, rfl⟩
theorem compare_any (x y : Int) (w : World) : Calls Try.prog 53 #[.int .i64 x, .int .i64 y] w fun e w' => e = .returned (.int .i64 (cmpI x y)) ∧ w' = w := by
  have HN : Hid (∀ x W, _) := ⟨isNaN_any⟩
  unfold cmpI
  by_cases h1 : x < y
  · rw [if_pos h1]
    go_enter Try.func53, Try.ntmps53
    go_wp2_with (go_at_call 70; refine (HN.out _ _).mono ?_; rintro e w' ⟨rfl, hw'⟩; subst w')
    go_ret
    exact ⟨rfl, rfl⟩
  · rw [if_neg h1]
    by_cases h2 : y < x
    · rw [if_pos h2]
      go_enter Try.func53, Try.ntmps53
      go_wp2_with (go_at_call 70; refine (HN.out _ _).mono ?_; rintro e w' ⟨rfl, hw'⟩; subst w')
      go_ret
      exact ⟨rfl, rfl⟩
    · rw [if_neg h2]
      go_enter Try.func53, Try.ntmps53
      go_wp2_with (go_at_call 70; refine (HN.out _ _).mono ?_; rintro e w' ⟨rfl, hw'⟩; subst w')
      go_ret
      exact ⟨rfl, rfl⟩
end Go.Proofs.Ytojiomkinhnodaa
