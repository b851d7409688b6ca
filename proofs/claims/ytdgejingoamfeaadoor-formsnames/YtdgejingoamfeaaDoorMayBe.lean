/- The contract of mayBe. -/
import Derived.Test.YtdgejingoamfeaaDoorMem
namespace Go.Proofs.YtdgejingoamfeaaDoor
open Go.ChangeShapes Go.WideShapes Go.ChangeAt Go.RowKit Go.Shelf
set_option linter.unusedVariables false

theorem memMay_any (o : O) (w : World) :
    Calls Tryd.prog 57 #[o.val] w fun e w' => e = .returned (.bool (memMayB o)) ∧ Below w.heap.size w w' := by
  cases h : o.rip
  · cases h' : o.fs
    · exact memMay_base o w h h'
    · exact memMay_fs o w h h'
  · exact memMay_rip o w h

set_option maxHeartbeats 2000000 in
theorem mayBe_any (o : O) (w : World) :
    Calls Tryd.prog 33 #[o.val] w fun e w' => e = .returned (.bool (mayB o)) ∧ Below w.heap.size w w' := by
  by_cases h0 : o.k = 0
  · have FE : ∀ v, Sem.run Tryd.prog (binOp .eql 23 o.val (O.val zeroO)) v = .ok (.bool (o.same zeroO)) v := fun v => opd_eq _ _ v
    simp only [O.val, zeroO] at FE
    have HR : Hid (mayB o = o.same ⟨0, 0, 0, 0, 0, false, false, 0, ⟨#[]⟩, 0⟩) := ⟨by simp only [mayB, h0, if_true, zeroO]⟩
    unfold O.val
    have h0' : (o.k == 0) = true := by simp [h0]
    clear h0
    go_enter Tryd.func33, Tryd.ntmps33
    go_wp2
    go_ret
    exact ⟨ret_bool (by rw [HR.out]), bel_alloc (Below.refl _ _) _⟩
  · have h0' : (o.k == 0) = false := by simp [h0]
    by_cases h1 : o.k = 1
    · have FE : ∀ v, Sem.run Tryd.prog (binOp .eql 23 o.val (O.val ⟨1, o.r, 0, 0, 0, false, false, 0, ⟨#[]⟩, 0⟩)) v = .ok (.bool (o.same ⟨1, o.r, 0, 0, 0, false, false, 0, ⟨#[]⟩, 0⟩)) v := fun v => opd_eq _ _ v
      simp only [O.val] at FE
      obtain ⟨c, hc⟩ : ∃ c, o.same ⟨1, o.r, 0, 0, 0, false, false, 0, ⟨#[]⟩, 0⟩ = c := ⟨_, rfl⟩
      have HR : Hid (mayB o = (c && isRegB o.r)) := ⟨by rw [← hc]; simp [mayB, h1]⟩
      rw [hc] at FE
      unfold O.val
      have h1' : (o.k == 1) = true := by simp [h1]
      clear h0 h1 hc
      rcases c with _ | _
      all_goals
        go_enter Tryd.func33, Tryd.ntmps33
        go_wp2_with (go_at_call 44; refine (isReg_any _ _).mono ?_; rintro e w1 ⟨rfl, hw⟩; subst w1)
        go_ret
        exact ⟨ret_bool (by rw [HR.out]; rfl), bel_alloc (Below.refl _ _) _⟩
    · have h1' : (o.k == 1) = false := by simp [h1]
      by_cases h2 : o.k = 2
      · have FE : ∀ v, Sem.run Tryd.prog (binOp .eql 23 o.val (O.val ⟨2, 0, 0, 0, 0, false, false, o.n, ⟨#[]⟩, 0⟩)) v = .ok (.bool (o.same ⟨2, 0, 0, 0, 0, false, false, o.n, ⟨#[]⟩, 0⟩)) v := fun v => opd_eq _ _ v
        simp only [O.val] at FE
        have HR : Hid (mayB o = o.same ⟨2, 0, 0, 0, 0, false, false, o.n, ⟨#[]⟩, 0⟩) := ⟨by simp [mayB, h2]⟩
        unfold O.val
        have h2' : (o.k == 2) = true := by simp [h2]
        clear h0 h1 h2
        go_enter Tryd.func33, Tryd.ntmps33
        go_wp2
        go_ret
        exact ⟨ret_bool (by rw [HR.out]), bel_alloc (Below.refl _ _) _⟩
      · have h2' : (o.k == 2) = false := by simp [h2]
        by_cases h3 : o.k = 3
        · have HR : Hid (mayB o = memMayB o) := ⟨by simp [mayB, h3]⟩
          have HM : Hid (∀ v, Calls Tryd.prog 57 #[o.val] v fun e w' => e = .returned (.bool (memMayB o)) ∧ Below v.heap.size v w') := ⟨fun v => memMay_any o v⟩
          unfold O.val at *
          have h3' : (o.k == 3) = true := by simp [h3]
          clear h0 h1 h2 h3
          go_enter Tryd.func33, Tryd.ntmps33
          go_wp2_with (go_at_call 57; refine (HM.out _).mono ?_; rintro e w1 ⟨rfl, hb⟩)
          go_ret
          exact ⟨ret_bool (by rw [HR.out]), bel_trans (bel_alloc (Below.refl _ _) _) hb⟩
        · have h3' : (o.k == 3) = false := by simp [h3]
          by_cases h4 : o.k = 4
          · have HR : Hid (mayB o = targetMayB o) := ⟨by simp [mayB, h4]⟩
            have HM : Hid (∀ v, Calls Tryd.prog 58 #[o.val] v fun e w' => e = .returned (.bool (targetMayB o)) ∧ Below v.heap.size v w') := ⟨fun v => targetMay_any o v⟩
            unfold O.val at *
            have h4' : (o.k == 4) = true := by simp [h4]
            clear h0 h1 h2 h3 h4
            go_enter Tryd.func33, Tryd.ntmps33
            go_wp2_with (go_at_call 58; refine (HM.out _).mono ?_; rintro e w1 ⟨rfl, hb⟩)
            go_ret
            exact ⟨ret_bool (by rw [HR.out]), bel_trans (bel_alloc (Below.refl _ _) _) hb⟩
          · have h4' : (o.k == 4) = false := by simp [h4]
            have HR : Hid (mayB o = false) := ⟨by simp [mayB, h0, h1, h2, h3, h4]⟩
            unfold O.val
            clear h0 h1 h2 h3 h4
            go_enter Tryd.func33, Tryd.ntmps33
            go_wp2
            go_ret
            exact ⟨ret_bool (by rw [HR.out]), bel_alloc (Below.refl _ _) _⟩
end Go.Proofs.YtdgejingoamfeaaDoor
