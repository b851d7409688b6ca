/- The contract of memoryMayBe, of the thread's base. -/
import Derived.Test.YtdgejingoamfeaaDoorMem
import Derived.RegionTactic
import Derived.BigRegion
namespace Go.Proofs.YtdgejingoamfeaaDoor
open Go.ChangeShapes Go.WideShapes Go.ChangeAt Go.RowKit Go.Shelf
set_option linter.unusedVariables false

set_option maxHeartbeats 2000000 in
theorem memMay_fs (o : O) (w : World) (hrip : o.rip = false) (hfs : o.fs = true) :
    Calls Tryd.prog 57 #[o.val] w fun e w' => e = .returned (.bool (memMayB o)) ∧ Below w.heap.size w w' := by
  have FE : ∀ v, Sem.run Tryd.prog (binOp .eql 23 o.val (O.val ⟨3, 0, -1, -1, 0, false, true, o.n, o.nm, o.m⟩)) v = .ok (.bool (o.same ⟨3, 0, -1, -1, 0, false, true, o.n, o.nm, o.m⟩)) v := fun v => opd_eq _ _ v
  simp only [O.val] at FE
  obtain ⟨c, hc⟩ : ∃ c, o.same ⟨3, 0, -1, -1, 0, false, true, o.n, o.nm, o.m⟩ = c := ⟨_, rfl⟩
  obtain ⟨d, hd⟩ : ∃ d, nameMayB o [4] = d := ⟨_, rfl⟩
  obtain ⟨f, hf⟩ : ∃ f, fitsSB o.n = f := ⟨_, rfl⟩
  have HR : Hid (memMayB o = (d && (c && f))) := ⟨by simp only [memMayB, hrip, hfs, if_true, Bool.false_eq_true, if_false, hc, hd, hf]⟩
  have HN := name_at o hd 1 rfl (by omega)
  have HF := fits_at o.n hf
  rw [hc] at FE
  rw [hrip, hfs] at FE HN
  unfold O.val
  rw [hrip, hfs]
  clear hc hd hf hrip hfs
  rcases d with _ | _
  case' true => rcases c with _ | _
  all_goals
    go_enter Tryd.func57, Tryd.ntmps57
    go_wp2_with (first
      | (go_at_call 84; refine (HN.out _ _ (ints1 (by simp [go_sem]))).mono ?_; rintro e w1 ⟨rfl, hb⟩; obtain ⟨hcl, hfl⟩ := bcell hb; have hz : w.heap.size + 2 < w1.heap.size := (by have := hb.size; simp at this; omega))
      | (go_at_call 86; refine (HF.out _).mono ?_; rintro e w2 ⟨rfl, hw⟩; subst w2))
    go_ret
    exact ⟨ret_bool (by rw [HR.out]; rfl), by refine bel_trans ?_ hb; repeat (first | (with_reducible exact Below.refl _ _) | (with_reducible refine bel_alloc ?_ _) | ((with_reducible refine Below.setCell ?_ ?_ _); rotate_left; (focus (dsimp only; omega))))⟩
end Go.Proofs.YtdgejingoamfeaaDoor
