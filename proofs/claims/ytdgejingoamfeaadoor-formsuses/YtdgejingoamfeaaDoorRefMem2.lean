/- The document's mem, of a base register. -/
import Derived.Test.YtdgejingoamfeaaDoorRefMem
namespace Go.Proofs.YtdgejingoamfeaaDoor
open Go.ChangeShapes Go.WideShapes Go.ChangeAt Go.RowKit
set_option linter.unusedVariables false

theorem isReg_false {r : Int} (h : isRegB r = false) : r < 0 ∨ 15 < r := by
  unfold isRegB withinB at h
  simp at h
  omega

set_option maxHeartbeats 4000000 in
theorem refMem_base (o : O) (w : World) (hs : o.nm.size ≤ 9223372036854775807) (hrip : o.rip = false) (hfs : o.fs = false) :
    Calls Tryd.prog 64 #[o.val] w fun e w' => e = .returned (.bool (memRB o)) ∧ Below w.heap.size w w' := by
  have FA : ∀ v, Sem.run Tryd.prog (binOp .eql 23 (bareO o).val (O.val ⟨3, 0, o.b, -1, 0, false, false, 0, ⟨#[]⟩, 0⟩)) v = .ok (.bool ((bareO o).same ⟨3, 0, o.b, -1, 0, false, false, 0, ⟨#[]⟩, 0⟩)) v := fun v => opd_eq _ _ v
  have FB : ∀ v, Sem.run Tryd.prog (binOp .eql 23 (bareO o).val (O.val ⟨3, 0, o.b, o.x, o.s, false, false, 0, ⟨#[]⟩, 0⟩)) v = .ok (.bool ((bareO o).same ⟨3, 0, o.b, o.x, o.s, false, false, 0, ⟨#[]⟩, 0⟩)) v := fun v => opd_eq _ _ v
  obtain ⟨ca, hca⟩ : ∃ c, (bareO o).same ⟨3, 0, o.b, -1, 0, false, false, 0, ⟨#[]⟩, 0⟩ = c := ⟨_, rfl⟩
  obtain ⟨cb, hcb⟩ : ∃ c, (bareO o).same ⟨3, 0, o.b, o.x, o.s, false, false, 0, ⟨#[]⟩, 0⟩ = c := ⟨_, rfl⟩
  obtain ⟨d, hd⟩ : ∃ d, namedB o [4, 5] = d := ⟨_, rfl⟩
  have HR : Hid (memRB o = if isRegB o.b && d then (if o.x = -1 then ca else if isRegB o.x && (o.x != 4 && [1, 2, 4, 8].contains o.s) then cb else false) else false) := ⟨by simp only [memRB, hrip, hfs, Bool.false_eq_true, if_false, hca, hcb, hd]⟩
  have HN := named_at o hs hd 2 rfl (by omega)
  rw [hca] at FA
  rw [hcb] at FB
  simp only [O.val, bareO] at FA FB
  rw [hrip, hfs] at FA FB HN
  unfold O.val
  rw [hrip, hfs]
  clear hca hcb hd hrip hfs hs
  generalize memRB o = z at *
  cases hb : isRegB o.b
  · rw [hb] at HR
    rcases isReg_false hb with g | g
    all_goals
      clear hb
      go_enter Tryd.func64, Tryd.ntmps64
      go_wp2
      go_ret
      exact ⟨ret_bool (by rw [HR.out]; rfl), by repeat (first | (with_reducible exact Below.refl _ _) | (with_reducible refine bel_alloc ?_ _) | ((with_reducible refine Below.setCell ?_ ?_ _); rotate_left; (focus (dsimp only; omega))))⟩
  rw [hb] at HR
  have g0 : ¬ o.b < 0 := by unfold isRegB withinB at hb; simp at hb; omega
  have g1 : ¬ 15 < o.b := by unfold isRegB withinB at hb; simp at hb; omega
  clear hb
  rcases d with _ | _
  · go_enter Tryd.func64, Tryd.ntmps64
    go_wp2_with (go_at_call 89; refine (HN.out _ _ (ints2 (by simp [go_sem]) (by simp [go_sem]))).mono ?_; rintro e w1 ⟨rfl, hb⟩; obtain ⟨hcl, hfl⟩ := bcell hb; have A1 : OA w1 w.heap.size ⟨o.k, o.r, o.b, o.x, o.s, false, false, o.n, o.nm, o.m⟩ := (by constructor <;> (rw [hcl _ _ (by simp; omega)]; simp [go_sem])); have D1 : OA w1 (w.heap.size + 1) ⟨o.k, o.r, o.b, o.x, o.s, false, false, 0, ⟨#[]⟩, 0⟩ := (by constructor <;> (rw [hcl _ _ (by simp)]; simp [go_sem])); have B1 : Hid (Below w.heap.size w w1) := ⟨(by refine bel_trans ?_ hb; repeat (first | (with_reducible exact Below.refl _ _) | (with_reducible refine bel_alloc ?_ _) | ((with_reducible refine Below.setCell ?_ ?_ _); rotate_left; (focus (dsimp only; omega)))))⟩; clear hcl hfl hb; obtain ⟨p0, p1, p2, p3, p4, p5, p6, p7, p8, p9⟩ := A1; obtain ⟨q0, q1, q2, q3, q4, q5, q6, q7, q8, q9⟩ := D1)
    go_ret
    exact ⟨ret_bool (by rw [HR.out]; rfl), B1.out⟩
  by_cases hx : o.x = -1
  · have HZ : Hid (z = ca) := ⟨by rw [HR.out, if_pos (show (true && true) = true from rfl), if_pos hx]⟩
    have hx' : (o.x == -1) = true := by simp [hx]
    clear hx HR FB
    go_enter Tryd.func64, Tryd.ntmps64
    go_wp2_with (go_at_call 89; refine (HN.out _ _ (ints2 (by simp [go_sem]) (by simp [go_sem]))).mono ?_; rintro e w1 ⟨rfl, hb⟩; obtain ⟨hcl, hfl⟩ := bcell hb; have A1 : OA w1 w.heap.size ⟨o.k, o.r, o.b, o.x, o.s, false, false, o.n, o.nm, o.m⟩ := (by constructor <;> (rw [hcl _ _ (by simp; omega)]; simp [go_sem])); have D1 : OA w1 (w.heap.size + 1) ⟨o.k, o.r, o.b, o.x, o.s, false, false, 0, ⟨#[]⟩, 0⟩ := (by constructor <;> (rw [hcl _ _ (by simp)]; simp [go_sem])); have B1 : Hid (Below w.heap.size w w1) := ⟨(by refine bel_trans ?_ hb; repeat (first | (with_reducible exact Below.refl _ _) | (with_reducible refine bel_alloc ?_ _) | ((with_reducible refine Below.setCell ?_ ?_ _); rotate_left; (focus (dsimp only; omega)))))⟩; clear hcl hfl hb; obtain ⟨p0, p1, p2, p3, p4, p5, p6, p7, p8, p9⟩ := A1; obtain ⟨q0, q1, q2, q3, q4, q5, q6, q7, q8, q9⟩ := D1)
    go_ret
    exact ⟨ret_bool HZ.out.symm, B1.out⟩
  have hx' : (o.x == -1) = false := by simp [hx]
  have HR2 : Hid (z = if isRegB o.x && (o.x != 4 && [1, 2, 4, 8].contains o.s) then cb else false) := ⟨by rw [HR.out, if_pos (show (true && true) = true from rfl), if_neg hx]⟩
  clear HR hx FA
  cases hy : isRegB o.x
  · rw [hy] at HR2
    rcases isReg_false hy with g | g
    case' inr => have g' : ¬ o.x < 0 := (by omega)
    all_goals
      clear hy
      go_enter Tryd.func64, Tryd.ntmps64
      go_wp2_with (go_at_call 89; refine (HN.out _ _ (ints2 (by simp [go_sem]) (by simp [go_sem]))).mono ?_; rintro e w1 ⟨rfl, hb⟩; obtain ⟨hcl, hfl⟩ := bcell hb; have A1 : OA w1 w.heap.size ⟨o.k, o.r, o.b, o.x, o.s, false, false, o.n, o.nm, o.m⟩ := (by constructor <;> (rw [hcl _ _ (by simp; omega)]; simp [go_sem])); have D1 : OA w1 (w.heap.size + 1) ⟨o.k, o.r, o.b, o.x, o.s, false, false, 0, ⟨#[]⟩, 0⟩ := (by constructor <;> (rw [hcl _ _ (by simp)]; simp [go_sem])); have B1 : Hid (Below w.heap.size w w1) := ⟨(by refine bel_trans ?_ hb; repeat (first | (with_reducible exact Below.refl _ _) | (with_reducible refine bel_alloc ?_ _) | ((with_reducible refine Below.setCell ?_ ?_ _); rotate_left; (focus (dsimp only; omega)))))⟩; clear hcl hfl hb; obtain ⟨p0, p1, p2, p3, p4, p5, p6, p7, p8, p9⟩ := A1; obtain ⟨q0, q1, q2, q3, q4, q5, q6, q7, q8, q9⟩ := D1)
      go_ret
      exact ⟨ret_bool (by rw [HR2.out]; rfl), B1.out⟩
  rw [hy] at HR2
  have k0 : ¬ o.x < 0 := by unfold isRegB withinB at hy; simp at hy; omega
  have k1 : ¬ 15 < o.x := by unfold isRegB withinB at hy; simp at hy; omega
  clear hy
  cases h4 : (o.x == 4)
  · have HR3 : Hid (z = if [1, 2, 4, 8].contains o.s then cb else false) := ⟨by rw [HR2.out]; unfold bne; rw [h4]; rfl⟩
    clear HR2
    by_cases hs : o.s = 1 ∨ o.s = 2 ∨ o.s = 4 ∨ o.s = 8
    · have HZ : Hid (z = cb) := ⟨by rw [HR3.out, if_pos (by rcases hs with h | h | h | h <;> rw [h] <;> rfl)]⟩
      clear HR3
      obtain ⟨s1, e1⟩ : ∃ x, (o.s != 1) = x := ⟨_, rfl⟩
      obtain ⟨s2, e2⟩ : ∃ x, (o.s != 2) = x := ⟨_, rfl⟩
      obtain ⟨s4, e4⟩ : ∃ x, (o.s != 4) = x := ⟨_, rfl⟩
      have e8 : s1 = true → s2 = true → s4 = true → (o.s != 8) = false := by
        intro a b c; subst a b c; simp at e1 e2 e4; simp; omega
      clear hs
      rcases s1 with _ | _
      case' true => rcases s2 with _ | _
      case' true.true => rcases s4 with _ | _
      case' true.true.true => have e8 := e8 rfl rfl rfl
      all_goals
        go_enter Tryd.func64, Tryd.ntmps64
        go_wp2_with (go_at_call 89; refine (HN.out _ _ (ints2 (by simp [go_sem]) (by simp [go_sem]))).mono ?_; rintro e w1 ⟨rfl, hb⟩; obtain ⟨hcl, hfl⟩ := bcell hb; have A1 : OA w1 w.heap.size ⟨o.k, o.r, o.b, o.x, o.s, false, false, o.n, o.nm, o.m⟩ := (by constructor <;> (rw [hcl _ _ (by simp; omega)]; simp [go_sem])); have D1 : OA w1 (w.heap.size + 1) ⟨o.k, o.r, o.b, o.x, o.s, false, false, 0, ⟨#[]⟩, 0⟩ := (by constructor <;> (rw [hcl _ _ (by simp)]; simp [go_sem])); have B1 : Hid (Below w.heap.size w w1) := ⟨(by refine bel_trans ?_ hb; repeat (first | (with_reducible exact Below.refl _ _) | (with_reducible refine bel_alloc ?_ _) | ((with_reducible refine Below.setCell ?_ ?_ _); rotate_left; (focus (dsimp only; omega)))))⟩; clear hcl hfl hb; obtain ⟨p0, p1, p2, p3, p4, p5, p6, p7, p8, p9⟩ := A1; obtain ⟨q0, q1, q2, q3, q4, q5, q6, q7, q8, q9⟩ := D1)
        go_ret
        exact ⟨ret_bool HZ.out.symm, B1.out⟩
    · have HZ : Hid (z = false) := ⟨by rw [HR3.out, if_neg (by simp; omega)]⟩
      have e1 : (o.s != 1) = true := by simp; omega
      have e2 : (o.s != 2) = true := by simp; omega
      have e4 : (o.s != 4) = true := by simp; omega
      have e8 : (o.s != 8) = true := by simp; omega
      clear hs HR3
      go_enter Tryd.func64, Tryd.ntmps64
      go_wp2_with (go_at_call 89; refine (HN.out _ _ (ints2 (by simp [go_sem]) (by simp [go_sem]))).mono ?_; rintro e w1 ⟨rfl, hb⟩; obtain ⟨hcl, hfl⟩ := bcell hb; have A1 : OA w1 w.heap.size ⟨o.k, o.r, o.b, o.x, o.s, false, false, o.n, o.nm, o.m⟩ := (by constructor <;> (rw [hcl _ _ (by simp; omega)]; simp [go_sem])); have D1 : OA w1 (w.heap.size + 1) ⟨o.k, o.r, o.b, o.x, o.s, false, false, 0, ⟨#[]⟩, 0⟩ := (by constructor <;> (rw [hcl _ _ (by simp)]; simp [go_sem])); have B1 : Hid (Below w.heap.size w w1) := ⟨(by refine bel_trans ?_ hb; repeat (first | (with_reducible exact Below.refl _ _) | (with_reducible refine bel_alloc ?_ _) | ((with_reducible refine Below.setCell ?_ ?_ _); rotate_left; (focus (dsimp only; omega)))))⟩; clear hcl hfl hb; obtain ⟨p0, p1, p2, p3, p4, p5, p6, p7, p8, p9⟩ := A1; obtain ⟨q0, q1, q2, q3, q4, q5, q6, q7, q8, q9⟩ := D1)
      go_ret
      exact ⟨ret_bool HZ.out.symm, B1.out⟩
  · have HZ : Hid (z = false) := ⟨by rw [HR2.out]; unfold bne; rw [h4]; rfl⟩
    clear HR2
    go_enter Tryd.func64, Tryd.ntmps64
    go_wp2_with (go_at_call 89; refine (HN.out _ _ (ints2 (by simp [go_sem]) (by simp [go_sem]))).mono ?_; rintro e w1 ⟨rfl, hb⟩; obtain ⟨hcl, hfl⟩ := bcell hb; have A1 : OA w1 w.heap.size ⟨o.k, o.r, o.b, o.x, o.s, false, false, o.n, o.nm, o.m⟩ := (by constructor <;> (rw [hcl _ _ (by simp; omega)]; simp [go_sem])); have D1 : OA w1 (w.heap.size + 1) ⟨o.k, o.r, o.b, o.x, o.s, false, false, 0, ⟨#[]⟩, 0⟩ := (by constructor <;> (rw [hcl _ _ (by simp)]; simp [go_sem])); have B1 : Hid (Below w.heap.size w w1) := ⟨(by refine bel_trans ?_ hb; repeat (first | (with_reducible exact Below.refl _ _) | (with_reducible refine bel_alloc ?_ _) | ((with_reducible refine Below.setCell ?_ ?_ _); rotate_left; (focus (dsimp only; omega)))))⟩; clear hcl hfl hb; obtain ⟨p0, p1, p2, p3, p4, p5, p6, p7, p8, p9⟩ := A1; obtain ⟨q0, q1, q2, q3, q4, q5, q6, q7, q8, q9⟩ := D1)
    go_ret
    exact ⟨ret_bool HZ.out.symm, B1.out⟩

theorem refMem_any (o : O) (w : World) (hs : o.nm.size ≤ 9223372036854775807) :
    Calls Tryd.prog 64 #[o.val] w fun e w' => e = .returned (.bool (memRB o)) ∧ Below w.heap.size w w' := by
  cases h : o.rip
  · cases h' : o.fs
    · exact refMem_base o w hs h h'
    · exact refMem_fs o w hs h h'
  · exact refMem_rip o w hs h
end Go.Proofs.YtdgejingoamfeaaDoor
