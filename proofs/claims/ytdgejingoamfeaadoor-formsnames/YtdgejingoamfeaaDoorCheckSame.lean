/- The document's operands and the program's are the same: kind by kind. The document's Check and the program's are the same: shape by shape. The document's Check and the program's are the same. -/
import Derived.Test.YtdgejingoamfeaaDoorRefOps
import Derived.Test.YtdgejingoamfeaaDoorRefShift
import Derived.Test.YtdgejingoamfeaaDoorRefJumps
import Derived.Test.YtdgejingoamfeaaDoorRefSize
import Derived.Test.YtdgejingoamfeaaDoorHas
import Derived.Test.YtdgejingoamfeaaDoorTakes
import Derived.Test.YtdgejingoamfeaaDoorRefCheck
import Derived.Test.YtdgejingoamfeaaDoorName2
namespace Go.Proofs.YtdgejingoamfeaaDoor
set_option linter.unusedVariables false
set_option linter.unusedSimpArgs false

theorem none_same (o : O) : noneB o = (mayB o && o.k == 0) := by
  by_cases h : o.k = 0
  · simp [noneB, mayB, h]
  · have hb : (o.k == 0) = false := by simpa using h
    simp [noneB, O.same, zeroO, hb]
theorem reg_same (o : O) : regB o = (mayB o && o.k == 1) := by
  by_cases h : o.k = 1
  · simp [regB, mayB, h]
  · have hb : (o.k == 1) = false := by simpa using h
    simp [regB, O.same, hb]
theorem imm_same (o : O) : immB o = (mayB o && o.k == 2) := by
  by_cases h : o.k = 2
  · simp [immB, mayB, h]
  · have hb : (o.k == 2) = false := by simpa using h
    simp [immB, O.same, hb]

theorem named_rip (o : O) : (nameMayB o [0, 2, 3] && (o.m == 0 || o.n == 0) && fitsSB o.n) = namedB o [0, 2, 3] := by
  unfold nameMayB namedB
  cases empB o.nm
  · simp only [Bool.false_eq_true, if_false]
    by_cases h0 : o.m = 0
    · simp [h0, Bool.and_comm, Bool.and_assoc, Bool.and_left_comm]
    · by_cases h2 : o.m = 2
      · simp [h2, Bool.and_comm, Bool.and_assoc, Bool.and_left_comm]
      · by_cases h3 : o.m = 3
        · simp [h3, Bool.and_comm, Bool.and_assoc, Bool.and_left_comm]
        · simp [h0, h2, h3]
  · cases (o.m == 0) <;> simp
theorem named_other (o : O) (zs : List Int) (hz : zs.contains 2 = false ∧ zs.contains 3 = false) : (nameMayB o zs && fitsSB o.n) = namedB o zs := by
  unfold nameMayB namedB
  cases empB o.nm
  · simp only [Bool.false_eq_true, if_false]
    cases hc : zs.contains o.m
    · simp
    · have h2 : (o.m != 2) = true := by
        simp only [bne_iff_ne]; intro e; rw [e, hz.1] at hc; cases hc
      have h3 : (o.m != 3) = true := by
        simp only [bne_iff_ne]; intro e; rw [e, hz.2] at hc; cases hc
      rw [h2, h3]
      simp [Bool.and_comm]
  · simp

theorem mem_same (o : O) : memRB o = (mayB o && o.k == 3) := by
  by_cases h : o.k = 3
  · have e : mayB o = memMayB o := by simp [mayB, h]
    rw [e]
    simp only [h, beq_self_eq_true, Bool.and_true]
    unfold memRB memMayB
    cases hr : o.rip
    · cases hf : o.fs
      · simp only [Bool.false_eq_true, if_false]
        rw [← named_other o [4, 5] (by decide)]
        unfold indexMayB
        by_cases hx : o.x = -1
        · simp only [hx, if_true]
          cases isRegB o.b <;> cases nameMayB o [4, 5] <;> cases fitsSB o.n <;> simp [O.same, bareO, h, hr, hf, hx, Bool.and_comm]
        · simp only [hx, if_false]
          cases isRegB o.b <;> cases nameMayB o [4, 5] <;> cases fitsSB o.n <;> cases isRegB o.x <;> cases (o.x != 4) <;> cases [1, 2, 4, 8].contains o.s <;> simp [O.same, bareO, h, hr, hf]
      · simp only [Bool.false_eq_true, if_false, if_true]
        rw [← named_other o [4] (by decide)]
        cases nameMayB o [4] <;> cases fitsSB o.n <;> simp [O.same, bareO, h, hr, hf]
    · simp only [if_true]
      rw [← named_rip o]
      cases nameMayB o [0, 2, 3] <;> cases (o.m == 0 || o.n == 0) <;> cases fitsSB o.n <;> simp [O.same, bareO, h, hr]
  · have hk : (o.k == 3) = false := by simpa using h
    have hb : ∀ r b x s rip fs n nm m, (bareO o).same ⟨3, r, b, x, s, rip, fs, n, nm, m⟩ = false := by intros; simp [O.same, bareO, hk]
    unfold memRB
    simp only [hb, hk, Bool.false_and, Bool.and_false, ite_self]

theorem emp_iff (s : ByteArray) : empB s = (s.toList == (⟨#[]⟩ : ByteArray).toList) := by
  unfold empB
  have : (⟨#[]⟩ : ByteArray).toList = [] := by rw [ByteArray.toList_eq]
  rw [this]
  cases s.toList <;> rfl

theorem target_same (o : O) : targetRB o = (mayB o && o.k == 4) := by
  by_cases h : o.k = 4
  · have e : mayB o = targetMayB o := by simp [mayB, h]
    rw [e]
    simp only [h, beq_self_eq_true, Bool.and_true]
    unfold targetRB targetMayB nameMayB
    cases he : empB o.nm
    · simp only [Bool.false_eq_true, if_false]
      have hc : [0, 1].contains o.m = (o.m == 0 || o.m == 1) := by simp only [List.contains, List.elem]; cases (o.m == 0) <;> cases (o.m == 1) <;> rfl
      rw [hc]
      cases hn : (o.n == 0)
      · simp [O.same, h, hn]
      · have hz : o.n = 0 := by simpa using hn
        have hf : fitsSB o.n = true := by rw [hz]; decide
        rw [hf]
        cases isNameB o.nm <;> cases (o.m == 0 || o.m == 1) <;> simp [O.same, h, hn]
    · have := emp_iff o.nm
      rw [he] at this
      simp only [if_true]
      cases hm : (o.m == 0)
      · simp [O.same, h, hm]
      · have hq : o.nm.toList.isEmpty = true := he
        simp [O.same, h, hm, hq, Bool.and_comm]
  · have hk : (o.k == 4) = false := by simpa using h
    unfold targetRB
    simp [O.same, hk]

theorem rm_same (o : O) : rmB o = (mayB o && isPlaceB o) := by
  unfold rmB isPlaceB
  rw [reg_same, mem_same]
  cases mayB o <;> simp

/-- A kind is one alone. -/
theorem kinds (k : Int) : ((k == 1) && (k == 2)) = false ∧ ((k == 1) && (k == 3)) = false ∧ ((k == 2) && (k == 3)) = false ∧ ((k == 0) && (k == 1)) = false ∧ ((k == 0) && (k == 2)) = false ∧ ((k == 0) && (k == 3)) = false ∧ ((k == 4) && (k == 1)) = false ∧ ((k == 4) && (k == 3)) = false := by
  refine ⟨?_, ?_, ?_, ?_, ?_, ?_, ?_, ?_⟩ <;> (rw [Bool.and_eq_false_iff]; simp only [beq_eq_false_iff_ne]; omega)

theorem shape_sum (i : I) : (sumRB i) = (mayB i.to && (mayB i.fr && combinedB i.sz i.to i.fr)) := by
  obtain ⟨h12, h13, h23, h01, h02, h03, _, _⟩ := kinds i.fr.k
  obtain ⟨t12, t13, t23, t01, t02, t03, _, _⟩ := kinds i.to.k
  unfold sumRB combinedB testedB storedB
  (try unfold bne)
  simp only [rm_same, reg_same, imm_same, mem_same, none_same, isPlaceB]
  generalize mayB i.to = mt at *
  generalize mayB i.fr = mf at *
  generalize (i.to.k == 0) = T0 at *
  generalize (i.to.k == 1) = T1 at *
  generalize (i.to.k == 2) = T2 at *
  generalize (i.to.k == 3) = T3 at *
  generalize (i.fr.k == 0) = F0 at *
  generalize (i.fr.k == 1) = F1 at *
  generalize (i.fr.k == 2) = F2 at *
  generalize (i.fr.k == 3) = F3 at *
  generalize fitsB i.fr.n i.sz = g at *
  generalize fitsSB i.fr.n = s at *
  generalize (i.sz == 8) = e at *
  cases mt <;> cases mf <;> cases T1 <;> cases T3 <;> cases F1 <;> cases F2 <;> cases F3 <;> simp_all
theorem shape_mov (i : I) : (sumRB i || ((i.sz == 8 && regB i.to) && immB i.fr)) = (mayB i.to && (mayB i.fr && movedB i.sz i.to i.fr)) := by
  obtain ⟨h12, h13, h23, h01, h02, h03, _, _⟩ := kinds i.fr.k
  obtain ⟨t12, t13, t23, t01, t02, t03, _, _⟩ := kinds i.to.k
  unfold sumRB movedB combinedB testedB storedB
  (try unfold bne)
  simp only [rm_same, reg_same, imm_same, mem_same, none_same, isPlaceB]
  generalize mayB i.to = mt at *
  generalize mayB i.fr = mf at *
  generalize (i.to.k == 0) = T0 at *
  generalize (i.to.k == 1) = T1 at *
  generalize (i.to.k == 2) = T2 at *
  generalize (i.to.k == 3) = T3 at *
  generalize (i.fr.k == 0) = F0 at *
  generalize (i.fr.k == 1) = F1 at *
  generalize (i.fr.k == 2) = F2 at *
  generalize (i.fr.k == 3) = F3 at *
  generalize fitsB i.fr.n i.sz = g at *
  generalize fitsSB i.fr.n = s at *
  generalize (i.sz == 8) = e at *
  cases mt <;> cases mf <;> cases T1 <;> cases T3 <;> cases F1 <;> cases F2 <;> cases F3 <;> simp_all
theorem shape_test (i : I) : (sumRB i && i.fr.k != 3) = (mayB i.to && (mayB i.fr && testedB i.sz i.to i.fr)) := by
  obtain ⟨h12, h13, h23, h01, h02, h03, _, _⟩ := kinds i.fr.k
  obtain ⟨t12, t13, t23, t01, t02, t03, _, _⟩ := kinds i.to.k
  unfold sumRB testedB storedB
  (try unfold bne)
  simp only [rm_same, reg_same, imm_same, mem_same, none_same, isPlaceB]
  generalize mayB i.to = mt at *
  generalize mayB i.fr = mf at *
  generalize (i.to.k == 0) = T0 at *
  generalize (i.to.k == 1) = T1 at *
  generalize (i.to.k == 2) = T2 at *
  generalize (i.to.k == 3) = T3 at *
  generalize (i.fr.k == 0) = F0 at *
  generalize (i.fr.k == 1) = F1 at *
  generalize (i.fr.k == 2) = F2 at *
  generalize (i.fr.k == 3) = F3 at *
  generalize fitsB i.fr.n i.sz = g at *
  generalize fitsSB i.fr.n = s at *
  generalize (i.sz == 8) = e at *
  cases mt <;> cases mf <;> cases T1 <;> cases T3 <;> cases F1 <;> cases F2 <;> cases F3 <;> simp_all
theorem shape_lea (i : I) : ((regB i.to && memRB i.fr) && !i.fr.fs) = (mayB i.to && (mayB i.fr && locatedB i.to i.fr)) := by
  obtain ⟨h12, h13, h23, h01, h02, h03, _, _⟩ := kinds i.fr.k
  obtain ⟨t12, t13, t23, t01, t02, t03, _, _⟩ := kinds i.to.k
  unfold locatedB
  (try unfold bne)
  simp only [rm_same, reg_same, imm_same, mem_same, none_same, isPlaceB]
  generalize mayB i.to = mt at *
  generalize mayB i.fr = mf at *
  generalize (i.to.k == 0) = T0 at *
  generalize (i.to.k == 1) = T1 at *
  generalize (i.to.k == 2) = T2 at *
  generalize (i.to.k == 3) = T3 at *
  generalize (i.fr.k == 0) = F0 at *
  generalize (i.fr.k == 1) = F1 at *
  generalize (i.fr.k == 2) = F2 at *
  generalize (i.fr.k == 3) = F3 at *
  generalize fitsB i.fr.n i.sz = g at *
  generalize fitsSB i.fr.n = s at *
  generalize (i.sz == 8) = e at *
  cases mt <;> cases mf <;> cases T1 <;> cases T3 <;> cases F1 <;> cases F2 <;> cases F3 <;> simp_all
theorem shape_rr (i : I) : (regB i.to && rmB i.fr) = (mayB i.to && (mayB i.fr && loadedB i.to i.fr)) := by
  obtain ⟨h12, h13, h23, h01, h02, h03, _, _⟩ := kinds i.fr.k
  obtain ⟨t12, t13, t23, t01, t02, t03, _, _⟩ := kinds i.to.k
  unfold loadedB
  (try unfold bne)
  simp only [rm_same, reg_same, imm_same, mem_same, none_same, isPlaceB]
  generalize mayB i.to = mt at *
  generalize mayB i.fr = mf at *
  generalize (i.to.k == 0) = T0 at *
  generalize (i.to.k == 1) = T1 at *
  generalize (i.to.k == 2) = T2 at *
  generalize (i.to.k == 3) = T3 at *
  generalize (i.fr.k == 0) = F0 at *
  generalize (i.fr.k == 1) = F1 at *
  generalize (i.fr.k == 2) = F2 at *
  generalize (i.fr.k == 3) = F3 at *
  generalize fitsB i.fr.n i.sz = g at *
  generalize fitsSB i.fr.n = s at *
  generalize (i.sz == 8) = e at *
  cases mt <;> cases mf <;> cases T1 <;> cases T3 <;> cases F1 <;> cases F2 <;> cases F3 <;> simp_all
theorem shape_rn (i : I) : (rmB i.to && noneB i.fr) = (mayB i.to && (mayB i.fr && singleB i.to i.fr)) := by
  obtain ⟨h12, h13, h23, h01, h02, h03, _, _⟩ := kinds i.fr.k
  obtain ⟨t12, t13, t23, t01, t02, t03, _, _⟩ := kinds i.to.k
  unfold singleB
  (try unfold bne)
  simp only [rm_same, reg_same, imm_same, mem_same, none_same, isPlaceB]
  generalize mayB i.to = mt at *
  generalize mayB i.fr = mf at *
  generalize (i.to.k == 0) = T0 at *
  generalize (i.to.k == 1) = T1 at *
  generalize (i.to.k == 2) = T2 at *
  generalize (i.to.k == 3) = T3 at *
  generalize (i.fr.k == 0) = F0 at *
  generalize (i.fr.k == 1) = F1 at *
  generalize (i.fr.k == 2) = F2 at *
  generalize (i.fr.k == 3) = F3 at *
  generalize fitsB i.fr.n i.sz = g at *
  generalize fitsSB i.fr.n = s at *
  generalize (i.sz == 8) = e at *
  cases mt <;> cases mf <;> cases T1 <;> cases T3 <;> cases F1 <;> cases F2 <;> cases F3 <;> simp_all
theorem shape_push (i : I) : (noneB i.to && (rmB i.fr || (immB i.fr && fitsSB i.fr.n))) = (mayB i.to && (mayB i.fr && pushedB i.to i.fr)) := by
  obtain ⟨h12, h13, h23, h01, h02, h03, _, _⟩ := kinds i.fr.k
  obtain ⟨t12, t13, t23, t01, t02, t03, _, _⟩ := kinds i.to.k
  unfold pushedB
  (try unfold bne)
  simp only [rm_same, reg_same, imm_same, mem_same, none_same, isPlaceB]
  generalize mayB i.to = mt at *
  generalize mayB i.fr = mf at *
  generalize (i.to.k == 0) = T0 at *
  generalize (i.to.k == 1) = T1 at *
  generalize (i.to.k == 2) = T2 at *
  generalize (i.to.k == 3) = T3 at *
  generalize (i.fr.k == 0) = F0 at *
  generalize (i.fr.k == 1) = F1 at *
  generalize (i.fr.k == 2) = F2 at *
  generalize (i.fr.k == 3) = F3 at *
  generalize fitsB i.fr.n i.sz = g at *
  generalize fitsSB i.fr.n = s at *
  generalize (i.sz == 8) = e at *
  cases mt <;> cases mf <;> cases T1 <;> cases T3 <;> cases F1 <;> cases F2 <;> cases F3 <;> simp_all
theorem shape_xchg (i : I) : (rmB i.to && regB i.fr) = (mayB i.to && (mayB i.fr && storedB i.to i.fr)) := by
  obtain ⟨h12, h13, h23, h01, h02, h03, _, _⟩ := kinds i.fr.k
  obtain ⟨t12, t13, t23, t01, t02, t03, _, _⟩ := kinds i.to.k
  unfold storedB
  (try unfold bne)
  simp only [rm_same, reg_same, imm_same, mem_same, none_same, isPlaceB]
  generalize mayB i.to = mt at *
  generalize mayB i.fr = mf at *
  generalize (i.to.k == 0) = T0 at *
  generalize (i.to.k == 1) = T1 at *
  generalize (i.to.k == 2) = T2 at *
  generalize (i.to.k == 3) = T3 at *
  generalize (i.fr.k == 0) = F0 at *
  generalize (i.fr.k == 1) = F1 at *
  generalize (i.fr.k == 2) = F2 at *
  generalize (i.fr.k == 3) = F3 at *
  generalize fitsB i.fr.n i.sz = g at *
  generalize fitsSB i.fr.n = s at *
  generalize (i.sz == 8) = e at *
  cases mt <;> cases mf <;> cases T1 <;> cases T3 <;> cases F1 <;> cases F2 <;> cases F3 <;> simp_all
theorem shape_bare (i : I) : (noneB i.to && noneB i.fr) = (mayB i.to && (mayB i.fr && bareB i.to i.fr)) := by
  obtain ⟨h12, h13, h23, h01, h02, h03, _, _⟩ := kinds i.fr.k
  obtain ⟨t12, t13, t23, t01, t02, t03, _, _⟩ := kinds i.to.k
  unfold bareB
  (try unfold bne)
  simp only [rm_same, reg_same, imm_same, mem_same, none_same, isPlaceB]
  generalize mayB i.to = mt at *
  generalize mayB i.fr = mf at *
  generalize (i.to.k == 0) = T0 at *
  generalize (i.to.k == 1) = T1 at *
  generalize (i.to.k == 2) = T2 at *
  generalize (i.to.k == 3) = T3 at *
  generalize (i.fr.k == 0) = F0 at *
  generalize (i.fr.k == 1) = F1 at *
  generalize (i.fr.k == 2) = F2 at *
  generalize (i.fr.k == 3) = F3 at *
  generalize fitsB i.fr.n i.sz = g at *
  generalize fitsSB i.fr.n = s at *
  generalize (i.sz == 8) = e at *
  cases mt <;> cases mf <;> cases T1 <;> cases T3 <;> cases F1 <;> cases F2 <;> cases F3 <;> simp_all
theorem shape_sh (i : I) : shiftRB i = (mayB i.to && (mayB i.fr && shiftedB i.sz i.to i.fr)) := by
  unfold shiftRB shiftedB withinB mostV
  simp only [rm_same, reg_same, imm_same]
  cases mayB i.to <;> cases mayB i.fr <;> cases isPlaceB i.to <;> simp [Bool.and_assoc]


theorem size_same (k : Int) (h0 : 1 ≤ k) (h1 : k ≤ 35) (s : Int) : sizeOk (rowL k) s = sizeRB k s := by
  by_cases e : s = 0 ∨ s = 1 ∨ s = 4 ∨ s = 8
  · rcases op_cases h0 h1 with (rfl | rfl | rfl | rfl | rfl | rfl | rfl | rfl | rfl | rfl | rfl | rfl | rfl | rfl | rfl | rfl | rfl | rfl | rfl | rfl | rfl | rfl | rfl | rfl | rfl | rfl | rfl | rfl | rfl | rfl | rfl | rfl | rfl | rfl | rfl) <;> rcases e with rfl | rfl | rfl | rfl <;> decide +kernel
  · have hp : placeV s = -1 := by unfold placeV; rw [if_neg (by omega), if_neg (by omega), if_neg (by omega)]
    have e1 : sizeOk (rowL k) s = false := by unfold sizeOk; rw [if_neg (by omega), hp]; rfl
    have e2 : sizeRB k s = false := by
      have b0 : (s == 0) = false := by simp; omega
      have b1 : (s == 1) = false := by simp; omega
      have b4 : (s == 4) = false := by simp; omega
      have b8 : (s == 8) = false := by simp; omega
      unfold sizeRB; rw [b0, b1, b4, b8]; simp
    rw [e1, e2]
theorem rows_flags : ∀ k : Fin 35, (rowL (k.val + 1 : Nat)).conditional = (k.val == 23 || k.val == 26 || k.val == 27) ∧ (rowL (k.val + 1 : Nat)).short = (k.val == 22 || k.val == 23) := by decide +kernel
theorem row_flag (k : Int) (h0 : 1 ≤ k) (h1 : k ≤ 35) : (rowL k).conditional = decide (k = 24 ∨ k = 27 ∨ k = 28) ∧ (rowL k).short = decide (k = 23 ∨ k = 24) := by
  rcases op_cases h0 h1 with (rfl | rfl | rfl | rfl | rfl | rfl | rfl | rfl | rfl | rfl | rfl | rfl | rfl | rfl | rfl | rfl | rfl | rfl | rfl | rfl | rfl | rfl | rfl | rfl | rfl | rfl | rfl | rfl | rfl | rfl | rfl | rfl | rfl | rfl | rfl) <;> exact ⟨by decide +kernel, by decide +kernel⟩
theorem cond_same (k : Int) (h0 : 1 ≤ k) (h1 : k ≤ 35) (c : Int) : condOk (rowL k) c = condRB k c := by
  unfold condOk condRB
  rw [(row_flag k h0 h1).1]
  by_cases h : k = 24 ∨ k = 27 ∨ k = 28
  · rw [if_pos h, decide_eq_true h]; simp
  · rw [if_neg h, decide_eq_false h]
    by_cases e : c = 0
    · subst e; rfl
    · have : (c == 0) = false := by simpa using e
      rw [this]
      by_cases g : 0 ≤ c
      · rw [decide_eq_false (show ¬ c ≤ 0 by omega)]; simp
      · rw [decide_eq_false g]; simp
theorem has_same (k : Int) (h0 : 1 ≤ k) (h1 : k ≤ 35) (s c : Int) : hasB (rowL k) s c = (sizeRB k s && condRB k c) := by
  unfold hasB
  rw [(rows_ok _ (rowL_mem k h0 h1)).2.1, size_same k h0 h1, cond_same k h0 h1]
  cases sizeRB k s <;> cases condRB k c <;> rfl

theorem target_within (i : I) (h : (mayB i.to && i.to.k == 4) = true) (he : empB i.to.nm = false) : withinB i.to.n (-128) 127 = true := by
  rw [← target_same] at h
  unfold targetRB at h
  rw [he, if_neg (by simp)] at h
  simp only [Bool.and_eq_true, O.same, beq_iff_eq] at h
  have : i.to.n = 0 := h.2.2.2.2.2.2.2.2.1
  rw [this]; decide

theorem jump_same (i : I) (a b : Bool) (ha : (i.op != 22) = a) (hb : (i.op != 24) = b) (hab : a = true ∨ b = true) :
    (jumpsRB i && (!i.sh || a)) = (mayB i.to && (mayB i.fr && (((if b then calledB i.to i.fr else aimedB i.to i.fr)) && (!i.sh || ((a && i.to.k == 4) && withinB i.to.n (-128) 127))))) := by
  have hw := target_within i
  have t41 := (kinds i.to.k).2.2.2.2.2.2.1
  have t43 := (kinds i.to.k).2.2.2.2.2.2.2
  unfold jumpsRB calledB aimedB singleB
  rw [ha, hb]
  simp only [rm_same, none_same, target_same, isPlaceB]
  have hr : (decide (-128 ≤ i.to.n) && decide (i.to.n ≤ 127)) = withinB i.to.n (-128) 127 := rfl
  rw [hr]
  generalize withinB i.to.n (-128) 127 = W at *
  generalize empB i.to.nm = E at *
  generalize mayB i.to = mt at *
  generalize mayB i.fr = mf at *
  generalize (i.to.k == 4) = T4 at *
  generalize (i.to.k == 1) = T1 at *
  generalize (i.to.k == 3) = T3 at *
  generalize (i.fr.k == 0) = F0 at *
  generalize i.sh = s at *
  clear ha hb hr
  revert hw t41 t43 hab
  revert mt mf T4 T1 T3 F0 s a b E W
  decide +kernel

theorem join_same {H S C X mt mf TK RB sh : Bool} (h1 : H = (S && C)) (h2 : X = (mt && (mf && TK))) (h3 : RB = !sh) : (((S && C) && X) && (!sh || false)) = (H && (mt && (mf && (TK && RB)))) := by
  subst h1 h2 h3
  cases S <;> cases C <;> cases mt <;> cases mf <;> cases TK <;> cases sh <;> rfl
theorem join_jump {H S C X Y mt mf TK RB sh a : Bool} (h1 : H = (S && C)) (h2 : (X && (!sh || a)) = (mt && (mf && (TK && RB)))) : (((S && C) && X) && (!sh || a)) = (H && (mt && (mf && (TK && RB)))) := by
  rw [← h2, h1]
  cases S <;> cases C <;> cases X <;> cases sh <;> cases a <;> rfl

theorem check_same (i : I) : checkRB i = checkB i := by
  unfold checkRB checkB
  by_cases h : 1 ≤ i.op ∧ i.op ≤ 35
  · rw [if_pos h, if_pos h]
    have hh := has_same i.op h.1 h.2 i.sz i.cd
    have hf := row_flag i.op h.1 h.2
    rcases op_cases h.1 h.2 with (e | e | e | e | e | e | e | e | e | e | e | e | e | e | e | e | e | e | e | e | e | e | e | e | e | e | e | e | e | e | e | e | e | e | e)
    · have r : opnRB i = (sumRB i || ((i.sz == 8 && regB i.to) && immB i.fr)) := by unfold opnRB; rw [e]; rfl
      have q : (i.op == 23 || i.op == 24) = false := by rw [e]; rfl
      have d : takesB (rowL i.op).f i.sz i.to i.fr = movedB i.sz i.to i.fr := by rw [e]; rfl
      have s : reachB (rowL i.op) i = !i.sh := by unfold reachB; rw [hf.2, e]; simp
      rw [q, d]
      exact join_same hh (r.trans (shape_mov i)) s
    · have r : opnRB i = ((regB i.to && memRB i.fr) && !i.fr.fs) := by unfold opnRB; rw [e]; rfl
      have q : (i.op == 23 || i.op == 24) = false := by rw [e]; rfl
      have d : takesB (rowL i.op).f i.sz i.to i.fr = locatedB i.to i.fr := by rw [e]; rfl
      have s : reachB (rowL i.op) i = !i.sh := by unfold reachB; rw [hf.2, e]; simp
      rw [q, d]
      exact join_same hh (r.trans (shape_lea i)) s
    · have r : opnRB i = (sumRB i) := by unfold opnRB; rw [e]; rfl
      have q : (i.op == 23 || i.op == 24) = false := by rw [e]; rfl
      have d : takesB (rowL i.op).f i.sz i.to i.fr = combinedB i.sz i.to i.fr := by rw [e]; rfl
      have s : reachB (rowL i.op) i = !i.sh := by unfold reachB; rw [hf.2, e]; simp
      rw [q, d]
      exact join_same hh (r.trans (shape_sum i)) s
    · have r : opnRB i = (sumRB i) := by unfold opnRB; rw [e]; rfl
      have q : (i.op == 23 || i.op == 24) = false := by rw [e]; rfl
      have d : takesB (rowL i.op).f i.sz i.to i.fr = combinedB i.sz i.to i.fr := by rw [e]; rfl
      have s : reachB (rowL i.op) i = !i.sh := by unfold reachB; rw [hf.2, e]; simp
      rw [q, d]
      exact join_same hh (r.trans (shape_sum i)) s
    · have r : opnRB i = (sumRB i) := by unfold opnRB; rw [e]; rfl
      have q : (i.op == 23 || i.op == 24) = false := by rw [e]; rfl
      have d : takesB (rowL i.op).f i.sz i.to i.fr = combinedB i.sz i.to i.fr := by rw [e]; rfl
      have s : reachB (rowL i.op) i = !i.sh := by unfold reachB; rw [hf.2, e]; simp
      rw [q, d]
      exact join_same hh (r.trans (shape_sum i)) s
    · have r : opnRB i = (sumRB i) := by unfold opnRB; rw [e]; rfl
      have q : (i.op == 23 || i.op == 24) = false := by rw [e]; rfl
      have d : takesB (rowL i.op).f i.sz i.to i.fr = combinedB i.sz i.to i.fr := by rw [e]; rfl
      have s : reachB (rowL i.op) i = !i.sh := by unfold reachB; rw [hf.2, e]; simp
      rw [q, d]
      exact join_same hh (r.trans (shape_sum i)) s
    · have r : opnRB i = (sumRB i) := by unfold opnRB; rw [e]; rfl
      have q : (i.op == 23 || i.op == 24) = false := by rw [e]; rfl
      have d : takesB (rowL i.op).f i.sz i.to i.fr = combinedB i.sz i.to i.fr := by rw [e]; rfl
      have s : reachB (rowL i.op) i = !i.sh := by unfold reachB; rw [hf.2, e]; simp
      rw [q, d]
      exact join_same hh (r.trans (shape_sum i)) s
    · have r : opnRB i = (sumRB i) := by unfold opnRB; rw [e]; rfl
      have q : (i.op == 23 || i.op == 24) = false := by rw [e]; rfl
      have d : takesB (rowL i.op).f i.sz i.to i.fr = combinedB i.sz i.to i.fr := by rw [e]; rfl
      have s : reachB (rowL i.op) i = !i.sh := by unfold reachB; rw [hf.2, e]; simp
      rw [q, d]
      exact join_same hh (r.trans (shape_sum i)) s
    · have r : opnRB i = (sumRB i) := by unfold opnRB; rw [e]; rfl
      have q : (i.op == 23 || i.op == 24) = false := by rw [e]; rfl
      have d : takesB (rowL i.op).f i.sz i.to i.fr = combinedB i.sz i.to i.fr := by rw [e]; rfl
      have s : reachB (rowL i.op) i = !i.sh := by unfold reachB; rw [hf.2, e]; simp
      rw [q, d]
      exact join_same hh (r.trans (shape_sum i)) s
    · have r : opnRB i = (sumRB i) := by unfold opnRB; rw [e]; rfl
      have q : (i.op == 23 || i.op == 24) = false := by rw [e]; rfl
      have d : takesB (rowL i.op).f i.sz i.to i.fr = combinedB i.sz i.to i.fr := by rw [e]; rfl
      have s : reachB (rowL i.op) i = !i.sh := by unfold reachB; rw [hf.2, e]; simp
      rw [q, d]
      exact join_same hh (r.trans (shape_sum i)) s
    · have r : opnRB i = (sumRB i && i.fr.k != 3) := by unfold opnRB; rw [e]; rfl
      have q : (i.op == 23 || i.op == 24) = false := by rw [e]; rfl
      have d : takesB (rowL i.op).f i.sz i.to i.fr = testedB i.sz i.to i.fr := by rw [e]; rfl
      have s : reachB (rowL i.op) i = !i.sh := by unfold reachB; rw [hf.2, e]; simp
      rw [q, d]
      exact join_same hh (r.trans (shape_test i)) s
    · have r : opnRB i = (regB i.to && rmB i.fr) := by unfold opnRB; rw [e]; rfl
      have q : (i.op == 23 || i.op == 24) = false := by rw [e]; rfl
      have d : takesB (rowL i.op).f i.sz i.to i.fr = loadedB i.to i.fr := by rw [e]; rfl
      have s : reachB (rowL i.op) i = !i.sh := by unfold reachB; rw [hf.2, e]; simp
      rw [q, d]
      exact join_same hh (r.trans (shape_rr i)) s
    · have r : opnRB i = (rmB i.to && noneB i.fr) := by unfold opnRB; rw [e]; rfl
      have q : (i.op == 23 || i.op == 24) = false := by rw [e]; rfl
      have d : takesB (rowL i.op).f i.sz i.to i.fr = singleB i.to i.fr := by rw [e]; rfl
      have s : reachB (rowL i.op) i = !i.sh := by unfold reachB; rw [hf.2, e]; simp
      rw [q, d]
      exact join_same hh (r.trans (shape_rn i)) s
    · have r : opnRB i = (rmB i.to && noneB i.fr) := by unfold opnRB; rw [e]; rfl
      have q : (i.op == 23 || i.op == 24) = false := by rw [e]; rfl
      have d : takesB (rowL i.op).f i.sz i.to i.fr = singleB i.to i.fr := by rw [e]; rfl
      have s : reachB (rowL i.op) i = !i.sh := by unfold reachB; rw [hf.2, e]; simp
      rw [q, d]
      exact join_same hh (r.trans (shape_rn i)) s
    · have r : opnRB i = (rmB i.to && noneB i.fr) := by unfold opnRB; rw [e]; rfl
      have q : (i.op == 23 || i.op == 24) = false := by rw [e]; rfl
      have d : takesB (rowL i.op).f i.sz i.to i.fr = singleB i.to i.fr := by rw [e]; rfl
      have s : reachB (rowL i.op) i = !i.sh := by unfold reachB; rw [hf.2, e]; simp
      rw [q, d]
      exact join_same hh (r.trans (shape_rn i)) s
    · have r : opnRB i = (rmB i.to && noneB i.fr) := by unfold opnRB; rw [e]; rfl
      have q : (i.op == 23 || i.op == 24) = false := by rw [e]; rfl
      have d : takesB (rowL i.op).f i.sz i.to i.fr = singleB i.to i.fr := by rw [e]; rfl
      have s : reachB (rowL i.op) i = !i.sh := by unfold reachB; rw [hf.2, e]; simp
      rw [q, d]
      exact join_same hh (r.trans (shape_rn i)) s
    · have r : opnRB i = (shiftRB i) := by unfold opnRB; rw [e]; rfl
      have q : (i.op == 23 || i.op == 24) = false := by rw [e]; rfl
      have d : takesB (rowL i.op).f i.sz i.to i.fr = shiftedB i.sz i.to i.fr := by rw [e]; rfl
      have s : reachB (rowL i.op) i = !i.sh := by unfold reachB; rw [hf.2, e]; simp
      rw [q, d]
      exact join_same hh (r.trans (shape_sh i)) s
    · have r : opnRB i = (shiftRB i) := by unfold opnRB; rw [e]; rfl
      have q : (i.op == 23 || i.op == 24) = false := by rw [e]; rfl
      have d : takesB (rowL i.op).f i.sz i.to i.fr = shiftedB i.sz i.to i.fr := by rw [e]; rfl
      have s : reachB (rowL i.op) i = !i.sh := by unfold reachB; rw [hf.2, e]; simp
      rw [q, d]
      exact join_same hh (r.trans (shape_sh i)) s
    · have r : opnRB i = (shiftRB i) := by unfold opnRB; rw [e]; rfl
      have q : (i.op == 23 || i.op == 24) = false := by rw [e]; rfl
      have d : takesB (rowL i.op).f i.sz i.to i.fr = shiftedB i.sz i.to i.fr := by rw [e]; rfl
      have s : reachB (rowL i.op) i = !i.sh := by unfold reachB; rw [hf.2, e]; simp
      rw [q, d]
      exact join_same hh (r.trans (shape_sh i)) s
    · have r : opnRB i = (noneB i.to && (rmB i.fr || (immB i.fr && fitsSB i.fr.n))) := by unfold opnRB; rw [e]; rfl
      have q : (i.op == 23 || i.op == 24) = false := by rw [e]; rfl
      have d : takesB (rowL i.op).f i.sz i.to i.fr = pushedB i.to i.fr := by rw [e]; rfl
      have s : reachB (rowL i.op) i = !i.sh := by unfold reachB; rw [hf.2, e]; simp
      rw [q, d]
      exact join_same hh (r.trans (shape_push i)) s
    · have r : opnRB i = (rmB i.to && noneB i.fr) := by unfold opnRB; rw [e]; rfl
      have q : (i.op == 23 || i.op == 24) = false := by rw [e]; rfl
      have d : takesB (rowL i.op).f i.sz i.to i.fr = singleB i.to i.fr := by rw [e]; rfl
      have s : reachB (rowL i.op) i = !i.sh := by unfold reachB; rw [hf.2, e]; simp
      rw [q, d]
      exact join_same hh (r.trans (shape_rn i)) s
    · have r : opnRB i = jumpsRB i := by unfold opnRB; rw [e]; rfl
      have q : (i.op == 23 || i.op == 24) = false := by rw [e]; rfl
      have d : takesB (rowL i.op).f i.sz i.to i.fr = calledB i.to i.fr := by rw [e]; rfl
      have s : reachB (rowL i.op) i = (!i.sh || ((false && i.to.k == 4) && withinB i.to.n (-128) 127)) := by unfold reachB; rw [hf.2, e]; rfl
      rw [r, q, d, s]
      exact join_jump (Y := true) hh (jump_same i false true (by rw [e]; rfl) (by rw [e]; rfl) (by simp))
    · have r : opnRB i = jumpsRB i := by unfold opnRB; rw [e]; rfl
      have q : (i.op == 23 || i.op == 24) = true := by rw [e]; rfl
      have d : takesB (rowL i.op).f i.sz i.to i.fr = calledB i.to i.fr := by rw [e]; rfl
      have s : reachB (rowL i.op) i = (!i.sh || ((true && i.to.k == 4) && withinB i.to.n (-128) 127)) := by unfold reachB; rw [hf.2, e]; rfl
      rw [r, q, d, s]
      exact join_jump (Y := true) hh (jump_same i true true (by rw [e]; rfl) (by rw [e]; rfl) (by simp))
    · have r : opnRB i = jumpsRB i := by unfold opnRB; rw [e]; rfl
      have q : (i.op == 23 || i.op == 24) = true := by rw [e]; rfl
      have d : takesB (rowL i.op).f i.sz i.to i.fr = aimedB i.to i.fr := by rw [e]; rfl
      have s : reachB (rowL i.op) i = (!i.sh || ((true && i.to.k == 4) && withinB i.to.n (-128) 127)) := by unfold reachB; rw [hf.2, e]; rfl
      rw [r, q, d, s]
      exact join_jump (Y := true) hh (jump_same i true false (by rw [e]; rfl) (by rw [e]; rfl) (by simp))
    · have r : opnRB i = (noneB i.to && noneB i.fr) := by unfold opnRB; rw [e]; rfl
      have q : (i.op == 23 || i.op == 24) = false := by rw [e]; rfl
      have d : takesB (rowL i.op).f i.sz i.to i.fr = bareB i.to i.fr := by rw [e]; rfl
      have s : reachB (rowL i.op) i = !i.sh := by unfold reachB; rw [hf.2, e]; simp
      rw [q, d]
      exact join_same hh (r.trans (shape_bare i)) s
    · have r : opnRB i = (noneB i.to && noneB i.fr) := by unfold opnRB; rw [e]; rfl
      have q : (i.op == 23 || i.op == 24) = false := by rw [e]; rfl
      have d : takesB (rowL i.op).f i.sz i.to i.fr = bareB i.to i.fr := by rw [e]; rfl
      have s : reachB (rowL i.op) i = !i.sh := by unfold reachB; rw [hf.2, e]; simp
      rw [q, d]
      exact join_same hh (r.trans (shape_bare i)) s
    · have r : opnRB i = (rmB i.to && noneB i.fr) := by unfold opnRB; rw [e]; rfl
      have q : (i.op == 23 || i.op == 24) = false := by rw [e]; rfl
      have d : takesB (rowL i.op).f i.sz i.to i.fr = singleB i.to i.fr := by rw [e]; rfl
      have s : reachB (rowL i.op) i = !i.sh := by unfold reachB; rw [hf.2, e]; simp
      rw [q, d]
      exact join_same hh (r.trans (shape_rn i)) s
    · have r : opnRB i = (regB i.to && rmB i.fr) := by unfold opnRB; rw [e]; rfl
      have q : (i.op == 23 || i.op == 24) = false := by rw [e]; rfl
      have d : takesB (rowL i.op).f i.sz i.to i.fr = loadedB i.to i.fr := by rw [e]; rfl
      have s : reachB (rowL i.op) i = !i.sh := by unfold reachB; rw [hf.2, e]; simp
      rw [q, d]
      exact join_same hh (r.trans (shape_rr i)) s
    · have r : opnRB i = (regB i.to && rmB i.fr) := by unfold opnRB; rw [e]; rfl
      have q : (i.op == 23 || i.op == 24) = false := by rw [e]; rfl
      have d : takesB (rowL i.op).f i.sz i.to i.fr = loadedB i.to i.fr := by rw [e]; rfl
      have s : reachB (rowL i.op) i = !i.sh := by unfold reachB; rw [hf.2, e]; simp
      rw [q, d]
      exact join_same hh (r.trans (shape_rr i)) s
    · have r : opnRB i = (regB i.to && rmB i.fr) := by unfold opnRB; rw [e]; rfl
      have q : (i.op == 23 || i.op == 24) = false := by rw [e]; rfl
      have d : takesB (rowL i.op).f i.sz i.to i.fr = loadedB i.to i.fr := by rw [e]; rfl
      have s : reachB (rowL i.op) i = !i.sh := by unfold reachB; rw [hf.2, e]; simp
      rw [q, d]
      exact join_same hh (r.trans (shape_rr i)) s
    · have r : opnRB i = (rmB i.to && regB i.fr) := by unfold opnRB; rw [e]; rfl
      have q : (i.op == 23 || i.op == 24) = false := by rw [e]; rfl
      have d : takesB (rowL i.op).f i.sz i.to i.fr = storedB i.to i.fr := by rw [e]; rfl
      have s : reachB (rowL i.op) i = !i.sh := by unfold reachB; rw [hf.2, e]; simp
      rw [q, d]
      exact join_same hh (r.trans (shape_xchg i)) s
    · have r : opnRB i = (noneB i.to && noneB i.fr) := by unfold opnRB; rw [e]; rfl
      have q : (i.op == 23 || i.op == 24) = false := by rw [e]; rfl
      have d : takesB (rowL i.op).f i.sz i.to i.fr = bareB i.to i.fr := by rw [e]; rfl
      have s : reachB (rowL i.op) i = !i.sh := by unfold reachB; rw [hf.2, e]; simp
      rw [q, d]
      exact join_same hh (r.trans (shape_bare i)) s
    · have r : opnRB i = (noneB i.to && noneB i.fr) := by unfold opnRB; rw [e]; rfl
      have q : (i.op == 23 || i.op == 24) = false := by rw [e]; rfl
      have d : takesB (rowL i.op).f i.sz i.to i.fr = bareB i.to i.fr := by rw [e]; rfl
      have s : reachB (rowL i.op) i = !i.sh := by unfold reachB; rw [hf.2, e]; simp
      rw [q, d]
      exact join_same hh (r.trans (shape_bare i)) s
    · have r : opnRB i = (noneB i.to && noneB i.fr) := by unfold opnRB; rw [e]; rfl
      have q : (i.op == 23 || i.op == 24) = false := by rw [e]; rfl
      have d : takesB (rowL i.op).f i.sz i.to i.fr = bareB i.to i.fr := by rw [e]; rfl
      have s : reachB (rowL i.op) i = !i.sh := by unfold reachB; rw [hf.2, e]; simp
      rw [q, d]
      exact join_same hh (r.trans (shape_bare i)) s
    · have r : opnRB i = (noneB i.to && noneB i.fr) := by unfold opnRB; rw [e]; rfl
      have q : (i.op == 23 || i.op == 24) = false := by rw [e]; rfl
      have d : takesB (rowL i.op).f i.sz i.to i.fr = bareB i.to i.fr := by rw [e]; rfl
      have s : reachB (rowL i.op) i = !i.sh := by unfold reachB; rw [hf.2, e]; simp
      rw [q, d]
      exact join_same hh (r.trans (shape_bare i)) s
  · rw [if_neg h, if_neg h]
end Go.Proofs.YtdgejingoamfeaaDoor
