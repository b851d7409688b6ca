/- The document's operands and Check. -/
import Derived.Test.YtdgejingoamfeaaDoorRefOpnA
import Derived.Test.YtdgejingoamfeaaDoorRefOpnB
import Derived.Test.YtdgejingoamfeaaDoorRefSize
import Derived.Test.YtdgejingoamfeaaDoorCheck
namespace Go.Proofs.YtdgejingoamfeaaDoor
open Go.ChangeShapes Go.WideShapes Go.ChangeAt Go.RowKit
set_option linter.unusedVariables false
set_option linter.unusedSimpArgs false

/-- May the operands be? -/
def opnRB (i : I) : Bool :=
  if i.op = 1 then sumRB i || ((i.sz == 8 && regB i.to) && immB i.fr) else
  if i.op = 2 then (regB i.to && memRB i.fr) && !i.fr.fs else
  if i.op = 3 then sumRB i else
  if i.op = 4 then sumRB i else
  if i.op = 5 then sumRB i else
  if i.op = 6 then sumRB i else
  if i.op = 7 then sumRB i else
  if i.op = 8 then sumRB i else
  if i.op = 9 then sumRB i else
  if i.op = 10 then sumRB i else
  if i.op = 11 then sumRB i && i.fr.k != 3 else
  if i.op = 12 then regB i.to && rmB i.fr else
  if i.op = 13 then rmB i.to && noneB i.fr else
  if i.op = 14 then rmB i.to && noneB i.fr else
  if i.op = 15 then rmB i.to && noneB i.fr else
  if i.op = 16 then rmB i.to && noneB i.fr else
  if i.op = 17 then shiftRB i else
  if i.op = 18 then shiftRB i else
  if i.op = 19 then shiftRB i else
  if i.op = 20 then noneB i.to && (rmB i.fr || (immB i.fr && fitsSB i.fr.n)) else
  if i.op = 21 then rmB i.to && noneB i.fr else
  if i.op = 22 then jumpsRB i else
  if i.op = 23 then jumpsRB i else
  if i.op = 24 then jumpsRB i else
  if i.op = 25 then noneB i.to && noneB i.fr else
  if i.op = 26 then noneB i.to && noneB i.fr else
  if i.op = 27 then rmB i.to && noneB i.fr else
  if i.op = 28 then regB i.to && rmB i.fr else
  if i.op = 29 then regB i.to && rmB i.fr else
  if i.op = 30 then regB i.to && rmB i.fr else
  if i.op = 31 then rmB i.to && regB i.fr else
  if i.op = 32 then noneB i.to && noneB i.fr else
  if i.op = 33 then noneB i.to && noneB i.fr else
  if i.op = 34 then noneB i.to && noneB i.fr else
  noneB i.to && noneB i.fr

theorem refOpn_any (i : I) (w : World) (h : NB i) (h0 : 1 ≤ i.op) (h1 : i.op ≤ 35) :
    Calls Tryd.prog 37 #[i.val] w fun e w' => e = .returned (.bool (opnRB i)) ∧ Below w.heap.size w w' := by
  rcases op_cases h0 h1 with e | e | e | e | e | e | e | e | e | e | e | e | e | e | e | e | e | e | e | e | e | e | e | e | e | e | e | e | e | e | e | e | e | e | e
  · have r : opnRB i = (sumRB i || ((i.sz == 8 && regB i.to) && immB i.fr)) := by unfold opnRB; rw [e]; rfl
    rw [r]; exact opn_1 i w h e
  · have r : opnRB i = ((regB i.to && memRB i.fr) && !i.fr.fs) := by unfold opnRB; rw [e]; rfl
    rw [r]; exact opn_2 i w h e
  · have r : opnRB i = (sumRB i) := by unfold opnRB; rw [e]; rfl
    rw [r]; exact opn_3 i w h e
  · have r : opnRB i = (sumRB i) := by unfold opnRB; rw [e]; rfl
    rw [r]; exact opn_4 i w h e
  · have r : opnRB i = (sumRB i) := by unfold opnRB; rw [e]; rfl
    rw [r]; exact opn_5 i w h e
  · have r : opnRB i = (sumRB i) := by unfold opnRB; rw [e]; rfl
    rw [r]; exact opn_6 i w h e
  · have r : opnRB i = (sumRB i) := by unfold opnRB; rw [e]; rfl
    rw [r]; exact opn_7 i w h e
  · have r : opnRB i = (sumRB i) := by unfold opnRB; rw [e]; rfl
    rw [r]; exact opn_8 i w h e
  · have r : opnRB i = (sumRB i) := by unfold opnRB; rw [e]; rfl
    rw [r]; exact opn_9 i w h e
  · have r : opnRB i = (sumRB i) := by unfold opnRB; rw [e]; rfl
    rw [r]; exact opn_10 i w h e
  · have r : opnRB i = (sumRB i && i.fr.k != 3) := by unfold opnRB; rw [e]; rfl
    rw [r]; exact opn_11 i w h e
  · have r : opnRB i = (regB i.to && rmB i.fr) := by unfold opnRB; rw [e]; rfl
    rw [r]; exact opn_12 i w h e
  · have r : opnRB i = (rmB i.to && noneB i.fr) := by unfold opnRB; rw [e]; rfl
    rw [r]; exact opn_13 i w h e
  · have r : opnRB i = (rmB i.to && noneB i.fr) := by unfold opnRB; rw [e]; rfl
    rw [r]; exact opn_14 i w h e
  · have r : opnRB i = (rmB i.to && noneB i.fr) := by unfold opnRB; rw [e]; rfl
    rw [r]; exact opn_15 i w h e
  · have r : opnRB i = (rmB i.to && noneB i.fr) := by unfold opnRB; rw [e]; rfl
    rw [r]; exact opn_16 i w h e
  · have r : opnRB i = (shiftRB i) := by unfold opnRB; rw [e]; rfl
    rw [r]; exact opn_17 i w h e
  · have r : opnRB i = (shiftRB i) := by unfold opnRB; rw [e]; rfl
    rw [r]; exact opn_18 i w h e
  · have r : opnRB i = (shiftRB i) := by unfold opnRB; rw [e]; rfl
    rw [r]; exact opn_19 i w h e
  · have r : opnRB i = (noneB i.to && (rmB i.fr || (immB i.fr && fitsSB i.fr.n))) := by unfold opnRB; rw [e]; rfl
    rw [r]; exact opn_20 i w h e
  · have r : opnRB i = (rmB i.to && noneB i.fr) := by unfold opnRB; rw [e]; rfl
    rw [r]; exact opn_21 i w h e
  · have r : opnRB i = (jumpsRB i) := by unfold opnRB; rw [e]; rfl
    rw [r]; exact opn_22 i w h e
  · have r : opnRB i = (jumpsRB i) := by unfold opnRB; rw [e]; rfl
    rw [r]; exact opn_23 i w h e
  · have r : opnRB i = (jumpsRB i) := by unfold opnRB; rw [e]; rfl
    rw [r]; exact opn_24 i w h e
  · have r : opnRB i = (noneB i.to && noneB i.fr) := by unfold opnRB; rw [e]; rfl
    rw [r]; exact opn_25 i w h e
  · have r : opnRB i = (noneB i.to && noneB i.fr) := by unfold opnRB; rw [e]; rfl
    rw [r]; exact opn_26 i w h e
  · have r : opnRB i = (rmB i.to && noneB i.fr) := by unfold opnRB; rw [e]; rfl
    rw [r]; exact opn_27 i w h e
  · have r : opnRB i = (regB i.to && rmB i.fr) := by unfold opnRB; rw [e]; rfl
    rw [r]; exact opn_28 i w h e
  · have r : opnRB i = (regB i.to && rmB i.fr) := by unfold opnRB; rw [e]; rfl
    rw [r]; exact opn_29 i w h e
  · have r : opnRB i = (regB i.to && rmB i.fr) := by unfold opnRB; rw [e]; rfl
    rw [r]; exact opn_30 i w h e
  · have r : opnRB i = (rmB i.to && regB i.fr) := by unfold opnRB; rw [e]; rfl
    rw [r]; exact opn_31 i w h e
  · have r : opnRB i = (noneB i.to && noneB i.fr) := by unfold opnRB; rw [e]; rfl
    rw [r]; exact opn_32 i w h e
  · have r : opnRB i = (noneB i.to && noneB i.fr) := by unfold opnRB; rw [e]; rfl
    rw [r]; exact opn_33 i w h e
  · have r : opnRB i = (noneB i.to && noneB i.fr) := by unfold opnRB; rw [e]; rfl
    rw [r]; exact opn_34 i w h e
  · have r : opnRB i = (noneB i.to && noneB i.fr) := by unfold opnRB; rw [e]; rfl
    rw [r]; exact opn_35 i w h e

def checkRB (i : I) : Bool :=
  if 1 ≤ i.op ∧ i.op ≤ 35 then ((sizeRB i.op i.sz && condRB i.op i.cd) && opnRB i) && (!i.sh || (i.op == 23 || i.op == 24)) else false

set_option maxHeartbeats 4000000 in
theorem refCheck_yes (i : I) (w : World) (h : NB i) (h0 : 1 ≤ i.op) (h1 : i.op ≤ 35) :
    Calls Tryd.prog 13 #[i.val] w fun e w' => e = .returned (.int .i64 (errV (((sizeRB i.op i.sz && condRB i.op i.cd) && opnRB i) && (!i.sh || (i.op == 23 || i.op == 24))))) ∧ Below w.heap.size w w' := by
  have C1 : Hid (∀ v, Calls Tryd.prog 35 #[.int .i64 i.op, .int .i64 i.sz] v fun e w' => e = .returned (.bool (sizeRB i.op i.sz)) ∧ w' = v) := ⟨fun v => refSize_any _ _ v h0 h1⟩
  have C2 : Hid (∀ v, Calls Tryd.prog 36 #[.int .i64 i.op, .int .i64 i.cd] v fun e w' => e = .returned (.bool (condRB i.op i.cd)) ∧ w' = v) := ⟨fun v => refCond_any _ _ v⟩
  have C3 : Hid (∀ v, Calls Tryd.prog 37 #[.agg #[.int .i64 i.op, .int .i64 i.sz, .int .i64 i.cd, .int .i64 i.to.k, .int .i64 i.to.r, .int .i64 i.to.b, .int .i64 i.to.x, .int .i64 i.to.s, .bool i.to.rip, .bool i.to.fs, .int .i64 i.to.n, .string i.to.nm, .int .i64 i.to.m, .int .i64 i.fr.k, .int .i64 i.fr.r, .int .i64 i.fr.b, .int .i64 i.fr.x, .int .i64 i.fr.s, .bool i.fr.rip, .bool i.fr.fs, .int .i64 i.fr.n, .string i.fr.nm, .int .i64 i.fr.m, .bool i.sh]] v fun e w' => e = .returned (.bool (opnRB i)) ∧ Below v.heap.size v w') := ⟨fun v => refOpn_any i v h h0 h1⟩
  have L0 : Hid (∀ v, IA v w.heap.size i → (loadVar 25 ⟨w.heap.size, 0, none⟩).run Tryd.prog v = .ok (.agg #[.int .i64 i.op, .int .i64 i.sz, .int .i64 i.cd, .int .i64 i.to.k, .int .i64 i.to.r, .int .i64 i.to.b, .int .i64 i.to.x, .int .i64 i.to.s, .bool i.to.rip, .bool i.to.fs, .int .i64 i.to.n, .string i.to.nm, .int .i64 i.to.m, .int .i64 i.fr.k, .int .i64 i.fr.r, .int .i64 i.fr.b, .int .i64 i.fr.x, .int .i64 i.fr.s, .bool i.fr.rip, .bool i.fr.fs, .int .i64 i.fr.n, .string i.fr.nm, .int .i64 i.fr.m, .bool i.sh]) v) := ⟨fun v h => h.whole⟩
  generalize sizeRB i.op i.sz = a at *
  generalize condRB i.op i.cd = b at *
  generalize opnRB i = c at *
  obtain ⟨s, HS⟩ : ∃ x, Hid (i.sh = x) := ⟨_, ⟨rfl⟩⟩
  obtain ⟨m, hm'⟩ : ∃ x, (i.op != 23) = x := ⟨_, rfl⟩
  obtain ⟨k, hk'⟩ : ∃ x, (i.op != 24) = x := ⟨_, rfl⟩
  have hm : (i.op == 23) = !m := by rw [← hm']; unfold bne; simp
  have hk : (i.op == 24) = !k := by rw [← hk']; unfold bne; simp
  rw [HS.out, hm, hk]
  unfold I.val
  clear h h0 h1 hm hk
  rcases a with _ | _
  · go_enter Tryd.func13, Tryd.ntmps13
    go_wp2_with (first
      | (go_at_call 35; refine (C1.out _).mono ?_; rintro e wy ⟨rfl, hwy⟩; subst wy)
      | (go_at_call 36; refine (C2.out _).mono ?_; rintro e wy ⟨rfl, hwy⟩; subst wy))
    go_ret
    exact ⟨rfl, bel_alloc (Below.refl _ _) _⟩
  rcases b with _ | _
  · go_enter Tryd.func13, Tryd.ntmps13
    go_wp2_with (first
      | (go_at_call 35; refine (C1.out _).mono ?_; rintro e wy ⟨rfl, hwy⟩; subst wy)
      | (go_at_call 36; refine (C2.out _).mono ?_; rintro e wy ⟨rfl, hwy⟩; subst wy))
    go_ret
    exact ⟨rfl, bel_alloc (Below.refl _ _) _⟩
  rcases c with _ | _
  case' true => rcases s with _ | _
  case' true.true => rcases m with _ | _
  case' true.true.true => rcases k with _ | _
  all_goals
    have AX : True := trivial
    have tl : True := trivial
    go_enter Tryd.func13, Tryd.ntmps13
    go_wp2_with (first
      | (clear tl; refine wpList_load_of (t := 25) rfl (by kernel_rfl) (by kernel_rfl) (L0.out _ (IA.new w i 25)) ?_)
      | (go_at_call 35; refine (C1.out _).mono ?_; rintro e wy ⟨rfl, hwy⟩; subst wy)
      | (go_at_call 36; refine (C2.out _).mono ?_; rintro e wy ⟨rfl, hwy⟩; subst wy)
      | (go_at_call 37; refine (C3.out _).mono ?_; rintro e wx ⟨rfl, hbx⟩; (first | (have AY : Hid (IA wx w.heap.size i ∧ Below w.heap.size w wx) := ⟨AX.out.1.bel hbx, bel_trans AX.out.2 hbx⟩) | (have AY : Hid (IA wx w.heap.size i ∧ Below w.heap.size w wx) := ⟨(IA.new w i 25).bel hbx, bel_trans (bel_alloc (Below.refl _ _) _) hbx⟩)); clear hbx; (try clear p0 p1 p2 p3 p4 p5 p6 p7 p8 p9 p10 p11 p12 p13 p14 p15 p16 p17 p18 p19 p20 p21 p22 p23); (try clear AX); have AX := AY; clear AY; obtain ⟨p0, p1, p2, p3, p4, p5, p6, p7, p8, p9, p10, p11, p12, p13, p14, p15, p16, p17, p18, p19, p20, p21, p22, p23⟩ := AX.out.1; rw [HS.out] at p23))
    go_ret
    exact ⟨rfl, AX.out.2⟩

set_option maxHeartbeats 1000000 in
theorem refCheck_no (i : I) (w : World) (h : ¬ (1 ≤ i.op ∧ i.op ≤ 35)) :
    Calls Tryd.prog 13 #[i.val] w fun e w' => e = .returned (.int .i64 30) ∧ Below w.heap.size w w' := by
  have C1 : Hid (∀ v, Calls Tryd.prog 35 #[.int .i64 i.op, .int .i64 i.sz] v fun e w' => e = .returned (.bool false) ∧ w' = v) := ⟨fun v => refSize_no _ _ v h⟩
  unfold I.val
  clear h
  go_enter Tryd.func13, Tryd.ntmps13
  go_wp2_with (go_at_call 35; refine (C1.out _).mono ?_; rintro e wy ⟨rfl, hwy⟩; subst wy)
  go_ret
  exact ⟨rfl, bel_alloc (Below.refl _ _) _⟩

theorem refCheck_any (i : I) (w : World) (h : NB i) :
    Calls Tryd.prog 13 #[i.val] w fun e w' => e = .returned (.int .i64 (errV (checkRB i))) ∧ Below w.heap.size w w' := by
  unfold checkRB
  by_cases e : 1 ≤ i.op ∧ i.op ≤ 35
  · rw [if_pos e]; exact refCheck_yes i w h e.1 e.2
  · rw [if_neg e]; exact refCheck_no i w e
end Go.Proofs.YtdgejingoamfeaaDoor
