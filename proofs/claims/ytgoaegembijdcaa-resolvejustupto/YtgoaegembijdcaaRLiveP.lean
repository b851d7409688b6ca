/- What All says of the law's Two, plainly. -/
import Derived.Test.YtgoaegembijdcaaRTwo
namespace Go.Proofs.Ytgoaegembijdcaa
open Go.ChangeShapes Go.WideShapes Go.ChangeAt Go.RowKit Go.Maps
set_option linter.unusedVariables false
set_option linter.unusedSimpArgs false

def nF : ByteArray := ⟨#[102]⟩
def nT : ByteArray := ⟨#[46, 116, 101, 120, 116]⟩
def us2 : Us := ⟨⟨nF, 1, 0, 1, 2⟩, true, 1, true, false, true⟩
def us1 : Us := ⟨En.zero, false, 0, true, false, false⟩
def sh1 : Sh := ⟨1, 6, true, false⟩
theorem emp_e : empB ⟨#[]⟩ = true := by unfold empB; rw [ByteArray.toList_eq]; rfl
theorem emp_t : empB nT = false := by unfold empB; rw [ByteArray.toList_eq]; rfl
theorem occ2 (B : Nat) : occ [fl1 B, fl2 B] = [⟨0, 0, sy1⟩, ⟨1, 0, sy2⟩] := rfl
theorem occ1 (B : Nat) : occ [fl1 B] = [⟨0, 0, sy1⟩] := rfl
theorem w1 (u : Us) (o k : Int) : withU u sy1 o k = { u with wa := true, tl := u.tl || false, ot := u.ot || false } := by
  unfold withU
  rw [show empB sy1.sc = true from emp_e]
  simp [sy1]
theorem w2 (u : Us) (o k : Int) : withU u sy2 o k = { defU u ⟨nF, o, k, 1, 2⟩ with tl := (defU u ⟨nF, o, k, 1, 2⟩).tl || false, ot := (defU u ⟨nF, o, k, 1, 2⟩).ot || true } := by
  unfold withU
  rw [show empB sy2.sc = false from emp_t]
  simp [sy2, nF]
theorem rows_one {α : Type} (n0 : ByteArray) (v0 : α) (m : ByteArray → Option α) (h : ∀ n, m n = if n = n0 then some v0 else none) : RowsOf [(n0, v0)] m := by
  refine ⟨List.pairwise_singleton _ _, fun n v => ?_⟩
  rw [h n]
  by_cases e : n = n0
  · subst e; simp; exact eq_comm
  · simp [e]
theorem nmB_comm (a b : ByteArray) : nmB a b = decide (b = a) := by
  unfold nmB
  by_cases h : a = b
  · subst h; rfl
  · rw [decide_eq_false h, decide_eq_false (fun e => h e.symm)]
theorem cnt1 (n : ByteArray) (o k : Nat) : cnt n ⟨o, k, sy1⟩ = decide (n = nF) := by
  show (true && nmB nF n) = _
  rw [nmB_comm]; rfl
theorem cnt2 (n : ByteArray) (o k : Nat) : cnt n ⟨o, k, sy2⟩ = decide (n = nF) := by
  show (true && nmB nF n) = _
  rw [nmB_comm]; rfl
theorem mU2 (B : Nat) : RowsOf [(nF, us2)] (mU (occ [fl1 B, fl2 B])) := by
  refine rows_one _ _ _ fun n => ?_
  rw [occ2]
  unfold mU useOf
  simp only [List.any_cons, List.any_nil, List.filter_cons, List.filter_nil, cnt1, cnt2]
  by_cases e : n = nF
  · simp [e, w1, w2, us2, defU, Us.zero, wrap64]
  · simp [e]
theorem mU1 (B : Nat) : RowsOf [(nF, us1)] (mU (occ [fl1 B])) := by
  refine rows_one _ _ _ fun n => ?_
  rw [occ1]
  unfold mU useOf
  simp only [List.any_cons, List.any_nil, List.filter_cons, List.filter_nil, cnt1]
  by_cases e : n = nF
  · simp [e, w1, us1, Us.zero]
  · simp [e]
theorem secN1 (n : ByteArray) (B : Nat) : secN n (txt B) = decide (n = nT) := by
  show nmB nT n = _
  rw [nmB_comm]
theorem mS2 (B : Nat) : RowsOf [(nT, sh1)] (mS ([fl1 B, fl2 B].flatMap (·.secs))) := by
  refine rows_one _ _ _ fun n => ?_
  show mS [txt B, txt B] n = _
  unfold mS shOf
  simp only [List.any_cons, List.any_nil, List.filter_cons, List.filter_nil, secN1]
  by_cases e : n = nT
  · simp [e, withS, sh1, Sh.zero, txt]
  · simp [e]
theorem mS1 (B : Nat) : RowsOf [(nT, sh1)] (mS ([fl1 B].flatMap (·.secs))) := by
  refine rows_one _ _ _ fun n => ?_
  show mS [txt B] n = _
  unfold mS shOf
  simp only [List.any_cons, List.any_nil, List.filter_cons, List.filter_nil, secN1]
  by_cases e : n = nT
  · simp [e, withS, sh1, Sh.zero, txt]
  · simp [e]
theorem flt2 (B : Nat) : faultsL [fl1 B, fl2 B] = [] := by
  unfold faultsL rowsU rowsS
  rw [rws_eq (mU2 B), rws_eq (mS2 B)]
  rfl
theorem flt1 (B : Nat) : faultsL [fl1 B] = [⟨181, nF⟩] := by
  unfold faultsL rowsU rowsS
  rw [rws_eq (mU1 B), rws_eq (mS1 B)]
  rfl
theorem ent2 (B : Nat) : entsL [fl1 B, fl2 B] = [⟨nF, 1, 0, 1, 2⟩] := by
  unfold entsL rowsU
  rw [rws_eq (mU2 B)]
  rfl
theorem flB1 (B : Nat) : FlB (fl1 B) := ⟨Nat.le_of_ble_eq_true rfl, Nat.le_of_ble_eq_true rfl, fun s hs => by simp [fl1] at hs; subst hs; exact Nat.le_of_ble_eq_true rfl, fun s hs => by simp [fl1] at hs; subst hs; exact ⟨Nat.le_of_ble_eq_true rfl, Nat.le_of_ble_eq_true rfl⟩⟩
theorem flB2 (B : Nat) : FlB (fl2 B) := ⟨Nat.le_of_ble_eq_true rfl, Nat.le_of_ble_eq_true rfl, fun s hs => by simp [fl2] at hs; subst hs; exact Nat.le_of_ble_eq_true rfl, fun s hs => by simp [fl2] at hs; subst hs; exact ⟨Nat.le_of_ble_eq_true rfl, Nat.le_of_ble_eq_true rfl⟩⟩
theorem flsB2 (B : Nat) : FlsB [fl1 B, fl2 B] := ⟨Nat.le_of_ble_eq_true rfl, fun f hf => by simp at hf; rcases hf with rfl | rfl; exact flB1 B; exact flB2 B, ⟨Nat.le_of_ble_eq_true rfl, Nat.le_of_ble_eq_true rfl⟩⟩
theorem flsB1 (B : Nat) : FlsB [fl1 B] := ⟨Nat.le_of_ble_eq_true rfl, fun f hf => by simp at hf; subst hf; exact flB1 B, ⟨Nat.le_of_ble_eq_true rfl, Nat.le_of_ble_eq_true rfl⟩⟩
theorem chk_1 (B : Nat) : checkE (fl1 B).syms ((fl1 B).secs.map (·.nm)) = 0 := by
  show checkE [sy1] [nT] = 0
  kernel_rfl
theorem chk_2 (B : Nat) : checkE (fl2 B).syms ((fl2 B).secs.map (·.nm)) = 0 := by
  show checkE [sy2] [nT] = 0
  kernel_rfl
theorem rig_1 (B : Nat) : rightF (fl1 B) = true := by kernel_rfl
theorem rig_2 (B : Nat) : rightF (fl2 B) = true := by kernel_rfl
theorem err_1 (B : Nat) : errF (fl1 B) = 0 := by unfold errF; rw [chk_1, rig_1]; rfl
theorem err_2 (B : Nat) : errF (fl2 B) = 0 := by unfold errF; rw [chk_2, rig_2]; rfl
theorem chkL2 (B : Nat) : checkL [fl1 B, fl2 B] = 0 := by
  unfold checkL
  rw [if_neg (by simp)]
  simp [errL, err_1, err_2]
theorem chkL1 (B : Nat) : checkL [fl1 B] = 0 := by
  unfold checkL
  rw [if_neg (by simp)]
  simp [errL, err_1]
theorem allT2 (B : Nat) : AllT [fl1 B, fl2 B] = [⟨nF, 1, 0, 1, 2⟩] := by unfold AllT; rw [chkL2, flt2, ent2]; rfl
theorem allF2 (B : Nat) : AllF [fl1 B, fl2 B] = ⟨0, ByteArray.empty⟩ := by unfold AllF; rw [chkL2, flt2]; rfl
theorem allF1 (B : Nat) : AllF [fl1 B] = ⟨181, nF⟩ := by unfold AllF; rw [chkL1, flt1]; rfl
end Go.Proofs.Ytgoaegembijdcaa
