/- The errors of reading: the bytes end, or there is no such instruction. -/
import Derived.Test.YtbcfcbnlfbhgjaaDTop
namespace Go.Proofs.Ytbcfcbnlfbhgjaa
open Go.ChangeShapes Go.WideShapes Go.ChangeAt Go.RowKit
set_option linter.unusedVariables false
set_option linter.unusedSimpArgs false

/-- An error is 20 or 30. -/
def E23 {α : Type} (x : Except Int α) : Prop := ∀ n, x = .error n → n = 20 ∨ n = 30
theorem E23.ok {α : Type} (x : α) : E23 (.ok x : Except Int α) := fun n h => by cases h
theorem E23.e20 {α : Type} : E23 (.error 20 : Except Int α) := fun n h => by cases h; exact .inl rfl
theorem E23.e30 {α : Type} : E23 (.error 30 : Except Int α) := fun n h => by cases h; exact .inr rfl
theorem E23.bind {α β : Type} {x : Except Int α} {f : α → Except Int β} (hx : E23 x) (hf : ∀ y, E23 (f y)) : E23 (x >>= f) := fun n h => by
  cases x with
  | error m => cases h; exact hx _ rfl
  | ok y => exact hf y n h
theorem E23.must {α : Type} {b : Bool} {x : Except Int α} (hx : E23 x) : E23 (must b x) := fun n h => by
  cases b
  · cases h; exact .inr rfl
  · exact hx n h
theorem E23.ite {α : Type} {c : Prop} [Decidable c] {x y : Except Int α} (hx : E23 x) (hy : E23 y) : E23 (if c then x else y) := by
  by_cases h : c
  · rw [if_pos h]; exact hx
  · rw [if_neg h]; exact hy
theorem E23_ite {α : Type} {c : Prop} [Decidable c] {x y : Except Int α} (hx : c → E23 x) (hy : ¬ c → E23 y) : E23 (if c then x else y) := by
  by_cases h : c
  · rw [if_pos h]; exact hx h
  · rw [if_neg h]; exact hy h
theorem nxt_e (L : Ln) (a : Nat) : E23 (nxt L a) := E23.ite (E23.ok _) E23.e20
theorem num_e (L : Ln) (a s : Nat) : E23 (num L a s) := E23.ite (E23.ok _) E23.e20
theorem lng_e (L : Ln) (a s f : Nat) : E23 (lng L a s f) := E23.bind (num_e L a s) fun _ => E23.must (E23.ok _)
theorem disp_e (L : Ln) (a : Nat) (md b : Int) : E23 (dispM L a md b) := E23.ite (num_e _ _ _) (E23.ite (E23.ok _) (E23.bind (num_e _ _ _) fun _ => E23.must (E23.ok _)))
theorem sib_e (rex md x : Int) : E23 (sibA rex md x) := E23.must (E23.ite (E23.must (E23.ok _)) (E23.ok _))
theorem mem_e (L : Ln) (a : Nat) (fs : Bool) (rex md rm : Int) : E23 (memM L a fs rex md rm) :=
  E23.ite (E23.ok _) (E23.ite (E23.ok _) (E23.ite (E23.bind (nxt_e _ _) fun _ => E23.must (E23.ok _)) (E23.bind (nxt_e _ _) fun _ => E23.bind (sib_e _ _ _) fun _ => E23.ok _)))
theorem place_e (L : Ln) (a : Nat) (fs : Bool) (rex md rm : Int) : E23 (placeM L a fs rex md rm) :=
  E23.ite (E23.ok _) (E23.bind (mem_e _ _ _ _ _ _) fun _ => E23.bind (disp_e _ _ _ _) fun _ => E23.ok _)
theorem mAlone_e (L : Ln) (a : Nat) (fs : Bool) (rex opc sz md rg rm : Int) (i : I) : E23 (mAlone L a fs rex opc sz md rg rm i) := by
  unfold mAlone
  repeat' first | exact E23.ok _ | exact place_e _ _ _ _ _ _ | exact num_e _ _ _ | exact lng_e _ _ _ _ | refine E23.must ?_ | refine E23.ite ?_ ?_ | refine E23.bind ?_ fun _ => ?_
theorem mAloneWide_e (L : Ln) (a : Nat) (fs : Bool) (rex opc sz md rg rm : Int) (i : I) : E23 (mAloneWide L a fs rex opc sz md rg rm i) := by
  unfold mAloneWide
  repeat' first | exact E23.ok _ | exact place_e _ _ _ _ _ _ | exact num_e _ _ _ | exact lng_e _ _ _ _ | refine E23.must ?_ | refine E23.ite ?_ ?_ | refine E23.bind ?_ fun _ => ?_
theorem mChanged_e (L : Ln) (a : Nat) (fs : Bool) (rex opc sz md rg rm : Int) (i : I) : E23 (mChanged L a fs rex opc sz md rg rm i) := by
  unfold mChanged
  repeat' first | exact E23.ok _ | exact place_e _ _ _ _ _ _ | exact num_e _ _ _ | exact lng_e _ _ _ _ | refine E23.must ?_ | refine E23.ite ?_ ?_ | refine E23.bind ?_ fun _ => ?_
theorem mStored_e (L : Ln) (a : Nat) (fs : Bool) (rex opc sz md rg rm : Int) (i : I) : E23 (mStored L a fs rex opc sz md rg rm i) := by
  unfold mStored
  repeat' first | exact E23.ok _ | exact place_e _ _ _ _ _ _ | exact num_e _ _ _ | exact lng_e _ _ _ _ | refine E23.must ?_ | refine E23.ite ?_ ?_ | refine E23.bind ?_ fun _ => ?_
theorem mLoaded_e (L : Ln) (a : Nat) (fs : Bool) (rex opc sz md rg rm : Int) (i : I) : E23 (mLoaded L a fs rex opc sz md rg rm i) := by
  unfold mLoaded
  repeat' first | exact E23.ok _ | exact place_e _ _ _ _ _ _ | exact num_e _ _ _ | exact lng_e _ _ _ _ | refine E23.must ?_ | refine E23.ite ?_ ?_ | refine E23.bind ?_ fun _ => ?_
theorem mRcx_e (L : Ln) (a : Nat) (fs : Bool) (rex opc sz md rg rm : Int) (i : I) : E23 (mRcx L a fs rex opc sz md rg rm i) := by
  unfold mRcx
  repeat' first | exact E23.ok _ | exact place_e _ _ _ _ _ _ | exact num_e _ _ _ | exact lng_e _ _ _ _ | refine E23.must ?_ | refine E23.ite ?_ ?_ | refine E23.bind ?_ fun _ => ?_
theorem mNumbered_e (L : Ln) (a : Nat) (fs : Bool) (rex opc sz md rg rm : Int) (i : I) : E23 (mNumbered L a fs rex opc sz md rg rm i) := by
  unfold mNumbered
  repeat' first | exact E23.ok _ | exact place_e _ _ _ _ _ _ | exact num_e _ _ _ | exact lng_e _ _ _ _ | refine E23.must ?_ | refine E23.ite ?_ ?_ | refine E23.bind ?_ fun _ => ?_
theorem mNumberedShort_e (L : Ln) (a : Nat) (fs : Bool) (rex opc sz md rg rm : Int) (i : I) : E23 (mNumberedShort L a fs rex opc sz md rg rm i) := by
  unfold mNumberedShort
  repeat' first | exact E23.ok _ | exact place_e _ _ _ _ _ _ | exact num_e _ _ _ | exact lng_e _ _ _ _ | refine E23.must ?_ | refine E23.ite ?_ ?_ | refine E23.bind ?_ fun _ => ?_
theorem mNumberedLong_e (L : Ln) (a : Nat) (fs : Bool) (rex opc sz md rg rm : Int) (i : I) : E23 (mNumberedLong L a fs rex opc sz md rg rm i) := by
  unfold mNumberedLong
  repeat' first | exact E23.ok _ | exact place_e _ _ _ _ _ _ | exact num_e _ _ _ | exact lng_e _ _ _ _ | refine E23.must ?_ | refine E23.ite ?_ ?_ | refine E23.bind ?_ fun _ => ?_
theorem mShifted_e (L : Ln) (a : Nat) (fs : Bool) (rex opc sz md rg rm : Int) (i : I) : E23 (mShifted L a fs rex opc sz md rg rm i) := by
  unfold mShifted
  repeat' first | exact E23.ok _ | exact place_e _ _ _ _ _ _ | exact num_e _ _ _ | exact lng_e _ _ _ _ | refine E23.must ?_ | refine E23.ite ?_ ?_ | refine E23.bind ?_ fun _ => ?_
theorem mMoved_e (L : Ln) (a : Nat) (fs : Bool) (rex opc sz md rg rm : Int) (i : I) : E23 (mMoved L a fs rex opc sz md rg rm i) := by
  unfold mMoved
  repeat' first | exact E23.ok _ | exact place_e _ _ _ _ _ _ | exact num_e _ _ _ | exact lng_e _ _ _ _ | refine E23.must ?_ | refine E23.ite ?_ ?_ | refine E23.bind ?_ fun _ => ?_
theorem mPushedRegister_e (L : Ln) (a : Nat) (fs : Bool) (rex opc sz md rg rm : Int) (i : I) : E23 (mPushedRegister L a fs rex opc sz md rg rm i) := by
  unfold mPushedRegister
  repeat' first | exact E23.ok _ | exact place_e _ _ _ _ _ _ | exact num_e _ _ _ | exact lng_e _ _ _ _ | refine E23.must ?_ | refine E23.ite ?_ ?_ | refine E23.bind ?_ fun _ => ?_
theorem mPoppedRegister_e (L : Ln) (a : Nat) (fs : Bool) (rex opc sz md rg rm : Int) (i : I) : E23 (mPoppedRegister L a fs rex opc sz md rg rm i) := by
  unfold mPoppedRegister
  repeat' first | exact E23.ok _ | exact place_e _ _ _ _ _ _ | exact num_e _ _ _ | exact lng_e _ _ _ _ | refine E23.must ?_ | refine E23.ite ?_ ?_ | refine E23.bind ?_ fun _ => ?_
theorem mPushedLong_e (L : Ln) (a : Nat) (fs : Bool) (rex opc sz md rg rm : Int) (i : I) : E23 (mPushedLong L a fs rex opc sz md rg rm i) := by
  unfold mPushedLong
  repeat' first | exact E23.ok _ | exact place_e _ _ _ _ _ _ | exact num_e _ _ _ | exact lng_e _ _ _ _ | refine E23.must ?_ | refine E23.ite ?_ ?_ | refine E23.bind ?_ fun _ => ?_
theorem mPushedShort_e (L : Ln) (a : Nat) (fs : Bool) (rex opc sz md rg rm : Int) (i : I) : E23 (mPushedShort L a fs rex opc sz md rg rm i) := by
  unfold mPushedShort
  repeat' first | exact E23.ok _ | exact place_e _ _ _ _ _ _ | exact num_e _ _ _ | exact lng_e _ _ _ _ | refine E23.must ?_ | refine E23.ite ?_ ?_ | refine E23.bind ?_ fun _ => ?_
theorem mJumped_e (L : Ln) (a : Nat) (fs : Bool) (rex opc sz md rg rm : Int) (i : I) : E23 (mJumped L a fs rex opc sz md rg rm i) := by
  unfold mJumped
  repeat' first | exact E23.ok _ | exact place_e _ _ _ _ _ _ | exact num_e _ _ _ | exact lng_e _ _ _ _ | refine E23.must ?_ | refine E23.ite ?_ ?_ | refine E23.bind ?_ fun _ => ?_
theorem mJumpedShort_e (L : Ln) (a : Nat) (fs : Bool) (rex opc sz md rg rm : Int) (i : I) : E23 (mJumpedShort L a fs rex opc sz md rg rm i) := by
  unfold mJumpedShort
  repeat' first | exact E23.ok _ | exact place_e _ _ _ _ _ _ | exact num_e _ _ _ | exact lng_e _ _ _ _ | refine E23.must ?_ | refine E23.ite ?_ ?_ | refine E23.bind ?_ fun _ => ?_
theorem mReached_e (L : Ln) (a : Nat) (fs : Bool) (rex opc sz md rg rm : Int) (i : I) : E23 (mReached L a fs rex opc sz md rg rm i) := by
  unfold mReached
  repeat' first | exact E23.ok _ | exact place_e _ _ _ _ _ _ | exact num_e _ _ _ | exact lng_e _ _ _ _ | refine E23.must ?_ | refine E23.ite ?_ ?_ | refine E23.bind ?_ fun _ => ?_
theorem mNumberedWide_e (L : Ln) (a : Nat) (fs : Bool) (rex opc sz md rg rm : Int) (i : I) : E23 (mNumberedWide L a fs rex opc sz md rg rm i) := by
  unfold mNumberedWide
  repeat' first | exact E23.ok _ | exact place_e _ _ _ _ _ _ | exact num_e _ _ _ | exact lng_e _ _ _ _ | exact mNumbered_e _ _ _ _ _ _ _ _ _ _ | exact mChanged_e _ _ _ _ _ _ _ _ _ _ | exact mMoved_e _ _ _ _ _ _ _ _ _ _ | refine E23.must ?_ | refine E23.ite ?_ ?_ | refine E23.bind ?_ fun _ => ?_
theorem mTested_e (L : Ln) (a : Nat) (fs : Bool) (rex opc sz md rg rm : Int) (i : I) : E23 (mTested L a fs rex opc sz md rg rm i) := by
  unfold mTested
  repeat' first | exact E23.ok _ | exact place_e _ _ _ _ _ _ | exact num_e _ _ _ | exact lng_e _ _ _ _ | exact mNumbered_e _ _ _ _ _ _ _ _ _ _ | exact mChanged_e _ _ _ _ _ _ _ _ _ _ | exact mMoved_e _ _ _ _ _ _ _ _ _ _ | refine E23.must ?_ | refine E23.ite ?_ ?_ | refine E23.bind ?_ fun _ => ?_
theorem mMovedByte_e (L : Ln) (a : Nat) (fs : Bool) (rex opc sz md rg rm : Int) (i : I) : E23 (mMovedByte L a fs rex opc sz md rg rm i) := by
  unfold mMovedByte
  repeat' first | exact E23.ok _ | exact place_e _ _ _ _ _ _ | exact num_e _ _ _ | exact lng_e _ _ _ _ | exact mNumbered_e _ _ _ _ _ _ _ _ _ _ | exact mChanged_e _ _ _ _ _ _ _ _ _ _ | exact mMoved_e _ _ _ _ _ _ _ _ _ _ | refine E23.must ?_ | refine E23.ite ?_ ?_ | refine E23.bind ?_ fun _ => ?_
theorem read_e (f : Nat) (hf : f ∈ fnsL) (L : Ln) (a : Nat) (fs : Bool) (rex opc sz md rg rm : Int) (i : I) : E23 (readM f L a fs rex opc sz md rg rm i) := by
  unfold readM
  simp only [fnsL, List.mem_cons, List.not_mem_nil, or_false] at hf
  repeat' first
    | exact mAlone_e _ _ _ _ _ _ _ _ _ _
    | exact mAloneWide_e _ _ _ _ _ _ _ _ _ _
    | exact mChanged_e _ _ _ _ _ _ _ _ _ _
    | exact mStored_e _ _ _ _ _ _ _ _ _ _
    | exact mLoaded_e _ _ _ _ _ _ _ _ _ _
    | exact mRcx_e _ _ _ _ _ _ _ _ _ _
    | exact mNumbered_e _ _ _ _ _ _ _ _ _ _
    | exact mNumberedShort_e _ _ _ _ _ _ _ _ _ _
    | exact mNumberedLong_e _ _ _ _ _ _ _ _ _ _
    | exact mShifted_e _ _ _ _ _ _ _ _ _ _
    | exact mMoved_e _ _ _ _ _ _ _ _ _ _
    | exact mPushedRegister_e _ _ _ _ _ _ _ _ _ _
    | exact mPoppedRegister_e _ _ _ _ _ _ _ _ _ _
    | exact mPushedLong_e _ _ _ _ _ _ _ _ _ _
    | exact mPushedShort_e _ _ _ _ _ _ _ _ _ _
    | exact mJumped_e _ _ _ _ _ _ _ _ _ _
    | exact mJumpedShort_e _ _ _ _ _ _ _ _ _ _
    | exact mReached_e _ _ _ _ _ _ _ _ _ _
    | exact mNumberedWide_e _ _ _ _ _ _ _ _ _ _
    | exact mTested_e _ _ _ _ _ _ _ _ _ _
    | exact mMovedByte_e _ _ _ _ _ _ _ _ _ _
    | (refine E23_ite ?_ ?_ <;> intro _)
  exfalso
  omega
theorem pre_e (L : Ln) : E23 (pre L) := by
  have ho : ∀ a fs rex x, E23 (preO L a fs rex x) := fun a fs rex x => E23.ite (E23.must (E23.bind (nxt_e _ _) fun _ => E23.ok _)) (E23.ok _)
  have hr : ∀ a fs x, E23 (preR L a fs x) := fun a fs x => E23.ite (E23.must (E23.bind (nxt_e _ _) fun _ => ho _ _ _ _)) (ho _ _ _ _)
  exact E23.bind (nxt_e _ _) fun _ => E23.ite (E23.bind (nxt_e _ _) fun _ => hr _ _ _) (hr _ _ _)
theorem modM_e (L : Ln) (a : Nat) (fs : Bool) (rex sz : Int) (q : Q) : E23 (modM L a fs rex sz q) :=
  E23.ite (E23.ite (E23.bind (E23.must (E23.must (E23.must (E23.must (E23.must (E23.ok _)))))) fun _ => E23.ok _) E23.e20) (E23.ok _)
theorem inst_e (L : Ln) (hb : ∀ i, 0 ≤ L.bs i ∧ L.bs i < 256) : E23 (instM L) := fun n h => by
  unfold instM at h
  rcases h1 : pre L with m | t
  · rw [h1] at h; cases h; exact pre_e L _ h1
  rw [h1] at h
  have h : (match rowM t.2.2.2 with | none => (.error 30 : Except Int (I × Nat)) | some q => _) = .error n := h
  obtain ⟨_, o0, o1⟩ := pre_facts hb h1
  rcases hq : rowM t.2.2.2 with _ | q
  · rw [hq] at h; cases h; exact .inr rfl
  rw [hq] at h
  have hf := (row_facts _ o0 o1 q hq).fn
  simp only at h
  refine E23.bind (E23.ite (E23.must (E23.ok _)) (E23.ok _)) (fun sz => ?_) n h
  refine E23.bind (E23.must (E23.must (E23.must (E23.ok _)))) fun _ => ?_
  refine E23.bind (modM_e _ _ _ _ _ _) fun r => ?_
  refine E23.bind (E23.must (E23.ok _)) fun op => ?_
  exact read_e _ hf _ _ _ _ _ _ _ _ _ _
end Go.Proofs.Ytbcfcbnlfbhgjaa
