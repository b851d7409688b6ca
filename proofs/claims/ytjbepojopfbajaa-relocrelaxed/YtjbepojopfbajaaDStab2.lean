/- What is read hangs on no byte behind it: instructions. -/
import Derived.Test.YtjbepojopfbajaaDStab
namespace Go.Proofs.Ytjbepojopfbajaa
open Go.ChangeShapes Go.WideShapes Go.ChangeAt Go.RowKit
set_option linter.unusedVariables false
set_option linter.unusedSimpArgs false

/-- A way of reading that looks at no byte behind those that it eats. -/
def Stab {α : Type} (F : Ln → Nat → Except Int (α × Nat)) : Prop := ∀ (L M : Ln) (n a : Nat) (p : α × Nat), F L a = .ok p → Like L M n → p.2 ≤ n → F M a = .ok p ∧ a ≤ p.2
theorem Stab.pure {α : Type} (x : α) : Stab fun _ a => .ok (x, a) := fun L M n a p h k hn => by cases h; exact ⟨rfl, Nat.le_refl _⟩
theorem Stab.bad {α : Type} (e : Int) : Stab (α := α) fun _ _ => .error e := fun L M n a p h k hn => by cases h
theorem Stab.bind {α β : Type} {F : Ln → Nat → Except Int (α × Nat)} {G : α → Ln → Nat → Except Int (β × Nat)} (hF : Stab F) (hG : ∀ x, Stab (G x)) : Stab fun L a => F L a >>= fun p => G p.1 L p.2 := fun L M n a p h k hn => by
  obtain ⟨q, h1, h2⟩ := bind_ok h
  obtain ⟨e2, l2⟩ := hG q.1 L M n q.2 p h2 k hn
  obtain ⟨e1, l1⟩ := hF L M n a q h1 k (Nat.le_trans l2 hn)
  refine ⟨?_, Nat.le_trans l1 l2⟩
  show (F M a >>= _) = _
  rw [e1]; exact e2
theorem Stab.must {α : Type} {F : Ln → Nat → Except Int (α × Nat)} (b : Bool) (hF : Stab F) : Stab fun L a => must b (F L a) := fun L M n a p h k hn => by
  obtain ⟨hb, h1⟩ := must_ok h
  subst hb
  exact hF L M n a p h1 k hn
theorem Stab.ite {α : Type} {F G : Ln → Nat → Except Int (α × Nat)} (c : Prop) [Decidable c] (hF : Stab F) (hG : Stab G) : Stab fun L a => if c then F L a else G L a := fun L M n a p h k hn => by
  by_cases hc : c
  · simp only [if_pos hc] at h ⊢; exact hF L M n a p h k hn
  · simp only [if_neg hc] at h ⊢; exact hG L M n a p h k hn
theorem num_stab (s : Nat) : Stab fun L a => num L a s := fun L M n a p h k hn => num_like h k hn
theorem lng_stab (s f : Nat) : Stab fun L a => lng L a s f := fun L M n a p h k hn => lng_like h k hn
theorem place_stab (fs : Bool) (rex md rm : Int) : Stab fun L a => placeM L a fs rex md rm := fun L M n a p h k hn => place_like h k hn
theorem nxt_stab : Stab nxt := fun L M n a p h k hn => nxt_like h k hn

theorem mAlone_stab (fs : Bool) (rex opc sz md rg rm : Int) (i : I) : Stab fun L a => mAlone L a fs rex opc sz md rg rm i := by
  unfold mAlone
  exact Stab.pure _
theorem mAloneWide_stab (fs : Bool) (rex opc sz md rg rm : Int) (i : I) : Stab fun L a => mAloneWide L a fs rex opc sz md rg rm i := by
  unfold mAloneWide
  exact Stab.must _ (Stab.pure _)
theorem mChanged_stab (fs : Bool) (rex opc sz md rg rm : Int) (i : I) : Stab fun L a => mChanged L a fs rex opc sz md rg rm i := by
  unfold mChanged
  exact Stab.bind (place_stab fs rex md rm) fun o => Stab.pure (i.wTo o)
theorem mStored_stab (fs : Bool) (rex opc sz md rg rm : Int) (i : I) : Stab fun L a => mStored L a fs rex opc sz md rg rm i := by
  unfold mStored
  exact Stab.bind (place_stab fs rex md rm) fun o => Stab.pure ((i.wTo o).wFr (regO (regOf rex rg 4)))
theorem mLoaded_stab (fs : Bool) (rex opc sz md rg rm : Int) (i : I) : Stab fun L a => mLoaded L a fs rex opc sz md rg rm i := by
  unfold mLoaded
  exact Stab.bind (place_stab fs rex md rm) fun o => Stab.pure ((i.wTo (regO (regOf rex rg 4))).wFr o)
theorem mRcx_stab (fs : Bool) (rex opc sz md rg rm : Int) (i : I) : Stab fun L a => mRcx L a fs rex opc sz md rg rm i := by
  unfold mRcx
  exact Stab.bind (place_stab fs rex md rm) fun o => Stab.pure ((i.wTo o).wFr (regO 1))
theorem mNumbered_stab (fs : Bool) (rex opc sz md rg rm : Int) (i : I) : Stab fun L a => mNumbered L a fs rex opc sz md rg rm i := by
  unfold mNumbered
  exact Stab.bind (place_stab fs rex md rm) fun o => Stab.bind (num_stab (if (sz == 1) = true then 1 else 4)) fun x => Stab.pure ((i.wTo o).wFr (immO x))
theorem mNumberedShort_stab (fs : Bool) (rex opc sz md rg rm : Int) (i : I) : Stab fun L a => mNumberedShort L a fs rex opc sz md rg rm i := by
  unfold mNumberedShort
  exact Stab.bind (place_stab fs rex md rm) fun o => Stab.bind (num_stab 1) fun x => Stab.pure ((i.wTo o).wFr (immO x))
theorem mNumberedLong_stab (fs : Bool) (rex opc sz md rg rm : Int) (i : I) : Stab fun L a => mNumberedLong L a fs rex opc sz md rg rm i := by
  unfold mNumberedLong
  exact Stab.bind (place_stab fs rex md rm) fun o => Stab.bind (lng_stab 4 1) fun x => Stab.pure ((i.wTo o).wFr (immO x))
theorem mShifted_stab (fs : Bool) (rex opc sz md rg rm : Int) (i : I) : Stab fun L a => mShifted L a fs rex opc sz md rg rm i := by
  unfold mShifted
  exact Stab.bind (place_stab fs rex md rm) fun o => Stab.bind (num_stab 1) fun x => Stab.must (decide (0 ≤ x) && decide (x < (if (sz == 8) = true then 64 else 32))) (Stab.pure ((i.wTo o).wFr (immO x)))
theorem mMoved_stab (fs : Bool) (rex opc sz md rg rm : Int) (i : I) : Stab fun L a => mMoved L a fs rex opc sz md rg rm i := by
  unfold mMoved
  exact Stab.bind (Stab.ite _ (lng_stab 8 4) (num_stab _)) fun x => Stab.pure ((i.wTo (regO (regOf rex (opc % 8) 1))).wFr (immO x))
theorem mPushedRegister_stab (fs : Bool) (rex opc sz md rg rm : Int) (i : I) : Stab fun L a => mPushedRegister L a fs rex opc sz md rg rm i := by
  unfold mPushedRegister
  exact Stab.pure _
theorem mPoppedRegister_stab (fs : Bool) (rex opc sz md rg rm : Int) (i : I) : Stab fun L a => mPoppedRegister L a fs rex opc sz md rg rm i := by
  unfold mPoppedRegister
  exact Stab.pure _
theorem mPushedLong_stab (fs : Bool) (rex opc sz md rg rm : Int) (i : I) : Stab fun L a => mPushedLong L a fs rex opc sz md rg rm i := by
  unfold mPushedLong
  exact Stab.bind (lng_stab 4 1) fun x => Stab.pure (i.wFr (immO x))
theorem mPushedShort_stab (fs : Bool) (rex opc sz md rg rm : Int) (i : I) : Stab fun L a => mPushedShort L a fs rex opc sz md rg rm i := by
  unfold mPushedShort
  exact Stab.bind (num_stab 1) fun x => Stab.pure (i.wFr (immO x))
theorem mJumped_stab (fs : Bool) (rex opc sz md rg rm : Int) (i : I) : Stab fun L a => mJumped L a fs rex opc sz md rg rm i := by
  unfold mJumped
  exact Stab.bind (num_stab 4) fun x => Stab.pure (i.wTo ⟨4, 0, 0, 0, 0, false, false, x, ⟨#[]⟩, 0⟩)
theorem mJumpedShort_stab (fs : Bool) (rex opc sz md rg rm : Int) (i : I) : Stab fun L a => mJumpedShort L a fs rex opc sz md rg rm i := by
  unfold mJumpedShort
  exact Stab.bind (num_stab 1) fun x => Stab.pure ((i.wTo ⟨4, 0, 0, 0, 0, false, false, x, ⟨#[]⟩, 0⟩).wSh true)
theorem mReached_stab (fs : Bool) (rex opc sz md rg rm : Int) (i : I) : Stab fun L a => mReached L a fs rex opc sz md rg rm i := by
  unfold mReached
  exact Stab.ite _ (Stab.bind (place_stab fs rex md rm) fun o => Stab.pure (i.wTo o)) (Stab.must _ (Stab.ite _ (Stab.must _ (Stab.bind (place_stab fs rex md rm) fun o => Stab.pure ((i.wSz 8).wFr o))) (Stab.bind (place_stab fs rex md rm) fun o => Stab.pure ((i.wSz 8).wTo o))))
theorem mNumberedWide_stab (fs : Bool) (rex opc sz md rg rm : Int) (i : I) : Stab fun L a => mNumberedWide L a fs rex opc sz md rg rm i := by
  unfold mNumberedWide
  exact Stab.must _ (mNumbered_stab fs rex opc sz md rg rm i)
theorem mTested_stab (fs : Bool) (rex opc sz md rg rm : Int) (i : I) : Stab fun L a => mTested L a fs rex opc sz md rg rm i := by
  unfold mTested
  exact Stab.ite _ (mNumbered_stab fs rex opc sz md rg rm i) (mChanged_stab fs rex opc sz md rg rm i)
theorem mMovedByte_stab (fs : Bool) (rex opc sz md rg rm : Int) (i : I) : Stab fun L a => mMovedByte L a fs rex opc sz md rg rm i := by
  unfold mMovedByte
  exact Stab.must _ (mMoved_stab fs rex opc sz md rg rm i)
theorem read_stab (f : Nat) (fs : Bool) (rex opc sz md rg rm : Int) (i : I) : Stab fun L a => readM f L a fs rex opc sz md rg rm i := by
  unfold readM
  refine Stab.ite _ (mStored_stab fs rex opc sz md rg rm i) ?_
  refine Stab.ite _ (mLoaded_stab fs rex opc sz md rg rm i) ?_
  refine Stab.ite _ (mPushedRegister_stab fs rex opc sz md rg rm i) ?_
  refine Stab.ite _ (mPoppedRegister_stab fs rex opc sz md rg rm i) ?_
  refine Stab.ite _ (mPushedLong_stab fs rex opc sz md rg rm i) ?_
  refine Stab.ite _ (mPushedShort_stab fs rex opc sz md rg rm i) ?_
  refine Stab.ite _ (mJumpedShort_stab fs rex opc sz md rg rm i) ?_
  refine Stab.ite _ (mNumbered_stab fs rex opc sz md rg rm i) ?_
  refine Stab.ite _ (mNumberedLong_stab fs rex opc sz md rg rm i) ?_
  refine Stab.ite _ (mNumberedShort_stab fs rex opc sz md rg rm i) ?_
  refine Stab.ite _ (mChanged_stab fs rex opc sz md rg rm i) ?_
  refine Stab.ite _ (mAlone_stab fs rex opc sz md rg rm i) ?_
  refine Stab.ite _ (mAloneWide_stab fs rex opc sz md rg rm i) ?_
  refine Stab.ite _ (mMovedByte_stab fs rex opc sz md rg rm i) ?_
  refine Stab.ite _ (mMoved_stab fs rex opc sz md rg rm i) ?_
  refine Stab.ite _ (mShifted_stab fs rex opc sz md rg rm i) ?_
  refine Stab.ite _ (mNumberedWide_stab fs rex opc sz md rg rm i) ?_
  refine Stab.ite _ (mRcx_stab fs rex opc sz md rg rm i) ?_
  refine Stab.ite _ (mJumped_stab fs rex opc sz md rg rm i) ?_
  refine Stab.ite _ (mTested_stab fs rex opc sz md rg rm i) ?_
  refine Stab.ite _ (mReached_stab fs rex opc sz md rg rm i) ?_
  exact Stab.bad 0

theorem mod_stab (fs : Bool) (rex sz : Int) (q : Q) : Stab fun L a => modM L a fs rex sz q := fun L M n a p h k hn => by
  unfold modM at h ⊢
  by_cases hc : q.has 2 = true
  · simp only [if_pos hc] at h ⊢
    by_cases hl : a < L.len
    · rw [if_pos hl] at h
      obtain ⟨t, h1, h2⟩ := bind_ok h
      cases h2
      have h3 : a + 1 ≤ n := hn
      have := k.le
      refine ⟨?_, by show a ≤ a + 1; omega⟩
      rw [if_pos (by omega), k.bs a (by omega), h1]; rfl
    · rw [if_neg hl] at h; cases h
  · simp only [if_neg hc] at h ⊢
    cases h; exact ⟨rfl, Nat.le_refl _⟩

theorem preO_stab (fs : Bool) (rex x : Int) : Stab fun L a => (preO L a fs rex x >>= fun t => .ok (t.2, t.1)) := fun L M n a p h k hn => by
  obtain ⟨t, h1, h2⟩ := bind_ok h
  cases h2
  unfold preO at h1
  split at h1
  · rename_i c
    obtain ⟨hb, h3⟩ := must_ok h1
    obtain ⟨q, h4, h5⟩ := bind_ok h3
    cases h5
    obtain ⟨e, l⟩ := nxt_like h4 k hn
    refine ⟨?_, l⟩
    show (preO M a fs rex x >>= _) = _
    unfold preO
    rw [if_pos c, hb, must_true, e]; rfl
  · rename_i c
    cases h1
    refine ⟨?_, Nat.le_refl _⟩
    show (preO M a fs rex x >>= _) = _
    unfold preO
    rw [if_neg c]; rfl
end Go.Proofs.Ytjbepojopfbajaa
