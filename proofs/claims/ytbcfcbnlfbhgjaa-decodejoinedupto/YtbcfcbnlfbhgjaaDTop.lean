/- No more bytes are eaten than there are. -/
import Derived.Test.YtbcfcbnlfbhgjaaDStab3
namespace Go.Proofs.Ytbcfcbnlfbhgjaa
open Go.ChangeShapes Go.WideShapes Go.ChangeAt Go.RowKit
set_option linter.unusedVariables false
set_option linter.unusedSimpArgs false

/-- A way of reading that eats no more bytes than there are. -/
def Topp {α : Type} (F : Ln → Nat → Except Int (α × Nat)) : Prop := ∀ (L : Ln) (a : Nat) (p : α × Nat), F L a = .ok p → a ≤ L.len → p.2 ≤ L.len
theorem Topp.pure {α : Type} (x : α) : Topp fun _ a => .ok (x, a) := fun L a p h hn => by cases h; exact hn
theorem Topp.bad {α : Type} (e : Int) : Topp (α := α) fun _ _ => .error e := fun L a p h hn => by cases h
theorem Topp.bind {α β : Type} {F : Ln → Nat → Except Int (α × Nat)} {G : α → Ln → Nat → Except Int (β × Nat)} (hF : Topp F) (hG : ∀ x, Topp (G x)) : Topp fun L a => F L a >>= fun p => G p.1 L p.2 := fun L a p h hn => by
  obtain ⟨q, h1, h2⟩ := bind_ok h
  exact hG q.1 L q.2 p h2 (hF L a q h1 hn)
theorem Topp.must {α : Type} {F : Ln → Nat → Except Int (α × Nat)} (b : Bool) (hF : Topp F) : Topp fun L a => must b (F L a) := fun L a p h hn => by
  obtain ⟨hb, h1⟩ := must_ok h
  exact hF L a p h1 hn
theorem Topp.ite {α : Type} {F G : Ln → Nat → Except Int (α × Nat)} (c : Prop) [Decidable c] (hF : Topp F) (hG : Topp G) : Topp fun L a => if c then F L a else G L a := fun L a p h hn => by
  by_cases hc : c
  · simp only [if_pos hc] at h; exact hF L a p h hn
  · simp only [if_neg hc] at h; exact hG L a p h hn
theorem num_top (s : Nat) : Topp fun L a => num L a s := fun L a p h hn => by
  simp only [num] at h
  split at h
  · cases h; assumption
  · cases h
theorem lng_top (s f : Nat) : Topp fun L a => lng L a s f := fun L a p h hn => by
  simp only [lng] at h
  obtain ⟨q, h1, h2⟩ := bind_ok h
  obtain ⟨hb, h3⟩ := must_ok h2
  cases h3
  exact num_top s L a p h1 hn
theorem nxt_top : Topp nxt := fun L a p h hn => by
  obtain ⟨hl, rfl⟩ := nxt_ok h
  exact hl
theorem disp_top (md b : Int) : Topp fun L a => dispM L a md b := fun L a p h hn => by
  simp only [dispM] at h
  split at h
  · exact num_top 4 L a p h hn
  · split at h
    · cases h; exact hn
    · obtain ⟨q, h1, h2⟩ := bind_ok h
      obtain ⟨hb, h3⟩ := must_ok h2
      cases h3
      exact num_top 1 L a p h1 hn
theorem mem_top (fs : Bool) (rex md rm : Int) : Topp fun L a => memM L a fs rex md rm := fun L a p h hn => by
  simp only [memM] at h
  split at h
  · cases h; exact hn
  · split at h
    · cases h; exact hn
    · split at h
      · obtain ⟨q, h1, h2⟩ := bind_ok h
        obtain ⟨hb, h3⟩ := must_ok h2
        cases h3
        exact nxt_top L a q h1 hn
      · obtain ⟨q, h1, h2⟩ := bind_ok h
        obtain ⟨t, h3, h4⟩ := bind_ok h2
        cases h4
        exact nxt_top L a q h1 hn
theorem place_top (fs : Bool) (rex md rm : Int) : Topp fun L a => placeM L a fs rex md rm := fun L a p h hn => by
  simp only [placeM] at h
  split at h
  · cases h; exact hn
  · obtain ⟨q, h1, h2⟩ := bind_ok h
    obtain ⟨d, h3, h4⟩ := bind_ok h2
    cases h4
    exact disp_top _ _ L q.2 d h3 (mem_top _ _ _ _ L a q h1 hn)

theorem mAlone_top (fs : Bool) (rex opc sz md rg rm : Int) (i : I) : Topp fun L a => mAlone L a fs rex opc sz md rg rm i := by
  unfold mAlone
  exact Topp.pure _
theorem mAloneWide_top (fs : Bool) (rex opc sz md rg rm : Int) (i : I) : Topp fun L a => mAloneWide L a fs rex opc sz md rg rm i := by
  unfold mAloneWide
  exact Topp.must _ (Topp.pure _)
theorem mChanged_top (fs : Bool) (rex opc sz md rg rm : Int) (i : I) : Topp fun L a => mChanged L a fs rex opc sz md rg rm i := by
  unfold mChanged
  exact Topp.bind (place_top fs rex md rm) fun o => Topp.pure (i.wTo o)
theorem mStored_top (fs : Bool) (rex opc sz md rg rm : Int) (i : I) : Topp fun L a => mStored L a fs rex opc sz md rg rm i := by
  unfold mStored
  exact Topp.bind (place_top fs rex md rm) fun o => Topp.pure ((i.wTo o).wFr (regO (regOf rex rg 4)))
theorem mLoaded_top (fs : Bool) (rex opc sz md rg rm : Int) (i : I) : Topp fun L a => mLoaded L a fs rex opc sz md rg rm i := by
  unfold mLoaded
  exact Topp.bind (place_top fs rex md rm) fun o => Topp.pure ((i.wTo (regO (regOf rex rg 4))).wFr o)
theorem mRcx_top (fs : Bool) (rex opc sz md rg rm : Int) (i : I) : Topp fun L a => mRcx L a fs rex opc sz md rg rm i := by
  unfold mRcx
  exact Topp.bind (place_top fs rex md rm) fun o => Topp.pure ((i.wTo o).wFr (regO 1))
theorem mNumbered_top (fs : Bool) (rex opc sz md rg rm : Int) (i : I) : Topp fun L a => mNumbered L a fs rex opc sz md rg rm i := by
  unfold mNumbered
  exact Topp.bind (place_top fs rex md rm) fun o => Topp.bind (num_top (if (sz == 1) = true then 1 else 4)) fun x => Topp.pure ((i.wTo o).wFr (immO x))
theorem mNumberedShort_top (fs : Bool) (rex opc sz md rg rm : Int) (i : I) : Topp fun L a => mNumberedShort L a fs rex opc sz md rg rm i := by
  unfold mNumberedShort
  exact Topp.bind (place_top fs rex md rm) fun o => Topp.bind (num_top 1) fun x => Topp.pure ((i.wTo o).wFr (immO x))
theorem mNumberedLong_top (fs : Bool) (rex opc sz md rg rm : Int) (i : I) : Topp fun L a => mNumberedLong L a fs rex opc sz md rg rm i := by
  unfold mNumberedLong
  exact Topp.bind (place_top fs rex md rm) fun o => Topp.bind (lng_top 4 1) fun x => Topp.pure ((i.wTo o).wFr (immO x))
theorem mShifted_top (fs : Bool) (rex opc sz md rg rm : Int) (i : I) : Topp fun L a => mShifted L a fs rex opc sz md rg rm i := by
  unfold mShifted
  exact Topp.bind (place_top fs rex md rm) fun o => Topp.bind (num_top 1) fun x => Topp.must (decide (0 ≤ x) && decide (x < (if (sz == 8) = true then 64 else 32))) (Topp.pure ((i.wTo o).wFr (immO x)))
theorem mMoved_top (fs : Bool) (rex opc sz md rg rm : Int) (i : I) : Topp fun L a => mMoved L a fs rex opc sz md rg rm i := by
  unfold mMoved
  exact Topp.bind (Topp.ite _ (lng_top 8 4) (num_top _)) fun x => Topp.pure ((i.wTo (regO (regOf rex (opc % 8) 1))).wFr (immO x))
theorem mPushedRegister_top (fs : Bool) (rex opc sz md rg rm : Int) (i : I) : Topp fun L a => mPushedRegister L a fs rex opc sz md rg rm i := by
  unfold mPushedRegister
  exact Topp.pure _
theorem mPoppedRegister_top (fs : Bool) (rex opc sz md rg rm : Int) (i : I) : Topp fun L a => mPoppedRegister L a fs rex opc sz md rg rm i := by
  unfold mPoppedRegister
  exact Topp.pure _
theorem mPushedLong_top (fs : Bool) (rex opc sz md rg rm : Int) (i : I) : Topp fun L a => mPushedLong L a fs rex opc sz md rg rm i := by
  unfold mPushedLong
  exact Topp.bind (lng_top 4 1) fun x => Topp.pure (i.wFr (immO x))
theorem mPushedShort_top (fs : Bool) (rex opc sz md rg rm : Int) (i : I) : Topp fun L a => mPushedShort L a fs rex opc sz md rg rm i := by
  unfold mPushedShort
  exact Topp.bind (num_top 1) fun x => Topp.pure (i.wFr (immO x))
theorem mJumped_top (fs : Bool) (rex opc sz md rg rm : Int) (i : I) : Topp fun L a => mJumped L a fs rex opc sz md rg rm i := by
  unfold mJumped
  exact Topp.bind (num_top 4) fun x => Topp.pure (i.wTo ⟨4, 0, 0, 0, 0, false, false, x, ⟨#[]⟩, 0⟩)
theorem mJumpedShort_top (fs : Bool) (rex opc sz md rg rm : Int) (i : I) : Topp fun L a => mJumpedShort L a fs rex opc sz md rg rm i := by
  unfold mJumpedShort
  exact Topp.bind (num_top 1) fun x => Topp.pure ((i.wTo ⟨4, 0, 0, 0, 0, false, false, x, ⟨#[]⟩, 0⟩).wSh true)
theorem mReached_top (fs : Bool) (rex opc sz md rg rm : Int) (i : I) : Topp fun L a => mReached L a fs rex opc sz md rg rm i := by
  unfold mReached
  exact Topp.ite _ (Topp.bind (place_top fs rex md rm) fun o => Topp.pure (i.wTo o)) (Topp.must _ (Topp.ite _ (Topp.must _ (Topp.bind (place_top fs rex md rm) fun o => Topp.pure ((i.wSz 8).wFr o))) (Topp.bind (place_top fs rex md rm) fun o => Topp.pure ((i.wSz 8).wTo o))))
theorem mNumberedWide_top (fs : Bool) (rex opc sz md rg rm : Int) (i : I) : Topp fun L a => mNumberedWide L a fs rex opc sz md rg rm i := by
  unfold mNumberedWide
  exact Topp.must _ (mNumbered_top fs rex opc sz md rg rm i)
theorem mTested_top (fs : Bool) (rex opc sz md rg rm : Int) (i : I) : Topp fun L a => mTested L a fs rex opc sz md rg rm i := by
  unfold mTested
  exact Topp.ite _ (mNumbered_top fs rex opc sz md rg rm i) (mChanged_top fs rex opc sz md rg rm i)
theorem mMovedByte_top (fs : Bool) (rex opc sz md rg rm : Int) (i : I) : Topp fun L a => mMovedByte L a fs rex opc sz md rg rm i := by
  unfold mMovedByte
  exact Topp.must _ (mMoved_top fs rex opc sz md rg rm i)
theorem read_top (f : Nat) (fs : Bool) (rex opc sz md rg rm : Int) (i : I) : Topp fun L a => readM f L a fs rex opc sz md rg rm i := by
  unfold readM
  refine Topp.ite _ (mStored_top fs rex opc sz md rg rm i) ?_
  refine Topp.ite _ (mLoaded_top fs rex opc sz md rg rm i) ?_
  refine Topp.ite _ (mPushedRegister_top fs rex opc sz md rg rm i) ?_
  refine Topp.ite _ (mPoppedRegister_top fs rex opc sz md rg rm i) ?_
  refine Topp.ite _ (mPushedLong_top fs rex opc sz md rg rm i) ?_
  refine Topp.ite _ (mPushedShort_top fs rex opc sz md rg rm i) ?_
  refine Topp.ite _ (mJumpedShort_top fs rex opc sz md rg rm i) ?_
  refine Topp.ite _ (mNumbered_top fs rex opc sz md rg rm i) ?_
  refine Topp.ite _ (mNumberedLong_top fs rex opc sz md rg rm i) ?_
  refine Topp.ite _ (mNumberedShort_top fs rex opc sz md rg rm i) ?_
  refine Topp.ite _ (mChanged_top fs rex opc sz md rg rm i) ?_
  refine Topp.ite _ (mAlone_top fs rex opc sz md rg rm i) ?_
  refine Topp.ite _ (mAloneWide_top fs rex opc sz md rg rm i) ?_
  refine Topp.ite _ (mMovedByte_top fs rex opc sz md rg rm i) ?_
  refine Topp.ite _ (mMoved_top fs rex opc sz md rg rm i) ?_
  refine Topp.ite _ (mShifted_top fs rex opc sz md rg rm i) ?_
  refine Topp.ite _ (mNumberedWide_top fs rex opc sz md rg rm i) ?_
  refine Topp.ite _ (mRcx_top fs rex opc sz md rg rm i) ?_
  refine Topp.ite _ (mJumped_top fs rex opc sz md rg rm i) ?_
  refine Topp.ite _ (mTested_top fs rex opc sz md rg rm i) ?_
  refine Topp.ite _ (mReached_top fs rex opc sz md rg rm i) ?_
  exact Topp.bad 0

theorem mod_top (fs : Bool) (rex sz : Int) (q : Q) : Topp fun L a => modM L a fs rex sz q := fun L a p h hn => by
  simp only [modM] at h
  split at h
  · split at h
    · rename_i hl
      obtain ⟨t, h1, h2⟩ := bind_ok h
      cases h2
      exact hl
    · cases h
  · cases h; exact hn
theorem preO_top {L : Ln} {a : Nat} {fs : Bool} {rex x : Int} {t : Nat × Bool × Int × Int} (h : preO L a fs rex x = .ok t) (ha : a ≤ L.len) : t.1 ≤ L.len := by
  unfold preO at h
  split at h
  · obtain ⟨hb, h3⟩ := must_ok h
    obtain ⟨q, h4, h5⟩ := bind_ok h3
    cases h5
    exact nxt_top L a q h4 ha
  · cases h; exact ha
theorem preR_top {L : Ln} {a : Nat} {fs : Bool} {x : Int} {t : Nat × Bool × Int × Int} (h : preR L a fs x = .ok t) (ha : a ≤ L.len) : t.1 ≤ L.len := by
  unfold preR at h
  split at h
  · obtain ⟨hb, h3⟩ := must_ok h
    obtain ⟨q, h4, h5⟩ := bind_ok h3
    exact preO_top h5 (nxt_top L a q h4 ha)
  · exact preO_top h ha
theorem pre_top {L : Ln} {t : Nat × Bool × Int × Int} (h : pre L = .ok t) : t.1 ≤ L.len := by
  unfold pre at h
  obtain ⟨p, h1, h2⟩ := bind_ok h
  have hp := (nxt_ok h1).1
  split at h2
  · obtain ⟨q, h3, h4⟩ := bind_ok h2
    exact preR_top h4 (nxt_ok h3).1
  · exact preR_top h2 hp
theorem inst_top {L : Ln} {p : I × Nat} (h : instM L = .ok p) : p.2 ≤ L.len := by
  unfold instM at h
  obtain ⟨t, h1, h2⟩ := bind_ok h
  rcases hq : rowM t.2.2.2 with _ | q
  · rw [hq] at h2; cases h2
  rw [hq] at h2
  simp only at h2
  obtain ⟨sz, h3, h4⟩ := bind_ok h2
  obtain ⟨v, h5, h6⟩ := bind_ok h4
  obtain ⟨r, h7, h8⟩ := bind_ok h6
  obtain ⟨op, h9, h10⟩ := bind_ok h8
  exact read_top _ _ _ _ _ _ _ _ _ L r.2 p h10 (mod_top _ _ _ _ L t.1 r h7 (pre_top h1))
end Go.Proofs.Ytbcfcbnlfbhgjaa
