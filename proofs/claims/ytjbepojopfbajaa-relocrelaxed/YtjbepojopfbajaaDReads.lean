/- The contracts of the calls that put operands in, whole. -/
import Derived.Test.YtjbepojopfbajaaDReadA
import Derived.Test.YtjbepojopfbajaaDReadB
import Derived.Test.YtjbepojopfbajaaDReadC
import Derived.Test.YtjbepojopfbajaaDReadD
namespace Go.Proofs.Ytjbepojopfbajaa
open Go.ChangeShapes Go.WideShapes Go.ChangeAt Go.RowKit
set_option linter.unusedVariables false
set_option linter.unusedSimpArgs false

def mAlone (L : Ln) (a : Nat) (fs : Bool) (rex opc sz md rg rm : Int) (i : I) : Except Int (I × Nat) := .ok (i, a)
def mAloneWide (L : Ln) (a : Nat) (fs : Bool) (rex opc sz md rg rm : Int) (i : I) : Except Int (I × Nat) := must (sz == 8) (.ok (i.wSz 0, a))
def mChanged (L : Ln) (a : Nat) (fs : Bool) (rex opc sz md rg rm : Int) (i : I) : Except Int (I × Nat) := placeM L a fs rex md rm >>= fun p => .ok (i.wTo p.1, p.2)
def mStored (L : Ln) (a : Nat) (fs : Bool) (rex opc sz md rg rm : Int) (i : I) : Except Int (I × Nat) := placeM L a fs rex md rm >>= fun p => .ok ((i.wTo p.1).wFr (regO (regOf rex rg 4)), p.2)
def mLoaded (L : Ln) (a : Nat) (fs : Bool) (rex opc sz md rg rm : Int) (i : I) : Except Int (I × Nat) := placeM L a fs rex md rm >>= fun p => .ok ((i.wTo (regO (regOf rex rg 4))).wFr p.1, p.2)
def mRcx (L : Ln) (a : Nat) (fs : Bool) (rex opc sz md rg rm : Int) (i : I) : Except Int (I × Nat) := placeM L a fs rex md rm >>= fun p => .ok ((i.wTo p.1).wFr (regO 1), p.2)
def mNumbered (L : Ln) (a : Nat) (fs : Bool) (rex opc sz md rg rm : Int) (i : I) : Except Int (I × Nat) := placeM L a fs rex md rm >>= fun p => num L p.2 (if (sz == 1) = true then 1 else 4) >>= fun q => .ok ((i.wTo p.1).wFr (immO q.1), q.2)
def mNumberedShort (L : Ln) (a : Nat) (fs : Bool) (rex opc sz md rg rm : Int) (i : I) : Except Int (I × Nat) := placeM L a fs rex md rm >>= fun p => num L p.2 1 >>= fun q => .ok ((i.wTo p.1).wFr (immO q.1), q.2)
def mNumberedLong (L : Ln) (a : Nat) (fs : Bool) (rex opc sz md rg rm : Int) (i : I) : Except Int (I × Nat) := placeM L a fs rex md rm >>= fun p => lng L p.2 4 1 >>= fun q => .ok ((i.wTo p.1).wFr (immO q.1), q.2)
def mShifted (L : Ln) (a : Nat) (fs : Bool) (rex opc sz md rg rm : Int) (i : I) : Except Int (I × Nat) := placeM L a fs rex md rm >>= fun p => num L p.2 1 >>= fun q => must (decide (0 ≤ q.1) && decide (q.1 < (if (sz == 8) = true then 64 else 32))) (.ok ((i.wTo p.1).wFr (immO q.1), q.2))
def mMoved (L : Ln) (a : Nat) (fs : Bool) (rex opc sz md rg rm : Int) (i : I) : Except Int (I × Nat) := (if (sz == 8) = true then lng L a 8 4 else num L a (if (sz == 1) = true then 1 else 4)) >>= fun q => .ok ((i.wTo (regO (regOf rex (opc % 8) 1))).wFr (immO q.1), q.2)
def mPushedRegister (L : Ln) (a : Nat) (fs : Bool) (rex opc sz md rg rm : Int) (i : I) : Except Int (I × Nat) := .ok (i.wFr (regO (regOf rex (opc % 8) 1)), a)
def mPoppedRegister (L : Ln) (a : Nat) (fs : Bool) (rex opc sz md rg rm : Int) (i : I) : Except Int (I × Nat) := .ok (i.wTo (regO (regOf rex (opc % 8) 1)), a)
def mPushedLong (L : Ln) (a : Nat) (fs : Bool) (rex opc sz md rg rm : Int) (i : I) : Except Int (I × Nat) := lng L a 4 1 >>= fun q => .ok (i.wFr (immO q.1), q.2)
def mPushedShort (L : Ln) (a : Nat) (fs : Bool) (rex opc sz md rg rm : Int) (i : I) : Except Int (I × Nat) := num L a 1 >>= fun q => .ok (i.wFr (immO q.1), q.2)
def mJumped (L : Ln) (a : Nat) (fs : Bool) (rex opc sz md rg rm : Int) (i : I) : Except Int (I × Nat) := num L a 4 >>= fun q => .ok (i.wTo ⟨4, 0, 0, 0, 0, false, false, q.1, ⟨#[]⟩, 0⟩, q.2)
def mJumpedShort (L : Ln) (a : Nat) (fs : Bool) (rex opc sz md rg rm : Int) (i : I) : Except Int (I × Nat) := num L a 1 >>= fun q => .ok ((i.wTo ⟨4, 0, 0, 0, 0, false, false, q.1, ⟨#[]⟩, 0⟩).wSh true, q.2)
def mReached (L : Ln) (a : Nat) (fs : Bool) (rex opc sz md rg rm : Int) (i : I) : Except Int (I × Nat) := if (i.op == 15 || i.op == 16) = true then placeM L a fs rex md rm >>= fun p => .ok (i.wTo p.1, p.2) else must (sz == 4) (if (i.op == 20) = true then must (md != 3) (placeM L a fs rex md rm >>= fun p => .ok ((i.wSz 8).wFr p.1, p.2)) else placeM L a fs rex md rm >>= fun p => .ok ((i.wSz 8).wTo p.1, p.2))
def mNumberedWide (L : Ln) (a : Nat) (fs : Bool) (rex opc sz md rg rm : Int) (i : I) : Except Int (I × Nat) := must (md != 3 || sz == 8) (mNumbered L a fs rex opc sz md rg rm i)
def mTested (L : Ln) (a : Nat) (fs : Bool) (rex opc sz md rg rm : Int) (i : I) : Except Int (I × Nat) := if (i.op == 11) = true then mNumbered L a fs rex opc sz md rg rm i else mChanged L a fs rex opc sz md rg rm i
def mMovedByte (L : Ln) (a : Nat) (fs : Bool) (rex opc sz md rg rm : Int) (i : I) : Except Int (I × Nat) := must (byteOk rex (above (regOf rex (opc % 8) 1))) (mMoved L a fs rex opc sz md rg rm i)

theorem rd_alone {w : World} {rb ib : Nat} {L : Ln} {a : Nat} {fs : Bool} {rex opc sz md rg rm : Int} (i : I) (hib : rb < ib) (ha : a ≤ L.len) (hr0 : 0 ≤ rm) (hr8 : rm < 8) (hg0 : 0 ≤ rg) (hg8 : rg < 8) (ho0 : 0 ≤ opc) (ho1 : opc < 65536) (h : RS w rb L a fs rex opc sz md rg rm) (hI : IW w ib i)  :
    Calls Try.prog 87 #[.pointer (some ⟨rb, 0, none⟩), .pointer (some ⟨ib, 0, none⟩)] w fun e w' => EndsR (mAlone L a fs rex opc sz md rg rm i) (fun j a' => RS w' rb L a' fs rex opc sz md rg rm ∧ IW w' ib j) e ∧ Fr rb ib w w' := by
  exact rd_alone_ok i hib ha hr0 hr8 hg0 hg8 ho0 ho1 _ h hI ⟨rfl⟩

theorem rd_aloneWide {w : World} {rb ib : Nat} {L : Ln} {a : Nat} {fs : Bool} {rex opc sz md rg rm : Int} (i : I) (hib : rb < ib) (ha : a ≤ L.len) (hr0 : 0 ≤ rm) (hr8 : rm < 8) (hg0 : 0 ≤ rg) (hg8 : rg < 8) (ho0 : 0 ≤ opc) (ho1 : opc < 65536) (h : RS w rb L a fs rex opc sz md rg rm) (hI : IW w ib i)  :
    Calls Try.prog 88 #[.pointer (some ⟨rb, 0, none⟩), .pointer (some ⟨ib, 0, none⟩)] w fun e w' => EndsR (mAloneWide L a fs rex opc sz md rg rm i) (fun j a' => RS w' rb L a' fs rex opc sz md rg rm ∧ IW w' ib j) e ∧ Fr rb ib w w' := by
  cases h8 : (sz == 8)
  · exact rd_aloneWide_no i hib ha hr0 hr8 hg0 hg8 ho0 ho1 _ h hI h8 ⟨by simp only [mAloneWide, h8, bind, Except.bind, must, if_true, if_false, Bool.false_eq_true]⟩
  · exact rd_aloneWide_ok i hib ha hr0 hr8 hg0 hg8 ho0 ho1 _ h hI h8 ⟨by simp only [mAloneWide, h8, bind, Except.bind, must, if_true, if_false, Bool.false_eq_true]⟩

theorem rd_changed {w : World} {rb ib : Nat} {L : Ln} {a : Nat} {fs : Bool} {rex opc sz md rg rm : Int} (i : I) (hib : rb < ib) (ha : a ≤ L.len) (hr0 : 0 ≤ rm) (hr8 : rm < 8) (hg0 : 0 ≤ rg) (hg8 : rg < 8) (ho0 : 0 ≤ opc) (ho1 : opc < 65536) (h : RS w rb L a fs rex opc sz md rg rm) (hI : IW w ib i)  :
    Calls Try.prog 86 #[.pointer (some ⟨rb, 0, none⟩), .pointer (some ⟨ib, 0, none⟩)] w fun e w' => EndsR (mChanged L a fs rex opc sz md rg rm i) (fun j a' => RS w' rb L a' fs rex opc sz md rg rm ∧ IW w' ib j) e ∧ Fr rb ib w w' := by
  rcases hp : placeM L a fs rex md rm with n | ⟨o, a1⟩
  · exact rd_changed_no i hib ha hr0 hr8 hg0 hg8 ho0 ho1 _ h hI n hp ⟨by simp only [mChanged, hp, bind, Except.bind, must, if_true, if_false, Bool.false_eq_true]⟩
  · exact rd_changed_ok i hib ha hr0 hr8 hg0 hg8 ho0 ho1 _ h hI o a1 hp ⟨by simp only [mChanged, hp, bind, Except.bind, must, if_true, if_false, Bool.false_eq_true]⟩

theorem rd_stored {w : World} {rb ib : Nat} {L : Ln} {a : Nat} {fs : Bool} {rex opc sz md rg rm : Int} (i : I) (hib : rb < ib) (ha : a ≤ L.len) (hr0 : 0 ≤ rm) (hr8 : rm < 8) (hg0 : 0 ≤ rg) (hg8 : rg < 8) (ho0 : 0 ≤ opc) (ho1 : opc < 65536) (h : RS w rb L a fs rex opc sz md rg rm) (hI : IW w ib i)  :
    Calls Try.prog 76 #[.pointer (some ⟨rb, 0, none⟩), .pointer (some ⟨ib, 0, none⟩)] w fun e w' => EndsR (mStored L a fs rex opc sz md rg rm i) (fun j a' => RS w' rb L a' fs rex opc sz md rg rm ∧ IW w' ib j) e ∧ Fr rb ib w w' := by
  rcases hp : placeM L a fs rex md rm with n | ⟨o, a1⟩
  · exact rd_stored_no i hib ha hr0 hr8 hg0 hg8 ho0 ho1 _ h hI n hp ⟨by simp only [mStored, hp, bind, Except.bind, must, if_true, if_false, Bool.false_eq_true]⟩
  · exact rd_stored_ok i hib ha hr0 hr8 hg0 hg8 ho0 ho1 _ h hI o a1 hp ⟨by simp only [mStored, hp, bind, Except.bind, must, if_true, if_false, Bool.false_eq_true]⟩

theorem rd_loaded {w : World} {rb ib : Nat} {L : Ln} {a : Nat} {fs : Bool} {rex opc sz md rg rm : Int} (i : I) (hib : rb < ib) (ha : a ≤ L.len) (hr0 : 0 ≤ rm) (hr8 : rm < 8) (hg0 : 0 ≤ rg) (hg8 : rg < 8) (ho0 : 0 ≤ opc) (ho1 : opc < 65536) (h : RS w rb L a fs rex opc sz md rg rm) (hI : IW w ib i)  :
    Calls Try.prog 77 #[.pointer (some ⟨rb, 0, none⟩), .pointer (some ⟨ib, 0, none⟩)] w fun e w' => EndsR (mLoaded L a fs rex opc sz md rg rm i) (fun j a' => RS w' rb L a' fs rex opc sz md rg rm ∧ IW w' ib j) e ∧ Fr rb ib w w' := by
  rcases hp : placeM L a fs rex md rm with n | ⟨o, a1⟩
  · exact rd_loaded_no i hib ha hr0 hr8 hg0 hg8 ho0 ho1 _ h hI n hp ⟨by simp only [mLoaded, hp, bind, Except.bind, must, if_true, if_false, Bool.false_eq_true]⟩
  · exact rd_loaded_ok i hib ha hr0 hr8 hg0 hg8 ho0 ho1 _ h hI o a1 hp ⟨by simp only [mLoaded, hp, bind, Except.bind, must, if_true, if_false, Bool.false_eq_true]⟩

theorem rd_shiftedByRcx {w : World} {rb ib : Nat} {L : Ln} {a : Nat} {fs : Bool} {rex opc sz md rg rm : Int} (i : I) (hib : rb < ib) (ha : a ≤ L.len) (hr0 : 0 ≤ rm) (hr8 : rm < 8) (hg0 : 0 ≤ rg) (hg8 : rg < 8) (ho0 : 0 ≤ opc) (ho1 : opc < 65536) (h : RS w rb L a fs rex opc sz md rg rm) (hI : IW w ib i)  :
    Calls Try.prog 93 #[.pointer (some ⟨rb, 0, none⟩), .pointer (some ⟨ib, 0, none⟩)] w fun e w' => EndsR (mRcx L a fs rex opc sz md rg rm i) (fun j a' => RS w' rb L a' fs rex opc sz md rg rm ∧ IW w' ib j) e ∧ Fr rb ib w w' := by
  rcases hp : placeM L a fs rex md rm with n | ⟨o, a1⟩
  · exact rd_shiftedByRcx_no i hib ha hr0 hr8 hg0 hg8 ho0 ho1 _ h hI n hp ⟨by simp only [mRcx, hp, bind, Except.bind, must, if_true, if_false, Bool.false_eq_true]⟩
  · exact rd_shiftedByRcx_ok i hib ha hr0 hr8 hg0 hg8 ho0 ho1 _ h hI o a1 hp ⟨by simp only [mRcx, hp, bind, Except.bind, must, if_true, if_false, Bool.false_eq_true]⟩

theorem rd_pushedRegister {w : World} {rb ib : Nat} {L : Ln} {a : Nat} {fs : Bool} {rex opc sz md rg rm : Int} (i : I) (hib : rb < ib) (ha : a ≤ L.len) (hr0 : 0 ≤ rm) (hr8 : rm < 8) (hg0 : 0 ≤ rg) (hg8 : rg < 8) (ho0 : 0 ≤ opc) (ho1 : opc < 65536) (h : RS w rb L a fs rex opc sz md rg rm) (hI : IW w ib i)  :
    Calls Try.prog 78 #[.pointer (some ⟨rb, 0, none⟩), .pointer (some ⟨ib, 0, none⟩)] w fun e w' => EndsR (mPushedRegister L a fs rex opc sz md rg rm i) (fun j a' => RS w' rb L a' fs rex opc sz md rg rm ∧ IW w' ib j) e ∧ Fr rb ib w w' := by
  exact rd_pushedRegister_ok i hib ha hr0 hr8 hg0 hg8 ho0 ho1 _ h hI ⟨rfl⟩

theorem rd_poppedRegister {w : World} {rb ib : Nat} {L : Ln} {a : Nat} {fs : Bool} {rex opc sz md rg rm : Int} (i : I) (hib : rb < ib) (ha : a ≤ L.len) (hr0 : 0 ≤ rm) (hr8 : rm < 8) (hg0 : 0 ≤ rg) (hg8 : rg < 8) (ho0 : 0 ≤ opc) (ho1 : opc < 65536) (h : RS w rb L a fs rex opc sz md rg rm) (hI : IW w ib i)  :
    Calls Try.prog 79 #[.pointer (some ⟨rb, 0, none⟩), .pointer (some ⟨ib, 0, none⟩)] w fun e w' => EndsR (mPoppedRegister L a fs rex opc sz md rg rm i) (fun j a' => RS w' rb L a' fs rex opc sz md rg rm ∧ IW w' ib j) e ∧ Fr rb ib w w' := by
  exact rd_poppedRegister_ok i hib ha hr0 hr8 hg0 hg8 ho0 ho1 _ h hI ⟨rfl⟩

theorem rd_numberedShort {w : World} {rb ib : Nat} {L : Ln} {a : Nat} {fs : Bool} {rex opc sz md rg rm : Int} (i : I) (hib : rb < ib) (ha : a ≤ L.len) (hr0 : 0 ≤ rm) (hr8 : rm < 8) (hg0 : 0 ≤ rg) (hg8 : rg < 8) (ho0 : 0 ≤ opc) (ho1 : opc < 65536) (h : RS w rb L a fs rex opc sz md rg rm) (hI : IW w ib i)  :
    Calls Try.prog 85 #[.pointer (some ⟨rb, 0, none⟩), .pointer (some ⟨ib, 0, none⟩)] w fun e w' => EndsR (mNumberedShort L a fs rex opc sz md rg rm i) (fun j a' => RS w' rb L a' fs rex opc sz md rg rm ∧ IW w' ib j) e ∧ Fr rb ib w w' := by
  rcases hp : placeM L a fs rex md rm with n | ⟨o, a1⟩
  · exact rd_numberedShort_no i hib ha hr0 hr8 hg0 hg8 ho0 ho1 _ h hI n hp ⟨by simp only [mNumberedShort, hp, bind, Except.bind, must, if_true, if_false, Bool.false_eq_true]⟩
  · have ha1 := place_le ha hp
    rcases hn : num L a1 1 with n | ⟨x, a2⟩
    · exact rd_numberedShort_nn i hib ha hr0 hr8 hg0 hg8 ho0 ho1 _ h hI o a1 hp ha1 n hn ⟨by simp only [mNumberedShort, hp, hn, bind, Except.bind, must, if_true, if_false, Bool.false_eq_true]⟩
    · exact rd_numberedShort_ok i hib ha hr0 hr8 hg0 hg8 ho0 ho1 _ h hI o a1 hp ha1 x a2 hn ⟨by simp only [mNumberedShort, hp, hn, bind, Except.bind, must, if_true, if_false, Bool.false_eq_true]⟩

theorem rd_numberedLong {w : World} {rb ib : Nat} {L : Ln} {a : Nat} {fs : Bool} {rex opc sz md rg rm : Int} (i : I) (hib : rb < ib) (ha : a ≤ L.len) (hr0 : 0 ≤ rm) (hr8 : rm < 8) (hg0 : 0 ≤ rg) (hg8 : rg < 8) (ho0 : 0 ≤ opc) (ho1 : opc < 65536) (h : RS w rb L a fs rex opc sz md rg rm) (hI : IW w ib i)  :
    Calls Try.prog 84 #[.pointer (some ⟨rb, 0, none⟩), .pointer (some ⟨ib, 0, none⟩)] w fun e w' => EndsR (mNumberedLong L a fs rex opc sz md rg rm i) (fun j a' => RS w' rb L a' fs rex opc sz md rg rm ∧ IW w' ib j) e ∧ Fr rb ib w w' := by
  rcases hp : placeM L a fs rex md rm with n | ⟨o, a1⟩
  · exact rd_numberedLong_no i hib ha hr0 hr8 hg0 hg8 ho0 ho1 _ h hI n hp ⟨by simp only [mNumberedLong, hp, bind, Except.bind, must, if_true, if_false, Bool.false_eq_true]⟩
  · have ha1 := place_le ha hp
    rcases hn : lng L a1 4 1 with n | ⟨x, a2⟩
    · exact rd_numberedLong_nn i hib ha hr0 hr8 hg0 hg8 ho0 ho1 _ h hI o a1 hp ha1 n hn ⟨by simp only [mNumberedLong, hp, hn, bind, Except.bind, must, if_true, if_false, Bool.false_eq_true]⟩
    · exact rd_numberedLong_ok i hib ha hr0 hr8 hg0 hg8 ho0 ho1 _ h hI o a1 hp ha1 x a2 hn ⟨by simp only [mNumberedLong, hp, hn, bind, Except.bind, must, if_true, if_false, Bool.false_eq_true]⟩

theorem e11 : ((1 : Int) == 1) = true := rfl
theorem e41 : ((4 : Int) == 1) = false := rfl
theorem e81 : ((8 : Int) == 1) = false := rfl
theorem e18 : ((1 : Int) == 8) = false := rfl
theorem e48 : ((4 : Int) == 8) = false := rfl
theorem e88 : ((8 : Int) == 8) = true := rfl

theorem rd_numbered {w : World} {rb ib : Nat} {L : Ln} {a : Nat} {fs : Bool} {rex opc sz md rg rm : Int} (i : I) (hib : rb < ib) (ha : a ≤ L.len) (hr0 : 0 ≤ rm) (hr8 : rm < 8) (hg0 : 0 ≤ rg) (hg8 : rg < 8) (ho0 : 0 ≤ opc) (ho1 : opc < 65536) (h : RS w rb L a fs rex opc sz md rg rm) (hI : IW w ib i) (hsz : sz = 1 ∨ sz = 4 ∨ sz = 8) :
    Calls Try.prog 83 #[.pointer (some ⟨rb, 0, none⟩), .pointer (some ⟨ib, 0, none⟩)] w fun e w' => EndsR (mNumbered L a fs rex opc sz md rg rm i) (fun j a' => RS w' rb L a' fs rex opc sz md rg rm ∧ IW w' ib j) e ∧ Fr rb ib w w' := by
  rcases hsz with rfl | rfl | rfl
  · rcases hp : placeM L a fs rex md rm with n | ⟨o, a1⟩
    · exact rd_numbered_no1 i hib ha hr0 hr8 hg0 hg8 ho0 ho1 _ h hI n hp ⟨by simp only [mNumbered, e11, hp, bind, Except.bind, must, if_true, if_false, Bool.false_eq_true]⟩
    · have ha1 := place_le ha hp
      rcases hn : num L a1 1 with n | ⟨x, a2⟩
      · exact rd_numbered_nn1 i hib ha hr0 hr8 hg0 hg8 ho0 ho1 _ h hI o a1 hp ha1 n hn ⟨by simp only [mNumbered, e11, hp, hn, bind, Except.bind, must, if_true, if_false, Bool.false_eq_true]⟩
      · exact rd_numbered_ok1 i hib ha hr0 hr8 hg0 hg8 ho0 ho1 _ h hI o a1 hp ha1 x a2 hn ⟨by simp only [mNumbered, e11, hp, hn, bind, Except.bind, must, if_true, if_false, Bool.false_eq_true]⟩
  · rcases hp : placeM L a fs rex md rm with n | ⟨o, a1⟩
    · exact rd_numbered_no4 i hib ha hr0 hr8 hg0 hg8 ho0 ho1 _ h hI n hp ⟨by simp only [mNumbered, e41, hp, bind, Except.bind, must, if_true, if_false, Bool.false_eq_true]⟩
    · have ha1 := place_le ha hp
      rcases hn : num L a1 4 with n | ⟨x, a2⟩
      · exact rd_numbered_nn4 i hib ha hr0 hr8 hg0 hg8 ho0 ho1 _ h hI o a1 hp ha1 n hn ⟨by simp only [mNumbered, e41, hp, hn, bind, Except.bind, must, if_true, if_false, Bool.false_eq_true]⟩
      · exact rd_numbered_ok4 i hib ha hr0 hr8 hg0 hg8 ho0 ho1 _ h hI o a1 hp ha1 x a2 hn ⟨by simp only [mNumbered, e41, hp, hn, bind, Except.bind, must, if_true, if_false, Bool.false_eq_true]⟩
  · rcases hp : placeM L a fs rex md rm with n | ⟨o, a1⟩
    · exact rd_numbered_no8 i hib ha hr0 hr8 hg0 hg8 ho0 ho1 _ h hI n hp ⟨by simp only [mNumbered, e81, hp, bind, Except.bind, must, if_true, if_false, Bool.false_eq_true]⟩
    · have ha1 := place_le ha hp
      rcases hn : num L a1 4 with n | ⟨x, a2⟩
      · exact rd_numbered_nn8 i hib ha hr0 hr8 hg0 hg8 ho0 ho1 _ h hI o a1 hp ha1 n hn ⟨by simp only [mNumbered, e81, hp, hn, bind, Except.bind, must, if_true, if_false, Bool.false_eq_true]⟩
      · exact rd_numbered_ok8 i hib ha hr0 hr8 hg0 hg8 ho0 ho1 _ h hI o a1 hp ha1 x a2 hn ⟨by simp only [mNumbered, e81, hp, hn, bind, Except.bind, must, if_true, if_false, Bool.false_eq_true]⟩

theorem rd_shifted {w : World} {rb ib : Nat} {L : Ln} {a : Nat} {fs : Bool} {rex opc sz md rg rm : Int} (i : I) (hib : rb < ib) (ha : a ≤ L.len) (hr0 : 0 ≤ rm) (hr8 : rm < 8) (hg0 : 0 ≤ rg) (hg8 : rg < 8) (ho0 : 0 ≤ opc) (ho1 : opc < 65536) (h : RS w rb L a fs rex opc sz md rg rm) (hI : IW w ib i) (hsz : sz = 1 ∨ sz = 4 ∨ sz = 8) :
    Calls Try.prog 91 #[.pointer (some ⟨rb, 0, none⟩), .pointer (some ⟨ib, 0, none⟩)] w fun e w' => EndsR (mShifted L a fs rex opc sz md rg rm i) (fun j a' => RS w' rb L a' fs rex opc sz md rg rm ∧ IW w' ib j) e ∧ Fr rb ib w w' := by
  rcases hsz with rfl | rfl | rfl
  · rcases hp : placeM L a fs rex md rm with n | ⟨o, a1⟩
    · exact rd_shifted_no1 i hib ha hr0 hr8 hg0 hg8 ho0 ho1 _ h hI n hp ⟨by simp only [mShifted, hp, bind, Except.bind, must, if_true, if_false, Bool.false_eq_true]⟩
    · have ha1 := place_le ha hp
      rcases hn : num L a1 1 with n | ⟨x, a2⟩
      · exact rd_shifted_nn1 i hib ha hr0 hr8 hg0 hg8 ho0 ho1 _ h hI o a1 hp ha1 n hn ⟨by simp only [mShifted, hp, hn, bind, Except.bind, must, if_true, if_false, Bool.false_eq_true]⟩
      · by_cases hx1 : 0 ≤ x
        · by_cases hx2 : x < 32
          · exact rd_shifted_ok1 i hib ha hr0 hr8 hg0 hg8 ho0 ho1 _ h hI o a1 hp ha1 x a2 hn hx1 hx2 ⟨by simp only [mShifted, hp, hn, bind, Except.bind, must, e18, if_true, if_false, Bool.false_eq_true, decide_eq_true hx1, decide_eq_true hx2, Bool.and_true]⟩
          · exact rd_shifted_hi1 i hib ha hr0 hr8 hg0 hg8 ho0 ho1 _ h hI o a1 hp ha1 x a2 hn hx1 hx2 ⟨by simp only [mShifted, hp, hn, bind, Except.bind, must, e18, if_true, if_false, Bool.false_eq_true, decide_eq_true hx1, decide_eq_false hx2, Bool.and_false]⟩
        · exact rd_shifted_lo1 i hib ha hr0 hr8 hg0 hg8 ho0 ho1 _ h hI o a1 hp ha1 x a2 hn hx1 ⟨by simp only [mShifted, hp, hn, bind, Except.bind, must, e18, if_true, if_false, Bool.false_eq_true, decide_eq_false hx1, Bool.false_and]⟩
  · rcases hp : placeM L a fs rex md rm with n | ⟨o, a1⟩
    · exact rd_shifted_no4 i hib ha hr0 hr8 hg0 hg8 ho0 ho1 _ h hI n hp ⟨by simp only [mShifted, hp, bind, Except.bind, must, if_true, if_false, Bool.false_eq_true]⟩
    · have ha1 := place_le ha hp
      rcases hn : num L a1 1 with n | ⟨x, a2⟩
      · exact rd_shifted_nn4 i hib ha hr0 hr8 hg0 hg8 ho0 ho1 _ h hI o a1 hp ha1 n hn ⟨by simp only [mShifted, hp, hn, bind, Except.bind, must, if_true, if_false, Bool.false_eq_true]⟩
      · by_cases hx1 : 0 ≤ x
        · by_cases hx2 : x < 32
          · exact rd_shifted_ok4 i hib ha hr0 hr8 hg0 hg8 ho0 ho1 _ h hI o a1 hp ha1 x a2 hn hx1 hx2 ⟨by simp only [mShifted, hp, hn, bind, Except.bind, must, e48, if_true, if_false, Bool.false_eq_true, decide_eq_true hx1, decide_eq_true hx2, Bool.and_true]⟩
          · exact rd_shifted_hi4 i hib ha hr0 hr8 hg0 hg8 ho0 ho1 _ h hI o a1 hp ha1 x a2 hn hx1 hx2 ⟨by simp only [mShifted, hp, hn, bind, Except.bind, must, e48, if_true, if_false, Bool.false_eq_true, decide_eq_true hx1, decide_eq_false hx2, Bool.and_false]⟩
        · exact rd_shifted_lo4 i hib ha hr0 hr8 hg0 hg8 ho0 ho1 _ h hI o a1 hp ha1 x a2 hn hx1 ⟨by simp only [mShifted, hp, hn, bind, Except.bind, must, e48, if_true, if_false, Bool.false_eq_true, decide_eq_false hx1, Bool.false_and]⟩
  · rcases hp : placeM L a fs rex md rm with n | ⟨o, a1⟩
    · exact rd_shifted_no8 i hib ha hr0 hr8 hg0 hg8 ho0 ho1 _ h hI n hp ⟨by simp only [mShifted, hp, bind, Except.bind, must, if_true, if_false, Bool.false_eq_true]⟩
    · have ha1 := place_le ha hp
      rcases hn : num L a1 1 with n | ⟨x, a2⟩
      · exact rd_shifted_nn8 i hib ha hr0 hr8 hg0 hg8 ho0 ho1 _ h hI o a1 hp ha1 n hn ⟨by simp only [mShifted, hp, hn, bind, Except.bind, must, if_true, if_false, Bool.false_eq_true]⟩
      · by_cases hx1 : 0 ≤ x
        · by_cases hx2 : x < 64
          · exact rd_shifted_ok8 i hib ha hr0 hr8 hg0 hg8 ho0 ho1 _ h hI o a1 hp ha1 x a2 hn hx1 hx2 ⟨by simp only [mShifted, hp, hn, bind, Except.bind, must, e88, if_true, if_false, Bool.false_eq_true, decide_eq_true hx1, decide_eq_true hx2, Bool.and_true]⟩
          · exact rd_shifted_hi8 i hib ha hr0 hr8 hg0 hg8 ho0 ho1 _ h hI o a1 hp ha1 x a2 hn hx1 hx2 ⟨by simp only [mShifted, hp, hn, bind, Except.bind, must, e88, if_true, if_false, Bool.false_eq_true, decide_eq_true hx1, decide_eq_false hx2, Bool.and_false]⟩
        · exact rd_shifted_lo8 i hib ha hr0 hr8 hg0 hg8 ho0 ho1 _ h hI o a1 hp ha1 x a2 hn hx1 ⟨by simp only [mShifted, hp, hn, bind, Except.bind, must, e88, if_true, if_false, Bool.false_eq_true, decide_eq_false hx1, Bool.false_and]⟩

theorem rd_pushedLong {w : World} {rb ib : Nat} {L : Ln} {a : Nat} {fs : Bool} {rex opc sz md rg rm : Int} (i : I) (hib : rb < ib) (ha : a ≤ L.len) (hr0 : 0 ≤ rm) (hr8 : rm < 8) (hg0 : 0 ≤ rg) (hg8 : rg < 8) (ho0 : 0 ≤ opc) (ho1 : opc < 65536) (h : RS w rb L a fs rex opc sz md rg rm) (hI : IW w ib i)  :
    Calls Try.prog 80 #[.pointer (some ⟨rb, 0, none⟩), .pointer (some ⟨ib, 0, none⟩)] w fun e w' => EndsR (mPushedLong L a fs rex opc sz md rg rm i) (fun j a' => RS w' rb L a' fs rex opc sz md rg rm ∧ IW w' ib j) e ∧ Fr rb ib w w' := by
  rcases hn : lng L a 4 1 with n | ⟨x, a2⟩
  · exact rd_pushedLong_no i hib ha hr0 hr8 hg0 hg8 ho0 ho1 _ h hI n hn ⟨by simp only [mPushedLong, hn, bind, Except.bind, must, if_true, if_false, Bool.false_eq_true]⟩
  · exact rd_pushedLong_ok i hib ha hr0 hr8 hg0 hg8 ho0 ho1 _ h hI x a2 hn ⟨by simp only [mPushedLong, hn, bind, Except.bind, must, if_true, if_false, Bool.false_eq_true]⟩

theorem rd_pushedShort {w : World} {rb ib : Nat} {L : Ln} {a : Nat} {fs : Bool} {rex opc sz md rg rm : Int} (i : I) (hib : rb < ib) (ha : a ≤ L.len) (hr0 : 0 ≤ rm) (hr8 : rm < 8) (hg0 : 0 ≤ rg) (hg8 : rg < 8) (ho0 : 0 ≤ opc) (ho1 : opc < 65536) (h : RS w rb L a fs rex opc sz md rg rm) (hI : IW w ib i)  :
    Calls Try.prog 81 #[.pointer (some ⟨rb, 0, none⟩), .pointer (some ⟨ib, 0, none⟩)] w fun e w' => EndsR (mPushedShort L a fs rex opc sz md rg rm i) (fun j a' => RS w' rb L a' fs rex opc sz md rg rm ∧ IW w' ib j) e ∧ Fr rb ib w w' := by
  rcases hn : num L a 1 with n | ⟨x, a2⟩
  · exact rd_pushedShort_no i hib ha hr0 hr8 hg0 hg8 ho0 ho1 _ h hI n hn ⟨by simp only [mPushedShort, hn, bind, Except.bind, must, if_true, if_false, Bool.false_eq_true]⟩
  · exact rd_pushedShort_ok i hib ha hr0 hr8 hg0 hg8 ho0 ho1 _ h hI x a2 hn ⟨by simp only [mPushedShort, hn, bind, Except.bind, must, if_true, if_false, Bool.false_eq_true]⟩

theorem rd_jumped {w : World} {rb ib : Nat} {L : Ln} {a : Nat} {fs : Bool} {rex opc sz md rg rm : Int} (i : I) (hib : rb < ib) (ha : a ≤ L.len) (hr0 : 0 ≤ rm) (hr8 : rm < 8) (hg0 : 0 ≤ rg) (hg8 : rg < 8) (ho0 : 0 ≤ opc) (ho1 : opc < 65536) (h : RS w rb L a fs rex opc sz md rg rm) (hI : IW w ib i)  :
    Calls Try.prog 94 #[.pointer (some ⟨rb, 0, none⟩), .pointer (some ⟨ib, 0, none⟩)] w fun e w' => EndsR (mJumped L a fs rex opc sz md rg rm i) (fun j a' => RS w' rb L a' fs rex opc sz md rg rm ∧ IW w' ib j) e ∧ Fr rb ib w w' := by
  rcases hn : num L a 4 with n | ⟨x, a2⟩
  · exact rd_jumped_no i hib ha hr0 hr8 hg0 hg8 ho0 ho1 _ h hI n hn ⟨by simp only [mJumped, hn, bind, Except.bind, must, if_true, if_false, Bool.false_eq_true]⟩
  · exact rd_jumped_ok i hib ha hr0 hr8 hg0 hg8 ho0 ho1 _ h hI x a2 hn ⟨by simp only [mJumped, hn, bind, Except.bind, must, if_true, if_false, Bool.false_eq_true]⟩

theorem rd_jumpedShort {w : World} {rb ib : Nat} {L : Ln} {a : Nat} {fs : Bool} {rex opc sz md rg rm : Int} (i : I) (hib : rb < ib) (ha : a ≤ L.len) (hr0 : 0 ≤ rm) (hr8 : rm < 8) (hg0 : 0 ≤ rg) (hg8 : rg < 8) (ho0 : 0 ≤ opc) (ho1 : opc < 65536) (h : RS w rb L a fs rex opc sz md rg rm) (hI : IW w ib i)  :
    Calls Try.prog 82 #[.pointer (some ⟨rb, 0, none⟩), .pointer (some ⟨ib, 0, none⟩)] w fun e w' => EndsR (mJumpedShort L a fs rex opc sz md rg rm i) (fun j a' => RS w' rb L a' fs rex opc sz md rg rm ∧ IW w' ib j) e ∧ Fr rb ib w w' := by
  rcases hn : num L a 1 with n | ⟨x, a2⟩
  · exact rd_jumpedShort_no i hib ha hr0 hr8 hg0 hg8 ho0 ho1 _ h hI n hn ⟨by simp only [mJumpedShort, hn, bind, Except.bind, must, if_true, if_false, Bool.false_eq_true]⟩
  · exact rd_jumpedShort_ok i hib ha hr0 hr8 hg0 hg8 ho0 ho1 _ h hI x a2 hn ⟨by simp only [mJumpedShort, hn, bind, Except.bind, must, if_true, if_false, Bool.false_eq_true]⟩

theorem rd_moved {w : World} {rb ib : Nat} {L : Ln} {a : Nat} {fs : Bool} {rex opc sz md rg rm : Int} (i : I) (hib : rb < ib) (ha : a ≤ L.len) (hr0 : 0 ≤ rm) (hr8 : rm < 8) (hg0 : 0 ≤ rg) (hg8 : rg < 8) (ho0 : 0 ≤ opc) (ho1 : opc < 65536) (h : RS w rb L a fs rex opc sz md rg rm) (hI : IW w ib i) (hsz : sz = 1 ∨ sz = 4 ∨ sz = 8) :
    Calls Try.prog 90 #[.pointer (some ⟨rb, 0, none⟩), .pointer (some ⟨ib, 0, none⟩)] w fun e w' => EndsR (mMoved L a fs rex opc sz md rg rm i) (fun j a' => RS w' rb L a' fs rex opc sz md rg rm ∧ IW w' ib j) e ∧ Fr rb ib w w' := by
  rcases hsz with rfl | rfl | rfl
  · rcases hn : num L a 1 with n | ⟨x, a2⟩
    · exact rd_moved_no1 i hib ha hr0 hr8 hg0 hg8 ho0 ho1 _ h hI n hn ⟨by simp only [mMoved, e18, e11, hn, bind, Except.bind, must, if_true, if_false, Bool.false_eq_true]⟩
    · exact rd_moved_ok1 i hib ha hr0 hr8 hg0 hg8 ho0 ho1 _ h hI x a2 hn ⟨by simp only [mMoved, e18, e11, hn, bind, Except.bind, must, if_true, if_false, Bool.false_eq_true]⟩
  · rcases hn : num L a 4 with n | ⟨x, a2⟩
    · exact rd_moved_no4 i hib ha hr0 hr8 hg0 hg8 ho0 ho1 _ h hI n hn ⟨by simp only [mMoved, e48, e41, hn, bind, Except.bind, must, if_true, if_false, Bool.false_eq_true]⟩
    · exact rd_moved_ok4 i hib ha hr0 hr8 hg0 hg8 ho0 ho1 _ h hI x a2 hn ⟨by simp only [mMoved, e48, e41, hn, bind, Except.bind, must, if_true, if_false, Bool.false_eq_true]⟩
  · rcases hn : lng L a 8 4 with n | ⟨x, a2⟩
    · exact rd_moved_no8 i hib ha hr0 hr8 hg0 hg8 ho0 ho1 _ h hI n hn ⟨by simp only [mMoved, e88, hn, bind, Except.bind, must, if_true, if_false, Bool.false_eq_true]⟩
    · exact rd_moved_ok8 i hib ha hr0 hr8 hg0 hg8 ho0 ho1 _ h hI x a2 hn ⟨by simp only [mMoved, e88, hn, bind, Except.bind, must, if_true, if_false, Bool.false_eq_true]⟩

theorem rd_changedOrReached {w : World} {rb ib : Nat} {L : Ln} {a : Nat} {fs : Bool} {rex opc sz md rg rm : Int} (i : I) (hib : rb < ib) (ha : a ≤ L.len) (hr0 : 0 ≤ rm) (hr8 : rm < 8) (hg0 : 0 ≤ rg) (hg8 : rg < 8) (ho0 : 0 ≤ opc) (ho1 : opc < 65536) (h : RS w rb L a fs rex opc sz md rg rm) (hI : IW w ib i)  :
    Calls Try.prog 96 #[.pointer (some ⟨rb, 0, none⟩), .pointer (some ⟨ib, 0, none⟩)] w fun e w' => EndsR (mReached L a fs rex opc sz md rg rm i) (fun j a' => RS w' rb L a' fs rex opc sz md rg rm ∧ IW w' ib j) e ∧ Fr rb ib w w' := by
  cases h15 : (i.op == 15)
  case true =>
    have hop : i.op = 15 := by simpa using h15
    rcases hp : placeM L a fs rex md rm with n | ⟨o, a1⟩
    · exact rd_reached_ano i hib ha hr0 hr8 hg0 hg8 ho0 ho1 _ h hI hop n hp ⟨by simp only [mReached, h15, hp, bind, Except.bind, Bool.true_or, if_true]⟩
    · exact rd_reached_aok i hib ha hr0 hr8 hg0 hg8 ho0 ho1 _ h hI hop o a1 hp ⟨by simp only [mReached, h15, hp, bind, Except.bind, Bool.true_or, if_true]⟩
  cases h16 : (i.op == 16)
  case true =>
    have hop : i.op = 16 := by simpa using h16
    rcases hp : placeM L a fs rex md rm with n | ⟨o, a1⟩
    · exact rd_reached_bno i hib ha hr0 hr8 hg0 hg8 ho0 ho1 _ h hI hop n hp ⟨by simp only [mReached, h16, hp, bind, Except.bind, Bool.or_true, if_true]⟩
    · exact rd_reached_bok i hib ha hr0 hr8 hg0 hg8 ho0 ho1 _ h hI hop o a1 hp ⟨by simp only [mReached, h16, hp, bind, Except.bind, Bool.or_true, if_true]⟩
  have h15n : (i.op != 15) = true := by simp [bne, h15]
  have h16n : (i.op != 16) = true := by simp [bne, h16]
  cases h4 : (sz == 4)
  case false => exact rd_reached_no4 i hib ha hr0 hr8 hg0 hg8 ho0 ho1 _ h hI h15 h15n h16 h16n h4 ⟨by simp only [mReached, h15, h16, h4, must, Bool.or_false, Bool.false_eq_true, if_false]⟩
  cases h20 : (i.op == 20)
  case false =>
    rcases hp : placeM L a fs rex md rm with n | ⟨o, a1⟩
    · exact rd_reached_no i hib ha hr0 hr8 hg0 hg8 ho0 ho1 _ h hI h15 h15n h16 h16n h4 h20 n hp ⟨by simp only [mReached, h15, h16, h4, h20, hp, bind, Except.bind, must, Bool.or_false, Bool.false_eq_true, if_false, if_true]⟩
    · exact rd_reached_ok i hib ha hr0 hr8 hg0 hg8 ho0 ho1 _ h hI h15 h15n h16 h16n h4 h20 o a1 hp ⟨by simp only [mReached, h15, h16, h4, h20, hp, bind, Except.bind, must, Bool.or_false, Bool.false_eq_true, if_false, if_true]⟩
  cases h3 : (md == 3)
  case true =>
    have h3n : (md != 3) = false := by simp [bne, h3]
    exact rd_reached_p3 i hib ha hr0 hr8 hg0 hg8 ho0 ho1 _ h hI h15 h15n h16 h16n h4 h20 h3 h3n ⟨by simp only [mReached, h15, h16, h4, h20, h3n, must, Bool.or_false, Bool.false_eq_true, if_false, if_true]⟩
  have h3n : (md != 3) = true := by simp [bne, h3]
  rcases hp : placeM L a fs rex md rm with n | ⟨o, a1⟩
  · exact rd_reached_pno i hib ha hr0 hr8 hg0 hg8 ho0 ho1 _ h hI h15 h15n h16 h16n h4 h20 h3 h3n n hp ⟨by simp only [mReached, h15, h16, h4, h20, h3n, hp, bind, Except.bind, must, Bool.or_false, Bool.false_eq_true, if_false, if_true]⟩
  · exact rd_reached_pok i hib ha hr0 hr8 hg0 hg8 ho0 ho1 _ h hI h15 h15n h16 h16n h4 h20 h3 h3n o a1 hp ⟨by simp only [mReached, h15, h16, h4, h20, h3n, hp, bind, Except.bind, must, Bool.or_false, Bool.false_eq_true, if_false, if_true]⟩

set_option maxHeartbeats 2000000 in
theorem rd_numberedWide {w : World} {rb ib : Nat} {L : Ln} {a : Nat} {fs : Bool} {rex opc sz md rg rm : Int} (i : I) (hib : rb < ib) (ha : a ≤ L.len) (hr0 : 0 ≤ rm) (hr8 : rm < 8) (hg0 : 0 ≤ rg) (hg8 : rg < 8) (ho0 : 0 ≤ opc) (ho1 : opc < 65536) (h : RS w rb L a fs rex opc sz md rg rm) (hI : IW w ib i) (hsz : sz = 1 ∨ sz = 4 ∨ sz = 8) :
    Calls Try.prog 92 #[.pointer (some ⟨rb, 0, none⟩), .pointer (some ⟨ib, 0, none⟩)] w fun e w' => EndsR (mNumberedWide L a fs rex opc sz md rg rm i) (fun j a' => RS w' rb L a' fs rex opc sz md rg rm ∧ IW w' ib j) e ∧ Fr rb ib w w' := by
  have HS := rd_numbered i hib ha hr0 hr8 hg0 hg8 ho0 ho1 h hI hsz
  (have rc := h); obtain ⟨d0, d1, d2, d3, d4, d5, d6, d7, d8, dz, dl⟩ := rc
  have t3 : ((md != 3) = true ∧ (md == 3) = false) ∨ ((md != 3) = false ∧ (md == 3) = true) := by by_cases e : md = 3 <;> simp [e]
  have hb : (md != 3 || sz == 8) = true ∨ ((md != 3) = false ∧ (sz == 8) = false) := by cases md != 3 <;> cases sz == 8 <;> simp
  rcases hb with hb | ⟨hb1, hb2⟩
  · have HM : Hid (mNumberedWide L a fs rex opc sz md rg rm i = mNumbered L a fs rex opc sz md rg rm i) := ⟨by simp only [mNumberedWide, hb, must, if_true]⟩
    have HR0 : Hid (mNumbered L a fs rex opc sz md rg rm i = mNumbered L a fs rex opc sz md rg rm i) := ⟨rfl⟩
    generalize mNumberedWide L a fs rex opc sz md rg rm i = m at *
    generalize hq : mNumbered L a fs rex opc sz md rg rm i = q at *
    have HR : Hid (m = q) := ⟨HM.out⟩
    clear HM HR0 hq h hI
    rcases q with n | ⟨j, a2⟩
    all_goals
      rcases t3 with ⟨t1, t2⟩ | ⟨t1, t2⟩
      case' inr => (have h8 : (sz == 8) = true := by simpa [t1] using hb)
    all_goals
      go_enter Try.func92, Try.ntmps92
      go_wp2_with (first | (go_at_call 66; (with_reducible refine (insist_yes _).mono ?_); rintro e wz ⟨rfl, hwz⟩; subst wz) | (go_at_call 83; (with_reducible refine HS.mono ?_); rintro e w1 ⟨he, hF1⟩; first | (obtain ⟨he', hX1⟩ := he; subst he') | ((have he' : _ = _ := he); subst he')))
    all_goals
      first
      | (go_end0; refine ⟨?_, hF1⟩; rw [HR.out]; exact ⟨rfl, hX1⟩)
      | (refine bodyPost_ret (results_none rfl _ _ _) rfl ?_; refine ⟨?_, hF1⟩; rw [HR.out]; exact ⟨rfl, hX1⟩)
      | (refine ⟨rfl, ?_, hF1⟩; rw [HR.out]; rfl)
  · have HR : Hid (mNumberedWide L a fs rex opc sz md rg rm i = .error 30) := ⟨by simp only [mNumberedWide, hb1, hb2, must, Bool.or_false, Bool.false_eq_true, if_false]⟩
    generalize mNumberedWide L a fs rex opc sz md rg rm i = m at *
    have t4 : (md == 3) = true := by simpa [bne] using hb1
    clear HS h hI t3
    go_enter Try.func92, Try.ntmps92
    go_wp2_with (first | (go_at_call 66; (with_reducible refine (insist_no _).mono ?_); rintro e wz ⟨rfl, hwz⟩; subst wz))
    exact ⟨rfl, (by rw [HR.out]; rfl), Fr.refl _ _ _⟩

set_option maxHeartbeats 2000000 in
theorem rd_testedOrChanged {w : World} {rb ib : Nat} {L : Ln} {a : Nat} {fs : Bool} {rex opc sz md rg rm : Int} (i : I) (hib : rb < ib) (ha : a ≤ L.len) (hr0 : 0 ≤ rm) (hr8 : rm < 8) (hg0 : 0 ≤ rg) (hg8 : rg < 8) (ho0 : 0 ≤ opc) (ho1 : opc < 65536) (h : RS w rb L a fs rex opc sz md rg rm) (hI : IW w ib i) (hsz : sz = 1 ∨ sz = 4 ∨ sz = 8) :
    Calls Try.prog 95 #[.pointer (some ⟨rb, 0, none⟩), .pointer (some ⟨ib, 0, none⟩)] w fun e w' => EndsR (mTested L a fs rex opc sz md rg rm i) (fun j a' => RS w' rb L a' fs rex opc sz md rg rm ∧ IW w' ib j) e ∧ Fr rb ib w w' := by
  have HS1 := rd_numbered i hib ha hr0 hr8 hg0 hg8 ho0 ho1 h hI hsz
  have HS2 := rd_changed i hib ha hr0 hr8 hg0 hg8 ho0 ho1 h hI
  (have ic := hI); obtain ⟨⟨x0, x1, x2, x3, x4, x5, x6, x7, x8, x9, x10, x11, x12, x13, x14, x15, x16, x17, x18, x19, x20, x21, x22, x23⟩, xz⟩ := ic
  cases h11 : (i.op == 11)
  · have HS := HS2
    have HM : Hid (mTested L a fs rex opc sz md rg rm i = mChanged L a fs rex opc sz md rg rm i) := ⟨by simp only [mTested, h11, Bool.false_eq_true, if_false]⟩
    generalize mTested L a fs rex opc sz md rg rm i = m at *
    generalize mChanged L a fs rex opc sz md rg rm i = q at *
    have HR : Hid (m = q) := ⟨HM.out⟩
    clear HM HS1 HS2 h hI
    rcases q with n | ⟨j, a2⟩
    all_goals
      go_enter Try.func95, Try.ntmps95
      go_wp2_with (go_at_call 86; (with_reducible refine HS.mono ?_); rintro e w1 ⟨he, hF1⟩; first | (obtain ⟨he', hX1⟩ := he; subst he') | ((have he' : _ = _ := he); subst he'))
    all_goals
      first
      | (go_end0; refine ⟨?_, hF1⟩; rw [HR.out]; exact ⟨rfl, hX1⟩)
      | (refine bodyPost_ret (results_none rfl _ _ _) rfl ?_; refine ⟨?_, hF1⟩; rw [HR.out]; exact ⟨rfl, hX1⟩)
      | (refine ⟨rfl, ?_, hF1⟩; rw [HR.out]; rfl)
  · have HS := HS1
    have HM : Hid (mTested L a fs rex opc sz md rg rm i = mNumbered L a fs rex opc sz md rg rm i) := ⟨by simp only [mTested, h11, if_true]⟩
    generalize mTested L a fs rex opc sz md rg rm i = m at *
    generalize mNumbered L a fs rex opc sz md rg rm i = q at *
    have HR : Hid (m = q) := ⟨HM.out⟩
    clear HM HS1 HS2 h hI
    rcases q with n | ⟨j, a2⟩
    all_goals
      go_enter Try.func95, Try.ntmps95
      go_wp2_with (go_at_call 83; (with_reducible refine HS.mono ?_); rintro e w1 ⟨he, hF1⟩; first | (obtain ⟨he', hX1⟩ := he; subst he') | ((have he' : _ = _ := he); subst he'))
    all_goals
      first
      | (go_end0; refine ⟨?_, hF1⟩; rw [HR.out]; exact ⟨rfl, hX1⟩)
      | (refine bodyPost_ret (results_none rfl _ _ _) rfl ?_; refine ⟨?_, hF1⟩; rw [HR.out]; exact ⟨rfl, hX1⟩)
      | (refine ⟨rfl, ?_, hF1⟩; rw [HR.out]; rfl)

set_option maxHeartbeats 2000000 in
theorem rd_movedByte {w : World} {rb ib : Nat} {L : Ln} {a : Nat} {fs : Bool} {rex opc sz md rg rm : Int} (i : I) (hib : rb < ib) (ha : a ≤ L.len) (hr0 : 0 ≤ rm) (hr8 : rm < 8) (hg0 : 0 ≤ rg) (hg8 : rg < 8) (ho0 : 0 ≤ opc) (ho1 : opc < 65536) (h : RS w rb L a fs rex opc sz md rg rm) (hI : IW w ib i) (hsz : sz = 1 ∨ sz = 4 ∨ sz = 8) :
    Calls Try.prog 89 #[.pointer (some ⟨rb, 0, none⟩), .pointer (some ⟨ib, 0, none⟩)] w fun e w' => EndsR (mMovedByte L a fs rex opc sz md rg rm i) (fun j a' => RS w' rb L a' fs rex opc sz md rg rm ∧ IW w' ib j) e ∧ Fr rb ib w w' := by
  have HS := rd_moved i hib ha hr0 hr8 hg0 hg8 ho0 ho1 h hI hsz
  have HW := withinNumber_any ho0 ho1 h
  have HA := isAbove_any (regOf rex (opc % 8) 1) w
  have HB := settleByte_any (above (regOf rex (opc % 8) 1)) h
  have HM : Hid (mMovedByte L a fs rex opc sz md rg rm i = must (byteOk rex (above (regOf rex (opc % 8) 1))) (mMoved L a fs rex opc sz md rg rm i)) := ⟨rfl⟩
  generalize mMovedByte L a fs rex opc sz md rg rm i = m at *
  generalize mMoved L a fs rex opc sz md rg rm i = q at *
  generalize above (regOf rex (opc % 8) 1) = one at *
  generalize regOf rex (opc % 8) 1 = nn at *
  clear h hI
  cases hb : byteOk rex one
  · rw [hb] at HB HM
    go_enter Try.func89, Try.ntmps89
    go_wp2_with (first | (go_at_call 99; (with_reducible refine HW.mono ?_); rintro e wz ⟨rfl, hwz⟩; subst wz) | (go_at_call 72; (with_reducible refine HA.mono ?_); rintro e wz ⟨rfl, hwz⟩; subst wz) | (go_at_call 75; (with_reducible refine HB.mono ?_); rintro e wz ⟨he, hwz⟩; (have he' : _ = _ := he); subst he' wz))
    exact ⟨rfl, (by rw [HM.out]; rfl), Fr.refl _ _ _⟩
  · rw [hb] at HB HM
    have HR : Hid (m = q) := ⟨HM.out⟩
    clear HM
    rcases q with n | ⟨j, a2⟩
    all_goals
      go_enter Try.func89, Try.ntmps89
      go_wp2_with (first | (go_at_call 99; (with_reducible refine HW.mono ?_); rintro e wz ⟨rfl, hwz⟩; subst wz) | (go_at_call 72; (with_reducible refine HA.mono ?_); rintro e wz ⟨rfl, hwz⟩; subst wz) | (go_at_call 75; (with_reducible refine HB.mono ?_); rintro e wz ⟨he, hwz⟩; (have he' : _ = _ := he); subst he' wz) | (go_at_call 90; (with_reducible refine HS.mono ?_); rintro e w1 ⟨he, hF1⟩; first | (obtain ⟨he', hX1⟩ := he; subst he') | ((have he' : _ = _ := he); subst he')))
    all_goals
      first
      | (go_end0; refine ⟨?_, hF1⟩; rw [HR.out]; exact ⟨rfl, hX1⟩)
      | (refine bodyPost_ret (results_none rfl _ _ _) rfl ?_; refine ⟨?_, hF1⟩; rw [HR.out]; exact ⟨rfl, hX1⟩)
      | (refine ⟨rfl, ?_, hF1⟩; rw [HR.out]; rfl)

end Go.Proofs.Ytjbepojopfbajaa
