/- What each row's call does; what the rows have in common. -/
import Derived.Test.YtjbepojopfbajaaDReads
import Derived.Test.YtjbepojopfbajaaDRow
import Derived.Test.YtjbepojopfbajaaDOp
import Derived.Shelf.Abstract
namespace Go.Proofs.Ytjbepojopfbajaa
open Go.ChangeShapes Go.WideShapes Go.ChangeAt Go.RowKit
set_option linter.unusedVariables false
set_option linter.unusedSimpArgs false

def fnsL : List Nat := [76, 77, 78, 79, 80, 81, 82, 83, 84, 85, 86, 87, 88, 89, 90, 91, 92, 93, 94, 95, 96]
/-- What a row's call puts in. -/
def readM (f : Nat) (L : Ln) (a : Nat) (fs : Bool) (rex opc sz md rg rm : Int) (i : I) : Except Int (I × Nat) :=
  if f = 76 then mStored L a fs rex opc sz md rg rm i else
  if f = 77 then mLoaded L a fs rex opc sz md rg rm i else
  if f = 78 then mPushedRegister L a fs rex opc sz md rg rm i else
  if f = 79 then mPoppedRegister L a fs rex opc sz md rg rm i else
  if f = 80 then mPushedLong L a fs rex opc sz md rg rm i else
  if f = 81 then mPushedShort L a fs rex opc sz md rg rm i else
  if f = 82 then mJumpedShort L a fs rex opc sz md rg rm i else
  if f = 83 then mNumbered L a fs rex opc sz md rg rm i else
  if f = 84 then mNumberedLong L a fs rex opc sz md rg rm i else
  if f = 85 then mNumberedShort L a fs rex opc sz md rg rm i else
  if f = 86 then mChanged L a fs rex opc sz md rg rm i else
  if f = 87 then mAlone L a fs rex opc sz md rg rm i else
  if f = 88 then mAloneWide L a fs rex opc sz md rg rm i else
  if f = 89 then mMovedByte L a fs rex opc sz md rg rm i else
  if f = 90 then mMoved L a fs rex opc sz md rg rm i else
  if f = 91 then mShifted L a fs rex opc sz md rg rm i else
  if f = 92 then mNumberedWide L a fs rex opc sz md rg rm i else
  if f = 93 then mRcx L a fs rex opc sz md rg rm i else
  if f = 94 then mJumped L a fs rex opc sz md rg rm i else
  if f = 95 then mTested L a fs rex opc sz md rg rm i else
  if f = 96 then mReached L a fs rex opc sz md rg rm i else
  .error 0

theorem read_any {w : World} {rb ib : Nat} {L : Ln} {a : Nat} {fs : Bool} {rex opc sz md rg rm : Int} (f : Nat) (hf : f ∈ fnsL) (i : I) (hib : rb < ib) (ha : a ≤ L.len) (hr0 : 0 ≤ rm) (hr8 : rm < 8) (hg0 : 0 ≤ rg) (hg8 : rg < 8) (ho0 : 0 ≤ opc) (ho1 : opc < 65536) (hsz : (sz = 1 ∨ sz = 4 ∨ sz = 8) ∨ f = 87) (h : RS w rb L a fs rex opc sz md rg rm) (hI : IW w ib i) :
    Calls Try.prog f #[.pointer (some ⟨rb, 0, none⟩), .pointer (some ⟨ib, 0, none⟩)] w fun e w' => EndsR (readM f L a fs rex opc sz md rg rm i) (fun j a' => RS w' rb L a' fs rex opc sz md rg rm ∧ IW w' ib j) e ∧ Fr rb ib w w' := by
  simp only [fnsL, List.mem_cons, List.not_mem_nil, or_false] at hf
  rcases hf with rfl | rfl | rfl | rfl | rfl | rfl | rfl | rfl | rfl | rfl | rfl | rfl | rfl | rfl | rfl | rfl | rfl | rfl | rfl | rfl | rfl
  · exact rd_stored i hib ha hr0 hr8 hg0 hg8 ho0 ho1 h hI
  · exact rd_loaded i hib ha hr0 hr8 hg0 hg8 ho0 ho1 h hI
  · exact rd_pushedRegister i hib ha hr0 hr8 hg0 hg8 ho0 ho1 h hI
  · exact rd_poppedRegister i hib ha hr0 hr8 hg0 hg8 ho0 ho1 h hI
  · exact rd_pushedLong i hib ha hr0 hr8 hg0 hg8 ho0 ho1 h hI
  · exact rd_pushedShort i hib ha hr0 hr8 hg0 hg8 ho0 ho1 h hI
  · exact rd_jumpedShort i hib ha hr0 hr8 hg0 hg8 ho0 ho1 h hI
  · exact rd_numbered i hib ha hr0 hr8 hg0 hg8 ho0 ho1 h hI (hsz.resolve_right (by decide))
  · exact rd_numberedLong i hib ha hr0 hr8 hg0 hg8 ho0 ho1 h hI
  · exact rd_numberedShort i hib ha hr0 hr8 hg0 hg8 ho0 ho1 h hI
  · exact rd_changed i hib ha hr0 hr8 hg0 hg8 ho0 ho1 h hI
  · exact rd_alone i hib ha hr0 hr8 hg0 hg8 ho0 ho1 h hI
  · exact rd_aloneWide i hib ha hr0 hr8 hg0 hg8 ho0 ho1 h hI
  · exact rd_movedByte i hib ha hr0 hr8 hg0 hg8 ho0 ho1 h hI (hsz.resolve_right (by decide))
  · exact rd_moved i hib ha hr0 hr8 hg0 hg8 ho0 ho1 h hI (hsz.resolve_right (by decide))
  · exact rd_shifted i hib ha hr0 hr8 hg0 hg8 ho0 ho1 h hI (hsz.resolve_right (by decide))
  · exact rd_numberedWide i hib ha hr0 hr8 hg0 hg8 ho0 ho1 h hI (hsz.resolve_right (by decide))
  · exact rd_shiftedByRcx i hib ha hr0 hr8 hg0 hg8 ho0 ho1 h hI
  · exact rd_jumped i hib ha hr0 hr8 hg0 hg8 ho0 ho1 h hI
  · exact rd_testedOrChanged i hib ha hr0 hr8 hg0 hg8 ho0 ho1 h hI (hsz.resolve_right (by decide))
  · exact rd_changedOrReached i hib ha hr0 hr8 hg0 hg8 ho0 ho1 h hI

theorem fns_enter (f : Nat) (hf : f ∈ fnsL) : ∀ args w, (callFunc f args).run Try.prog w = .ok (.enter f args) w := by
  simp only [fnsL, List.mem_cons, List.not_mem_nil, or_false] at hf
  rcases hf with rfl | rfl | rfl | rfl | rfl | rfl | rfl | rfl | rfl | rfl | rfl | rfl | rfl | rfl | rfl | rfl | rfl | rfl | rfl | rfl | rfl
  · exact enters_of Try.func76 (by kernel_rfl) rfl
  · exact enters_of Try.func77 (by kernel_rfl) rfl
  · exact enters_of Try.func78 (by kernel_rfl) rfl
  · exact enters_of Try.func79 (by kernel_rfl) rfl
  · exact enters_of Try.func80 (by kernel_rfl) rfl
  · exact enters_of Try.func81 (by kernel_rfl) rfl
  · exact enters_of Try.func82 (by kernel_rfl) rfl
  · exact enters_of Try.func83 (by kernel_rfl) rfl
  · exact enters_of Try.func84 (by kernel_rfl) rfl
  · exact enters_of Try.func85 (by kernel_rfl) rfl
  · exact enters_of Try.func86 (by kernel_rfl) rfl
  · exact enters_of Try.func87 (by kernel_rfl) rfl
  · exact enters_of Try.func88 (by kernel_rfl) rfl
  · exact enters_of Try.func89 (by kernel_rfl) rfl
  · exact enters_of Try.func90 (by kernel_rfl) rfl
  · exact enters_of Try.func91 (by kernel_rfl) rfl
  · exact enters_of Try.func92 (by kernel_rfl) rfl
  · exact enters_of Try.func93 (by kernel_rfl) rfl
  · exact enters_of Try.func94 (by kernel_rfl) rfl
  · exact enters_of Try.func95 (by kernel_rfl) rfl
  · exact enters_of Try.func96 (by kernel_rfl) rfl

/-- What every row keeps to. -/
def rowOk (q : Q) : Bool :=
  fnsL.contains q.f && (q.size == -1 || q.size == 1 || q.size == 4 || q.size == 8 || (q.size == 0 && q.f == 87)) && ([q.o0, q.o1, q.o2, q.o3, q.o4, q.o5, q.o6, q.o7].all fun y => decide (0 ≤ y) && decide (y < 256)) && (q.vr != 57 || q.code == 0 || q.code == 2)
theorem rows_ok : rowsQ.all rowOk = true := by kernel_rfl

structure RowFacts (opc : Int) (q : Q) : Prop where
  fn : q.f ∈ fnsL
  size : q.size = -1 ∨ q.size = 1 ∨ q.size = 4 ∨ q.size = 8 ∨ (q.size = 0 ∧ q.f = 87)
  ops : ∀ k, 0 ≤ q.op k ∧ q.op k < 256
  sum : q.vr = 57 → opc < 64

theorem sum57' : ∀ b c : Fin 64, (bits .andNot .i64 ((64 * b.val + c.val : Nat) : Int) 57 == 0 || bits .andNot .i64 ((64 * b.val + c.val : Nat) : Int) 57 == 2) = true → b.val = 0 := by decide +kernel
theorem sum57 (x : Nat) (hx : x < 4096) (h : (bits .andNot .i64 (x : Int) 57 == 0 || bits .andNot .i64 (x : Int) 57 == 2) = true) : x < 64 := by
  have e : 64 * (x / 64) + x % 64 = x := by omega
  have := sum57' ⟨x / 64, by omega⟩ ⟨x % 64, by omega⟩
  simp only [e] at this
  have := this h
  omega
theorem or3840 : ∀ y : Fin 256, bits .or .i64 3840 (y.val : Int) = 3840 + (y.val : Int) := by decide +kernel

theorem row_facts (opc : Int) (h0 : 0 ≤ opc) (h1 : opc < 4096) (q : Q) (hq : rowM opc = some q) : RowFacts opc q := by
  have hm := List.mem_of_find?_eq_some hq
  have hp := List.find?_some hq
  have hk := List.all_eq_true.1 rows_ok q hm
  simp only [rowOk, Bool.and_eq_true, Bool.or_eq_true, beq_iff_eq, bne_iff_ne, List.all_cons, List.all_nil, decide_eq_true_eq, List.contains_iff_mem, and_true] at hk
  obtain ⟨⟨⟨k1, k2⟩, k3⟩, k4⟩ := hk
  refine ⟨k1, ?_, ?_, ?_⟩
  · rcases k2 with (((k2 | k2) | k2) | k2) | k2
    · exact .inl k2
    · exact .inr (.inl k2)
    · exact .inr (.inr (.inl k2))
    · exact .inr (.inr (.inr (.inl k2)))
    · exact .inr (.inr (.inr (.inr k2)))
  · intro k
    unfold Q.op
    match k with
    | 0 => exact k3.1
    | 1 => exact k3.2.1
    | 2 => exact k3.2.2.1
    | 3 => exact k3.2.2.2.1
    | 4 => exact k3.2.2.2.2.1
    | 5 => exact k3.2.2.2.2.2.1
    | 6 => exact k3.2.2.2.2.2.2.1
    | 7 => exact k3.2.2.2.2.2.2.2
    | n + 8 => exact ⟨by simp, by simp⟩
  · intro hv
    obtain ⟨x, rfl⟩ := Int.eq_ofNat_of_zero_le h0
    have := sum57 x (by omega)
    simp only [beq_iff_eq] at hp
    rw [hv] at hp
    have h2 : x < 64 := this (by
      simp only [Bool.or_eq_true, beq_iff_eq]
      rw [hp]
      rcases k4 with (k4 | k4) | k4
      · exact absurd hv k4
      · exact .inl k4
      · exact .inr k4)
    omega
end Go.Proofs.Ytjbepojopfbajaa
