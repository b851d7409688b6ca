/- An instruction with a field of an operand that its kind does not name is none: in plain words; where it is none already. -/
import Derived.Test.YtdgejingoamfeaaDoorKnows
namespace Go.Proofs.YtdgejingoamfeaaDoor
open Go.ChangeShapes Go.WideShapes Go.ChangeAt Go.RowKit
set_option linter.unusedVariables false

theorem z15 (n : Int) : wrap64 (1 + (wrap64 (n.tmod 15 + 15)).tmod 15) ≠ 0 := by
  have h1 := Int.tmod_lt_of_pos n (show (0 : Int) < 15 by decide)
  have h2 := Int.lt_tmod_of_pos n (show (0 : Int) < 15 by decide)
  have e1 : wrap64 (n.tmod 15 + 15) = n.tmod 15 + 15 := by unfold wrap64; omega
  rw [e1, Int.tmod_eq_emod_of_nonneg (by omega)]
  unfold wrap64; omega
theorem z9 (n : Int) : wrap64 (1 + (wrap64 (n.tmod 9 + 9)).tmod 9) ≠ 0 := by
  have h1 := Int.tmod_lt_of_pos n (show (0 : Int) < 9 by decide)
  have h2 := Int.lt_tmod_of_pos n (show (0 : Int) < 9 by decide)
  have e1 : wrap64 (n.tmod 9 + 9) = n.tmod 9 + 9 := by unfold wrap64; omega
  rw [e1, Int.tmod_eq_emod_of_nonneg (by omega)]
  unfold wrap64; omega

/-- The operand with one more field. -/
def modO (o : O) (z : Int) : O :=
  if o.k = 0 ∨ o.k = 2 ∨ o.k = 3 then { o with r := z } else if o.k = 1 then { o with n := z } else { o with b := z }

theorem mod_none (o : O) (z : Int) (hz : z ≠ 0) : mayB (modO o z) = false := by
  have hb : (z == 0) = false := by simpa using hz
  by_cases h0 : o.k = 0
  · have e : modO o z = { o with r := z } := by unfold modO; rw [if_pos (.inl h0)]
    rw [e]; simp [mayB, h0, O.same, zeroO, hb]
  · by_cases h1 : o.k = 1
    · have e : modO o z = { o with n := z } := by unfold modO; rw [if_neg (by omega), if_pos h1]
      rw [e]; simp [mayB, h1, O.same, hb]
    · by_cases h2 : o.k = 2
      · have e : modO o z = { o with r := z } := by unfold modO; rw [if_pos (.inr (.inl h2))]
        rw [e]; simp [mayB, h2, O.same, hb]
      · by_cases h3 : o.k = 3
        · have e : modO o z = { o with r := z } := by unfold modO; rw [if_pos (.inr (.inr h3))]
          rw [e]; simp [mayB, h3, memMayB, O.same, hb]
        · have e : modO o z = { o with b := z } := by unfold modO; rw [if_neg (by omega), if_neg h1]
          rw [e]
          by_cases h4 : o.k = 4
          · simp [mayB, h4, targetMayB, O.same, hb]
          · simp [mayB, h0, h1, h2, h3, h4]

theorem strict_to (i : I) (z : Int) (hz : z ≠ 0) : checkB { i with to := modO i.to z } = false := by
  unfold checkB
  split
  · simp [mod_none i.to z hz]
  · rfl
theorem strict_fr (i : I) (z : Int) (hz : z ≠ 0) : checkB { i with fr := modO i.fr z } = false := by
  unfold checkB
  split
  · simp [mod_none i.fr z hz]
  · rfl

set_option maxHeartbeats 4000000 in
set_option maxRecDepth 4000 in
theorem strict_no (i : I) (wh n : Int) (w : World) (hw : Gp w) (hc : checkB i = false) :
    Calls Tryd.prog 8 #[i.val, .int .i64 wh, .int .i64 n] w fun e w' => e = .returned (.bool true) ∧ Below w.heap.size w w' := by
  have C0 : Hid (∀ v, Below w.heap.size w v → Calls Tryd.prog 12 #[i.val] v fun e w' => e = .returned (.int .i64 30) ∧ Below v.heap.size v w') := ⟨fun v hv => by have := check_any i v (hw.g.bel hv); rw [hc] at this; exact this⟩
  have C1 : Hid (∀ v, Below w.heap.size w v → Calls Tryd.prog 14 #[] v fun e w' => e = .returned (.bool true) ∧ Below v.heap.size v w') := ⟨fun v hv => knows_any v (hw.bel hv)⟩
  have L0 : Hid (∀ v, IA v w.heap.size i → (loadVar 25 ⟨w.heap.size, 0, none⟩).run Tryd.prog v = .ok i.val v) := ⟨fun v h => h.whole⟩
  unfold I.val at *
  clear hw hc
  have tk : True := trivial
  have A0 : Hid (IA (w.alloc (.cells #[.int .i64 i.op, .int .i64 i.sz, .int .i64 i.cd, .int .i64 i.to.k, .int .i64 i.to.r, .int .i64 i.to.b, .int .i64 i.to.x, .int .i64 i.to.s, .bool i.to.rip, .bool i.to.fs, .int .i64 i.to.n, .string i.to.nm, .int .i64 i.to.m, .int .i64 i.fr.k, .int .i64 i.fr.r, .int .i64 i.fr.b, .int .i64 i.fr.x, .int .i64 i.fr.s, .bool i.fr.rip, .bool i.fr.fs, .int .i64 i.fr.n, .string i.fr.nm, .int .i64 i.fr.m, .bool i.sh] 25)) w.heap.size i) := ⟨IA.new w i _⟩
  go_enter Tryd.func8, Tryd.ntmps8
  go_wp2_with (first
    | (refine wpList_load_of (t := 25) rfl (by kernel_rfl) (by kernel_rfl) (L0.out _ (by first | exact A1.out | exact A0.out)) ?_)
    | (go_at_call 12; clear tk; refine (C0.out _ (bel_alloc (Below.refl _ _) _)).mono ?_; rintro e w1 ⟨rfl, hb1⟩; have B1 : Hid (Below w.heap.size w w1) := ⟨bel_trans (bel_alloc (Below.refl _ _) _) hb1⟩; have A1 : Hid (IA w1 w.heap.size i) := ⟨A0.out.bel hb1⟩; clear hb1)
    | (go_at_call 12; refine (C0.out _ B1.out).mono ?_; rintro e w2 ⟨rfl, hb2⟩; have B2 : Hid (Below w.heap.size w w2) := ⟨bel_trans B1.out hb2⟩; clear hb2)
    | (go_at_call 11; refine (num_any _ _).mono ?_; rintro e wn ⟨rfl, hwn⟩; subst wn)
    | (go_at_call 14; refine (C1.out _ B2.out).mono ?_; rintro e w3 ⟨rfl, hb3⟩; have B3 : Hid (Below w.heap.size w w3) := ⟨bel_trans B2.out hb3⟩; clear hb3))
  go_ret
  exact ⟨rfl, B3.out⟩
end Go.Proofs.YtdgejingoamfeaaDoor
