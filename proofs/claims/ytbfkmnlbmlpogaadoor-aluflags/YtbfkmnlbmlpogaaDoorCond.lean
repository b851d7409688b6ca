/- The contracts of package alu's Cond and of the law's holds. -/
import Derived.Test.YtbfkmnlbmlpogaaDoorCalls
namespace Go.Proofs.YtbfkmnlbmlpogaaDoor
open Go.ChangeShapes Go.WideShapes Go.ChangeAt Go.RowKit
set_option linter.unusedVariables false

/-- One of eight. -/
def sel8 (k : Nat) (b0 b1 b2 b3 b4 b5 b6 b7 : Bool) : Bool :=
  if k = 0 then b0 else if k = 1 then b1 else if k = 2 then b2 else if k = 3 then b3 else if k = 4 then b4 else if k = 5 then b5 else if k = 6 then b6 else b7

theorem sel8_of (k : Nat) (hk : k < 8) (b0 b1 b2 b3 b4 b5 b6 b7 : Bool) (h : k < [Value.bool b0, Value.bool b1, Value.bool b2, Value.bool b3, Value.bool b4, Value.bool b5, Value.bool b6, Value.bool b7].length) :
    [Value.bool b0, Value.bool b1, Value.bool b2, Value.bool b3, Value.bool b4, Value.bool b5, Value.bool b6, Value.bool b7][k]'h = .bool (sel8 k b0 b1 b2 b3 b4 b5 b6 b7) := by
  obtain e | e | e | e | e | e | e | e : k = 0 ∨ k = 1 ∨ k = 2 ∨ k = 3 ∨ k = 4 ∨ k = 5 ∨ k = 6 ∨ k = 7 := by omega
  all_goals subst e; rfl

/-- What a condition says of the flags. -/
def condV (c : Int) (C P Z S O : Bool) : Bool := (sel8 (c / 2).toNat O C Z (C || Z) S P (S != O) (Z || (S != O))) != (c % 2 == 1)

theorem ret_bi {a b : Bool} (h : a = b) (e : Int) : Ending.returned (.tuple #[.bool a, .int .i64 e]) = .returned (.tuple #[.bool b, .int .i64 e]) := by rw [h]

set_option maxRecDepth 4000 in
theorem cond_yes (c : Int) (C P Z S O : Bool) (w : World) (h0 : 0 ≤ c) (h1 : c < 16) :
    Calls Tryd.prog 27 #[.int .i64 c, .agg #[.bool C, .bool P, .bool Z, .bool S, .bool O]] w fun e w' => e = .returned (.tuple #[.bool (condV c C P Z S O), .int .i64 0]) ∧ Below w.heap.size w w' := by
  have hk : (c / 2).toNat < 8 := by omega
  have hi : 0 ≤ c / 2 := by omega
  have hj : c / 2 < 8 := by omega
  have hs := sel8_of (c / 2).toNat hk
  cases C <;> cases Z
  all_goals
    go_enter Tryd.func27, Tryd.ntmps27
    go_wp2
    go_ret2
    exact ⟨ret_bi (by first | rfl | simp [condV, bne]) _, bel_alloc (bel_alloc (Below.refl _ _) _) _⟩

theorem cond_no (c : Int) (C P Z S O : Bool) (w : World) (h : c < 0 ∨ 16 ≤ c) :
    Calls Tryd.prog 27 #[.int .i64 c, .agg #[.bool C, .bool P, .bool Z, .bool S, .bool O]] w fun e w' => e = .returned (.tuple #[.bool false, .int .i64 1]) ∧ Below w.heap.size w w' := by
  rcases h with h | h
  · go_enter Tryd.func27, Tryd.ntmps27
    go_wp2
    go_ret2
    exact ⟨rfl, bel_alloc (Below.refl _ _) _⟩
  · have h' : ¬ c < 0 := by omega
    go_enter Tryd.func27, Tryd.ntmps27
    go_wp2
    go_ret2
    exact ⟨rfl, bel_alloc (Below.refl _ _) _⟩

theorem holds_eq (c : Int) (h : c = 2 ∨ c = 4 ∨ c = 6 ∨ c = 12 ∨ c = 14) (C P Z S O : Bool) : (condV c C P Z S O && !condV (c + 1) C P Z S O) = condV c C P Z S O := by
  rcases h with rfl | rfl | rfl | rfl | rfl <;> cases C <;> cases Z <;> cases S <;> cases O <;> rfl

set_option maxRecDepth 4000 in
theorem holds_any (c : Int) (h : c = 2 ∨ c = 4 ∨ c = 6 ∨ c = 12 ∨ c = 14) (C P Z S O : Bool) (w : World) :
    Calls Tryd.prog 33 #[.int .i64 c, .agg #[.bool C, .bool P, .bool Z, .bool S, .bool O]] w fun e w' => e = .returned (.bool (condV c C P Z S O)) ∧ Below w.heap.size w w' := by
  have h0 : 0 ≤ c := by omega
  have h1 : c < 15 := by omega
  rw [← holds_eq c h]
  have HH : Hid (c = 2 ∨ c = 4 ∨ c = 6 ∨ c = 12 ∨ c = 14) := h
  clear h
  generalize hx : condV c C P Z S O = x
  generalize hy : condV (c + 1) C P Z S O = y
  have H1 : Hid (∀ v, Calls Tryd.prog 27 #[.int .i64 c, .agg #[.bool C, .bool P, .bool Z, .bool S, .bool O]] v fun e w' => e = .returned (.tuple #[.bool x, .int .i64 0]) ∧ Below v.heap.size v w') := fun v => hx ▸ cond_yes c C P Z S O v (by omega) (by omega)
  have H2 : Hid (∀ v, Calls Tryd.prog 27 #[.int .i64 (c + 1), .agg #[.bool C, .bool P, .bool Z, .bool S, .bool O]] v fun e w' => e = .returned (.tuple #[.bool y, .int .i64 0]) ∧ Below v.heap.size v w') := fun v => hy ▸ cond_yes (c + 1) C P Z S O v (by omega) (by omega)
  clear hx hy
  have tk : True := trivial
  cases x <;> cases y
  all_goals
    go_enter Tryd.func33, Tryd.ntmps33
    go_wp2_with (first
      | (go_at_call 27; clear tk; refine (H1.out _).mono ?_; rintro e w1 ⟨rfl, hb⟩; obtain ⟨hc, hf⟩ := bcell hb)
      | (go_at_call 27; refine (H2.out _).mono ?_; rintro e w2 ⟨rfl, hb2⟩)
      | (go_at_call 17; refine (num_any _ _).mono ?_; rintro e w3 ⟨rfl, rfl⟩))
    go_ret
    exact ⟨rfl, bel_trans (bel_trans (bel_alloc (Below.refl _ _) _) hb) hb2⟩
end Go.Proofs.YtbfkmnlbmlpogaaDoor
