/- The contracts of byteAt, sizeIn, opIn and conditionIn. -/
import Derived.Test.YtjbepojopfbajaaDSmall
namespace Go.Proofs.Ytjbepojopfbajaa
open Go.ChangeShapes Go.WideShapes Go.ChangeAt Go.RowKit
set_option linter.unusedVariables false
set_option linter.unusedSimpArgs false

/-- How a call ends that gives a number, or gives up. -/
def EndsI (m : Except Int Int) (e : Ending) : Prop :=
  match m with
  | .ok v => e = .returned (.int .i64 v)
  | .error n => e = bad n

/-- Has a row this? -/
def Q.has (q : Q) (b : Int) : Bool := bits .and .i64 q.bes b != 0
def hasX (rex b : Int) : Bool := bits .and .i64 rex b != 0

section
variable {w : World} {rb : Nat} {L : Ln} {a : Nat} {fs : Bool} {rex opc sz md rg rm : Int}

theorem rhas (q : Q) (b : Int) (w : World) :
    Calls Try.prog 69 #[q.val, .int .i64 b] w fun e w' => e = .returned (.bool (q.has b)) ∧ Below w.heap.size w w' := rhas_any q b w
theorem hasModRM (q : Q) (w : World) :
    Calls Try.prog 53 #[q.val] w fun e w' => e = .returned (.bool (q.has 2)) ∧ Below w.heap.size w w' := hasModRM_any q w
theorem has_x (b : Int) (h : RS w rb L a fs rex opc sz md rg rm) :
    Calls Try.prog 67 #[.pointer (some ⟨rb, 0, none⟩), .int .i64 b] w fun e w' => e = .returned (.bool (hasX rex b)) ∧ w' = w := has_any b h

theorem byteAt_any (q : Q) (h : RS w rb L a fs rex opc sz md rg rm) :
    Calls Try.prog 70 #[.pointer (some ⟨rb, 0, none⟩), q.val] w fun e w' => e = .returned (.bool (sz == 1 || q.has 32)) ∧ Below w.heap.size w w' := by
  have HB : Hid (∀ v, Calls Try.prog 69 #[q.val, .int .i64 32] v fun e w' => e = .returned (.bool (q.has 32)) ∧ Below v.heap.size v w') := ⟨rhas q 32⟩
  generalize q.has 32 = z at *
  have H2 := h.up q.box
  obtain ⟨c0, c1, c2, c3, c4, c5, c6, c7, c8, fz, lies⟩ := H2
  clear h
  cases h1 : (sz == 1)
  all_goals
    go_enter Try.func70, Try.ntmps70
    go_wp2_with (go_at_call 69; (with_reducible refine (HB.out _).mono ?_); rintro e w1 ⟨rfl, hb⟩)
    go_ret
    first
    | exact ⟨ret_bool (by rfl), bel_trans (bel_alloc (Below.refl _ _) _) hb⟩
    | exact ⟨ret_bool (by rfl), bel_alloc (Below.refl _ _) _⟩

/-- The size that the prefixes and the opcode tell. -/
def size0 (opc : Int) (q : Q) : Int := if (q.size == -1) = true then 1 + 3 * (opc % 2) else q.size
def sizeM (rex opc : Int) (q : Q) : Except Int Int := if hasX rex 8 = true then must (size0 opc q == 4) (.ok 8) else .ok (size0 opc q)

theorem mask1 (x : Int) (h0 : 0 ≤ x) (h1 : x < 65536) : bits .and .i64 x 1 = x % 2 := bits_mask .i64 63 (by decide) wraps63 1 (by decide) x h0 (by omega)
theorem mask15 (x : Int) (h0 : 0 ≤ x) (h1 : x < 65536) : bits .and .i64 x 15 = x % 16 := bits_mask .i64 63 (by decide) wraps63 4 (by decide) x h0 (by omega)

theorem sizeIn_any (q : Q) (o0 : 0 ≤ opc) (o1 : opc < 65536) (h : RS w rb L a fs rex opc sz md rg rm) :
    Calls Try.prog 51 #[.pointer (some ⟨rb, 0, none⟩), q.val] w fun e w' => EndsI (sizeM rex opc q) e ∧ Below w.heap.size w w' := by
  have H2 := h.up q.box
  have HB := has_x 8 H2
  have HM := mask1 opc o0 o1
  obtain ⟨c0, c1, c2, c3, c4, c5, c6, c7, c8, fz, lies⟩ := H2
  have HS : Hid (size0 opc q = if (q.size == -1) = true then 1 + 3 * (opc % 2) else q.size) := ⟨rfl⟩
  have HR : Hid (sizeM rex opc q = if hasX rex 8 = true then must (size0 opc q == 4) (.ok 8) else .ok (size0 opc q)) := ⟨rfl⟩
  generalize sizeM rex opc q = m at *
  generalize hasX rex 8 = z at *
  generalize size0 opc q = s at *
  have p0 : 0 ≤ opc % 2 := by omega
  have p1 : opc % 2 < 2 := by omega
  generalize opc % 2 = p at *
  clear h
  cases h1 : (q.size == -1) <;> cases z
  all_goals
    rw [h1] at HS
    have HS' := HS.out
    simp only [if_true, if_false, Bool.false_eq_true] at HS'
    subst HS'
  case' false.true => cases h4 : (q.size == 4)
  case' true.true => cases h4 : (1 + 3 * p == 4)
  all_goals
    clear HS
    go_enter Try.func51, Try.ntmps51
    go_wp2_with (first
      | (go_at_call 67; (with_reducible refine HB.mono ?_); rintro e w1 ⟨rfl, hw1⟩; subst w1)
      | (go_at_call 66; (with_reducible refine (insist_yes _).mono ?_); rintro e w1 ⟨rfl, hw1⟩; subst w1)
      | (go_at_call 66; (with_reducible refine (insist_no _).mono ?_); rintro e w1 ⟨rfl, hw1⟩; subst w1))
    first
    | (go_ret; refine ⟨?_, bel_alloc (Below.refl _ _) _⟩; rw [HR.out]; (try rw [h4]); rfl)
    | (refine ⟨rfl, ?_, bel_alloc (Below.refl _ _) _⟩; rw [HR.out]; (try rw [h4]); rfl)

theorem conditionIn_any (q : Q) (o0 : 0 ≤ opc) (o1 : opc < 65536) (h : RS w rb L a fs rex opc sz md rg rm) :
    Calls Try.prog 56 #[.pointer (some ⟨rb, 0, none⟩), q.val] w fun e w' => e = .returned (.int .i64 (if (q.vr == 15) = true then opc % 16 else 0)) ∧ Below w.heap.size w w' := by
  have H2 := h.up q.box
  have HM := mask15 opc o0 o1
  obtain ⟨c0, c1, c2, c3, c4, c5, c6, c7, c8, fz, lies⟩ := H2
  have HR : Hid ((if (q.vr == 15) = true then opc % 16 else 0) = if (q.vr == 15) = true then opc % 16 else 0) := ⟨rfl⟩
  generalize hm : (if (q.vr == 15) = true then opc % 16 else 0) = m at HR ⊢
  have HR2 : Hid (m = if (q.vr == 15) = true then opc % 16 else 0) := ⟨hm.symm⟩
  clear h hm HR
  cases h1 : (q.vr == 15)
  all_goals
    rw [h1] at HR2
    go_enter Try.func56, Try.ntmps56
    go_wp2
    go_ret
    exact ⟨ret_int (by rw [HR2.out]; rfl), bel_alloc (Below.refl _ _) _⟩

/-- The op, by its place. -/
def Q.op (q : Q) (k : Nat) : Int := [q.o0, q.o1, q.o2, q.o3, q.o4, q.o5, q.o6, q.o7].getD k 0
/-- Which op. -/
def opK (opc rg : Int) (q : Q) : Int := if (q.vr == 57) = true then opc / 8 else if q.has 4 = true then 0 else rg
def opM (opc rg : Int) (q : Q) : Except Int Int := must (q.op (opK opc rg q).toNat != 0) (.ok (q.op (opK opc rg q).toNat))

end
end Go.Proofs.Ytjbepojopfbajaa
