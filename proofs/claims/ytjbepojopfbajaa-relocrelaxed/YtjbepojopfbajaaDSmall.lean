/- The contracts of package decode's small calls. -/
import Derived.Test.YtjbepojopfbajaaDPlain
namespace Go.Proofs.Ytjbepojopfbajaa
open Go.ChangeShapes Go.WideShapes Go.ChangeAt Go.RowKit
set_option linter.unusedVariables false
set_option linter.unusedSimpArgs false

theorem insist_yes (w : World) : Calls Try.prog 66 #[.bool true] w fun e w' => e = .returned (.tuple #[]) ∧ w' = w := by
  go_enter Try.func66, Try.ntmps66
  go_wp2
  go_end0
  exact ⟨rfl, rfl⟩

theorem insist_no (w : World) : Calls Try.prog 66 #[.bool false] w fun e w' => e = bad 30 ∧ w' = w := by
  go_enter Try.func66, Try.ntmps66
  go_wp2
  exact ⟨rfl, rfl, rfl⟩

section
variable {w : World} {rb : Nat} {L : Ln} {a : Nat} {fs : Bool} {rex opc sz md rg rm : Int}

theorem next_end (h : RS w rb L a fs rex opc sz md rg rm) (he : a = L.len) :
    Calls Try.prog 65 #[.pointer (some ⟨rb, 0, none⟩)] w fun e w' => e = bad 20 ∧ Fr rb rb w w' := by
  obtain ⟨c0, c1, c2, c3, c4, c5, c6, c7, c8, fz, lies⟩ := h
  have h1 : ((a : Int) == (L.len : Int)) = true := by simp [he]
  clear he
  go_enter Try.func65, Try.ntmps65
  go_wp2
  go_quiet (fail)
  go_wp2
  exact ⟨rfl, rfl, Fr.of (below_drewN (Below.refl _ _) _) _ _⟩

theorem next_ok (h : RS w rb L a fs rex opc sz md rg rm) (he : a < L.len) :
    Calls Try.prog 65 #[.pointer (some ⟨rb, 0, none⟩)] w fun e w' => e = .returned (.int .i64 (L.bs a)) ∧ RS w' rb L (a + 1) fs rex opc sz md rg rm ∧ Fr rb rb w w' := by
  have h0 := h
  obtain ⟨c0, c1, c2, c3, c4, c5, c6, c7, c8, fz, lies⟩ := h
  have h1 : ((a : Int) == (L.len : Int)) = false := by simp; omega
  rcases lies.row with hn | ⟨b, off, hao, hb, hcell⟩
  · omega
  have HC := hcell a he
  have hlt : (a : Int) < (L.len : Int) := by omega
  have top := lies.top
  have byte := lies.byte a
  have hne : b ≠ rb := by omega
  clear hcell
  rw [hao] at c0
  have i2 : ¬ (a : Int) < 0 := by omega
  have hRS := h0
  clear lies he h0
  go_enter Try.func65, Try.ntmps65
  go_wp2
  go_quiet (fail)
  go_wp2
  go_quiet (fail)
  go_wp2
  go_ret
  exact ⟨rfl, ((hRS.drewN _).set1 _ (a + 1) (by omega)).drewN _, (((Fr.refl _ _ _).drewN _).set (p := ⟨rb, 1, none⟩) (.inl rfl) _).drewN _⟩

theorem has_any (b : Int) (h : RS w rb L a fs rex opc sz md rg rm) :
    Calls Try.prog 67 #[.pointer (some ⟨rb, 0, none⟩), .int .i64 b] w fun e w' => e = .returned (.bool (bits .and .i64 rex b != 0)) ∧ w' = w := by
  obtain ⟨c0, c1, c2, c3, c4, c5, c6, c7, c8, fz, lies⟩ := h
  go_enter Try.func67, Try.ntmps67
  go_wp2
  go_ret
  exact ⟨rfl, rfl⟩

theorem isFromRip_any (h : RS w rb L a fs rex opc sz md rg rm) :
    Calls Try.prog 71 #[.pointer (some ⟨rb, 0, none⟩)] w fun e w' => e = .returned (.bool (md == 0 && rm == 5)) ∧ w' = w := by
  obtain ⟨c0, c1, c2, c3, c4, c5, c6, c7, c8, fz, lies⟩ := h
  cases h0 : (md == 0)
  all_goals
    go_enter Try.func71, Try.ntmps71
    go_wp2
    go_ret
    exact ⟨ret_bool (by simp [h0]), rfl⟩

def above (n : Int) : Bool := decide (4 ≤ n) && decide (n ≤ 7)
theorem isAbove_any (n : Int) (w : World) :
    Calls Try.prog 72 #[.int .i64 n] w fun e w' => e = .returned (.bool (above n)) ∧ w' = w := by
  cases h0 : decide (4 ≤ n)
  all_goals
    go_enter Try.func72, Try.ntmps72
    go_wp2
    go_ret
    exact ⟨ret_bool (by simp [above, h0]), rfl⟩

/-- A register's number. -/
def regOf (rex low b : Int) : Int := if (bits .and .i64 rex b != 0) = true then low + 8 else low

theorem registerOf_any (low b : Int) (hl : 0 ≤ low) (hl2 : low < 8) (h : RS w rb L a fs rex opc sz md rg rm) :
    Calls Try.prog 74 #[.pointer (some ⟨rb, 0, none⟩), .int .i64 low, .int .i64 b] w fun e w' => e = .returned (.int .i64 (regOf rex low b)) ∧ w' = w := by
  have HB := has_any b h
  have HR : Hid (regOf rex low b = if (bits .and .i64 rex b != 0) = true then low + 8 else low) := ⟨rfl⟩
  generalize (bits .and .i64 rex b != 0) = x at *
  clear h
  cases x
  all_goals
    go_enter Try.func74, Try.ntmps74
    go_wp2_with (go_at_call 67; refine HB.mono ?_; rintro e w1 ⟨rfl, rfl⟩)
    go_ret
    exact ⟨ret_int (by rw [HR.out]; simp), rfl⟩

theorem regNumber_any (hl : 0 ≤ rg) (hl2 : rg < 8) (h : RS w rb L a fs rex opc sz md rg rm) :
    Calls Try.prog 73 #[.pointer (some ⟨rb, 0, none⟩)] w fun e w' => e = .returned (.int .i64 (regOf rex rg 4)) ∧ w' = w := by
  have HB := registerOf_any rg 4 hl hl2 h
  obtain ⟨c0, c1, c2, c3, c4, c5, c6, c7, c8, fz, lies⟩ := h
  go_enter Try.func73, Try.ntmps73
  go_wp2_with (go_at_call 74; refine HB.mono ?_; rintro e w1 ⟨rfl, rfl⟩)
  go_ret
  exact ⟨rfl, rfl⟩

theorem wraps63 (n : Int) (h0 : 0 ≤ n) (h1 : n < 2 ^ 63) : IntKind.i64.wrap n = n := by rw [IntKind.wrap_i64]; omega
theorem mask7 (x : Int) (h0 : 0 ≤ x) (h1 : x < 65536) : bits .and .i64 x 7 = x % 8 := bits_mask .i64 63 (by decide) wraps63 3 (by decide) x h0 (by omega)

theorem withinNumber_any (o0 : 0 ≤ opc) (o1 : opc < 65536) (h : RS w rb L a fs rex opc sz md rg rm) :
    Calls Try.prog 99 #[.pointer (some ⟨rb, 0, none⟩)] w fun e w' => e = .returned (.int .i64 (regOf rex (opc % 8) 1)) ∧ w' = w := by
  have HB := registerOf_any (opc % 8) 1 (by omega) (by omega) h
  have HM := mask7 opc o0 o1
  obtain ⟨c0, c1, c2, c3, c4, c5, c6, c7, c8, fz, lies⟩ := h
  go_enter Try.func99, Try.ntmps99
  go_wp2_with (go_at_call 74; refine HB.mono ?_; rintro e w1 ⟨rfl, rfl⟩)
  go_ret
  exact ⟨rfl, rfl⟩

/-- May the prefixes stand? -/
def byteOk (rex : Int) (one : Bool) : Bool := (rex != 64 || one) && (rex != 0 || !one)

theorem settleByte_any (one : Bool) (h : RS w rb L a fs rex opc sz md rg rm) :
    Calls Try.prog 75 #[.pointer (some ⟨rb, 0, none⟩), .bool one] w fun e w' => Ends (must (byteOk rex one) (.ok (.tuple #[]))) e ∧ w' = w := by
  obtain ⟨c0, c1, c2, c3, c4, c5, c6, c7, c8, fz, lies⟩ := h
  have HR : Hid (byteOk rex one = ((rex != 64 || one) && (rex != 0 || !one))) := ⟨rfl⟩
  have three : rex = 64 ∨ rex = 0 ∨ ((rex == 64) = false ∧ (rex == 0) = false) := by
    by_cases e0 : rex = 64
    · exact .inl e0
    · by_cases e1 : rex = 0
      · exact .inr (.inl e1)
      · exact .inr (.inr ⟨by simp [e0], by simp [e1]⟩)
  rcases three with rfl | rfl | ⟨e2, e3⟩ <;> cases one
  all_goals
    try (have e4 : (rex != 64) = true := by simp [bne, e2])
    try (have e5 : (rex != 0) = true := by simp [bne, e3])
    try rw [e4, e5] at HR
    go_enter Try.func75, Try.ntmps75
    go_wp2_with (first | (go_at_call 66; (with_reducible refine (insist_yes _).mono ?_); rintro e w1 ⟨rfl, hw1⟩; subst w1) | (go_at_call 66; (with_reducible refine (insist_no _).mono ?_); rintro e w1 ⟨rfl, hw1⟩; subst w1))
    first
    | (go_end0; exact ⟨(by rw [HR.out]; rfl), rfl⟩)
    | exact ⟨rfl, (by rw [HR.out]; rfl), rfl⟩
end

theorem rhas_any (q : Q) (b : Int) (w : World) :
    Calls Try.prog 69 #[q.val, .int .i64 b] w fun e w' => e = .returned (.bool (bits .and .i64 q.bes b != 0)) ∧ Below w.heap.size w w' := by
  unfold Q.val
  go_enter Try.func69, Try.ntmps69
  go_wp2
  go_ret
  exact ⟨rfl, bel_alloc (Below.refl _ _) _⟩
theorem hasModRM_any (q : Q) (w : World) :
    Calls Try.prog 53 #[q.val] w fun e w' => e = .returned (.bool (bits .and .i64 q.bes 2 != 0)) ∧ Below w.heap.size w w' := by
  unfold Q.val
  have HB : ∀ v, Calls Try.prog 69 #[q.val, .int .i64 2] v fun e w' => e = .returned (.bool (bits .and .i64 q.bes 2 != 0)) ∧ Below v.heap.size v w' := rhas_any q 2
  unfold Q.val at HB
  go_enter Try.func53, Try.ntmps53
  go_wp2_with (go_at_call 69; refine (HB _).mono ?_; rintro e w1 ⟨rfl, hb⟩)
  go_ret
  exact ⟨rfl, bel_trans (bel_alloc (Below.refl _ _) _) hb⟩
end Go.Proofs.Ytjbepojopfbajaa
