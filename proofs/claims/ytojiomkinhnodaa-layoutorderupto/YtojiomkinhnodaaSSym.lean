/- Symbols: what lies in memory; the contracts of isBinding, isType, isExtent, isRight. -/
import Derived.Test.YtojiomkinhnodaaSNames
import Derived.Test.YtojiomkinhnodaaSBytes
namespace Go.Proofs.Ytojiomkinhnodaa
open Go.ChangeShapes Go.WideShapes Go.ChangeAt Go.RowKit
set_option linter.unusedVariables false
set_option linter.unusedSimpArgs false

/-- A symbol. -/
structure Sym where
  nm : ByteArray
  sc : ByteArray
  v : Int
  z : Int
  b : Int
  t : Int

abbrev Sym.val (s : Sym) : Value := .agg #[.string s.nm, .string s.sc, .int .i64 s.v, .int .i64 s.z, .int .i64 s.b, .int .i64 s.t]
def Sym.cells (s : Sym) : List Value := [.string s.nm, .string s.sc, .int .i64 s.v, .int .i64 s.z, .int .i64 s.b, .int .i64 s.t]
def Sym.none : Sym := ⟨ByteArray.empty, ByteArray.empty, 0, 0, 0, 0⟩

def bindB (n : Int) : Bool := n == 0 || (n == 1 || n == 2)
def typeB (n : Int) : Bool := n == 0 || (n == 1 || (n == 2 || (n == 6 || n == 10)))
def extB (n : Int) : Bool := decide (0 ≤ n) && decide (n ≤ 4611686018427387904)
def empB (s : ByteArray) : Bool := s.toList.isEmpty
/-- As far as one symbol alone tells. -/
def rightB (s : Sym) : Bool :=
  if zeroB s.nm || (!bindB s.b || (!typeB s.t || (!extB s.v || !extB s.z))) then false
  else if empB s.sc && (s.b == 0 || (s.v != 0 || s.z != 0)) then false
  else !empB s.nm || s.b == 0

theorem isBinding_any (n : Int) (w : World) : Calls Try.prog 95 #[.int .i64 n] w fun e w' => e = .returned (.bool (bindB n)) ∧ w' = w := by
  obtain ⟨a, ha⟩ : ∃ a, (n == 0) = a := ⟨_, rfl⟩
  obtain ⟨b, hb⟩ : ∃ a, (n == 1) = a := ⟨_, rfl⟩
  obtain ⟨c, hc⟩ : ∃ a, (n == 2) = a := ⟨_, rfl⟩
  unfold bindB
  rw [ha, hb, hc]
  cases a <;> cases b <;> cases c
  all_goals
    go_enter Try.func95, Try.ntmps95
    go_wp2
    go_ret
    exact ⟨rfl, rfl⟩

theorem isType_any (n : Int) (w : World) : Calls Try.prog 96 #[.int .i64 n] w fun e w' => e = .returned (.bool (typeB n)) ∧ w' = w := by
  obtain ⟨a, ha⟩ : ∃ a, (n == 0) = a := ⟨_, rfl⟩
  obtain ⟨b, hb⟩ : ∃ a, (n == 1) = a := ⟨_, rfl⟩
  obtain ⟨c, hc⟩ : ∃ a, (n == 2) = a := ⟨_, rfl⟩
  obtain ⟨d, hd⟩ : ∃ a, (n == 6) = a := ⟨_, rfl⟩
  obtain ⟨e, he⟩ : ∃ a, (n == 10) = a := ⟨_, rfl⟩
  unfold typeB
  rw [ha, hb, hc, hd, he]
  cases a
  · cases b
    · cases c
      · cases d
        · cases e
          all_goals
            go_enter Try.func96, Try.ntmps96
            go_wp2
            go_ret
            exact ⟨rfl, rfl⟩
        · go_enter Try.func96, Try.ntmps96
          go_wp2
          go_ret
          exact ⟨rfl, rfl⟩
      · go_enter Try.func96, Try.ntmps96
        go_wp2
        go_ret
        exact ⟨rfl, rfl⟩
    · go_enter Try.func96, Try.ntmps96
      go_wp2
      go_ret
      exact ⟨rfl, rfl⟩
  · go_enter Try.func96, Try.ntmps96
    go_wp2
    go_ret
    exact ⟨rfl, rfl⟩

theorem isExtent_any (n : Int) (w : World) : Calls Try.prog 97 #[.int .i64 n] w fun e w' => e = .returned (.bool (extB n)) ∧ w' = w := by
  unfold extB
  by_cases h : 0 ≤ n
  · by_cases h2 : n ≤ 4611686018427387904
    · rw [decide_eq_true h, decide_eq_true h2]
      go_enter Try.func97, Try.ntmps97
      go_wp2
      go_ret
      exact ⟨rfl, rfl⟩
    · rw [decide_eq_true h, decide_eq_false h2]
      go_enter Try.func97, Try.ntmps97
      go_wp2
      go_ret
      exact ⟨rfl, rfl⟩
  · rw [decide_eq_false h]
    go_enter Try.func97, Try.ntmps97
    go_wp2
    go_ret
    exact ⟨rfl, rfl⟩

set_option maxHeartbeats 4000000 in
set_option maxRecDepth 10000 in
theorem isRight_any (s : Sym) (w : World) : Calls Try.prog 78 #[s.val] w fun e w' => e = .returned (.bool (rightB s)) ∧ Below w.heap.size w w' := by
  have BW : Below w.heap.size w (w.alloc (.cells #[.string s.nm, .string s.sc, .int .i64 s.v, .int .i64 s.z, .int .i64 s.b, .int .i64 s.t] 80)) := (Below.refl _ _).alloc (Nat.le_refl _) _
  have Z := hasZero_any s.nm
  have Bd := isBinding_any s.b
  have Ty := isType_any s.t
  have E1 := isExtent_any s.v
  have E2 := isExtent_any s.z
  have HR : Hid (rightB s = (if zeroB s.nm || (!bindB s.b || (!typeB s.t || (!extB s.v || !extB s.z))) then false
  else if empB s.sc && (s.b == 0 || (s.v != 0 || s.z != 0)) then false
  else !empB s.nm || s.b == 0)) := ⟨rfl⟩
  generalize rightB s = r at *
  generalize zeroB s.nm = a at *
  generalize bindB s.b = b at *
  generalize typeB s.t = c at *
  generalize extB s.v = d at *
  generalize extB s.z = f at *
  have HZ : Hid _ := ⟨Z⟩
  have HB : Hid _ := ⟨Bd⟩
  have HT : Hid _ := ⟨Ty⟩
  have H1 : Hid _ := ⟨E1⟩
  have H2 : Hid _ := ⟨E2⟩
  have HBW : Hid _ := ⟨BW⟩
  clear Z Bd Ty E1 E2 BW
  obtain ⟨nm, sc, v, z, bd, ty⟩ := s
  dsimp only [Sym.val] at *
  obtain ⟨e1, he1⟩ : ∃ x, sc.toList.isEmpty = x := ⟨_, rfl⟩
  obtain ⟨e2, he2⟩ : ∃ x, nm.toList.isEmpty = x := ⟨_, rfl⟩
  obtain ⟨b0, hb0⟩ : ∃ x, (bd == 0) = x := ⟨_, rfl⟩
  obtain ⟨v0, hv0⟩ : ∃ x, (v == 0) = x := ⟨_, rfl⟩
  obtain ⟨z0, hz0⟩ : ∃ x, (z == 0) = x := ⟨_, rfl⟩
  have hv1 : (v != 0) = !v0 := by rw [bne, hv0]
  have hz1 : (z != 0) = !z0 := by rw [bne, hz0]
  have hr := HR.out
  unfold empB at hr
  rw [he1, he2, hb0, hv1, hz1] at hr
  have HRR : Hid _ := ⟨hr⟩
  clear hr HR
  go_enter Try.func78, Try.ntmps78
  cases a
  · cases b
    · (go_wp2_with (first | (go_at_call 77; refine (HZ.out _).mono ?_; rintro e w' ⟨rfl, hw'⟩; subst w') | (go_at_call 95; refine (HB.out _).mono ?_; rintro e w' ⟨rfl, hw'⟩; subst w') | (go_at_call 96; refine (HT.out _).mono ?_; rintro e w' ⟨rfl, hw'⟩; subst w') | (go_at_call 97; (first | (with_reducible refine (H1.out _).mono ?_) | (with_reducible refine (H2.out _).mono ?_)); rintro e w' ⟨rfl, hw'⟩; subst w')); go_ret; exact ⟨ret_bool (by rw [HRR.out]; rfl), HBW.out⟩)
    · cases c
      · (go_wp2_with (first | (go_at_call 77; refine (HZ.out _).mono ?_; rintro e w' ⟨rfl, hw'⟩; subst w') | (go_at_call 95; refine (HB.out _).mono ?_; rintro e w' ⟨rfl, hw'⟩; subst w') | (go_at_call 96; refine (HT.out _).mono ?_; rintro e w' ⟨rfl, hw'⟩; subst w') | (go_at_call 97; (first | (with_reducible refine (H1.out _).mono ?_) | (with_reducible refine (H2.out _).mono ?_)); rintro e w' ⟨rfl, hw'⟩; subst w')); go_ret; exact ⟨ret_bool (by rw [HRR.out]; rfl), HBW.out⟩)
      · cases d
        · (go_wp2_with (first | (go_at_call 77; refine (HZ.out _).mono ?_; rintro e w' ⟨rfl, hw'⟩; subst w') | (go_at_call 95; refine (HB.out _).mono ?_; rintro e w' ⟨rfl, hw'⟩; subst w') | (go_at_call 96; refine (HT.out _).mono ?_; rintro e w' ⟨rfl, hw'⟩; subst w') | (go_at_call 97; (first | (with_reducible refine (H1.out _).mono ?_) | (with_reducible refine (H2.out _).mono ?_)); rintro e w' ⟨rfl, hw'⟩; subst w')); go_ret; exact ⟨ret_bool (by rw [HRR.out]; rfl), HBW.out⟩)
        · cases f
          · (go_wp2_with (first | (go_at_call 77; refine (HZ.out _).mono ?_; rintro e w' ⟨rfl, hw'⟩; subst w') | (go_at_call 95; refine (HB.out _).mono ?_; rintro e w' ⟨rfl, hw'⟩; subst w') | (go_at_call 96; refine (HT.out _).mono ?_; rintro e w' ⟨rfl, hw'⟩; subst w') | (go_at_call 97; (first | (with_reducible refine (H1.out _).mono ?_) | (with_reducible refine (H2.out _).mono ?_)); rintro e w' ⟨rfl, hw'⟩; subst w')); go_ret; exact ⟨ret_bool (by rw [HRR.out]; rfl), HBW.out⟩)
          · cases e1
            · cases e2
              · (go_wp2_with (first | (go_at_call 77; refine (HZ.out _).mono ?_; rintro e w' ⟨rfl, hw'⟩; subst w') | (go_at_call 95; refine (HB.out _).mono ?_; rintro e w' ⟨rfl, hw'⟩; subst w') | (go_at_call 96; refine (HT.out _).mono ?_; rintro e w' ⟨rfl, hw'⟩; subst w') | (go_at_call 97; (first | (with_reducible refine (H1.out _).mono ?_) | (with_reducible refine (H2.out _).mono ?_)); rintro e w' ⟨rfl, hw'⟩; subst w')); go_ret; exact ⟨ret_bool (by rw [HRR.out]; rfl), HBW.out⟩)
              · cases b0
                all_goals (go_wp2_with (first | (go_at_call 77; refine (HZ.out _).mono ?_; rintro e w' ⟨rfl, hw'⟩; subst w') | (go_at_call 95; refine (HB.out _).mono ?_; rintro e w' ⟨rfl, hw'⟩; subst w') | (go_at_call 96; refine (HT.out _).mono ?_; rintro e w' ⟨rfl, hw'⟩; subst w') | (go_at_call 97; (first | (with_reducible refine (H1.out _).mono ?_) | (with_reducible refine (H2.out _).mono ?_)); rintro e w' ⟨rfl, hw'⟩; subst w')); go_ret; exact ⟨ret_bool (by rw [HRR.out]; rfl), HBW.out⟩)
            · cases b0
              · cases v0
                · (go_wp2_with (first | (go_at_call 77; refine (HZ.out _).mono ?_; rintro e w' ⟨rfl, hw'⟩; subst w') | (go_at_call 95; refine (HB.out _).mono ?_; rintro e w' ⟨rfl, hw'⟩; subst w') | (go_at_call 96; refine (HT.out _).mono ?_; rintro e w' ⟨rfl, hw'⟩; subst w') | (go_at_call 97; (first | (with_reducible refine (H1.out _).mono ?_) | (with_reducible refine (H2.out _).mono ?_)); rintro e w' ⟨rfl, hw'⟩; subst w')); go_ret; exact ⟨ret_bool (by rw [HRR.out]; rfl), HBW.out⟩)
                · cases z0
                  · (go_wp2_with (first | (go_at_call 77; refine (HZ.out _).mono ?_; rintro e w' ⟨rfl, hw'⟩; subst w') | (go_at_call 95; refine (HB.out _).mono ?_; rintro e w' ⟨rfl, hw'⟩; subst w') | (go_at_call 96; refine (HT.out _).mono ?_; rintro e w' ⟨rfl, hw'⟩; subst w') | (go_at_call 97; (first | (with_reducible refine (H1.out _).mono ?_) | (with_reducible refine (H2.out _).mono ?_)); rintro e w' ⟨rfl, hw'⟩; subst w')); go_ret; exact ⟨ret_bool (by rw [HRR.out]; rfl), HBW.out⟩)
                  · cases e2
                    all_goals (go_wp2_with (first | (go_at_call 77; refine (HZ.out _).mono ?_; rintro e w' ⟨rfl, hw'⟩; subst w') | (go_at_call 95; refine (HB.out _).mono ?_; rintro e w' ⟨rfl, hw'⟩; subst w') | (go_at_call 96; refine (HT.out _).mono ?_; rintro e w' ⟨rfl, hw'⟩; subst w') | (go_at_call 97; (first | (with_reducible refine (H1.out _).mono ?_) | (with_reducible refine (H2.out _).mono ?_)); rintro e w' ⟨rfl, hw'⟩; subst w')); go_ret; exact ⟨ret_bool (by rw [HRR.out]; rfl), HBW.out⟩)
              · (go_wp2_with (first | (go_at_call 77; refine (HZ.out _).mono ?_; rintro e w' ⟨rfl, hw'⟩; subst w') | (go_at_call 95; refine (HB.out _).mono ?_; rintro e w' ⟨rfl, hw'⟩; subst w') | (go_at_call 96; refine (HT.out _).mono ?_; rintro e w' ⟨rfl, hw'⟩; subst w') | (go_at_call 97; (first | (with_reducible refine (H1.out _).mono ?_) | (with_reducible refine (H2.out _).mono ?_)); rintro e w' ⟨rfl, hw'⟩; subst w')); go_ret; exact ⟨ret_bool (by rw [HRR.out]; rfl), HBW.out⟩)
  · (go_wp2_with (first | (go_at_call 77; refine (HZ.out _).mono ?_; rintro e w' ⟨rfl, hw'⟩; subst w') | (go_at_call 95; refine (HB.out _).mono ?_; rintro e w' ⟨rfl, hw'⟩; subst w') | (go_at_call 96; refine (HT.out _).mono ?_; rintro e w' ⟨rfl, hw'⟩; subst w') | (go_at_call 97; (first | (with_reducible refine (H1.out _).mono ?_) | (with_reducible refine (H2.out _).mono ?_)); rintro e w' ⟨rfl, hw'⟩; subst w')); go_ret; exact ⟨ret_bool (by rw [HRR.out]; rfl), HBW.out⟩)
end Go.Proofs.Ytojiomkinhnodaa
