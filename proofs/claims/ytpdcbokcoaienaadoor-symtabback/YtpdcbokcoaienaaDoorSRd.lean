/- The reader of package symtab: what lies in memory; the contracts of insist, number, name, section. -/
import Derived.Test.YtpdcbokcoaienaaDoorSGet
import Derived.Test.YtpdcbokcoaienaaDoorSRAt
import Derived.Test.YtpdcbokcoaienaaDoorSTable
import Derived.Test.YtpdcbokcoaienaaDoorSRow
import Derived.Deep.RegionHeld3
import Derived.Deep.QuietTactic
import Derived.BigQuiet
namespace Go.Proofs.YtpdcbokcoaienaaDoor
open Go.ChangeShapes Go.WideShapes Go.ChangeAt Go.RowKit
set_option linter.unusedVariables false
set_option linter.unusedSimpArgs false

/-- The panic with ErrSymbol. -/
abbrev bad80 : Ending := .panicked [{ v := .iface 25 (.int .i64 80), recovered := false }]

theorem insist_yes (w : World) : Calls Tryd.prog 33 #[.bool true] w fun e w' => e = .returned (.tuple #[]) ∧ w' = w := by
  go_enter Tryd.func33, Tryd.ntmps33
  go_wp2
  go_end0
  exact ⟨rfl, rfl⟩

theorem insist_no (w : World) : Calls Tryd.prog 33 #[.bool false] w fun e w' => e = bad80 ∧ w' = w := by
  go_enter Tryd.func33, Tryd.ntmps33
  go_wp2
  exact ⟨rfl, rfl, rfl⟩

/-- What Read is given. -/
structure In where
  a1 : Option Addr
  n1 : Nat
  k1 : Nat
  f1 : Nat → Int
  a2 : Option Addr
  n2 : Nat
  k2 : Nat
  f2 : Nat → Int
  a3 : Option Addr
  k3 : Nat
  ss : List ByteArray

structure InOk (w : World) (I : In) : Prop where
  r1 : Row w I.a1 I.n1 I.f1
  b1 : ∀ i, 0 ≤ I.f1 i ∧ I.f1 i < 256
  t1 : I.n1 ≤ 1048576
  r2 : Row w I.a2 I.n2 I.f2
  b2 : ∀ i, 0 ≤ I.f2 i ∧ I.f2 i < 256
  t2 : I.n2 ≤ 1048576
  fit2 : I.n2 ≤ I.k2
  top2 : I.k2 ≤ 9223372036854775807
  r3 : Strs w I.a3 I.ss
  t3 : I.ss.length ≤ 8796093022208
  z3 : ∀ s ∈ I.ss, s.size ≤ 9223372036854775807

/-- A reader lies in block rb, and is at place a. -/
structure RD (w0 w : World) (rb : Nat) (I : In) (a : Nat) : Prop where
  c0 : w.cell? ⟨rb, 0, none⟩ = some (.slice I.a1 I.n1 I.k1)
  c1 : w.cell? ⟨rb, 1, none⟩ = some (.slice I.a2 I.n2 I.k2)
  c2 : w.cell? ⟨rb, 2, none⟩ = some (.slice I.a3 I.ss.length I.k3)
  c3 : w.cell? ⟨rb, 3, none⟩ = some (.int .i64 a)
  fz : ∀ j, w.frozen? ⟨rb, j, none⟩ = false
  lo : w0.heap.size ≤ rb
  bel : Below w0.heap.size w0 w

theorem RD.lt {w0 w : World} {rb : Nat} {I : In} {a : Nat} (h : RD w0 w rb I a) : rb < w.heap.size := World.block_lt_of_cell? w ⟨rb, 0, none⟩ h.c0
theorem RD.turn {w0 w w' : World} {rb : Nat} {I : In} {a : Nat} (h : RD w0 w rb I a) {S : Nat → Prop} (ht : Turn S w w') (h1 : ¬ S rb) (h2 : ∀ k, S k → w0.heap.size ≤ k) : RD w0 w' rb I a := by
  have e : ∀ o, w'.cell? ⟨rb, o, none⟩ = w.cell? ⟨rb, o, none⟩ := fun o => World.cell?_of_block (ht.block rb h.lt h1)
  have e2 : ∀ o, w'.frozen? ⟨rb, o, none⟩ = w.frozen? ⟨rb, o, none⟩ := fun o => World.frozen?_of_block (w := w) (ht.block rb h.lt h1)
  exact ⟨(e _).trans h.c0, (e _).trans h.c1, (e _).trans h.c2, (e _).trans h.c3, fun j => (e2 j).trans (h.fz j), h.lo, h.bel.trans (ht.below h.bel.size h2)⟩
theorem RD.below {w0 w w' : World} {rb : Nat} {I : In} {a : Nat} (h : RD w0 w rb I a) (hb : Below w.heap.size w w') : RD w0 w' rb I a :=
  h.turn (Turn.of_below hb (fun _ => False)) (fun e => e) (fun _ e => e.elim)
theorem RD.drew {w0 w : World} {rb : Nat} {I : In} {a : Nat} (h : RD w0 w rb I a) : RD w0 w.drew rb I a := h.below (Below.refl _ _).drew
theorem RD.drewN {w0 w : World} {rb : Nat} {I : In} {a : Nat} (h : RD w0 w rb I a) (n : Nat) : RD w0 (w.drewN n) rb I a := h.below (below_drewN (Below.refl _ _) n)
theorem RD.set {w0 w : World} {rb : Nat} {I : In} {a : Nat} (h : RD w0 w rb I a) (v : Int) (a' : Nat) (hv : v = (a' : Int)) : RD w0 (w.setCell ⟨rb, 3, none⟩ (.int .i64 v)) rb I a' := by
  obtain ⟨c0, c1, c2, c3, fz, lo, bel⟩ := h
  subst hv
  refine ⟨?_, ?_, ?_, ?_, fun j => (World.frozen?_setCell _ _ _ _).trans (fz j), lo, bel.setCell lo _⟩ <;> simp [go_sem, c0, c1, c2, c3]

section
variable {w0 w : World} {rb : Nat} {I : In} {a : Nat}

theorem number_bad (h : RD w0 w rb I a) (hi : InOk w0 I) (s : Nat) (hs : s = 1 ∨ s = 2 ∨ s = 4 ∨ s = 8) (hin : I.n1 < a + s) (ha : a ≤ 140737488355328) :
    Calls Tryd.prog 58 #[.pointer (some ⟨rb, 0, none⟩), .int .i64 s] w fun e w' => e = bad80 ∧ Turn (fun k => k = rb) w w' := by
  have HB : Hid _ := ⟨h.bel⟩
  have h1 := hi.t1
  have G := get_end I.a1 I.n1 I.k1 a s w (by omega) hs hin ha
  have HG : Hid (∀ w, Calls Tryd.prog 63 #[.slice I.a1 I.n1 I.k1, .int .i64 a, .int .i64 s, .bool false] w fun e w' => e = .returned (.tuple #[.int .i64 0, .int .i64 20]) ∧ w' = w) := ⟨fun w => get_end I.a1 I.n1 I.k1 a s w (by omega) hs hin ha⟩
  obtain ⟨c0, c1, c2, c3, fz, lo, bel⟩ := h
  clear hi h1 G c1 c2 bel hs
  go_enter Tryd.func58, Tryd.ntmps58
  go_wp2
  go_quiet ((go_at_call 63; exact Calls.quiet_of_same (HG.out _)))
  go_wp2_with (go_at_call 33; (with_reducible refine (insist_no _).mono ?_); rintro e w' ⟨rfl, hw'⟩; subst w')
  exact ⟨rfl, rfl, Turn.of_below (below_drewN (Below.refl _ _) _) _⟩

theorem number_ok (h : RD w0 w rb I a) (hi : InOk w0 I) (s : Nat) (hs : s = 1 ∨ s = 2 ∨ s = 4 ∨ s = 8) (hin : a + s ≤ I.n1) :
    Calls Tryd.prog 58 #[.pointer (some ⟨rb, 0, none⟩), .int .i64 s] w fun e w' => e = .returned (.int .i64 (wrap64 (bacc I.f1 a s))) ∧ RD w0 w' rb I (a + s) ∧ Turn (fun k => k = rb) w w' := by
  have h1 := hi.t1
  have HG : Hid (∀ w', Below w0.heap.size w0 w' → Calls Tryd.prog 63 #[.slice I.a1 I.n1 I.k1, .int .i64 a, .int .i64 s, .bool false] w' fun e w'' => e = .returned (.tuple #[.int .i64 (wrap64 (bacc I.f1 a s)), .int .i64 0]) ∧ Below w'.heap.size w' w'') :=
    ⟨fun w' hb => get_ok I.a1 I.n1 I.k1 a s I.f1 w' (hi.r1.below hb (Nat.le_refl _)) hi.b1 (by omega) hs hin⟩
  generalize wrap64 (bacc I.f1 a s) = z at *
  have HR : Hid _ := ⟨h⟩
  have hs8 : s ≤ 8 := by omega
  clear hi h hs
  go_enter Tryd.func58, Tryd.ntmps58
  go_wp2
  have R1 := HR.out.drew
  have HR1 : Hid _ := ⟨R1⟩
  obtain ⟨c0, c1, c2, c3, fz, lo, bel⟩ := R1
  clear c1 c2 bel
  go_region_held3 (fun v' => v'.cell? ⟨rb, 0, none⟩ = some (.slice I.a1 I.n1 I.k1) ∧ v'.cell? ⟨rb, 3, none⟩ = some (.int .i64 a))
    ((refine ⟨?_, ?_⟩) <;> (with_reducible assumption))
    ((go_at_call 63; (with_reducible refine (HG.out _ HR1.out.bel).mono ?_); rintro e u ⟨rfl, hu⟩; have R2 := HR1.out.below hu; have x0 := R2.c0; have x3 := R2.c3; have HR2 : Hid _ := ⟨R2⟩; clear R2))
  have fz2 := HR2.out.fz 3
  go_wp2_with (go_at_call 33; (with_reducible refine (insist_yes _).mono ?_); rintro e w' ⟨rfl, hw'⟩; subst w')
  go_ret
  exact ⟨rfl, HR2.out.set _ (a + s) (by omega), Turn.setCell (S := fun k => k = rb) ((Turn.of_below (Below.refl _ _).drew _).trans (Turn.of_below hu _)) ⟨rb, 3, none⟩ rfl _⟩

theorem name_ok (h : RD w0 w rb I a) (t : Int) (s : ByteArray) (hA : Calls Tryd.prog 64 #[.slice I.a2 I.n2 I.k2, .int .i64 t] w fun e w' => e = .returned (.tuple #[.string s, .int .i64 0]) ∧ w' = w) :
    Calls Tryd.prog 59 #[.pointer (some ⟨rb, 0, none⟩), .int .i64 t] w fun e w' => e = .returned (.string s) ∧ w' = w := by
  have c1 := h.c1
  have HA : Hid _ := ⟨hA⟩
  clear h hA
  go_enter Tryd.func59, Tryd.ntmps59
  go_wp2_with (first
    | (go_at_call 64; (with_reducible refine HA.out.mono ?_); rintro e w' ⟨rfl, hw'⟩; subst w')
    | (go_at_call 33; (with_reducible refine (insist_yes _).mono ?_); rintro e w' ⟨rfl, hw'⟩; subst w'))
  go_ret
  exact ⟨rfl, rfl⟩

theorem name_bad (h : RD w0 w rb I a) (t : Int) (s : ByteArray) (g : Int) (hg : (g == 0) = false) (hA : Calls Tryd.prog 64 #[.slice I.a2 I.n2 I.k2, .int .i64 t] w fun e w' => e = .returned (.tuple #[.string s, .int .i64 g]) ∧ w' = w) :
    Calls Tryd.prog 59 #[.pointer (some ⟨rb, 0, none⟩), .int .i64 t] w fun e w' => e = bad80 ∧ w' = w := by
  have c1 := h.c1
  have HA : Hid _ := ⟨hA⟩
  clear h hA
  go_enter Tryd.func59, Tryd.ntmps59
  go_wp2_with (first
    | (go_at_call 64; (with_reducible refine HA.out.mono ?_); rintro e w' ⟨rfl, hw'⟩; subst w')
    | (go_at_call 33; (with_reducible refine (insist_no _).mono ?_); rintro e w' ⟨rfl, hw'⟩; subst w'))
  exact ⟨rfl, rfl, rfl⟩

/-- The section of a number. -/
def secM (ss : List ByteArray) (n : Int) : Option ByteArray :=
  if n = 0 then some ⟨#[]⟩ else if n = 65521 then some ⟨#[42]⟩ else if n ≤ ss.length then some (ss.getD (n.toNat - 1) ByteArray.empty) else none

theorem section_ok (h : RD w0 w rb I a) (hi : InOk w0 I) (n : Int) (h0 : 0 ≤ n) (h1 : n < 65536) (s : ByteArray) (hs : secM I.ss n = some s) :
    Calls Tryd.prog 60 #[.pointer (some ⟨rb, 0, none⟩), .int .i64 n] w fun e w' => e = .returned (.string s) ∧ w' = w := by
  have c2 := h.c2
  unfold secM at hs
  by_cases e0 : n = 0
  · rw [if_pos e0] at hs
    cases hs
    have k0 : (n == 0) = true := by simpa using e0
    clear h hi e0
    go_enter Tryd.func60, Tryd.ntmps60
    go_wp2
    go_ret
    exact ⟨rfl, rfl⟩
  · rw [if_neg e0] at hs
    have k0 : (n == 0) = false := by simpa using e0
    by_cases e1 : n = 65521
    · rw [if_pos e1] at hs
      cases hs
      have k1 : (n == 65521) = true := by simpa using e1
      clear h hi e0 e1
      go_enter Tryd.func60, Tryd.ntmps60
      go_wp2
      go_ret
      exact ⟨rfl, rfl⟩
    · rw [if_neg e1] at hs
      have k1 : (n == 65521) = false := by simpa using e1
      by_cases e2 : n ≤ I.ss.length
      · rw [if_pos e2] at hs
        obtain ⟨b, off, ha3, hcell⟩ : ∃ b off, I.a3 = some ⟨b, off, none⟩ ∧ ∀ i, i < I.ss.length → w.cell? ⟨b, off + i, none⟩ = some (.string (I.ss.getD i ByteArray.empty)) := by
          rcases hi.r3.below h.bel (Nat.le_refl _) with h | h
          · rw [h] at e2; simp at e2; omega
          · exact h
        obtain ⟨m, rfl⟩ : ∃ m : Nat, n = (m : Int) + 1 := ⟨n.toNat - 1, by omega⟩
        have hc := hcell m (by omega)
        rw [show ((m : Int) + 1).toNat - 1 = m from by omega] at hs
        cases hs
        rw [ha3] at c2
        generalize I.ss.getD m ByteArray.empty = s at *
        have i1 : (m : Int) < (I.ss.length : Int) := by omega
        have i0 : (0 : Int) ≤ (m : Int) := by omega
        clear h hi e0 e1 hcell ha3
        go_enter Tryd.func60, Tryd.ntmps60
        go_wp2_with (go_at_call 33; (with_reducible refine (insist_yes _).mono ?_); rintro e w' ⟨rfl, hw'⟩; subst w')
        go_ret
        exact ⟨rfl, rfl⟩
      · rw [if_neg e2] at hs
        cases hs

theorem section_bad (h : RD w0 w rb I a) (n : Int) (hs : secM I.ss n = none) :
    Calls Tryd.prog 60 #[.pointer (some ⟨rb, 0, none⟩), .int .i64 n] w fun e w' => e = bad80 ∧ w' = w := by
  have c2 := h.c2
  unfold secM at hs
  by_cases e0 : n = 0
  · rw [if_pos e0] at hs; cases hs
  · rw [if_neg e0] at hs
    have k0 : (n == 0) = false := by simpa using e0
    by_cases e1 : n = 65521
    · rw [if_pos e1] at hs; cases hs
    · rw [if_neg e1] at hs
      have k1 : (n == 65521) = false := by simpa using e1
      by_cases e2 : n ≤ I.ss.length
      · rw [if_pos e2] at hs; cases hs
      · clear h e0 e1 hs
        go_enter Tryd.func60, Tryd.ntmps60
        go_wp2_with (go_at_call 33; (with_reducible refine (insist_no _).mono ?_); rintro e w' ⟨rfl, hw'⟩; subst w')
        exact ⟨rfl, rfl, rfl⟩
end
end Go.Proofs.YtpdcbokcoaienaaDoor
