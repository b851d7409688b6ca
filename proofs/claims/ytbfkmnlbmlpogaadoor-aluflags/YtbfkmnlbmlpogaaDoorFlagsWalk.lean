/- The walk of AluFlags. -/
import Derived.Test.YtbfkmnlbmlpogaaDoorFlagsCalls
import Derived.Test.YtbfkmnlbmlpogaaDoorLive
namespace Go.Proofs.YtbfkmnlbmlpogaaDoor
open Go.ChangeShapes Go.WideShapes Go.ChangeAt Go.RowKit
set_option linter.unusedVariables false
set_option linter.unusedSimpArgs false

theorem u64_bounds' {a : Int} (h : (Lit.int .u64 a).wf = true) : 0 ≤ a ∧ a < 18446744073709551616 := by
  have : 0 ≤ a ∧ a ≤ 18446744073709551615 := by simpa [Lit.wf, IntKind.min, IntKind.max, IntKind.signed, IntKind.bits] using h
  omega
theorem i64_bounds {a : Int} (h : (Lit.int .i64 a).wf = true) : -9223372036854775808 ≤ a ∧ a ≤ 9223372036854775807 := by
  simpa [Lit.wf, IntKind.min, IntKind.max, IntKind.signed, IntKind.bits] using h

theorem keep5 {w v u : World} {b : Nat} {C P Z S O : Bool}
    (h : v.cell? ⟨b, 0, none⟩ = some (.bool C) ∧ v.cell? ⟨b, 1, none⟩ = some (.bool P) ∧ v.cell? ⟨b, 2, none⟩ = some (.bool Z) ∧ v.cell? ⟨b, 3, none⟩ = some (.bool S) ∧ v.cell? ⟨b, 4, none⟩ = some (.bool O) ∧ Hid (Wd v ∧ Below w.heap.size w v))
    (hb : Below v.heap.size v u) :
    u.cell? ⟨b, 0, none⟩ = some (.bool C) ∧ u.cell? ⟨b, 1, none⟩ = some (.bool P) ∧ u.cell? ⟨b, 2, none⟩ = some (.bool Z) ∧ u.cell? ⟨b, 3, none⟩ = some (.bool S) ∧ u.cell? ⟨b, 4, none⟩ = some (.bool O) ∧ Hid (Wd u ∧ Below w.heap.size w u) := by
  obtain ⟨h0, h1, h2, h3, h4, h5, h6⟩ := h
  exact ⟨to_bel hb h0, to_bel hb h1, to_bel hb h2, to_bel hb h3, to_bel hb h4, h5.bel hb, bel_trans h6 hb⟩

theorem wd5 {w v : World} {b : Nat} {C P Z S O : Bool}
    (h : v.cell? ⟨b, 0, none⟩ = some (.bool C) ∧ v.cell? ⟨b, 1, none⟩ = some (.bool P) ∧ v.cell? ⟨b, 2, none⟩ = some (.bool Z) ∧ v.cell? ⟨b, 3, none⟩ = some (.bool S) ∧ v.cell? ⟨b, 4, none⟩ = some (.bool O) ∧ Hid (Wd v ∧ Below w.heap.size w v)) : Wd v ∧ Below w.heap.size w v := h.2.2.2.2.2

theorem same_cond (c : Int) (C P Z S O : Bool) (hl : -9223372036854775808 ≤ c) (hr : c ≤ 9223372036854775807) : ∃ (x : Bool) (e0 : Int),
    (∀ v, Calls Tryd.prog 27 #[.int .i64 c, .agg #[.bool C, .bool P, .bool Z, .bool S, .bool O]] v fun e w' => e = .returned (.tuple #[.bool x, .int .i64 e0]) ∧ Below v.heap.size v w') ∧
    (∀ v, Calls Tryd.prog 28 #[.int .i64 c, .agg #[.bool C, .bool P, .bool Z, .bool S, .bool O]] v fun e w' => e = .returned (.tuple #[.bool x, .int .i64 e0]) ∧ Below v.heap.size v w') := by
  by_cases h : c < 0 ∨ 16 ≤ c
  · exact ⟨_, _, fun v => cond_no c C P Z S O v h, fun v => rcond_no c C P Z S O v h hl hr⟩
  · exact ⟨_, _, fun v => cond_yes c C P Z S O v (by omega) (by omega), fun v => rcond_yes c C P Z S O v (by omega) (by omega)⟩

theorem unpack_pack (C P Z S O : Bool) (w : World) :
    Calls Tryd.prog 31 #[.int .u64 (packV C P Z S O)] w fun e w' => e = .returned (.agg #[.bool C, .bool P, .bool Z, .bool S, .bool O]) ∧ Below w.heap.size w w' := by
  have h := unpack_any (packV C P Z S O) w (pack_in C P Z S O).1 (pack_in C P Z S O).2
  obtain ⟨e0, e1, e2, e3, e4⟩ := pack_back C P Z S O
  rw [e0, e1, e2, e3, e4] at h
  exact h

set_option maxRecDepth 10000 in
set_option maxHeartbeats 2000000 in
theorem aluFlags_walk (c : Int) (C P Z S O : Bool) (x : Int) (w : World) (hc : (Lit.int .i64 c).wf = true) (hx : (Lit.int .u64 x).wf = true) (hw : Wd w) :
    Calls Tryd.prog 7 #[.int .i64 c, .agg #[.bool C, .bool P, .bool Z, .bool S, .bool O], .int .u64 x] w fun e w' => e = .returned (.bool true) ∧ Below w.heap.size w w' := by
  obtain ⟨h0, h1⟩ := u64_bounds' hx
  obtain ⟨hl, hr⟩ := i64_bounds hc
  obtain ⟨y, e0, A1, R1⟩ := same_cond c C P Z S O hl hr
  have HA := hid A1; have HR := hid R1; have HW := hid hw
  have HU := hid (fun v => unpack_any x v h0 h1)
  have HV := hid (fun v => runpack_any x v h0 h1)
  have fe := flags_eq
  clear A1 R1 h0 h1 hl hr hc hx hw
  generalize tb 0 x = u0 at *
  generalize tb 2 x = u1 at *
  generalize tb 6 x = u2 at *
  generalize tb 7 x = u3 at *
  generalize tb 11 x = u4 at *
  have HP := hid (fun v => pack_any C P Z S O v)
  have HQ := hid (fun v => rpack_any C P Z S O v)
  have HX := hid (fun v => unpack_pack C P Z S O v)
  generalize hpk : packV C P Z S O = pk at *
  clear hpk
  go_enter Tryd.func7, Tryd.ntmps7
  go_wp2_with fail
  refine (HA.out _).mono ?_; rintro e w1 ⟨rfl, hb1⟩
  have F1 := hid ((Fl.new w C P Z S O 24).bel hb1)
  have B1 := hid (bel_trans (bel_alloc (Below.refl _ _) _) hb1)
  have W1 := hid ((HW.out.alloc _).bel hb1)
  clear hb1
  obtain ⟨c0, c1, c2, c3, c4, _, _, _, _, _⟩ := F1.out
  go_wp2_with fail
  clear c0 c1 c2 c3 c4
  refine (HR.out _).mono ?_; rintro e w2 ⟨rfl, hb2⟩
  obtain ⟨c0, c1, c2, c3, c4, _, _, _, _, _⟩ := F1.out.bel hb2
  have WB : Hid (Wd w2 ∧ Below w.heap.size w w2) := ⟨W1.out.bel hb2, bel_trans B1.out hb2⟩
  clear hb2 F1 B1 W1 HA HR HW
  go_wp2_with fail
  have WD : Hid (Wd w2.drew ∧ Below w.heap.size w w2.drew) := ⟨WB.out.1.below WB.out.1.z (Below.refl _ _).drew (Nat.le_refl _), WB.out.2.drew⟩
  have k5 : w2.drew.cell? ⟨w.heap.size, 0, none⟩ = some (.bool C) ∧ w2.drew.cell? ⟨w.heap.size, 1, none⟩ = some (.bool P) ∧ w2.drew.cell? ⟨w.heap.size, 2, none⟩ = some (.bool Z) ∧ w2.drew.cell? ⟨w.heap.size, 3, none⟩ = some (.bool S) ∧ w2.drew.cell? ⟨w.heap.size, 4, none⟩ = some (.bool O) ∧ Hid (Wd w2.drew ∧ Below w.heap.size w w2.drew) :=
    ⟨up_drew c0, up_drew c1, up_drew c2, up_drew c3, up_drew c4, WD⟩
  clear c0 c1 c2 c3 c4 WB WD
  go_region_held3 (fun v => v.cell? ⟨w.heap.size, 0, none⟩ = some (.bool C) ∧ v.cell? ⟨w.heap.size, 1, none⟩ = some (.bool P) ∧ v.cell? ⟨w.heap.size, 2, none⟩ = some (.bool Z) ∧ v.cell? ⟨w.heap.size, 3, none⟩ = some (.bool S) ∧ v.cell? ⟨w.heap.size, 4, none⟩ = some (.bool O) ∧ Hid (Wd v ∧ Below w.heap.size w v))
    (first | (with_reducible assumption) | exact keep5 (by with_reducible assumption) hb)
    (first
      | (go_at_call 17; refine (num_any _ _).mono ?_; rintro e wn ⟨rfl, rfl⟩)
      | (go_at_call 29; refine (HP.out _).mono ?_; rintro e wp ⟨rfl, hb⟩)
      | (go_at_call 30; refine (HQ.out _).mono ?_; rintro e wp ⟨rfl, hb⟩)
      | (go_at_call_of 31 (Value.int IntKind.u64 x); refine (HU.out _).mono ?_; rintro e wp ⟨rfl, hb⟩)
      | (go_at_call_of 31 (Value.int IntKind.u64 pk); refine (HX.out _).mono ?_; rintro e wp ⟨rfl, hb⟩)
      | (go_at_call 32; refine (HV.out _).mono ?_; rintro e wp ⟨rfl, hb⟩)
      | (go_at_call 18; refine (live_any _ (wd5 (by with_reducible assumption)).1).mono ?_; rintro e wp ⟨rfl, hb⟩))
  go_wp2
  go_ret
  exact ⟨rfl, (wd5 (by with_reducible assumption)).2⟩
end Go.Proofs.YtbfkmnlbmlpogaaDoor
