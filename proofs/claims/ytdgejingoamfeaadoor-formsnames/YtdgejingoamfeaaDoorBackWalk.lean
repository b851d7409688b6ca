/- FormsBack, walked. -/
import Derived.Test.YtdgejingoamfeaaDoorFind
import Derived.Test.YtdgejingoamfeaaDoorNumbers
import Derived.Test.YtdgejingoamfeaaDoorKnows
namespace Go.Proofs.YtdgejingoamfeaaDoor
open Go.ChangeShapes Go.WideShapes Go.ChangeAt Go.RowKit Go.Maps
set_option linter.unusedVariables false
set_option linter.unusedSimpArgs false

theorem back_name (op s c : Int) (h : (nameV op s c).toList.isEmpty = false) : findV (nameV op s c) = (op, s, c, true) := by
  by_cases ho : 1 ≤ op ∧ op ≤ 35
  · cases hh : hasB (rowL op) s c
    · have : nameV op s c = ⟨#[]⟩ := by unfold nameV; rw [if_pos ho, hh]; rfl
      rw [this, show (⟨#[]⟩ : ByteArray).toList.isEmpty = true by rw [ByteArray.toList_eq]; rfl] at h
      cases h
    · obtain ⟨o, rfl⟩ := Int.eq_ofNat_of_zero_le (show 0 ≤ op by omega)
      exact find_form (o := o) (by unfold hbK; rw [if_pos (by omega)]; exact hh)
  · have : nameV op s c = ⟨#[]⟩ := by unfold nameV; rw [if_neg ho]
    rw [this, show (⟨#[]⟩ : ByteArray).toList.isEmpty = true by rw [ByteArray.toList_eq]; rfl] at h
    cases h

theorem back_reg (r s : Int) (h : (regV r s).toList.isEmpty = false) : numV (regV r s) = (r, s, true) := by
  by_cases hp : placeV s < 0 ∨ isRegB r = false
  · have : regV r s = ⟨#[]⟩ := by unfold regV; rw [if_pos hp]
    rw [this, show (⟨#[]⟩ : ByteArray).toList.isEmpty = true by rw [ByteArray.toList_eq]; rfl] at h
    cases h
  · have hr : 0 ≤ r ∧ r ≤ 15 := by
      cases e : isRegB r
      · exact absurd (.inr e) hp
      · exact (isReg_iff r).1 e
    have hv : regV r s = regL.getD (r.toNat * 3 + (placeV s).toNat) ⟨#[]⟩ := by unfold regV; rw [if_neg hp]
    have hs : (s = 8 ∧ placeV s = 0) ∨ (s = 4 ∧ placeV s = 1) ∨ (s = 1 ∧ placeV s = 2) := by
      by_cases e8 : s = 8
      · subst e8; exact .inl ⟨rfl, rfl⟩
      · by_cases e4 : s = 4
        · subst e4; exact .inr (.inl ⟨rfl, rfl⟩)
        · by_cases e1 : s = 1
          · subst e1; exact .inr (.inr ⟨rfl, rfl⟩)
          · exfalso; apply hp; left; unfold placeV; rw [if_neg e8, if_neg e4, if_neg e1]; decide
    rw [hv]
    unfold numV
    rcases hs with ⟨rfl, e⟩ | ⟨rfl, e⟩ | ⟨rfl, e⟩
    all_goals
      rw [e, regL_at (by omega)]
      simp only [Prod.mk.injEq, and_true]
    · exact ⟨by omega, by rw [show (r.toNat * 3 + (0 : Int).toNat) % 3 = 0 by omega]; rfl⟩
    · exact ⟨by omega, by rw [show (r.toNat * 3 + (1 : Int).toNat) % 3 = 1 by omega]; rfl⟩
    · exact ⟨by omega, by rw [show (r.toNat * 3 + (2 : Int).toNat) % 3 = 2 by omega]; rfl⟩

set_option maxHeartbeats 4000000 in
set_option maxRecDepth 4000 in
theorem formsBack_walk (op s c r : Int) (w : World) (_ : (Lit.int .i64 op).wf = true) (_ : (Lit.int .i64 s).wf = true) (_ : (Lit.int .i64 c).wf = true) (_ : (Lit.int .i64 r).wf = true) (hw : Gp w) :
    Calls Tryd.prog 6 #[.int .i64 op, .int .i64 s, .int .i64 c, .int .i64 r] w fun e w' => e = .returned (.bool true) ∧ Below w.heap.size w w' := by
  have C1 : Hid (∀ v, Gp v → Calls Tryd.prog 19 #[.int .i64 op, .int .i64 s, .int .i64 c] v fun e w' => e = .returned (.string (nameV op s c)) ∧ Below v.heap.size v w') := ⟨fun v hv => name_any op s c v hv.g⟩
  have C2 : Hid ((nameV op s c).toList.isEmpty = false → ∀ v, Gp v → Calls Tryd.prog 15 #[.string (nameV op s c)] v fun e w' => e = .returned (.tuple #[.int .i64 op, .int .i64 s, .int .i64 c, .bool true]) ∧ Below v.heap.size v w') := ⟨fun h v hv => by
    have := find_any (nameV op s c) v hv.g (by have := nameV_size op s c; unfold maxLen; omega)
    rw [back_name op s c h] at this; exact this⟩
  have C3 : Hid (∀ v, Gp v → Calls Tryd.prog 21 #[.int .i64 r, .int .i64 s] v fun e w' => e = .returned (.string (regV r s)) ∧ Below v.heap.size v w') := ⟨fun v hv => register_any r s v hv.g⟩
  have C4 : Hid ((regV r s).toList.isEmpty = false → ∀ v, Gp v → Calls Tryd.prog 17 #[.string (regV r s)] v fun e w' => e = .returned (.tuple #[.int .i64 r, .int .i64 s, .bool true]) ∧ Below v.heap.size v w') := ⟨fun h v hv => by
    have := number_any (regV r s) v hv.g (by have := regV_size r s; unfold maxLen; omega)
    rw [back_reg r s h] at this; exact this⟩
  have C5 : Hid (∀ v, Gp v → Calls Tryd.prog 14 #[] v fun e w' => e = .returned (.bool true) ∧ Below v.heap.size v w') := ⟨fun v hv => knows_any v hv⟩
  have A : Hid (Gp w ∧ Below w.heap.size w w) := ⟨hw, Below.refl _ _⟩
  generalize nameV op s c = n at *
  generalize regV r s = g at *
  obtain ⟨a, ha⟩ : ∃ x, n.toList.isEmpty = x := ⟨_, rfl⟩
  obtain ⟨b, hb⟩ : ∃ x, g.toList.isEmpty = x := ⟨_, rfl⟩
  have o1 : (op != op) = false := by simp
  have o2 : (s != s) = false := by simp
  have o3 : (c != c) = false := by simp
  have o4 : (r == r) = true := by simp
  have o5 : (s == s) = true := by simp
  clear hw
  rcases a with _ | _ <;> rcases b with _ | _
  all_goals
    (try have C2 := hid2 (C2.out ha))
    (try have C4 := hid2 (C4.out hb))
    go_enter Tryd.func6, Tryd.ntmps6
    go_wp2_with (first
      | (go_at_call 19; refine (C1.out _ A.out.1).mono ?_; rintro e u ⟨rfl, hbb⟩; have A : Hid (Gp u ∧ Below w.heap.size w u) := ⟨A.out.1.bel hbb, bel_trans A.out.2 hbb⟩; clear hbb)
      | (go_at_call 15; refine (C2.out _ A.out.1).mono ?_; rintro e u ⟨rfl, hbb⟩; have A : Hid (Gp u ∧ Below w.heap.size w u) := ⟨A.out.1.bel hbb, bel_trans A.out.2 hbb⟩; clear hbb)
      | (go_at_call 21; refine (C3.out _ A.out.1).mono ?_; rintro e u ⟨rfl, hbb⟩; have A : Hid (Gp u ∧ Below w.heap.size w u) := ⟨A.out.1.bel hbb, bel_trans A.out.2 hbb⟩; clear hbb)
      | (go_at_call 17; refine (C4.out _ A.out.1).mono ?_; rintro e u ⟨rfl, hbb⟩; have A : Hid (Gp u ∧ Below w.heap.size w u) := ⟨A.out.1.bel hbb, bel_trans A.out.2 hbb⟩; clear hbb)
      | (go_at_call 14; refine (C5.out _ A.out.1).mono ?_; rintro e u ⟨rfl, hbb⟩; have A : Hid (Gp u ∧ Below w.heap.size w u) := ⟨A.out.1.bel hbb, bel_trans A.out.2 hbb⟩; clear hbb))
    go_ret
    exact ⟨rfl, A.out.2⟩
end Go.Proofs.YtdgejingoamfeaaDoor
