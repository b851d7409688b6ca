/- The contract of sib. -/
import Derived.Test.YtjbepojopfbajaaDDisp
import Derived.Test.YtjbepojopfbajaaDSize
import Derived.Deep.RegionHeld3
import Derived.Deep.CutRange
namespace Go.Proofs.Ytjbepojopfbajaa
open Go.ChangeShapes Go.WideShapes Go.ChangeAt Go.RowKit
set_option linter.unusedVariables false
set_option linter.unusedSimpArgs false

/-- A base, an index and its scale. -/
def sibA (rex md x : Int) : Except Int (Int × Int × Int) :=
  must (md != 0 || !needB (regOf rex (x % 8) 1)) (if (regOf rex (x / 8 % 8) 2 == 4) = true then must (x == 36) (.ok (regOf rex (x % 8) 1, -1, 0)) else .ok (regOf rex (x % 8) 1, regOf rex (x / 8 % 8) 2, 2 ^ (x / 64).toNat))

def EndsS (m : Except Int (Int × Int × Int)) (R : Int → Int → Int → Prop) (e : Ending) : Prop :=
  match m with
  | .ok (b, x, s) => e = .returned (.tuple #[]) ∧ R b x s
  | .error n => e = bad n

abbrev memO (b x s n : Int) (rip fs : Bool) : O := ⟨3, 0, b, x, s, rip, fs, n, ⟨#[]⟩, 0⟩

theorem sib_end {w : World} {rb ob : Nat} {L : Ln} {a : Nat} {fs : Bool} {rex opc sz md rg rm : Int} (ha : a = L.len) (h : RS w rb L a fs rex opc sz md rg rm) :
    Calls Try.prog 103 #[.pointer (some ⟨rb, 0, none⟩), .pointer (some ⟨ob, 0, none⟩)] w fun e w' => e = bad 20 ∧ Fr rb ob w w' := by
  go_enter Try.func103, Try.ntmps103
  go_wp2_with (go_at_call 65; (with_reducible refine (next_end h ha).mono ?_); rintro e w1 ⟨rfl, hfr⟩)
  exact ⟨rfl, rfl, hfr.wide⟩

set_option maxRecDepth 20000 in
set_option maxHeartbeats 4000000 in
theorem sib_ok {w : World} {rb ob : Nat} {L : Ln} {a : Nat} {fs : Bool} {rex opc sz md rg rm : Int} (hob : rb < ob) (ha : a < L.len) (h : RS w rb L a fs rex opc sz md rg rm) (hO : OA w ob (memO (-1) (-1) 0 0 false false)) (hz : ∀ j, w.frozen? ⟨ob, j, none⟩ = false) :
    Calls Try.prog 103 #[.pointer (some ⟨rb, 0, none⟩), .pointer (some ⟨ob, 0, none⟩)] w fun e w' =>
      EndsS (sibA rex md (L.bs a)) (fun b x s => RS w' rb L (a + 1) fs rex opc sz md rg rm ∧ OA w' ob (memO b x s 0 false false) ∧ ∀ j, w'.frozen? ⟨ob, j, none⟩ = false) e ∧ Fr rb ob w w' := by
  have hby := h.lies.byte a
  have obl : ob < w.heap.size := World.block_lt_of_cell? w ⟨ob, 0, none⟩ hO.c0
  have e1 := mask7 (L.bs a / 8) (by omega) (by omega)
  have e2 := mask7 (L.bs a) (by omega) (by omega)
  have x4 : 0 ≤ L.bs a / 8 % 8 ∧ L.bs a / 8 % 8 < 8 := by omega
  have x5 : 0 ≤ L.bs a % 8 ∧ L.bs a % 8 < 8 := by omega
  have x6 : 0 ≤ L.bs a / 64 ∧ L.bs a / 64 < 4 := by omega
  have HN := next_ok h ha
  generalize L.bs a = X at *
  have HM : Hid (sibA rex md X = must (md != 0 || !needB (regOf rex (X % 8) 1)) (if (regOf rex (X / 8 % 8) 2 == 4) = true then must (X == 36) (.ok (regOf rex (X % 8) 1, -1, 0)) else .ok (regOf rex (X % 8) 1, regOf rex (X / 8 % 8) 2, 2 ^ (X / 64).toNat))) := ⟨rfl⟩
  generalize sibA rex md X = m at *
  have HB : Hid (∀ u, RS u rb L (a + 1) fs rex opc sz md rg rm → Calls Try.prog 74 #[.pointer (some ⟨rb, 0, none⟩), .int .i64 (X % 8), .int .i64 1] u fun e w' => e = .returned (.int .i64 (regOf rex (X % 8) 1)) ∧ w' = u) := ⟨fun u hu => registerOf_any _ 1 x5.1 x5.2 hu⟩
  have HI : Hid (∀ u, RS u rb L (a + 1) fs rex opc sz md rg rm → Calls Try.prog 74 #[.pointer (some ⟨rb, 0, none⟩), .int .i64 (X / 8 % 8), .int .i64 2] u fun e w' => e = .returned (.int .i64 (regOf rex (X / 8 % 8) 2)) ∧ w' = u) := ⟨fun u hu => registerOf_any _ 2 x4.1 x4.2 hu⟩
  generalize regOf rex (X % 8) 1 = B at *
  generalize regOf rex (X / 8 % 8) 2 = J at *
  have HD : Hid (∀ u, Calls Try.prog 106 #[(memO B (-1) 0 0 false false).val] u fun e w' => e = .returned (.bool (needB B)) ∧ Below u.heap.size u w') := ⟨needs_any _⟩
  generalize needB B = nB at *
  have tz : ((md != 0) = true ∧ (md == 0) = false) ∨ ((md != 0) = false ∧ (md == 0) = true) := two0 md
  go_enter Try.func103, Try.ntmps103
  go_upto_region 2 with (first
    | (go_at_call 65; (with_reducible refine HN.mono ?_); rintro e w1 ⟨rfl, R1, hfr⟩; (have O1 := hO.fr hfr (by omega) (by omega)); (have oc := O1); obtain ⟨o0, o1, o2, o3, o4, o5, o6, o7, o8, o9⟩ := oc; (have z1 : ∀ j, w1.frozen? ⟨ob, j, none⟩ = false := fun j => (hfr.frozen (p := ⟨ob, j, none⟩) obl (by show ob ≠ rb; omega) (by show ob ≠ rb; omega)).trans (hz j)))
    | (go_at_call 74; (with_reducible refine (HB.out _ R1).mono ?_); rintro e w2 ⟨rfl, hw2⟩; subst w2))
  have R2 := R1.fr ((Fr.refl ob ob w1).setA 2 (.int .i64 B)) hob hob
  have O2 : OA _ ob (memO B (-1) 0 0 false false) := O1.set2 B
  have F2 := (hfr.wide (b := ob)).setB 2 (.int .i64 B)
  have z2 : ∀ j, (w1.setCell ⟨ob, 2, none⟩ (.int .i64 B)).frozen? ⟨ob, j, none⟩ = false := fun j => (World.frozen?_setCell _ _ _ _).trans (z1 j)
  generalize w1.setCell ⟨ob, 2, none⟩ (.int .i64 B) = v at *
  clear R1 O1 z1 o0 o1 o2 o3 o4 o5 o6 o7 o8 o9 hO hz HN h hfr
  (have rc := R2); obtain ⟨d0, d1, d2, d3, d4, d5, d6, d7, d8, dz, dl⟩ := rc
  (have oc := O2); obtain ⟨o0, o1, o2, o3, o4, o5, o6, o7, o8, o9⟩ := oc
  go_cut [] from 15 to 27 (fun wx => Hid ((md != 0 || !nB) = true ∧ RS wx rb L (a + 1) fs rex opc sz md rg rm ∧ OA wx ob (memO B (-1) 0 0 false false) ∧ (∀ j, wx.frozen? ⟨ob, j, none⟩ = false) ∧ Fr rb ob w wx))
  case first =>
    rcases tz with ⟨t1, t2⟩ | ⟨t1, t2⟩
    case' inr => cases nB
    all_goals
      rw [t1] at HM
      go_wp2_with (first
      | (go_at_call 106; (with_reducible refine (HD.out _).mono ?_); rintro e w2 ⟨rfl, hb⟩)
      | (go_at_call 66; (with_reducible refine (insist_yes _).mono ?_); rintro e w3 ⟨rfl, hw3⟩; subst w3)
      | (go_at_call 66; (with_reducible refine (insist_no _).mono ?_); rintro e w3 ⟨rfl, hw3⟩; subst w3))
      first
      | (go_meet; first
        | exact ⟨⟨by rw [t1]; rfl, R2, O2, z2, F2⟩⟩
        | exact ⟨⟨by rw [t1]; rfl, R2.bel hb, O2.bel hb, fun j => fz_bel hb (World.block_lt_of_cell? _ ⟨ob, 0, none⟩ O2.c0) (z2 j), F2.bel hb⟩⟩)
      | (refine ⟨rfl, ?_, F2.bel hb⟩; rw [HM.out]; rfl)
  case rest =>
  clear d0 d1 d2 d3 d4 d5 d6 d7 d8 dz dl o0 o1 o2 o3 o4 o5 o6 o7 o8 o9 R2 O2 z2 F2
  obtain ⟨hbb, R2, O2, z2, F2⟩ := hcut.out
  rw [hbb, must_true] at HM
  clear hbb hcut tz
  (have rc := R2); obtain ⟨d0, d1, d2, d3, d4, d5, d6, d7, d8, dz, dl⟩ := rc
  (have oc := O2); obtain ⟨o0, o1, o2, o3, o4, o5, o6, o7, o8, o9⟩ := oc
  have x7 : (0 : Int) ≤ X / 64 := x6.1
  have x8 : ¬ (X / 64 : Int) < 0 := by omega
  cases hJ : (J == 4)
  · rw [hJ] at HM
    go_upto_region 6 with (go_at_call 74; (with_reducible refine (HI.out _ R2).mono ?_); rintro e w3 ⟨rfl, hw3⟩; subst w3)
    go_region
    go_wp2
    go_end0
    have R3 := ((R2.fr ((Fr.refl ob ob wc).setA 3 (.int .i64 J)) hob hob).fr ((Fr.refl ob ob _).setA 4 (.int .i64 (wrap64 (2 ^ (X / 64).toNat)))) hob hob).drew
    have O3 := ((O2.set3 J).set4 (wrap64 (2 ^ (X / 64).toNat))).bel (Below.refl _ _).drew
    have F3 := ((F2.setB 3 (.int .i64 J)).setB 4 (.int .i64 (wrap64 (2 ^ (X / 64).toNat)))).drew
    refine ⟨?_, F3⟩
    have HW : wrap64 ((2 : Int) ^ (X / 64).toNat) = 2 ^ (X / 64).toNat := by
      have : X / 64 = 0 ∨ X / 64 = 1 ∨ X / 64 = 2 ∨ X / 64 = 3 := by omega
      rcases this with e | e | e | e <;> rw [e] <;> (unfold wrap64; rfl)
    rw [HM.out]
    refine ⟨rfl, R3, ?_, fun j => (World.frozen?_setCell _ _ _ _).trans ((World.frozen?_setCell _ _ _ _).trans (z2 j))⟩
    have e3 : memO B J (2 ^ (X / 64).toNat) 0 false false = memO B J (wrap64 (2 ^ (X / 64).toNat)) 0 false false := by rw [HW]
    rw [e3]
    exact O3
  · rw [hJ] at HM
    cases h36 : (X == 36)
    all_goals
      rw [h36] at HM
      go_wp2_with (first
      | (go_at_call 74; (with_reducible refine (HI.out _ R2).mono ?_); rintro e w3 ⟨rfl, hw3⟩; subst w3)
      | (go_at_call 66; (with_reducible refine (insist_yes _).mono ?_); rintro e w3 ⟨rfl, hw3⟩; subst w3)
      | (go_at_call 66; (with_reducible refine (insist_no _).mono ?_); rintro e w3 ⟨rfl, hw3⟩; subst w3))
      first
      | (refine bodyPost_ret (results_none rfl _ _ _) rfl ?_; refine ⟨?_, F2⟩; rw [HM.out]; exact ⟨rfl, R2, O2, z2⟩)
      | (go_end0; refine ⟨?_, F2⟩; rw [HM.out]; exact ⟨rfl, R2, O2, z2⟩)
      | (refine ⟨rfl, ?_, F2⟩; rw [HM.out]; rfl)
end Go.Proofs.Ytjbepojopfbajaa
