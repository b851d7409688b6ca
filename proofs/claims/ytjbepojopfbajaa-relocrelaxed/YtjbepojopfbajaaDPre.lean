/- The contract of prefixes. -/
import Derived.Test.YtjbepojopfbajaaDSmall
namespace Go.Proofs.Ytjbepojopfbajaa
open Go.ChangeShapes Go.WideShapes Go.ChangeAt Go.RowKit
set_option linter.unusedVariables false
set_option linter.unusedSimpArgs false

/-- A byte. -/
def nxt (L : Ln) (a : Nat) : Except Int (Int × Nat) := if a < L.len then .ok (L.bs a, a + 1) else .error 20

/-- The opcode. -/
def preO (L : Ln) (a : Nat) (fs : Bool) (rex x : Int) : Except Int (Nat × Bool × Int × Int) :=
  if (x == 15) = true then must (!fs || rex != 64) (nxt L a >>= fun p => .ok (p.2, fs, rex, bits .or .i64 3840 p.1)) else .ok (a, fs, rex, x)
def preR (L : Ln) (a : Nat) (fs : Bool) (x : Int) : Except Int (Nat × Bool × Int × Int) :=
  if (bits .and .i64 x 240 == 64) = true then must (!fs || !(bits .and .i64 x 3 != 0)) (nxt L a >>= fun p => preO L p.2 fs x p.1) else preO L a fs 0 x
def pre (L : Ln) : Except Int (Nat × Bool × Int × Int) :=
  nxt L 0 >>= fun p => if (p.1 == 100) = true then nxt L 1 >>= fun q => preR L 2 true q.1 else preR L 1 false p.1

def EndsP (m : Except Int (Nat × Bool × Int × Int)) (R : Nat → Bool → Int → Int → Prop) (e : Ending) : Prop :=
  match m with
  | .ok (a, fs, rex, opc) => e = .returned (.tuple #[]) ∧ R a fs rex opc
  | .error n => e = bad n






theorem pre_z {w : World} {rb : Nat} {L : Ln} {sz md rg rm : Int} (m : Except Int (Nat × Bool × Int × Int)) (h : RS w rb L 0 false 0 0 sz md rg rm) (hl0 : L.len = 0) (HR : Hid (m = .error 20)) :
    Calls Try.prog 49 #[.pointer (some ⟨rb, 0, none⟩)] w fun e w' => EndsP m (fun a fs rex opc => RS w' rb L a fs rex opc sz md rg rm) e ∧ Fr rb rb w w' := by
  go_enter Try.func49, Try.ntmps49
  go_wp2_with (first
    | (go_at_call 65; (with_reducible refine (next_ok (by first | with_reducible assumption | (with_reducible exact RS.set2 (by with_reducible assumption) _) | (with_reducible exact RS.set3 (by with_reducible assumption) _)) (by omega)).mono ?_); rintro e w1 ⟨rfl, hrs, hfr⟩; (have hcs := hrs); obtain ⟨_, d1, d2, d3, d4, d5, d6, d7, d8, dz, _⟩ := hcs)
    | (go_at_call 65; (with_reducible refine (next_end (by first | with_reducible assumption | (with_reducible exact RS.set2 (by with_reducible assumption) _) | (with_reducible exact RS.set3 (by with_reducible assumption) _)) (by omega)).mono ?_); rintro e w1 ⟨rfl, hfr⟩)
    | (go_at_call 67; (with_reducible refine (has_any _ (by first | with_reducible assumption | (with_reducible exact RS.set3 (by with_reducible assumption) _))).mono ?_); rintro e w1 ⟨he, hw1⟩; subst w1; (rw [h3] at he); subst he)
    | (go_at_call 66; (with_reducible refine (insist_yes _).mono ?_); rintro e w1 ⟨rfl, hw1⟩; subst w1)
    | (go_at_call 66; (with_reducible refine (insist_no _).mono ?_); rintro e w1 ⟨rfl, hw1⟩; subst w1))
  refine ⟨rfl, ?_, ?_⟩
  · rw [HR.out]; rfl
  · repeat (first | (with_reducible exact Fr.refl _ _ _) | (with_reducible assumption) | (with_reducible refine Fr.setA ?_ _ _) | (with_reducible refine Fr.then ?_ (by with_reducible assumption)))

theorem pre_cOn {w : World} {rb : Nat} {L : Ln} {sz md rg rm : Int} (m : Except Int (Nat × Bool × Int × Int)) (h : RS w rb L 0 false 0 0 sz md rg rm) (hl0 : 0 < L.len) (h0 : (L.bs 0 == 100) = false) (hx : (bits .and .i64 (L.bs 0) 240 == 64) = false) (x15 : (L.bs 0 == 15) = false) (HR : Hid (m = .ok (1, false, 0, L.bs 0))) :
    Calls Try.prog 49 #[.pointer (some ⟨rb, 0, none⟩)] w fun e w' => EndsP m (fun a fs rex opc => RS w' rb L a fs rex opc sz md rg rm) e ∧ Fr rb rb w w' := by
  go_enter Try.func49, Try.ntmps49
  go_wp2_with (first
    | (go_at_call 65; (with_reducible refine (next_ok (by first | with_reducible assumption | (with_reducible exact RS.set2 (by with_reducible assumption) _) | (with_reducible exact RS.set3 (by with_reducible assumption) _)) (by omega)).mono ?_); rintro e w1 ⟨rfl, hrs, hfr⟩; (have hcs := hrs); obtain ⟨_, d1, d2, d3, d4, d5, d6, d7, d8, dz, _⟩ := hcs)
    | (go_at_call 65; (with_reducible refine (next_end (by first | with_reducible assumption | (with_reducible exact RS.set2 (by with_reducible assumption) _) | (with_reducible exact RS.set3 (by with_reducible assumption) _)) (by omega)).mono ?_); rintro e w1 ⟨rfl, hfr⟩)
    | (go_at_call 67; (with_reducible refine (has_any _ (by first | with_reducible assumption | (with_reducible exact RS.set3 (by with_reducible assumption) _))).mono ?_); rintro e w1 ⟨he, hw1⟩; subst w1; (rw [h3] at he); subst he)
    | (go_at_call 66; (with_reducible refine (insist_yes _).mono ?_); rintro e w1 ⟨rfl, hw1⟩; subst w1)
    | (go_at_call 66; (with_reducible refine (insist_no _).mono ?_); rintro e w1 ⟨rfl, hw1⟩; subst w1))
  go_end0
  refine ⟨?_, ?_⟩
  · rw [HR.out]; exact ⟨rfl, hrs.set4 _⟩
  · repeat (first | (with_reducible exact Fr.refl _ _ _) | (with_reducible assumption) | (with_reducible refine Fr.setA ?_ _ _) | (with_reducible refine Fr.then ?_ (by with_reducible assumption)))

theorem pre_cOe {w : World} {rb : Nat} {L : Ln} {sz md rg rm : Int} (m : Except Int (Nat × Bool × Int × Int)) (h : RS w rb L 0 false 0 0 sz md rg rm) (hl0 : 0 < L.len) (h0 : (L.bs 0 == 100) = false) (hx : (bits .and .i64 (L.bs 0) 240 == 64) = false) (x15 : L.bs 0 = 15) (hl : L.len = 1) (HR : Hid (m = .error 20)) :
    Calls Try.prog 49 #[.pointer (some ⟨rb, 0, none⟩)] w fun e w' => EndsP m (fun a fs rex opc => RS w' rb L a fs rex opc sz md rg rm) e ∧ Fr rb rb w w' := by
  go_enter Try.func49, Try.ntmps49
  go_wp2_with (first
    | (go_at_call 65; (with_reducible refine (next_ok (by first | with_reducible assumption | (with_reducible exact RS.set2 (by with_reducible assumption) _) | (with_reducible exact RS.set3 (by with_reducible assumption) _)) (by omega)).mono ?_); rintro e w1 ⟨rfl, hrs, hfr⟩; (have hcs := hrs); obtain ⟨_, d1, d2, d3, d4, d5, d6, d7, d8, dz, _⟩ := hcs)
    | (go_at_call 65; (with_reducible refine (next_end (by first | with_reducible assumption | (with_reducible exact RS.set2 (by with_reducible assumption) _) | (with_reducible exact RS.set3 (by with_reducible assumption) _)) (by omega)).mono ?_); rintro e w1 ⟨rfl, hfr⟩)
    | (go_at_call 67; (with_reducible refine (has_any _ (by first | with_reducible assumption | (with_reducible exact RS.set3 (by with_reducible assumption) _))).mono ?_); rintro e w1 ⟨he, hw1⟩; subst w1; (rw [h3] at he); subst he)
    | (go_at_call 66; (with_reducible refine (insist_yes _).mono ?_); rintro e w1 ⟨rfl, hw1⟩; subst w1)
    | (go_at_call 66; (with_reducible refine (insist_no _).mono ?_); rintro e w1 ⟨rfl, hw1⟩; subst w1))
  refine ⟨rfl, ?_, ?_⟩
  · rw [HR.out]; rfl
  · repeat (first | (with_reducible exact Fr.refl _ _ _) | (with_reducible assumption) | (with_reducible refine Fr.setA ?_ _ _) | (with_reducible refine Fr.then ?_ (by with_reducible assumption)))

theorem pre_cOy {w : World} {rb : Nat} {L : Ln} {sz md rg rm : Int} (m : Except Int (Nat × Bool × Int × Int)) (h : RS w rb L 0 false 0 0 sz md rg rm) (hl0 : 0 < L.len) (h0 : (L.bs 0 == 100) = false) (hx : (bits .and .i64 (L.bs 0) 240 == 64) = false) (x15 : L.bs 0 = 15) (hl : 1 < L.len) (HR : Hid (m = .ok (2, false, 0, bits .or .i64 3840 (L.bs 1)))) :
    Calls Try.prog 49 #[.pointer (some ⟨rb, 0, none⟩)] w fun e w' => EndsP m (fun a fs rex opc => RS w' rb L a fs rex opc sz md rg rm) e ∧ Fr rb rb w w' := by
  go_enter Try.func49, Try.ntmps49
  go_wp2_with (first
    | (go_at_call 65; (with_reducible refine (next_ok (by first | with_reducible assumption | (with_reducible exact RS.set2 (by with_reducible assumption) _) | (with_reducible exact RS.set3 (by with_reducible assumption) _)) (by omega)).mono ?_); rintro e w1 ⟨rfl, hrs, hfr⟩; (have hcs := hrs); obtain ⟨_, d1, d2, d3, d4, d5, d6, d7, d8, dz, _⟩ := hcs)
    | (go_at_call 65; (with_reducible refine (next_end (by first | with_reducible assumption | (with_reducible exact RS.set2 (by with_reducible assumption) _) | (with_reducible exact RS.set3 (by with_reducible assumption) _)) (by omega)).mono ?_); rintro e w1 ⟨rfl, hfr⟩)
    | (go_at_call 67; (with_reducible refine (has_any _ (by first | with_reducible assumption | (with_reducible exact RS.set3 (by with_reducible assumption) _))).mono ?_); rintro e w1 ⟨he, hw1⟩; subst w1; (rw [h3] at he); subst he)
    | (go_at_call 66; (with_reducible refine (insist_yes _).mono ?_); rintro e w1 ⟨rfl, hw1⟩; subst w1)
    | (go_at_call 66; (with_reducible refine (insist_no _).mono ?_); rintro e w1 ⟨rfl, hw1⟩; subst w1))
  go_end0
  refine ⟨?_, ?_⟩
  · rw [HR.out]; exact ⟨rfl, hrs.set4 _⟩
  · repeat (first | (with_reducible exact Fr.refl _ _ _) | (with_reducible assumption) | (with_reducible refine Fr.setA ?_ _ _) | (with_reducible refine Fr.then ?_ (by with_reducible assumption)))

theorem pre_ce {w : World} {rb : Nat} {L : Ln} {sz md rg rm : Int} (m : Except Int (Nat × Bool × Int × Int)) (h : RS w rb L 0 false 0 0 sz md rg rm) (hl0 : 0 < L.len) (h0 : (L.bs 0 == 100) = false) (hx : (bits .and .i64 (L.bs 0) 240 == 64) = true) (hl1 : L.len = 1) (HR : Hid (m = .error 20)) :
    Calls Try.prog 49 #[.pointer (some ⟨rb, 0, none⟩)] w fun e w' => EndsP m (fun a fs rex opc => RS w' rb L a fs rex opc sz md rg rm) e ∧ Fr rb rb w w' := by
  go_enter Try.func49, Try.ntmps49
  go_wp2_with (first
    | (go_at_call 65; (with_reducible refine (next_ok (by first | with_reducible assumption | (with_reducible exact RS.set2 (by with_reducible assumption) _) | (with_reducible exact RS.set3 (by with_reducible assumption) _)) (by omega)).mono ?_); rintro e w1 ⟨rfl, hrs, hfr⟩; (have hcs := hrs); obtain ⟨_, d1, d2, d3, d4, d5, d6, d7, d8, dz, _⟩ := hcs)
    | (go_at_call 65; (with_reducible refine (next_end (by first | with_reducible assumption | (with_reducible exact RS.set2 (by with_reducible assumption) _) | (with_reducible exact RS.set3 (by with_reducible assumption) _)) (by omega)).mono ?_); rintro e w1 ⟨rfl, hfr⟩)
    | (go_at_call 67; (with_reducible refine (has_any _ (by first | with_reducible assumption | (with_reducible exact RS.set3 (by with_reducible assumption) _))).mono ?_); rintro e w1 ⟨he, hw1⟩; subst w1; (rw [h3] at he); subst he)
    | (go_at_call 66; (with_reducible refine (insist_yes _).mono ?_); rintro e w1 ⟨rfl, hw1⟩; subst w1)
    | (go_at_call 66; (with_reducible refine (insist_no _).mono ?_); rintro e w1 ⟨rfl, hw1⟩; subst w1))
  refine ⟨rfl, ?_, ?_⟩
  · rw [HR.out]; rfl
  · repeat (first | (with_reducible exact Fr.refl _ _ _) | (with_reducible assumption) | (with_reducible refine Fr.setA ?_ _ _) | (with_reducible refine Fr.then ?_ (by with_reducible assumption)))

theorem pre_cPn {w : World} {rb : Nat} {L : Ln} {sz md rg rm : Int} (m : Except Int (Nat × Bool × Int × Int)) (h : RS w rb L 0 false 0 0 sz md rg rm) (hl0 : 0 < L.len) (h0 : (L.bs 0 == 100) = false) (hx : (bits .and .i64 (L.bs 0) 240 == 64) = true) (hl1 : 1 < L.len) (x15 : (L.bs 1 == 15) = false) (HR : Hid (m = .ok (2, false, L.bs 0, L.bs 1))) :
    Calls Try.prog 49 #[.pointer (some ⟨rb, 0, none⟩)] w fun e w' => EndsP m (fun a fs rex opc => RS w' rb L a fs rex opc sz md rg rm) e ∧ Fr rb rb w w' := by
  go_enter Try.func49, Try.ntmps49
  go_wp2_with (first
    | (go_at_call 65; (with_reducible refine (next_ok (by first | with_reducible assumption | (with_reducible exact RS.set2 (by with_reducible assumption) _) | (with_reducible exact RS.set3 (by with_reducible assumption) _)) (by omega)).mono ?_); rintro e w1 ⟨rfl, hrs, hfr⟩; (have hcs := hrs); obtain ⟨_, d1, d2, d3, d4, d5, d6, d7, d8, dz, _⟩ := hcs)
    | (go_at_call 65; (with_reducible refine (next_end (by first | with_reducible assumption | (with_reducible exact RS.set2 (by with_reducible assumption) _) | (with_reducible exact RS.set3 (by with_reducible assumption) _)) (by omega)).mono ?_); rintro e w1 ⟨rfl, hfr⟩)
    | (go_at_call 67; (with_reducible refine (has_any _ (by first | with_reducible assumption | (with_reducible exact RS.set3 (by with_reducible assumption) _))).mono ?_); rintro e w1 ⟨he, hw1⟩; subst w1; (rw [h3] at he); subst he)
    | (go_at_call 66; (with_reducible refine (insist_yes _).mono ?_); rintro e w1 ⟨rfl, hw1⟩; subst w1)
    | (go_at_call 66; (with_reducible refine (insist_no _).mono ?_); rintro e w1 ⟨rfl, hw1⟩; subst w1))
  go_end0
  refine ⟨?_, ?_⟩
  · rw [HR.out]; exact ⟨rfl, hrs.set4 _⟩
  · repeat (first | (with_reducible exact Fr.refl _ _ _) | (with_reducible assumption) | (with_reducible refine Fr.setA ?_ _ _) | (with_reducible refine Fr.then ?_ (by with_reducible assumption)))

theorem pre_cPe {w : World} {rb : Nat} {L : Ln} {sz md rg rm : Int} (m : Except Int (Nat × Bool × Int × Int)) (h : RS w rb L 0 false 0 0 sz md rg rm) (hl0 : 0 < L.len) (h0 : (L.bs 0 == 100) = false) (hx : (bits .and .i64 (L.bs 0) 240 == 64) = true) (hl1 : 1 < L.len) (x15 : L.bs 1 = 15) (hl : L.len = 2) (HR : Hid (m = .error 20)) :
    Calls Try.prog 49 #[.pointer (some ⟨rb, 0, none⟩)] w fun e w' => EndsP m (fun a fs rex opc => RS w' rb L a fs rex opc sz md rg rm) e ∧ Fr rb rb w w' := by
  go_enter Try.func49, Try.ntmps49
  go_wp2_with (first
    | (go_at_call 65; (with_reducible refine (next_ok (by first | with_reducible assumption | (with_reducible exact RS.set2 (by with_reducible assumption) _) | (with_reducible exact RS.set3 (by with_reducible assumption) _)) (by omega)).mono ?_); rintro e w1 ⟨rfl, hrs, hfr⟩; (have hcs := hrs); obtain ⟨_, d1, d2, d3, d4, d5, d6, d7, d8, dz, _⟩ := hcs)
    | (go_at_call 65; (with_reducible refine (next_end (by first | with_reducible assumption | (with_reducible exact RS.set2 (by with_reducible assumption) _) | (with_reducible exact RS.set3 (by with_reducible assumption) _)) (by omega)).mono ?_); rintro e w1 ⟨rfl, hfr⟩)
    | (go_at_call 67; (with_reducible refine (has_any _ (by first | with_reducible assumption | (with_reducible exact RS.set3 (by with_reducible assumption) _))).mono ?_); rintro e w1 ⟨he, hw1⟩; subst w1; (rw [h3] at he); subst he)
    | (go_at_call 66; (with_reducible refine (insist_yes _).mono ?_); rintro e w1 ⟨rfl, hw1⟩; subst w1)
    | (go_at_call 66; (with_reducible refine (insist_no _).mono ?_); rintro e w1 ⟨rfl, hw1⟩; subst w1))
  refine ⟨rfl, ?_, ?_⟩
  · rw [HR.out]; rfl
  · repeat (first | (with_reducible exact Fr.refl _ _ _) | (with_reducible assumption) | (with_reducible refine Fr.setA ?_ _ _) | (with_reducible refine Fr.then ?_ (by with_reducible assumption)))

theorem pre_cPy {w : World} {rb : Nat} {L : Ln} {sz md rg rm : Int} (m : Except Int (Nat × Bool × Int × Int)) (h : RS w rb L 0 false 0 0 sz md rg rm) (hl0 : 0 < L.len) (h0 : (L.bs 0 == 100) = false) (hx : (bits .and .i64 (L.bs 0) 240 == 64) = true) (hl1 : 1 < L.len) (x15 : L.bs 1 = 15) (hl : 2 < L.len) (HR : Hid (m = .ok (3, false, L.bs 0, bits .or .i64 3840 (L.bs 2)))) :
    Calls Try.prog 49 #[.pointer (some ⟨rb, 0, none⟩)] w fun e w' => EndsP m (fun a fs rex opc => RS w' rb L a fs rex opc sz md rg rm) e ∧ Fr rb rb w w' := by
  go_enter Try.func49, Try.ntmps49
  go_wp2_with (first
    | (go_at_call 65; (with_reducible refine (next_ok (by first | with_reducible assumption | (with_reducible exact RS.set2 (by with_reducible assumption) _) | (with_reducible exact RS.set3 (by with_reducible assumption) _)) (by omega)).mono ?_); rintro e w1 ⟨rfl, hrs, hfr⟩; (have hcs := hrs); obtain ⟨_, d1, d2, d3, d4, d5, d6, d7, d8, dz, _⟩ := hcs)
    | (go_at_call 65; (with_reducible refine (next_end (by first | with_reducible assumption | (with_reducible exact RS.set2 (by with_reducible assumption) _) | (with_reducible exact RS.set3 (by with_reducible assumption) _)) (by omega)).mono ?_); rintro e w1 ⟨rfl, hfr⟩)
    | (go_at_call 67; (with_reducible refine (has_any _ (by first | with_reducible assumption | (with_reducible exact RS.set3 (by with_reducible assumption) _))).mono ?_); rintro e w1 ⟨he, hw1⟩; subst w1; (rw [h3] at he); subst he)
    | (go_at_call 66; (with_reducible refine (insist_yes _).mono ?_); rintro e w1 ⟨rfl, hw1⟩; subst w1)
    | (go_at_call 66; (with_reducible refine (insist_no _).mono ?_); rintro e w1 ⟨rfl, hw1⟩; subst w1))
  go_end0
  refine ⟨?_, ?_⟩
  · rw [HR.out]; exact ⟨rfl, hrs.set4 _⟩
  · repeat (first | (with_reducible exact Fr.refl _ _ _) | (with_reducible assumption) | (with_reducible refine Fr.setA ?_ _ _) | (with_reducible refine Fr.then ?_ (by with_reducible assumption)))

theorem pre_bz {w : World} {rb : Nat} {L : Ln} {sz md rg rm : Int} (m : Except Int (Nat × Bool × Int × Int)) (h : RS w rb L 0 false 0 0 sz md rg rm) (hl0 : 0 < L.len) (h0 : (L.bs 0 == 100) = true) (hlb : L.len = 1) (HR : Hid (m = .error 20)) :
    Calls Try.prog 49 #[.pointer (some ⟨rb, 0, none⟩)] w fun e w' => EndsP m (fun a fs rex opc => RS w' rb L a fs rex opc sz md rg rm) e ∧ Fr rb rb w w' := by
  go_enter Try.func49, Try.ntmps49
  go_wp2_with (first
    | (go_at_call 65; (with_reducible refine (next_ok (by first | with_reducible assumption | (with_reducible exact RS.set2 (by with_reducible assumption) _) | (with_reducible exact RS.set3 (by with_reducible assumption) _)) (by omega)).mono ?_); rintro e w1 ⟨rfl, hrs, hfr⟩; (have hcs := hrs); obtain ⟨_, d1, d2, d3, d4, d5, d6, d7, d8, dz, _⟩ := hcs)
    | (go_at_call 65; (with_reducible refine (next_end (by first | with_reducible assumption | (with_reducible exact RS.set2 (by with_reducible assumption) _) | (with_reducible exact RS.set3 (by with_reducible assumption) _)) (by omega)).mono ?_); rintro e w1 ⟨rfl, hfr⟩)
    | (go_at_call 67; (with_reducible refine (has_any _ (by first | with_reducible assumption | (with_reducible exact RS.set3 (by with_reducible assumption) _))).mono ?_); rintro e w1 ⟨he, hw1⟩; subst w1; (rw [h3] at he); subst he)
    | (go_at_call 66; (with_reducible refine (insist_yes _).mono ?_); rintro e w1 ⟨rfl, hw1⟩; subst w1)
    | (go_at_call 66; (with_reducible refine (insist_no _).mono ?_); rintro e w1 ⟨rfl, hw1⟩; subst w1))
  refine ⟨rfl, ?_, ?_⟩
  · rw [HR.out]; rfl
  · repeat (first | (with_reducible exact Fr.refl _ _ _) | (with_reducible assumption) | (with_reducible refine Fr.setA ?_ _ _) | (with_reducible refine Fr.then ?_ (by with_reducible assumption)))

theorem pre_bOn {w : World} {rb : Nat} {L : Ln} {sz md rg rm : Int} (m : Except Int (Nat × Bool × Int × Int)) (h : RS w rb L 0 false 0 0 sz md rg rm) (hl0 : 0 < L.len) (h0 : (L.bs 0 == 100) = true) (hlb : 1 < L.len) (hx : (bits .and .i64 (L.bs 1) 240 == 64) = false) (x15 : (L.bs 1 == 15) = false) (HR : Hid (m = .ok (2, true, 0, L.bs 1))) :
    Calls Try.prog 49 #[.pointer (some ⟨rb, 0, none⟩)] w fun e w' => EndsP m (fun a fs rex opc => RS w' rb L a fs rex opc sz md rg rm) e ∧ Fr rb rb w w' := by
  go_enter Try.func49, Try.ntmps49
  go_wp2_with (first
    | (go_at_call 65; (with_reducible refine (next_ok (by first | with_reducible assumption | (with_reducible exact RS.set2 (by with_reducible assumption) _) | (with_reducible exact RS.set3 (by with_reducible assumption) _)) (by omega)).mono ?_); rintro e w1 ⟨rfl, hrs, hfr⟩; (have hcs := hrs); obtain ⟨_, d1, d2, d3, d4, d5, d6, d7, d8, dz, _⟩ := hcs)
    | (go_at_call 65; (with_reducible refine (next_end (by first | with_reducible assumption | (with_reducible exact RS.set2 (by with_reducible assumption) _) | (with_reducible exact RS.set3 (by with_reducible assumption) _)) (by omega)).mono ?_); rintro e w1 ⟨rfl, hfr⟩)
    | (go_at_call 67; (with_reducible refine (has_any _ (by first | with_reducible assumption | (with_reducible exact RS.set3 (by with_reducible assumption) _))).mono ?_); rintro e w1 ⟨he, hw1⟩; subst w1; (rw [h3] at he); subst he)
    | (go_at_call 66; (with_reducible refine (insist_yes _).mono ?_); rintro e w1 ⟨rfl, hw1⟩; subst w1)
    | (go_at_call 66; (with_reducible refine (insist_no _).mono ?_); rintro e w1 ⟨rfl, hw1⟩; subst w1))
  go_end0
  refine ⟨?_, ?_⟩
  · rw [HR.out]; exact ⟨rfl, hrs.set4 _⟩
  · repeat (first | (with_reducible exact Fr.refl _ _ _) | (with_reducible assumption) | (with_reducible refine Fr.setA ?_ _ _) | (with_reducible refine Fr.then ?_ (by with_reducible assumption)))

theorem pre_bOe {w : World} {rb : Nat} {L : Ln} {sz md rg rm : Int} (m : Except Int (Nat × Bool × Int × Int)) (h : RS w rb L 0 false 0 0 sz md rg rm) (hl0 : 0 < L.len) (h0 : (L.bs 0 == 100) = true) (hlb : 1 < L.len) (hx : (bits .and .i64 (L.bs 1) 240 == 64) = false) (x15 : L.bs 1 = 15) (hl : L.len = 2) (HR : Hid (m = .error 20)) :
    Calls Try.prog 49 #[.pointer (some ⟨rb, 0, none⟩)] w fun e w' => EndsP m (fun a fs rex opc => RS w' rb L a fs rex opc sz md rg rm) e ∧ Fr rb rb w w' := by
  go_enter Try.func49, Try.ntmps49
  go_wp2_with (first
    | (go_at_call 65; (with_reducible refine (next_ok (by first | with_reducible assumption | (with_reducible exact RS.set2 (by with_reducible assumption) _) | (with_reducible exact RS.set3 (by with_reducible assumption) _)) (by omega)).mono ?_); rintro e w1 ⟨rfl, hrs, hfr⟩; (have hcs := hrs); obtain ⟨_, d1, d2, d3, d4, d5, d6, d7, d8, dz, _⟩ := hcs)
    | (go_at_call 65; (with_reducible refine (next_end (by first | with_reducible assumption | (with_reducible exact RS.set2 (by with_reducible assumption) _) | (with_reducible exact RS.set3 (by with_reducible assumption) _)) (by omega)).mono ?_); rintro e w1 ⟨rfl, hfr⟩)
    | (go_at_call 67; (with_reducible refine (has_any _ (by first | with_reducible assumption | (with_reducible exact RS.set3 (by with_reducible assumption) _))).mono ?_); rintro e w1 ⟨he, hw1⟩; subst w1; (rw [h3] at he); subst he)
    | (go_at_call 66; (with_reducible refine (insist_yes _).mono ?_); rintro e w1 ⟨rfl, hw1⟩; subst w1)
    | (go_at_call 66; (with_reducible refine (insist_no _).mono ?_); rintro e w1 ⟨rfl, hw1⟩; subst w1))
  refine ⟨rfl, ?_, ?_⟩
  · rw [HR.out]; rfl
  · repeat (first | (with_reducible exact Fr.refl _ _ _) | (with_reducible assumption) | (with_reducible refine Fr.setA ?_ _ _) | (with_reducible refine Fr.then ?_ (by with_reducible assumption)))

theorem pre_bOy {w : World} {rb : Nat} {L : Ln} {sz md rg rm : Int} (m : Except Int (Nat × Bool × Int × Int)) (h : RS w rb L 0 false 0 0 sz md rg rm) (hl0 : 0 < L.len) (h0 : (L.bs 0 == 100) = true) (hlb : 1 < L.len) (hx : (bits .and .i64 (L.bs 1) 240 == 64) = false) (x15 : L.bs 1 = 15) (hl : 2 < L.len) (HR : Hid (m = .ok (3, true, 0, bits .or .i64 3840 (L.bs 2)))) :
    Calls Try.prog 49 #[.pointer (some ⟨rb, 0, none⟩)] w fun e w' => EndsP m (fun a fs rex opc => RS w' rb L a fs rex opc sz md rg rm) e ∧ Fr rb rb w w' := by
  go_enter Try.func49, Try.ntmps49
  go_wp2_with (first
    | (go_at_call 65; (with_reducible refine (next_ok (by first | with_reducible assumption | (with_reducible exact RS.set2 (by with_reducible assumption) _) | (with_reducible exact RS.set3 (by with_reducible assumption) _)) (by omega)).mono ?_); rintro e w1 ⟨rfl, hrs, hfr⟩; (have hcs := hrs); obtain ⟨_, d1, d2, d3, d4, d5, d6, d7, d8, dz, _⟩ := hcs)
    | (go_at_call 65; (with_reducible refine (next_end (by first | with_reducible assumption | (with_reducible exact RS.set2 (by with_reducible assumption) _) | (with_reducible exact RS.set3 (by with_reducible assumption) _)) (by omega)).mono ?_); rintro e w1 ⟨rfl, hfr⟩)
    | (go_at_call 67; (with_reducible refine (has_any _ (by first | with_reducible assumption | (with_reducible exact RS.set3 (by with_reducible assumption) _))).mono ?_); rintro e w1 ⟨he, hw1⟩; subst w1; (rw [h3] at he); subst he)
    | (go_at_call 66; (with_reducible refine (insist_yes _).mono ?_); rintro e w1 ⟨rfl, hw1⟩; subst w1)
    | (go_at_call 66; (with_reducible refine (insist_no _).mono ?_); rintro e w1 ⟨rfl, hw1⟩; subst w1))
  go_end0
  refine ⟨?_, ?_⟩
  · rw [HR.out]; exact ⟨rfl, hrs.set4 _⟩
  · repeat (first | (with_reducible exact Fr.refl _ _ _) | (with_reducible assumption) | (with_reducible refine Fr.setA ?_ _ _) | (with_reducible refine Fr.then ?_ (by with_reducible assumption)))

theorem pre_bb {w : World} {rb : Nat} {L : Ln} {sz md rg rm : Int} (m : Except Int (Nat × Bool × Int × Int)) (h : RS w rb L 0 false 0 0 sz md rg rm) (hl0 : 0 < L.len) (h0 : (L.bs 0 == 100) = true) (hlb : 1 < L.len) (hx : (bits .and .i64 (L.bs 1) 240 == 64) = true) (h3 : (bits .and .i64 (L.bs 1) 3 != 0) = true) (HR : Hid (m = .error 30)) :
    Calls Try.prog 49 #[.pointer (some ⟨rb, 0, none⟩)] w fun e w' => EndsP m (fun a fs rex opc => RS w' rb L a fs rex opc sz md rg rm) e ∧ Fr rb rb w w' := by
  go_enter Try.func49, Try.ntmps49
  go_wp2_with (first
    | (go_at_call 65; (with_reducible refine (next_ok (by first | with_reducible assumption | (with_reducible exact RS.set2 (by with_reducible assumption) _) | (with_reducible exact RS.set3 (by with_reducible assumption) _)) (by omega)).mono ?_); rintro e w1 ⟨rfl, hrs, hfr⟩; (have hcs := hrs); obtain ⟨_, d1, d2, d3, d4, d5, d6, d7, d8, dz, _⟩ := hcs)
    | (go_at_call 65; (with_reducible refine (next_end (by first | with_reducible assumption | (with_reducible exact RS.set2 (by with_reducible assumption) _) | (with_reducible exact RS.set3 (by with_reducible assumption) _)) (by omega)).mono ?_); rintro e w1 ⟨rfl, hfr⟩)
    | (go_at_call 67; (with_reducible refine (has_any _ (by first | with_reducible assumption | (with_reducible exact RS.set3 (by with_reducible assumption) _))).mono ?_); rintro e w1 ⟨he, hw1⟩; subst w1; (rw [h3] at he); subst he)
    | (go_at_call 66; (with_reducible refine (insist_yes _).mono ?_); rintro e w1 ⟨rfl, hw1⟩; subst w1)
    | (go_at_call 66; (with_reducible refine (insist_no _).mono ?_); rintro e w1 ⟨rfl, hw1⟩; subst w1))
  refine ⟨rfl, ?_, ?_⟩
  · rw [HR.out]; rfl
  · repeat (first | (with_reducible exact Fr.refl _ _ _) | (with_reducible assumption) | (with_reducible refine Fr.setA ?_ _ _) | (with_reducible refine Fr.then ?_ (by with_reducible assumption)))

theorem pre_be {w : World} {rb : Nat} {L : Ln} {sz md rg rm : Int} (m : Except Int (Nat × Bool × Int × Int)) (h : RS w rb L 0 false 0 0 sz md rg rm) (hl0 : 0 < L.len) (h0 : (L.bs 0 == 100) = true) (hlb : 1 < L.len) (hx : (bits .and .i64 (L.bs 1) 240 == 64) = true) (h3 : (bits .and .i64 (L.bs 1) 3 != 0) = false) (hl1 : L.len = 2) (HR : Hid (m = .error 20)) :
    Calls Try.prog 49 #[.pointer (some ⟨rb, 0, none⟩)] w fun e w' => EndsP m (fun a fs rex opc => RS w' rb L a fs rex opc sz md rg rm) e ∧ Fr rb rb w w' := by
  go_enter Try.func49, Try.ntmps49
  go_wp2_with (first
    | (go_at_call 65; (with_reducible refine (next_ok (by first | with_reducible assumption | (with_reducible exact RS.set2 (by with_reducible assumption) _) | (with_reducible exact RS.set3 (by with_reducible assumption) _)) (by omega)).mono ?_); rintro e w1 ⟨rfl, hrs, hfr⟩; (have hcs := hrs); obtain ⟨_, d1, d2, d3, d4, d5, d6, d7, d8, dz, _⟩ := hcs)
    | (go_at_call 65; (with_reducible refine (next_end (by first | with_reducible assumption | (with_reducible exact RS.set2 (by with_reducible assumption) _) | (with_reducible exact RS.set3 (by with_reducible assumption) _)) (by omega)).mono ?_); rintro e w1 ⟨rfl, hfr⟩)
    | (go_at_call 67; (with_reducible refine (has_any _ (by first | with_reducible assumption | (with_reducible exact RS.set3 (by with_reducible assumption) _))).mono ?_); rintro e w1 ⟨he, hw1⟩; subst w1; (rw [h3] at he); subst he)
    | (go_at_call 66; (with_reducible refine (insist_yes _).mono ?_); rintro e w1 ⟨rfl, hw1⟩; subst w1)
    | (go_at_call 66; (with_reducible refine (insist_no _).mono ?_); rintro e w1 ⟨rfl, hw1⟩; subst w1))
  refine ⟨rfl, ?_, ?_⟩
  · rw [HR.out]; rfl
  · repeat (first | (with_reducible exact Fr.refl _ _ _) | (with_reducible assumption) | (with_reducible refine Fr.setA ?_ _ _) | (with_reducible refine Fr.then ?_ (by with_reducible assumption)))

theorem pre_bPn {w : World} {rb : Nat} {L : Ln} {sz md rg rm : Int} (m : Except Int (Nat × Bool × Int × Int)) (h : RS w rb L 0 false 0 0 sz md rg rm) (hl0 : 0 < L.len) (h0 : (L.bs 0 == 100) = true) (hlb : 1 < L.len) (hx : (bits .and .i64 (L.bs 1) 240 == 64) = true) (h3 : (bits .and .i64 (L.bs 1) 3 != 0) = false) (hl1 : 2 < L.len) (x15 : (L.bs 2 == 15) = false) (HR : Hid (m = .ok (3, true, L.bs 1, L.bs 2))) :
    Calls Try.prog 49 #[.pointer (some ⟨rb, 0, none⟩)] w fun e w' => EndsP m (fun a fs rex opc => RS w' rb L a fs rex opc sz md rg rm) e ∧ Fr rb rb w w' := by
  go_enter Try.func49, Try.ntmps49
  go_wp2_with (first
    | (go_at_call 65; (with_reducible refine (next_ok (by first | with_reducible assumption | (with_reducible exact RS.set2 (by with_reducible assumption) _) | (with_reducible exact RS.set3 (by with_reducible assumption) _)) (by omega)).mono ?_); rintro e w1 ⟨rfl, hrs, hfr⟩; (have hcs := hrs); obtain ⟨_, d1, d2, d3, d4, d5, d6, d7, d8, dz, _⟩ := hcs)
    | (go_at_call 65; (with_reducible refine (next_end (by first | with_reducible assumption | (with_reducible exact RS.set2 (by with_reducible assumption) _) | (with_reducible exact RS.set3 (by with_reducible assumption) _)) (by omega)).mono ?_); rintro e w1 ⟨rfl, hfr⟩)
    | (go_at_call 67; (with_reducible refine (has_any _ (by first | with_reducible assumption | (with_reducible exact RS.set3 (by with_reducible assumption) _))).mono ?_); rintro e w1 ⟨he, hw1⟩; subst w1; (rw [h3] at he); subst he)
    | (go_at_call 66; (with_reducible refine (insist_yes _).mono ?_); rintro e w1 ⟨rfl, hw1⟩; subst w1)
    | (go_at_call 66; (with_reducible refine (insist_no _).mono ?_); rintro e w1 ⟨rfl, hw1⟩; subst w1))
  go_end0
  refine ⟨?_, ?_⟩
  · rw [HR.out]; exact ⟨rfl, hrs.set4 _⟩
  · repeat (first | (with_reducible exact Fr.refl _ _ _) | (with_reducible assumption) | (with_reducible refine Fr.setA ?_ _ _) | (with_reducible refine Fr.then ?_ (by with_reducible assumption)))

theorem pre_bPb {w : World} {rb : Nat} {L : Ln} {sz md rg rm : Int} (m : Except Int (Nat × Bool × Int × Int)) (h : RS w rb L 0 false 0 0 sz md rg rm) (hl0 : 0 < L.len) (h0 : (L.bs 0 == 100) = true) (hlb : 1 < L.len) (hx : (bits .and .i64 (L.bs 1) 240 == 64) = true) (h3 : (bits .and .i64 (L.bs 1) 3 != 0) = false) (hl1 : 2 < L.len) (x15 : L.bs 2 = 15) (r64 : (L.bs 1 == 64) = true) (HR : Hid (m = .error 30)) :
    Calls Try.prog 49 #[.pointer (some ⟨rb, 0, none⟩)] w fun e w' => EndsP m (fun a fs rex opc => RS w' rb L a fs rex opc sz md rg rm) e ∧ Fr rb rb w w' := by
  have r64n : (L.bs 1 != 64) = false := by simp [bne, r64]
  go_enter Try.func49, Try.ntmps49
  go_wp2_with (first
    | (go_at_call 65; (with_reducible refine (next_ok (by first | with_reducible assumption | (with_reducible exact RS.set2 (by with_reducible assumption) _) | (with_reducible exact RS.set3 (by with_reducible assumption) _)) (by omega)).mono ?_); rintro e w1 ⟨rfl, hrs, hfr⟩; (have hcs := hrs); obtain ⟨_, d1, d2, d3, d4, d5, d6, d7, d8, dz, _⟩ := hcs)
    | (go_at_call 65; (with_reducible refine (next_end (by first | with_reducible assumption | (with_reducible exact RS.set2 (by with_reducible assumption) _) | (with_reducible exact RS.set3 (by with_reducible assumption) _)) (by omega)).mono ?_); rintro e w1 ⟨rfl, hfr⟩)
    | (go_at_call 67; (with_reducible refine (has_any _ (by first | with_reducible assumption | (with_reducible exact RS.set3 (by with_reducible assumption) _))).mono ?_); rintro e w1 ⟨he, hw1⟩; subst w1; (rw [h3] at he); subst he)
    | (go_at_call 66; (with_reducible refine (insist_yes _).mono ?_); rintro e w1 ⟨rfl, hw1⟩; subst w1)
    | (go_at_call 66; (with_reducible refine (insist_no _).mono ?_); rintro e w1 ⟨rfl, hw1⟩; subst w1))
  refine ⟨rfl, ?_, ?_⟩
  · rw [HR.out]; rfl
  · repeat (first | (with_reducible exact Fr.refl _ _ _) | (with_reducible assumption) | (with_reducible refine Fr.setA ?_ _ _) | (with_reducible refine Fr.then ?_ (by with_reducible assumption)))

theorem pre_bPe {w : World} {rb : Nat} {L : Ln} {sz md rg rm : Int} (m : Except Int (Nat × Bool × Int × Int)) (h : RS w rb L 0 false 0 0 sz md rg rm) (hl0 : 0 < L.len) (h0 : (L.bs 0 == 100) = true) (hlb : 1 < L.len) (hx : (bits .and .i64 (L.bs 1) 240 == 64) = true) (h3 : (bits .and .i64 (L.bs 1) 3 != 0) = false) (hl1 : 2 < L.len) (x15 : L.bs 2 = 15) (r64 : (L.bs 1 == 64) = false) (hl : L.len = 3) (HR : Hid (m = .error 20)) :
    Calls Try.prog 49 #[.pointer (some ⟨rb, 0, none⟩)] w fun e w' => EndsP m (fun a fs rex opc => RS w' rb L a fs rex opc sz md rg rm) e ∧ Fr rb rb w w' := by
  have r64n : (L.bs 1 != 64) = true := by simp [bne, r64]
  go_enter Try.func49, Try.ntmps49
  go_wp2_with (first
    | (go_at_call 65; (with_reducible refine (next_ok (by first | with_reducible assumption | (with_reducible exact RS.set2 (by with_reducible assumption) _) | (with_reducible exact RS.set3 (by with_reducible assumption) _)) (by omega)).mono ?_); rintro e w1 ⟨rfl, hrs, hfr⟩; (have hcs := hrs); obtain ⟨_, d1, d2, d3, d4, d5, d6, d7, d8, dz, _⟩ := hcs)
    | (go_at_call 65; (with_reducible refine (next_end (by first | with_reducible assumption | (with_reducible exact RS.set2 (by with_reducible assumption) _) | (with_reducible exact RS.set3 (by with_reducible assumption) _)) (by omega)).mono ?_); rintro e w1 ⟨rfl, hfr⟩)
    | (go_at_call 67; (with_reducible refine (has_any _ (by first | with_reducible assumption | (with_reducible exact RS.set3 (by with_reducible assumption) _))).mono ?_); rintro e w1 ⟨he, hw1⟩; subst w1; (rw [h3] at he); subst he)
    | (go_at_call 66; (with_reducible refine (insist_yes _).mono ?_); rintro e w1 ⟨rfl, hw1⟩; subst w1)
    | (go_at_call 66; (with_reducible refine (insist_no _).mono ?_); rintro e w1 ⟨rfl, hw1⟩; subst w1))
  refine ⟨rfl, ?_, ?_⟩
  · rw [HR.out]; rfl
  · repeat (first | (with_reducible exact Fr.refl _ _ _) | (with_reducible assumption) | (with_reducible refine Fr.setA ?_ _ _) | (with_reducible refine Fr.then ?_ (by with_reducible assumption)))

theorem pre_bPy {w : World} {rb : Nat} {L : Ln} {sz md rg rm : Int} (m : Except Int (Nat × Bool × Int × Int)) (h : RS w rb L 0 false 0 0 sz md rg rm) (hl0 : 0 < L.len) (h0 : (L.bs 0 == 100) = true) (hlb : 1 < L.len) (hx : (bits .and .i64 (L.bs 1) 240 == 64) = true) (h3 : (bits .and .i64 (L.bs 1) 3 != 0) = false) (hl1 : 2 < L.len) (x15 : L.bs 2 = 15) (r64 : (L.bs 1 == 64) = false) (hl : 3 < L.len) (HR : Hid (m = .ok (4, true, L.bs 1, bits .or .i64 3840 (L.bs 3)))) :
    Calls Try.prog 49 #[.pointer (some ⟨rb, 0, none⟩)] w fun e w' => EndsP m (fun a fs rex opc => RS w' rb L a fs rex opc sz md rg rm) e ∧ Fr rb rb w w' := by
  have r64n : (L.bs 1 != 64) = true := by simp [bne, r64]
  go_enter Try.func49, Try.ntmps49
  go_wp2_with (first
    | (go_at_call 65; (with_reducible refine (next_ok (by first | with_reducible assumption | (with_reducible exact RS.set2 (by with_reducible assumption) _) | (with_reducible exact RS.set3 (by with_reducible assumption) _)) (by omega)).mono ?_); rintro e w1 ⟨rfl, hrs, hfr⟩; (have hcs := hrs); obtain ⟨_, d1, d2, d3, d4, d5, d6, d7, d8, dz, _⟩ := hcs)
    | (go_at_call 65; (with_reducible refine (next_end (by first | with_reducible assumption | (with_reducible exact RS.set2 (by with_reducible assumption) _) | (with_reducible exact RS.set3 (by with_reducible assumption) _)) (by omega)).mono ?_); rintro e w1 ⟨rfl, hfr⟩)
    | (go_at_call 67; (with_reducible refine (has_any _ (by first | with_reducible assumption | (with_reducible exact RS.set3 (by with_reducible assumption) _))).mono ?_); rintro e w1 ⟨he, hw1⟩; subst w1; (rw [h3] at he); subst he)
    | (go_at_call 66; (with_reducible refine (insist_yes _).mono ?_); rintro e w1 ⟨rfl, hw1⟩; subst w1)
    | (go_at_call 66; (with_reducible refine (insist_no _).mono ?_); rintro e w1 ⟨rfl, hw1⟩; subst w1))
  go_end0
  refine ⟨?_, ?_⟩
  · rw [HR.out]; exact ⟨rfl, hrs.set4 _⟩
  · repeat (first | (with_reducible exact Fr.refl _ _ _) | (with_reducible assumption) | (with_reducible refine Fr.setA ?_ _ _) | (with_reducible refine Fr.then ?_ (by with_reducible assumption)))

theorem zero64 : ((0 : Int) != 64) = true := rfl
theorem prefixes_any {w : World} {rb : Nat} {L : Ln} {sz md rg rm : Int} (h : RS w rb L 0 false 0 0 sz md rg rm) :
    Calls Try.prog 49 #[.pointer (some ⟨rb, 0, none⟩)] w fun e w' => EndsP (pre L) (fun a fs rex opc => RS w' rb L a fs rex opc sz md rg rm) e ∧ Fr rb rb w w' := by
  by_cases hl0 : 0 < L.len
  case neg =>
    have hl0' : L.len = 0 := by omega
    exact pre_z _ h hl0' ⟨by simp only [pre, nxt, preR, preO, must, bind, Except.bind, hl0, zero64, Bool.not_true, Bool.not_false, Bool.or_true, Bool.or_false, Bool.true_or, Bool.false_or, Bool.false_eq_true, if_true, if_false, Nat.reduceAdd]⟩
  cases h0 : (L.bs 0 == 100)
  case false =>
    cases hx : (bits .and .i64 (L.bs 0) 240 == 64)
    case false =>
      cases x15 : (L.bs 0 == 15)
      · exact pre_cOn _ h hl0 h0 hx x15 ⟨by simp only [pre, nxt, preR, preO, must, bind, Except.bind, hl0, h0, hx, x15, zero64, Bool.not_true, Bool.not_false, Bool.or_true, Bool.or_false, Bool.true_or, Bool.false_or, Bool.false_eq_true, if_true, if_false, Nat.reduceAdd]⟩
      · have x15' : L.bs 0 = 15 := by simpa using x15
        by_cases hl : 1 < L.len
        · exact pre_cOy _ h hl0 h0 hx x15' hl ⟨by simp only [pre, nxt, preR, preO, must, bind, Except.bind, hl0, h0, hx, x15, hl, zero64, Bool.not_true, Bool.not_false, Bool.or_true, Bool.or_false, Bool.true_or, Bool.false_or, Bool.false_eq_true, if_true, if_false, Nat.reduceAdd]⟩
        · have hl' : L.len = 1 := by omega
          exact pre_cOe _ h hl0 h0 hx x15' hl' ⟨by simp only [pre, nxt, preR, preO, must, bind, Except.bind, hl0, h0, hx, x15, hl, zero64, Bool.not_true, Bool.not_false, Bool.or_true, Bool.or_false, Bool.true_or, Bool.false_or, Bool.false_eq_true, if_true, if_false, Nat.reduceAdd]⟩
    by_cases hl1 : 1 < L.len
    case neg =>
      have hl1' : L.len = 1 := by omega
      exact pre_ce _ h hl0 h0 hx hl1' ⟨by simp only [pre, nxt, preR, preO, must, bind, Except.bind, hl0, h0, hx, hl1, zero64, Bool.not_true, Bool.not_false, Bool.or_true, Bool.or_false, Bool.true_or, Bool.false_or, Bool.false_eq_true, if_true, if_false, Nat.reduceAdd]⟩
    cases x15 : (L.bs 1 == 15)
    · exact pre_cPn _ h hl0 h0 hx hl1 x15 ⟨by simp only [pre, nxt, preR, preO, must, bind, Except.bind, hl0, h0, hx, hl1, x15, zero64, Bool.not_true, Bool.not_false, Bool.or_true, Bool.or_false, Bool.true_or, Bool.false_or, Bool.false_eq_true, if_true, if_false, Nat.reduceAdd]⟩
    · have x15' : L.bs 1 = 15 := by simpa using x15
      by_cases hl : 2 < L.len
      · exact pre_cPy _ h hl0 h0 hx hl1 x15' hl ⟨by simp only [pre, nxt, preR, preO, must, bind, Except.bind, hl0, h0, hx, hl1, x15, hl, zero64, Bool.not_true, Bool.not_false, Bool.or_true, Bool.or_false, Bool.true_or, Bool.false_or, Bool.false_eq_true, if_true, if_false, Nat.reduceAdd]⟩
      · have hl' : L.len = 2 := by omega
        exact pre_cPe _ h hl0 h0 hx hl1 x15' hl' ⟨by simp only [pre, nxt, preR, preO, must, bind, Except.bind, hl0, h0, hx, hl1, x15, hl, zero64, Bool.not_true, Bool.not_false, Bool.or_true, Bool.or_false, Bool.true_or, Bool.false_or, Bool.false_eq_true, if_true, if_false, Nat.reduceAdd]⟩
  by_cases hlb : 1 < L.len
  case neg =>
    have hlb' : L.len = 1 := by omega
    exact pre_bz _ h hl0 h0 hlb' ⟨by simp only [pre, nxt, preR, preO, must, bind, Except.bind, hl0, h0, hlb, zero64, Bool.not_true, Bool.not_false, Bool.or_true, Bool.or_false, Bool.true_or, Bool.false_or, Bool.false_eq_true, if_true, if_false, Nat.reduceAdd]⟩
  cases hx : (bits .and .i64 (L.bs 1) 240 == 64)
  case false =>
    cases x15 : (L.bs 1 == 15)
    · exact pre_bOn _ h hl0 h0 hlb hx x15 ⟨by simp only [pre, nxt, preR, preO, must, bind, Except.bind, hl0, h0, hlb, hx, x15, zero64, Bool.not_true, Bool.not_false, Bool.or_true, Bool.or_false, Bool.true_or, Bool.false_or, Bool.false_eq_true, if_true, if_false, Nat.reduceAdd]⟩
    · have x15' : L.bs 1 = 15 := by simpa using x15
      by_cases hl : 2 < L.len
      · exact pre_bOy _ h hl0 h0 hlb hx x15' hl ⟨by simp only [pre, nxt, preR, preO, must, bind, Except.bind, hl0, h0, hlb, hx, x15, hl, zero64, Bool.not_true, Bool.not_false, Bool.or_true, Bool.or_false, Bool.true_or, Bool.false_or, Bool.false_eq_true, if_true, if_false, Nat.reduceAdd]⟩
      · have hl' : L.len = 2 := by omega
        exact pre_bOe _ h hl0 h0 hlb hx x15' hl' ⟨by simp only [pre, nxt, preR, preO, must, bind, Except.bind, hl0, h0, hlb, hx, x15, hl, zero64, Bool.not_true, Bool.not_false, Bool.or_true, Bool.or_false, Bool.true_or, Bool.false_or, Bool.false_eq_true, if_true, if_false, Nat.reduceAdd]⟩
  cases h3 : (bits .and .i64 (L.bs 1) 3 != 0)
  case true => exact pre_bb _ h hl0 h0 hlb hx h3 ⟨by simp only [pre, nxt, preR, preO, must, bind, Except.bind, hl0, h0, hlb, hx, h3, zero64, Bool.not_true, Bool.not_false, Bool.or_true, Bool.or_false, Bool.true_or, Bool.false_or, Bool.false_eq_true, if_true, if_false, Nat.reduceAdd]⟩
  by_cases hl1 : 2 < L.len
  case neg =>
    have hl1' : L.len = 2 := by omega
    exact pre_be _ h hl0 h0 hlb hx h3 hl1' ⟨by simp only [pre, nxt, preR, preO, must, bind, Except.bind, hl0, h0, hlb, hx, h3, hl1, zero64, Bool.not_true, Bool.not_false, Bool.or_true, Bool.or_false, Bool.true_or, Bool.false_or, Bool.false_eq_true, if_true, if_false, Nat.reduceAdd]⟩
  cases x15 : (L.bs 2 == 15)
  · exact pre_bPn _ h hl0 h0 hlb hx h3 hl1 x15 ⟨by simp only [pre, nxt, preR, preO, must, bind, Except.bind, hl0, h0, hlb, hx, h3, hl1, x15, zero64, Bool.not_true, Bool.not_false, Bool.or_true, Bool.or_false, Bool.true_or, Bool.false_or, Bool.false_eq_true, if_true, if_false, Nat.reduceAdd]⟩
  · have x15' : L.bs 2 = 15 := by simpa using x15
    cases r64 : (L.bs 1 == 64)
    case true =>
      have r64n : (L.bs 1 != 64) = false := by simp [bne, r64]
      exact pre_bPb _ h hl0 h0 hlb hx h3 hl1 x15' r64 ⟨by simp only [pre, nxt, preR, preO, must, bind, Except.bind, hl0, h0, hlb, hx, h3, hl1, x15, r64n, zero64, Bool.not_true, Bool.not_false, Bool.or_true, Bool.or_false, Bool.true_or, Bool.false_or, Bool.false_eq_true, if_true, if_false, Nat.reduceAdd]⟩
    have r64n : (L.bs 1 != 64) = true := by simp [bne, r64]
    by_cases hl : 3 < L.len
    · exact pre_bPy _ h hl0 h0 hlb hx h3 hl1 x15' r64 hl ⟨by simp only [pre, nxt, preR, preO, must, bind, Except.bind, hl0, h0, hlb, hx, h3, hl1, x15, r64n, hl, zero64, Bool.not_true, Bool.not_false, Bool.or_true, Bool.or_false, Bool.true_or, Bool.false_or, Bool.false_eq_true, if_true, if_false, Nat.reduceAdd]⟩
    · have hl' : L.len = 3 := by omega
      exact pre_bPe _ h hl0 h0 hlb hx h3 hl1 x15' r64 hl' ⟨by simp only [pre, nxt, preR, preO, must, bind, Except.bind, hl0, h0, hlb, hx, h3, hl1, x15, r64n, hl, zero64, Bool.not_true, Bool.not_false, Bool.or_true, Bool.or_false, Bool.true_or, Bool.false_or, Bool.false_eq_true, if_true, if_false, Nat.reduceAdd]⟩
end Go.Proofs.Ytjbepojopfbajaa
