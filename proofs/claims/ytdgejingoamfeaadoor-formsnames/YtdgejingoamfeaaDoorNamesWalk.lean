/- FormsNames, walked. -/
import Derived.Test.YtdgejingoamfeaaDoorRefFind
namespace Go.Proofs.YtdgejingoamfeaaDoor
open Go.ChangeShapes Go.WideShapes Go.ChangeAt Go.RowKit Go.Maps
set_option linter.unusedVariables false
set_option linter.unusedSimpArgs false

set_option maxHeartbeats 4000000 in
set_option maxRecDepth 4000 in
theorem formsNames_walk (op s c : Int) (t : ByteArray) (w : World) (_ : (Lit.int .i64 op).wf = true) (_ : (Lit.int .i64 s).wf = true) (_ : (Lit.int .i64 c).wf = true) (ht : t.size ≤ maxLen) (hw : Gp w) :
    Calls Tryd.prog 4 #[.int .i64 op, .int .i64 s, .int .i64 c, .string t] w fun e w' => e = .returned (.bool true) ∧ Below w.heap.size w w' := by
  have C1 : Hid (∀ v, Gp v → Calls Tryd.prog 15 #[.string t] v fun e w' => e = .returned (.tuple #[.int .i64 (findV t).1, .int .i64 (findV t).2.1, .int .i64 (findV t).2.2.1, .bool (findV t).2.2.2]) ∧ Below v.heap.size v w') := ⟨fun v hv => find_any t v hv.g ht⟩
  have C2 : Hid (∀ v, Calls Tryd.prog 16 #[.string t] v fun e w' => e = .returned (.tuple #[.int .i64 (findV t).1, .int .i64 (findV t).2.1, .int .i64 (findV t).2.2.1, .bool (findV t).2.2.2]) ∧ Below v.heap.size v w') := ⟨fun v => refFind_all t v⟩
  have C3 : Hid (∀ v, Gp v → Calls Tryd.prog 17 #[.string t] v fun e w' => e = .returned (.tuple #[.int .i64 (numV t).1, .int .i64 (numV t).2.1, .bool (numV t).2.2]) ∧ Below v.heap.size v w') := ⟨fun v hv => number_any t v hv.g ht⟩
  have C4 : Hid (∀ v, Calls Tryd.prog 18 #[.string t] v fun e w' => e = .returned (.tuple #[.int .i64 (numV t).1, .int .i64 (numV t).2.1, .bool (numV t).2.2]) ∧ Below v.heap.size v w') := ⟨fun v => refNumber_any t v⟩
  have C5 : Hid (∀ v, Gp v → Calls Tryd.prog 19 #[.int .i64 op, .int .i64 s, .int .i64 c] v fun e w' => e = .returned (.string (nameV op s c)) ∧ Below v.heap.size v w') := ⟨fun v hv => name_any op s c v hv.g⟩
  have C6 : Hid (∀ v, Calls Tryd.prog 20 #[.int .i64 op, .int .i64 s, .int .i64 c] v fun e w' => e = .returned (.string (nameV op s c)) ∧ Below v.heap.size v w') := ⟨fun v => refName_all op s c v⟩
  have C7 : Hid (∀ v, Gp v → Calls Tryd.prog 21 #[.int .i64 c, .int .i64 s] v fun e w' => e = .returned (.string (regV c s)) ∧ Below v.heap.size v w') := ⟨fun v hv => register_any c s v hv.g⟩
  have C8 : Hid (∀ v, Calls Tryd.prog 22 #[.int .i64 c, .int .i64 s] v fun e w' => e = .returned (.string (regV c s)) ∧ Below v.heap.size v w') := ⟨fun v => refRegister_any c s v⟩
  have C9 : Hid (∀ v, Gp v → Calls Tryd.prog 14 #[] v fun e w' => e = .returned (.bool true) ∧ Below v.heap.size v w') := ⟨fun v hv => knows_any v hv⟩
  have A : Hid (Gp w ∧ Below w.heap.size w w) := ⟨hw, Below.refl _ _⟩
  generalize nameV op s c = n at *
  generalize regV c s = g at *
  generalize findV t = fv at *
  generalize numV t = nv at *
  obtain ⟨f1, f2, f3, f4⟩ := fv
  obtain ⟨n1, n2, n3⟩ := nv
  dsimp only at *
  have o1 : (n.toList == n.toList) = true := by simp
  have o2 : (g.toList == g.toList) = true := by simp
  have o3 : (f1 == f1) = true := by simp
  have o4 : (f2 == f2) = true := by simp
  have o5 : (f3 == f3) = true := by simp
  have o6 : (f4 == f4) = true := by simp
  have o7 : (n1 == n1) = true := by simp
  have o8 : (n2 == n2) = true := by simp
  have o9 : (n3 == n3) = true := by simp
  clear hw ht
  go_enter Tryd.func4, Tryd.ntmps4
  go_wp2_with (first
    | (go_at_call 15; refine (C1.out _ A.out.1).mono ?_; rintro e u ⟨rfl, hbb⟩; have A : Hid (Gp u ∧ Below w.heap.size w u) := ⟨A.out.1.bel hbb, bel_trans A.out.2 hbb⟩; clear hbb)
    | (go_at_call 16; refine (C2.out _).mono ?_; rintro e u ⟨rfl, hbb⟩; have A : Hid (Gp u ∧ Below w.heap.size w u) := ⟨A.out.1.bel hbb, bel_trans A.out.2 hbb⟩; clear hbb)
    | (go_at_call 17; refine (C3.out _ A.out.1).mono ?_; rintro e u ⟨rfl, hbb⟩; have A : Hid (Gp u ∧ Below w.heap.size w u) := ⟨A.out.1.bel hbb, bel_trans A.out.2 hbb⟩; clear hbb)
    | (go_at_call 18; refine (C4.out _).mono ?_; rintro e u ⟨rfl, hbb⟩; have A : Hid (Gp u ∧ Below w.heap.size w u) := ⟨A.out.1.bel hbb, bel_trans A.out.2 hbb⟩; clear hbb)
    | (go_at_call 19; refine (C5.out _ A.out.1).mono ?_; rintro e u ⟨rfl, hbb⟩; have A : Hid (Gp u ∧ Below w.heap.size w u) := ⟨A.out.1.bel hbb, bel_trans A.out.2 hbb⟩; clear hbb)
    | (go_at_call 20; refine (C6.out _).mono ?_; rintro e u ⟨rfl, hbb⟩; have A : Hid (Gp u ∧ Below w.heap.size w u) := ⟨A.out.1.bel hbb, bel_trans A.out.2 hbb⟩; clear hbb)
    | (go_at_call 21; refine (C7.out _ A.out.1).mono ?_; rintro e u ⟨rfl, hbb⟩; have A : Hid (Gp u ∧ Below w.heap.size w u) := ⟨A.out.1.bel hbb, bel_trans A.out.2 hbb⟩; clear hbb)
    | (go_at_call 22; refine (C8.out _).mono ?_; rintro e u ⟨rfl, hbb⟩; have A : Hid (Gp u ∧ Below w.heap.size w u) := ⟨A.out.1.bel hbb, bel_trans A.out.2 hbb⟩; clear hbb)
    | (go_at_call 14; refine (C9.out _ A.out.1).mono ?_; rintro e u ⟨rfl, hbb⟩; have A : Hid (Gp u ∧ Below w.heap.size w u) := ⟨A.out.1.bel hbb, bel_trans A.out.2 hbb⟩; clear hbb))
  go_ret
  exact ⟨rfl, A.out.2⟩
end Go.Proofs.YtdgejingoamfeaaDoor
