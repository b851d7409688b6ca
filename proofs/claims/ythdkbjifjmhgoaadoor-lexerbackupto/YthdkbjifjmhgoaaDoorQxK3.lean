/- The program's kinds of bytes: the whole table; a new reader. -/
import Derived.Test.YthdkbjifjmhgoaaDoorQxK2
import Derived.Deep.Cut
namespace Go.Proofs.YthdkbjifjmhgoaaDoor
open Go.ChangeShapes Go.WideShapes Go.ChangeAt Go.RowKit
set_option linter.unusedVariables false
set_option linter.unusedSimpArgs false

def kt1 : Nat → Int := orAll 1 [32, 9] (fun _ => 0)
def kt2 : Nat → Int := orAll 2 [65, 66, 67, 68, 69, 70, 71, 72, 73, 74, 75, 76, 77, 78, 79, 80, 81, 82, 83, 84, 85, 86, 87, 88, 89, 90, 97, 98, 99, 100, 101, 102, 103, 104, 105, 106, 107, 108, 109, 110, 111, 112, 113, 114, 115, 116, 117, 118, 119, 120, 121, 122] kt1
def kt3 : Nat → Int := orAll 4 [48, 49, 50, 51, 52, 53, 54, 55, 56, 57] kt2
def kt4 : Nat → Int := orAll 8 [48, 49, 50, 51, 52, 53, 54, 55, 56, 57, 65, 66, 67, 68, 69, 70, 97, 98, 99, 100, 101, 102] kt3
def kt5 : Nat → Int := orAll 16 [95, 46] kt4
def kt6 : Nat → Int := orAll 32 [44, 40, 41, 58, 36, 43, 45, 42, 47, 38, 126, 64, 61, 124, 94] kt5
theorem kt_kz : karr kt6 = karr kz := by
  have h : ∀ n : Fin 256, kt6 n.val = kz n.val := by decide +kernel
  have e : ((List.range 256).map fun j => Value.int .u8 (kt6 j)) = ((List.range 256).map fun j => Value.int .u8 (kz j)) := List.map_congr_left (fun j hj => by rw [h ⟨j, List.mem_range.1 hj⟩])
  exact congrArg List.toArray e
theorem under_kinds : Tryd.prog.underlying 53 = some (.array 256 5) := by kernel_rfl
theorem size_kinds : (Tryd.prog.info? 53).map (·.size) = some 256 := by kernel_rfl
theorem KB.load {w : World} {b : Nat} {f : Nat → Int} (h : KB w b f) : (loadVar 53 ⟨b, 0, none⟩).run Tryd.prog w = .ok (.agg (karr f)) w :=
  run_loadVar_row (P := Tryd.prog) w b _ _ (karr f) (0, 0) _ h under_kinds rfl (by rw [karr_size]; exact size_kinds)
theorem results_kinds (tmps : Array Value) (W : World) (g : Nat) (f : Nat → Int) (hp : tmps.getD 0 undef = .pointer (some ⟨g, 0, none⟩)) (h : KB W g f) :
    (results Tryd.f29 tmps).run Tryd.prog W = .ok (.agg (karr f)) W := by
  have hp' : tmps[0]?.getD undef = .pointer (some ⟨g, 0, none⟩) := by simpa using hp
  simp [results, Tryd.results29, hp', asAddr, h.load]
theorem KB.setR {w : World} {b : Nat} {f : Nat → Int} (h : KB w b f) (g : Nat → Int) : KB (w.setRow b (karr g)) b g := setRow_heap w b _ _ _ _ h

set_option maxRecDepth 20000 in
set_option maxHeartbeats 4000000 in
theorem kinds_any (w : World) : Calls Tryd.prog 29 #[] w fun e w' => e = .returned (.agg (karr kz)) ∧ Below w.heap.size w w' := by
  obtain ⟨B0, hB0⟩ : ∃ b, b = w.heap.size := ⟨_, rfl⟩
  go_enter Tryd.func29, Tryd.ntmps29
  go_upto_region 0 with (fail)
  iterate 1 go_step
  refine wpList_does (v := .pointer (some ⟨B0, 0, none⟩)) (w' := w.alloc (.cells (karr fun _ => 0) 53)) (by kernel_rfl) (by rw [hB0]; kernel_rfl) ?_
  simp only [Act.put, List.getElem_toArray, List.getElem_cons_succ, List.getElem_cons_zero, List.setIfInBounds_toArray, List.set_cons_zero, List.set_cons_succ]
  have F1 : Below w.heap.size w (w.alloc (.cells (karr fun _ => 0) 53)) := (Below.refl _ _).alloc (Nat.le_refl _) _
  have K0 : KB (w.alloc (.cells (karr fun _ => 0) 53)) B0 (fun _ => 0) := by rw [hB0]; exact heap_alloc_new w _
  have hz1 : B0 < (w.alloc (.cells (karr fun _ => 0) 53)).heap.size := by rw [hB0]; simp
  generalize w.alloc (.cells (karr fun _ => 0) 53) = v1 at *
  refine wpList_nil ?_
  go_upto_region 1 with (fail)
  iterate 1 go_step
  obtain ⟨B1, hB1⟩ : ∃ b, b = v1.heap.size := ⟨_, rfl⟩
  refine wpList_does (v := .pointer (some ⟨B1, 0, none⟩)) (w' := v1.alloc (.cells (karr fun _ => 0) 53)) (by kernel_rfl) (by rw [hB1]; kernel_rfl) ?_
  simp only [Act.put, List.getElem_toArray, List.getElem_cons_succ, List.getElem_cons_zero, List.setIfInBounds_toArray, List.set_cons_zero, List.set_cons_succ]
  have F2 : Below w.heap.size w (v1.alloc (.cells (karr fun _ => 0) 53)) := F1.trans ((Below.refl _ _).alloc F1.size _)
  have K0 : KB (v1.alloc (.cells (karr fun _ => 0) 53)) B0 (fun _ => 0) := K0.turn (Turn.alloc (Turn.refl (fun _ => False) _) _) (fun e => e)
  have K1 : KB (v1.alloc (.cells (karr fun _ => 0) 53)) B1 (fun _ => 0) := by rw [hB1]; exact heap_alloc_new v1 _
  have hb01 : B0 < B1 := by omega
  generalize v1.alloc (.cells (karr fun _ => 0) 53) = u0 at *
  clear F1 hz1 hB1
  refine wpList_nil ?_
  go_upto_region 2 with (fail)
  iterate 1 go_step
  refine wpList_call (f := 45) (args := #[.pointer (some ⟨B1, 0, none⟩), .int .u8 1, .string ⟨#[32, 9]⟩]) (v := .tuple #[]) (by kernel_rfl) (by kernel_rfl) (kadd_any u0 B1 (fun _ => 0) 1 ⟨#[32, 9]⟩ K1 (by decide)) ?_
  rintro u1 ⟨K1, T1⟩
  simp only [Act.put, List.getElem_toArray, List.getElem_cons_succ, List.getElem_cons_zero, List.setIfInBounds_toArray, List.set_cons_zero, List.set_cons_succ]
  replace K1 : KB u1 B1 kt1 := K1
  replace K0 := K0.turn T1 (by omega)
  replace F2 : Below w.heap.size w u1 := F2.trans (T1.below (by have := F2.size; omega) (fun k e => by omega))
  clear T1
  refine wpList_nil ?_
  go_upto_region 3 with (fail)
  iterate 1 go_step
  refine wpList_call (f := 45) (args := #[.pointer (some ⟨B1, 0, none⟩), .int .u8 2, .string ⟨#[65, 66, 67, 68, 69, 70, 71, 72, 73, 74, 75, 76, 77, 78, 79, 80, 81, 82, 83, 84, 85, 86, 87, 88, 89, 90, 97, 98, 99, 100, 101, 102, 103, 104, 105, 106, 107, 108, 109, 110, 111, 112, 113, 114, 115, 116, 117, 118, 119, 120, 121, 122]⟩]) (v := .tuple #[]) (by kernel_rfl) (by kernel_rfl) (kadd_any u1 B1 kt1 2 ⟨#[65, 66, 67, 68, 69, 70, 71, 72, 73, 74, 75, 76, 77, 78, 79, 80, 81, 82, 83, 84, 85, 86, 87, 88, 89, 90, 97, 98, 99, 100, 101, 102, 103, 104, 105, 106, 107, 108, 109, 110, 111, 112, 113, 114, 115, 116, 117, 118, 119, 120, 121, 122]⟩ K1 (by decide)) ?_
  rintro u2 ⟨K1, T2⟩
  simp only [Act.put, List.getElem_toArray, List.getElem_cons_succ, List.getElem_cons_zero, List.setIfInBounds_toArray, List.set_cons_zero, List.set_cons_succ]
  replace K1 : KB u2 B1 kt2 := K1
  replace K0 := K0.turn T2 (by omega)
  replace F2 : Below w.heap.size w u2 := F2.trans (T2.below (by have := F2.size; omega) (fun k e => by omega))
  clear T2
  refine wpList_nil ?_
  go_upto_region 4 with (fail)
  iterate 1 go_step
  refine wpList_call (f := 45) (args := #[.pointer (some ⟨B1, 0, none⟩), .int .u8 4, .string ⟨#[48, 49, 50, 51, 52, 53, 54, 55, 56, 57]⟩]) (v := .tuple #[]) (by kernel_rfl) (by kernel_rfl) (kadd_any u2 B1 kt2 4 ⟨#[48, 49, 50, 51, 52, 53, 54, 55, 56, 57]⟩ K1 (by decide)) ?_
  rintro u3 ⟨K1, T3⟩
  simp only [Act.put, List.getElem_toArray, List.getElem_cons_succ, List.getElem_cons_zero, List.setIfInBounds_toArray, List.set_cons_zero, List.set_cons_succ]
  replace K1 : KB u3 B1 kt3 := K1
  replace K0 := K0.turn T3 (by omega)
  replace F2 : Below w.heap.size w u3 := F2.trans (T3.below (by have := F2.size; omega) (fun k e => by omega))
  clear T3
  refine wpList_nil ?_
  go_upto_region 5 with (fail)
  iterate 1 go_step
  refine wpList_call (f := 45) (args := #[.pointer (some ⟨B1, 0, none⟩), .int .u8 8, .string ⟨#[48, 49, 50, 51, 52, 53, 54, 55, 56, 57, 65, 66, 67, 68, 69, 70, 97, 98, 99, 100, 101, 102]⟩]) (v := .tuple #[]) (by kernel_rfl) (by kernel_rfl) (kadd_any u3 B1 kt3 8 ⟨#[48, 49, 50, 51, 52, 53, 54, 55, 56, 57, 65, 66, 67, 68, 69, 70, 97, 98, 99, 100, 101, 102]⟩ K1 (by decide)) ?_
  rintro u4 ⟨K1, T4⟩
  simp only [Act.put, List.getElem_toArray, List.getElem_cons_succ, List.getElem_cons_zero, List.setIfInBounds_toArray, List.set_cons_zero, List.set_cons_succ]
  replace K1 : KB u4 B1 kt4 := K1
  replace K0 := K0.turn T4 (by omega)
  replace F2 : Below w.heap.size w u4 := F2.trans (T4.below (by have := F2.size; omega) (fun k e => by omega))
  clear T4
  refine wpList_nil ?_
  go_upto_region 6 with (fail)
  iterate 1 go_step
  refine wpList_call (f := 45) (args := #[.pointer (some ⟨B1, 0, none⟩), .int .u8 16, .string ⟨#[95, 46]⟩]) (v := .tuple #[]) (by kernel_rfl) (by kernel_rfl) (kadd_any u4 B1 kt4 16 ⟨#[95, 46]⟩ K1 (by decide)) ?_
  rintro u5 ⟨K1, T5⟩
  simp only [Act.put, List.getElem_toArray, List.getElem_cons_succ, List.getElem_cons_zero, List.setIfInBounds_toArray, List.set_cons_zero, List.set_cons_succ]
  replace K1 : KB u5 B1 kt5 := K1
  replace K0 := K0.turn T5 (by omega)
  replace F2 : Below w.heap.size w u5 := F2.trans (T5.below (by have := F2.size; omega) (fun k e => by omega))
  clear T5
  refine wpList_nil ?_
  go_upto_region 7 with (fail)
  iterate 1 go_step
  refine wpList_call (f := 45) (args := #[.pointer (some ⟨B1, 0, none⟩), .int .u8 32, .string ⟨#[44, 40, 41, 58, 36, 43, 45, 42, 47, 38, 126, 64, 61, 124, 94]⟩]) (v := .tuple #[]) (by kernel_rfl) (by kernel_rfl) (kadd_any u5 B1 kt5 32 ⟨#[44, 40, 41, 58, 36, 43, 45, 42, 47, 38, 126, 64, 61, 124, 94]⟩ K1 (by decide)) ?_
  rintro u6 ⟨K1, T6⟩
  simp only [Act.put, List.getElem_toArray, List.getElem_cons_succ, List.getElem_cons_zero, List.setIfInBounds_toArray, List.set_cons_zero, List.set_cons_succ]
  replace K1 : KB u6 B1 kt6 := K1
  replace K0 := K0.turn T6 (by omega)
  replace F2 : Below w.heap.size w u6 := F2.trans (T6.below (by have := F2.size; omega) (fun k e => by omega))
  clear T6
  refine wpList_nil ?_
  go_upto_region 8 with (fail)
  iterate 1 go_step
  refine wpList_load_of (p := ⟨B1, 0, none⟩) (v := .agg (karr kt6)) rfl (by kernel_rfl) (by kernel_rfl) K1.load ?_
  simp only [Act.put, List.getElem_toArray, List.getElem_cons_succ, List.getElem_cons_zero, List.setIfInBounds_toArray, List.set_cons_zero, List.set_cons_succ]
  refine wpList_store_row rfl _ _ _ rfl B0 (karr kt6) (by kernel_rfl) (by kernel_rfl) 53 (karr fun _ => 0) K0 (by rw [karr_size]; exact size_kinds) (by rw [karr_size, karr_size]) (by kernel_rfl) ?_
  simp only [Act.put, List.getElem_toArray, List.getElem_cons_succ, List.getElem_cons_zero, List.setIfInBounds_toArray, List.set_cons_zero, List.set_cons_succ]
  have K9 := K0.setR kt6
  have F9 : Below w.heap.size w (u6.setRow B0 (karr kt6)) := F2.trans ⟨rfl, rfl, rfl, by simp, fun j hj => setRow_other _ B0 j _ (by omega)⟩
  generalize u6.setRow B0 (karr kt6) = u9 at *
  refine wpList_nil ?_
  go_wp2_with fail
  exact bodyPost_ret (v := .agg (karr kt6)) (results_kinds _ u9 B0 kt6 (by kernel_rfl) K9) (by kernel_rfl) ⟨by rw [kt_kz], F9⟩
end Go.Proofs.YthdkbjifjmhgoaaDoor
