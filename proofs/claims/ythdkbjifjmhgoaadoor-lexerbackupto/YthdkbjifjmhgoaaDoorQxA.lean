/- The program's All: any text is cut as the document says. -/
import Derived.Test.YthdkbjifjmhgoaaDoorQxK3
import Derived.Test.YthdkbjifjmhgoaaDoorLxAll
namespace Go.Proofs.YthdkbjifjmhgoaaDoor
open Go.ChangeShapes Go.WideShapes Go.ChangeAt Go.RowKit
set_option linter.unusedVariables false
set_option linter.unusedSimpArgs false

def rdArr (s : ByteArray) : Array Value := #[.string s, .int .i64 0] ++ karr kz ++ #[.int .i64 0, .slice none 0 0]
theorem rd_new (s : ByteArray) {w : World} {b : Nat} (h : w.heap[b]? = some (.cells (rdArr s) 55 (0, 0))) (he : Er w) (hb : 6 ≤ b) : RD w b s 0 0 (.slice none 0 0) := by
  have hc : ∀ j, w.cell? ⟨b, j, none⟩ = (rdArr s)[j]? := fun j => by simp only [World.cell?, h]; simp
  have hk := karr_size kz
  refine ⟨(hc 0).trans ?_, (hc 1).trans ?_, fun j hj => (hc (2 + j)).trans ?_, (hc 258).trans ?_, (hc 259).trans ?_, fun j => by simp [World.frozen?, h], he, hb⟩
  · unfold rdArr
    rw [Array.getElem?_append_left (by simp; omega), Array.getElem?_append_left (by simp)]; rfl
  · unfold rdArr
    rw [Array.getElem?_append_left (by simp; omega), Array.getElem?_append_left (by simp)]; rfl
  · unfold rdArr
    rw [Array.getElem?_append_left (by simp [hk]; omega), Array.getElem?_append_right (by simp)]
    have : 2 + j - (#[Value.string s, .int .i64 0] : Array Value).size = j := by simp
    rw [this]; exact karr_at kz j hj
  · unfold rdArr
    rw [Array.getElem?_append_right (by simp [hk])]
    have : 258 - (#[Value.string s, .int .i64 0] ++ karr kz).size = 0 := by simp [hk]
    rw [this]; rfl
  · unfold rdArr
    rw [Array.getElem?_append_right (by simp [hk])]
    have : 259 - (#[Value.string s, .int .i64 0] ++ karr kz).size = 1 := by simp [hk]
    rw [this]; rfl

set_option maxRecDepth 20000 in
set_option maxHeartbeats 4000000 in
theorem newReader_any (s : ByteArray) (w : World) (he : Er w) : Calls Tryd.prog 21 #[.string s] w fun e w' => ∃ rb, e = .returned (.pointer (some ⟨rb, 0, none⟩)) ∧ w.heap.size ≤ rb ∧ RD w' rb s 0 0 (.slice none 0 0) ∧ Below w.heap.size w w' := by
  go_enter Tryd.func21, Tryd.ntmps21
  go_upto_region 1 with (fail)
  iterate 1 go_step
  refine wpList_val (v := .string s) (by kernel_rfl) (by kernel_rfl) ?_
  simp only [Act.put, List.getElem_toArray, List.getElem_cons_succ, List.getElem_cons_zero, List.setIfInBounds_toArray, List.set_cons_zero, List.set_cons_succ]
  refine wpList_val (v := .agg #[.string s, .int .i64 0]) (by kernel_rfl) (by kernel_rfl) ?_
  simp only [Act.put, List.getElem_toArray, List.getElem_cons_succ, List.getElem_cons_zero, List.setIfInBounds_toArray, List.set_cons_zero, List.set_cons_succ]
  refine wpList_call (f := 29) (args := #[]) (v := .agg (karr kz)) (by kernel_rfl) (by kernel_rfl) (kinds_any w) ?_
  rintro v1 hb1
  simp only [Act.put, List.getElem_toArray, List.getElem_cons_succ, List.getElem_cons_zero, List.setIfInBounds_toArray, List.set_cons_zero, List.set_cons_succ]
  refine wpList_val (v := .agg (rdArr s)) (by kernel_rfl) (by kernel_rfl) ?_
  simp only [Act.put, List.getElem_toArray, List.getElem_cons_succ, List.getElem_cons_zero, List.setIfInBounds_toArray, List.set_cons_zero, List.set_cons_succ]
  obtain ⟨B0, hB0⟩ : ∃ b, b = v1.heap.size := ⟨_, rfl⟩
  refine wpList_does (v := .pointer (some ⟨B0, 0, none⟩)) (w' := v1.alloc (.cells (rdArr s) 55)) (by kernel_rfl) (by rw [hB0]; kernel_rfl) ?_
  simp only [Act.put, List.getElem_toArray, List.getElem_cons_succ, List.getElem_cons_zero, List.setIfInBounds_toArray, List.set_cons_zero, List.set_cons_succ]
  have hs1 := hb1.size
  have F1 : Below w.heap.size w (v1.alloc (.cells (rdArr s) 55)) := hb1.alloc hs1 _
  have R1 : RD (v1.alloc (.cells (rdArr s) 55)) B0 s 0 0 (.slice none 0 0) := rd_new s (by rw [hB0]; exact heap_alloc_new v1 _) (he.bel F1) (by have := he.sz; omega)
  have hz : w.heap.size ≤ B0 := by omega
  generalize v1.alloc (.cells (rdArr s) 55) = v2 at *
  clear hB0
  refine wpList_val (v := .pointer (some ⟨B0, 0, none⟩)) (by kernel_rfl) (by kernel_rfl) ?_
  simp only [Act.put, List.getElem_toArray, List.getElem_cons_succ, List.getElem_cons_zero, List.setIfInBounds_toArray, List.set_cons_zero, List.set_cons_succ]
  refine wpList_nil ?_
  go_wp2_with fail
  go_ret
  exact ⟨B0, rfl, hz, R1, F1⟩

set_option maxHeartbeats 1000000 in
set_option maxRecDepth 100000 in
theorem count_one (s : ByteArray) (c : UInt8) (w : World) : Calls Tryd.prog 28 #[.string s, .string ⟨#[c]⟩] w fun e w' => e = .returned (.int .i64 (((lo s).count c : Nat) : Int)) ∧ w' = w := by
  go_enter Tryd.func28, Tryd.ntmps28
  go_wp2
  rw [run_callFunc_extern Tryd.func43 (by kernel_rfl) (by kernel_rfl) (by kernel_rfl) (e := Extern.BytealgCount.count) (by kernel_rfl), Lib.run_countString]
  simp only [Result.andThen]
  rw [Oper.upon_value]
  go_wp2
  go_ret
  exact ⟨rfl, rfl⟩

/-- How many lines there are. -/
theorem lines_count : ∀ (l acc : List UInt8), (linesF l acc).length = l.count 10 + (if l = [] then (if acc = [] then 0 else 1) else if l.getLast? = some 10 then 0 else 1)
  | [], acc => by
    show (if acc = [] then ([] : List (List UInt8)) else [acc]).length = _
    split <;> simp_all
  | c :: r, acc => by
    by_cases hc : c = 10
    · subst hc
      have h := lines_count r []
      show (acc :: linesF r []).length = _
      rw [List.length_cons, h]
      cases r with
      | nil => rfl
      | cons d r' =>
        simp only [reduceCtorEq, if_false, List.getLast?_cons_cons, List.count_cons_self]
        omega
    · have h := lines_count r (acc ++ [c])
      show (if c = 10 then acc :: linesF r [] else linesF r (acc ++ [c])).length = _
      rw [if_neg hc, h, List.count_cons]
      have e0 : (c == 10) = false := by simpa using hc
      rw [e0]
      cases r with
      | nil => simp [hc]
      | cons d r' => simp
end Go.Proofs.YthdkbjifjmhgoaaDoor
