/- The contract of Name. -/
import Derived.Test.YtdgejingoamfeaaDoorName
namespace Go.Proofs.YtdgejingoamfeaaDoor
open Go.ChangeShapes Go.WideShapes Go.ChangeAt Go.RowKit
set_option linter.unusedVariables false

def nameV (op s c : Int) : ByteArray := if 1 ≤ op ∧ op ≤ 35 then (if hasB (rowL op) s c then rowName (rowL op) s c else ⟨#[]⟩) else ⟨#[]⟩

theorem rows_ok : ∀ r ∈ rowsL, r.stem.size ≤ 10 ∧ empB r.stem = false ∧ (r.lettered = true → (r.sizes == 0) = false) := by
  have : rowsL.all (fun r => decide (r.stem.size ≤ 10) && (r.stem.data.size != 0) && (!r.lettered || !(r.sizes == 0))) = true := by decide +kernel
  intro r hr
  have h := List.all_eq_true.1 this r hr
  simp only [Bool.and_eq_true, Bool.or_eq_true, decide_eq_true_eq, Bool.not_eq_true', bne_iff_ne] at h
  refine ⟨h.1.1, ?_, fun hl => ?_⟩
  · unfold empB
    rw [ByteArray.toList_eq, List.isEmpty_eq_false_iff]
    intro e
    exact h.1.2 (by simpa using congrArg List.length e)
  · rcases h.2 with h2 | h2
    · rw [hl] at h2; cases h2
    · exact h2
theorem rowL_mem (op : Int) (h0 : 1 ≤ op) (h1 : op ≤ 35) : rowL op ∈ rowsL := by
  unfold rowL
  have hl : rowsL.length = 35 := rfl
  rw [List.getD, List.getElem?_eq_getElem (by omega)]
  exact List.getElem_mem ..

theorem has_parts {r : R} {s c : Int} (h : hasB r s c = true) : (0 ≤ c ∧ c < 16) ∧ (s = 0 → (r.sizes == 0) = true) ∧ (s ≠ 0 → 0 ≤ placeV s) := by
  unfold hasB condOk sizeOk at h
  simp only [Bool.and_eq_true, Bool.or_eq_true, decide_eq_true_eq] at h
  obtain ⟨_, ⟨h0, h1, _⟩, h3⟩ := h
  refine ⟨⟨h0, h1⟩, fun e => ?_, fun e => ?_⟩
  · rw [if_pos e] at h3; exact h3
  · rw [if_neg e] at h3
    simp only [Bool.and_eq_true, decide_eq_true_eq] at h3
    exact h3.1

set_option maxHeartbeats 2000000 in
theorem name_yes (op s c : Int) (w : World) (hw : Gl w) (h0 : 1 ≤ op) (h1 : op ≤ 35) :
    Calls Tryd.prog 19 #[.int .i64 op, .int .i64 s, .int .i64 c] w fun e w' => e = .returned (.string (if hasB (rowL op) s c then rowName (rowL op) s c else ⟨#[]⟩)) ∧ Below w.heap.size w w' := by
  have hr := rows_ok _ (rowL_mem op h0 h1)
  have C0 : Hid (∀ v, Calls Tryd.prog 31 #[.int .i64 op] v fun e w' => e = .returned (rowL op).val ∧ Below v.heap.size v w') := ⟨fun v => rowOf_yes op v h0 h1⟩
  generalize rowL op = r at *
  have C1 : Hid (∀ v, Below w.heap.size w v → Calls Tryd.prog 32 #[.agg #[.string r.stem, .int .i64 r.sizes, .bool r.lettered, .bool r.conditional, .bool r.short, .func (.func r.f) #[] #[], .int .i64 r.to, .int .i64 r.uses, .int .i64 r.sets], .int .i64 s, .int .i64 c] v fun e w' => e = .returned (.bool (hasB r s c)) ∧ Below v.heap.size v w') := ⟨fun v hv => has_any r s c v (hw.bel hv)⟩
  cases hh : hasB r s c
  · rw [hh] at C1
    rw [if_neg (by simp)]
    clear hw hr h0 h1 hh
    simp only [R.val] at *
    go_enter Tryd.func19, Tryd.ntmps19
    go_wp2_with (first
      | (go_at_call 31; refine (C0.out _).mono ?_; rintro e w1 ⟨rfl, hb1⟩; have B1 : Hid (Below w.heap.size w w1) := ⟨hb1⟩; clear hb1)
      | (go_at_call 32; refine (C1.out _ (bel_alloc B1.out _)).mono ?_; rintro e w2 ⟨rfl, hb2⟩; have B2 : Hid (Below w.heap.size w w2) := ⟨bel_trans (bel_alloc B1.out _) hb2⟩; clear hb2))
    go_ret
    exact ⟨rfl, B2.out⟩
  · rw [hh] at C1
    rw [if_pos rfl]
    have hp := has_parts hh
    have C2 : Hid (∀ v, Below w.heap.size w v → Calls Tryd.prog 40 #[.agg #[.string r.stem, .int .i64 r.sizes, .bool r.lettered, .bool r.conditional, .bool r.short, .func (.func r.f) #[] #[], .int .i64 r.to, .int .i64 r.uses, .int .i64 r.sets], .int .i64 s, .int .i64 c] v fun e w' => e = .returned (.string (rowName r s c)) ∧ Below v.heap.size v w') :=
      ⟨fun v hv => rowName_any r s c v (hw.bel hv) hr.1 hp.1 (fun hl => hp.2.2 (fun e => by rw [hr.2.2 hl] at hp; exact absurd (hp.2.1 e) (by simp)))⟩
    generalize rowName r s c = z at *
    clear hw hr h0 h1 hh hp
    simp only [R.val] at *
    go_enter Tryd.func19, Tryd.ntmps19
    go_wp2_with (first
      | (go_at_call 31; refine (C0.out _).mono ?_; rintro e w1 ⟨rfl, hb1⟩; have B1 : Hid (Below w.heap.size w w1) := ⟨hb1⟩; clear hb1)
      | (go_at_call 32; refine (C1.out _ (bel_alloc B1.out _)).mono ?_; rintro e w2 ⟨rfl, hb2⟩; have B2 : Hid (Below w.heap.size w w2) := ⟨bel_trans (bel_alloc B1.out _) hb2⟩; obtain ⟨q0, q1, q2, q3, q4, q5, q6, q7, q8⟩ := (RA.new w1 r 52).bel hb2; clear hb2)
      | (go_at_call 40; refine (C2.out _ B2.out).mono ?_; rintro e w3 ⟨rfl, hb3⟩; have B3 : Hid (Below w.heap.size w w3) := ⟨bel_trans B2.out hb3⟩; clear hb3))
    go_ret
    exact ⟨rfl, B3.out⟩

theorem name_no (op s c : Int) (w : World) (h : ¬ (1 ≤ op ∧ op ≤ 35)) :
    Calls Tryd.prog 19 #[.int .i64 op, .int .i64 s, .int .i64 c] w fun e w' => e = .returned (.string ⟨#[]⟩) ∧ Below w.heap.size w w' := by
  have C0 : Hid (∀ v, Calls Tryd.prog 31 #[.int .i64 op] v fun e w' => e = .returned zeroV ∧ Below v.heap.size v w') := ⟨fun v => rowOf_no op v (by omega)⟩
  have C1 : Hid (∀ v, Calls Tryd.prog 32 #[zeroV, .int .i64 s, .int .i64 c] v fun e w' => e = .returned (.bool false) ∧ Below v.heap.size v w') := ⟨fun v => has_zero _ _ v⟩
  clear h
  simp only [zeroV] at *
  go_enter Tryd.func19, Tryd.ntmps19
  go_wp2_with (first
      | (go_at_call 31; refine (C0.out _).mono ?_; rintro e w1 ⟨rfl, hb1⟩; have B1 : Hid (Below w.heap.size w w1) := ⟨hb1⟩; clear hb1)
      | (go_at_call 32; refine (C1.out _).mono ?_; rintro e w2 ⟨rfl, hb2⟩; have B2 : Hid (Below w.heap.size w w2) := ⟨bel_trans (bel_alloc B1.out _) hb2⟩; clear hb2))
  go_ret
  exact ⟨rfl, B2.out⟩

theorem name_any (op s c : Int) (w : World) (hw : Gl w) :
    Calls Tryd.prog 19 #[.int .i64 op, .int .i64 s, .int .i64 c] w fun e w' => e = .returned (.string (nameV op s c)) ∧ Below w.heap.size w w' := by
  unfold nameV
  by_cases h : 1 ≤ op ∧ op ≤ 35
  · rw [if_pos h]; exact name_yes op s c w hw h.1 h.2
  · rw [if_neg h]; exact name_no op s c w h
theorem nameV_size (op s c : Int) : (nameV op s c).size ≤ 13 := by
  have k : (⟨#[]⟩ : ByteArray).size ≤ 13 := by decide
  unfold nameV
  split
  · rename_i h
    split
    · exact rowName_size _ _ _ (rows_ok _ (rowL_mem op h.1 h.2)).1
    · exact k
  · exact k
end Go.Proofs.YtdgejingoamfeaaDoor
