/- The document's Name. -/
import Derived.Test.YtdgejingoamfeaaDoorRefStem
import Derived.Test.YtdgejingoamfeaaDoorCheckSame
import Derived.Test.YtdgejingoamfeaaDoorDisp
namespace Go.Proofs.YtdgejingoamfeaaDoor
open Go.ChangeShapes Go.WideShapes Go.ChangeAt Go.RowKit
set_option linter.unusedVariables false
set_option linter.unusedSimpArgs false

theorem letter_flags : ∀ k : Fin 35, (rowL (k.val + 1 : Nat)).lettered = (!((rowL (k.val + 1 : Nat)).sizes == 0) && !(k.val == 21 || k.val == 22 || k.val == 23 || k.val == 26)) := by decide +kernel
theorem letter_flag (k : Int) (h0 : 1 ≤ k) (h1 : k ≤ 35) : (rowL k).lettered = (!((rowL k).sizes == 0) && !decide (k = 22 ∨ k = 23 ∨ k = 24 ∨ k = 27)) := by
  obtain ⟨n, rfl⟩ := Int.eq_ofNat_of_zero_le (show 0 ≤ k - 1 by omega) |>.imp fun n h => (show k = ((n + 1 : Nat) : Int) by omega)
  have h := letter_flags ⟨n, by omega⟩
  rw [h]
  congr 2
  rw [Bool.eq_iff_iff]
  simp only [Bool.or_eq_true, beq_iff_eq, decide_eq_true_eq]
  omega

/-- The name in the document's words. -/
def nameRV (op s c : Int) : ByteArray :=
  let o := if op = 24 ∨ op = 27 ∨ op = 28 then (rowL op).stem ++ condV c else (rowL op).stem
  if op = 22 ∨ op = 23 ∨ op = 24 ∨ op = 27 then o else if s = 1 then o ++ ⟨#[98]⟩ else if s = 4 then o ++ ⟨#[108]⟩ else if s = 8 then o ++ ⟨#[113]⟩ else o

theorem name_same (op s c : Int) (h0 : 1 ≤ op) (h1 : op ≤ 35) (hs : sizeRB op s = true) (hc : condRB op c = true) : nameRV op s c = nameV op s c := by
  have hh : hasB (rowL op) s c = true := by rw [has_same op h0 h1, hs, hc]; rfl
  obtain ⟨_, hz, hp⟩ := has_parts hh
  have hcd := (row_flag op h0 h1).1
  have hlt := letter_flag op h0 h1
  have hsz := size_same op h0 h1 s
  rw [hs] at hsz
  have hV : nameV op s c = rowName (rowL op) s c := by unfold nameV; rw [if_pos ⟨h0, h1⟩, if_pos hh]
  rw [hV]
  unfold rowName nameRV
  rw [hcd, hlt]
  clear hV
  have hs4 : s = 0 ∨ s = 1 ∨ s = 4 ∨ s = 8 := by
    by_cases e : s = 0
    · exact .inl e
    · have := hp e
      unfold placeV at this
      split at this
      · omega
      · split at this
        · omega
        · split at this <;> omega
  have hzz : s ≠ 0 → ((rowL op).sizes == 0) = false := by
    intro e
    cases hq : ((rowL op).sizes == 0)
    · rfl
    · exfalso
      unfold sizeOk at hsz
      rw [if_neg e] at hsz
      simp only [beq_iff_eq] at hq
      rw [hq] at hsz
      rcases hs4 with rfl | rfl | rfl | rfl
      · exact e rfl
      · revert hsz; decide
      · revert hsz; decide
      · revert hsz; decide
  by_cases hu : op = 22 ∨ op = 23 ∨ op = 24 ∨ op = 27
  · simp only [hu, if_true, decide_true, Bool.not_true, Bool.and_false, decide_eq_true_eq, Bool.false_eq_true, if_false]
  · simp only [hu, if_false, decide_false, Bool.not_false, Bool.and_true, decide_eq_true_eq]
    rcases hs4 with rfl | rfl | rfl | rfl
    · have := hz rfl
      simp only [this, Bool.not_true, Bool.false_eq_true, if_false]
      rfl
    all_goals
      have := hzz (by decide)
      simp only [this, Bool.not_false, if_true]
      by_cases hq : op = 24 ∨ op = 27 ∨ op = 28
      · rw [if_pos hq, if_pos hq]; rfl
      · rw [if_neg hq, if_neg hq]; rfl

set_option maxHeartbeats 4000000 in
theorem refName_yes (op s c : Int) (w : World) (h0 : 1 ≤ op) (h1 : op ≤ 35) (hs : sizeRB op s = true) (hc : condRB op c = true) :
    Calls Tryd.prog 20 #[.int .i64 op, .int .i64 s, .int .i64 c] w fun e w' => e = .returned (.string (nameRV op s c)) ∧ Below w.heap.size w w' := by
  have C0 : Hid (∀ v, Calls Tryd.prog 35 #[.int .i64 op, .int .i64 s] v fun e w' => e = .returned (.bool true) ∧ w' = v) := ⟨fun v => hs ▸ refSize_any op s v h0 h1⟩
  have C1 : Hid (∀ v, Calls Tryd.prog 36 #[.int .i64 op, .int .i64 c] v fun e w' => e = .returned (.bool true) ∧ w' = v) := ⟨fun v => hc ▸ refCond_any op c v⟩
  have C2 : Hid (∀ v, Calls Tryd.prog 41 #[.int .i64 op] v fun e w' => e = .returned (.string (rowL op).stem) ∧ Below v.heap.size v w') := ⟨fun v => refStem_any op ⟨h0, h1⟩ v⟩
  have C3 : Hid (0 ≤ c ∧ c < 16 → ∀ v, Calls Tryd.prog 42 #[.int .i64 c] v fun e w' => e = .returned (.string (condV c)) ∧ Below v.heap.size v w') := ⟨fun h v => refCondName_any c h v⟩
  have z1 := (rows_ok _ (rowL_mem op h0 h1)).1
  have z2 := condV_size c
  have HR : Hid (nameRV op s c = (let o := if op = 24 ∨ op = 27 ∨ op = 28 then (rowL op).stem ++ condV c else (rowL op).stem
    if op = 22 ∨ op = 23 ∨ op = 24 ∨ op = 27 then o else if s = 1 then o ++ ⟨#[98]⟩ else if s = 4 then o ++ ⟨#[108]⟩ else if s = 8 then o ++ ⟨#[113]⟩ else o)) := ⟨rfl⟩
  have HS := hid hs
  have hcc : op = 24 ∨ op = 27 ∨ op = 28 → 0 ≤ c ∧ c < 16 := by
    intro h
    unfold condRB at hc
    rw [if_pos h] at hc
    simpa using hc
  generalize nameRV op s c = z at *
  generalize (rowL op).stem = st at *
  generalize condV c = cv at *
  have k1 : (⟨#[98]⟩ : ByteArray).size = 1 := rfl
  have k2 : (⟨#[108]⟩ : ByteArray).size = 1 := rfl
  have k3 : (⟨#[113]⟩ : ByteArray).size = 1 := rfl
  have AA : Hid (∀ x : ByteArray, x.size ≤ 1 → ∀ v, (Op.stringOp .add st x).run Tryd.prog v = .ok (.string (st ++ x)) v) := ⟨fun x hx v => run_string_add_sum v _ _ (by omega)⟩
  have AB : Hid (∀ x : ByteArray, x.size ≤ 1 → ∀ v, (Op.stringOp .add (st ++ cv) x).run Tryd.prog v = .ok (.string (st ++ cv ++ x)) v) := ⟨fun x hx v => run_string_add_sum v _ _ (by simp only [ByteArray.size_append]; omega)⟩
  have A1 : ∀ v, (Op.stringOp .add st cv).run Tryd.prog v = .ok (.string (st ++ cv)) v := fun v => run_string_add_sum v _ _ (by omega)
  clear hs hc z1 z2
  by_cases e24 : op = 24
  · subst e24
    have C3' := hid (C3.out (hcc (by omega)))
    clear C3 hcc h0 h1 HS AA AB
    go_enter Tryd.func20, Tryd.ntmps20
    go_wp2_with (first
      | (go_at_call 35; refine (C0.out _).mono ?_; rintro e w1 ⟨rfl, hw1⟩; subst w1)
      | (go_at_call 36; refine (C1.out _).mono ?_; rintro e w1 ⟨rfl, hw1⟩; subst w1)
      | (go_at_call 41; refine (C2.out _).mono ?_; rintro e w2 ⟨rfl, hb2⟩)
      | (go_at_call 42; refine (C3'.out _).mono ?_; rintro e w3 ⟨rfl, hb3⟩))
    go_ret
    exact ⟨ret_str (by rw [HR.out]; rfl), bel_trans hb2 hb3⟩
  by_cases e27 : op = 27
  · subst e27
    have C3' := hid (C3.out (hcc (by omega)))
    clear C3 hcc h0 h1 HS AA AB e24
    go_enter Tryd.func20, Tryd.ntmps20
    go_wp2_with (first
      | (go_at_call 35; refine (C0.out _).mono ?_; rintro e w1 ⟨rfl, hw1⟩; subst w1)
      | (go_at_call 36; refine (C1.out _).mono ?_; rintro e w1 ⟨rfl, hw1⟩; subst w1)
      | (go_at_call 41; refine (C2.out _).mono ?_; rintro e w2 ⟨rfl, hb2⟩)
      | (go_at_call 42; refine (C3'.out _).mono ?_; rintro e w3 ⟨rfl, hb3⟩))
    go_ret
    exact ⟨ret_str (by rw [HR.out]; rfl), bel_trans hb2 hb3⟩
  by_cases e22 : op = 22
  · subst e22
    clear C3 hcc h0 h1 HS AA AB e24 e27 A1
    go_enter Tryd.func20, Tryd.ntmps20
    go_wp2_with (first
      | (go_at_call 35; refine (C0.out _).mono ?_; rintro e w1 ⟨rfl, hw1⟩; subst w1)
      | (go_at_call 36; refine (C1.out _).mono ?_; rintro e w1 ⟨rfl, hw1⟩; subst w1)
      | (go_at_call 41; refine (C2.out _).mono ?_; rintro e w2 ⟨rfl, hb2⟩))
    go_ret
    exact ⟨ret_str (by rw [HR.out]; rfl), hb2⟩
  by_cases e23 : op = 23
  · subst e23
    clear C3 hcc h0 h1 HS AA AB e24 e27 e22 A1
    go_enter Tryd.func20, Tryd.ntmps20
    go_wp2_with (first
      | (go_at_call 35; refine (C0.out _).mono ?_; rintro e w1 ⟨rfl, hw1⟩; subst w1)
      | (go_at_call 36; refine (C1.out _).mono ?_; rintro e w1 ⟨rfl, hw1⟩; subst w1)
      | (go_at_call 41; refine (C2.out _).mono ?_; rintro e w2 ⟨rfl, hb2⟩))
    go_ret
    exact ⟨ret_str (by rw [HR.out]; rfl), hb2⟩
  have hs48 : op = 28 → s = 4 ∨ s = 8 := by
    rintro rfl
    have := HS.out
    unfold sizeRB at this
    rw [if_neg (by decide), if_pos (by decide)] at this
    simpa using this
  by_cases e28 : op = 28
  · subst e28
    have C3' := hid (C3.out (hcc (by omega)))
    have B4 := AB.out ⟨#[108]⟩ (by omega)
    have B8 := AB.out ⟨#[113]⟩ (by omega)
    have hs48 := hs48 rfl
    clear C3 hcc h0 h1 HS AA AB e24 e27 e22 e23
    rcases hs48 with rfl | rfl
    all_goals
      go_enter Tryd.func20, Tryd.ntmps20
      go_wp2_with (first
        | (go_at_call 35; refine (C0.out _).mono ?_; rintro e w1 ⟨rfl, hw1⟩; subst w1)
        | (go_at_call 36; refine (C1.out _).mono ?_; rintro e w1 ⟨rfl, hw1⟩; subst w1)
        | (go_at_call 41; refine (C2.out _).mono ?_; rintro e w2 ⟨rfl, hb2⟩)
        | (go_at_call 42; refine (C3'.out _).mono ?_; rintro e w3 ⟨rfl, hb3⟩))
      go_ret
      exact ⟨ret_str (by rw [HR.out]; rfl), bel_trans hb2 hb3⟩
  have f22 : (op == 22) = false := by simp [e22]
  have f23 : (op == 23) = false := by simp [e23]
  have f24 : (op == 24) = false := by simp [e24]
  have f27 : (op == 27) = false := by simp [e27]
  have f28 : (op == 28) = false := by simp [e28]
  have B1 := AA.out ⟨#[98]⟩ (by omega)
  have B4 := AA.out ⟨#[108]⟩ (by omega)
  have B8 := AA.out ⟨#[113]⟩ (by omega)
  have HQ : Hid (z = if s = 1 then st ++ ⟨#[98]⟩ else if s = 4 then st ++ ⟨#[108]⟩ else if s = 8 then st ++ ⟨#[113]⟩ else st) := ⟨by
    have h := HR.out
    have x1 : ¬ (op = 24 ∨ op = 27 ∨ op = 28) := by omega
    have x2 : ¬ (op = 22 ∨ op = 23 ∨ op = 24 ∨ op = 27) := by omega
    simp only [x1, x2, if_false] at h
    exact h⟩
  clear C3 hcc h0 h1 HS AA AB e24 e27 e22 e23 e28 hs48 A1 HR
  by_cases s1 : s = 1
  · subst s1
    go_enter Tryd.func20, Tryd.ntmps20
    go_wp2_with (first
      | (go_at_call 35; refine (C0.out _).mono ?_; rintro e w1 ⟨rfl, hw1⟩; subst w1)
      | (go_at_call 36; refine (C1.out _).mono ?_; rintro e w1 ⟨rfl, hw1⟩; subst w1)
      | (go_at_call 41; refine (C2.out _).mono ?_; rintro e w2 ⟨rfl, hb2⟩))
    go_ret
    exact ⟨ret_str (by rw [HQ.out]; rfl), hb2⟩
  by_cases s4 : s = 4
  · subst s4
    go_enter Tryd.func20, Tryd.ntmps20
    go_wp2_with (first
      | (go_at_call 35; refine (C0.out _).mono ?_; rintro e w1 ⟨rfl, hw1⟩; subst w1)
      | (go_at_call 36; refine (C1.out _).mono ?_; rintro e w1 ⟨rfl, hw1⟩; subst w1)
      | (go_at_call 41; refine (C2.out _).mono ?_; rintro e w2 ⟨rfl, hb2⟩))
    go_ret
    exact ⟨ret_str (by rw [HQ.out]; rfl), hb2⟩
  by_cases s8 : s = 8
  · subst s8
    go_enter Tryd.func20, Tryd.ntmps20
    go_wp2_with (first
      | (go_at_call 35; refine (C0.out _).mono ?_; rintro e w1 ⟨rfl, hw1⟩; subst w1)
      | (go_at_call 36; refine (C1.out _).mono ?_; rintro e w1 ⟨rfl, hw1⟩; subst w1)
      | (go_at_call 41; refine (C2.out _).mono ?_; rintro e w2 ⟨rfl, hb2⟩))
    go_ret
    exact ⟨ret_str (by rw [HQ.out]; rfl), hb2⟩
  have g1 : (s == 1) = false := by simp [s1]
  have g4 : (s == 4) = false := by simp [s4]
  have g8 : (s == 8) = false := by simp [s8]
  have HQ' : Hid (z = st) := ⟨by have h := HQ.out; rw [if_neg s1, if_neg s4, if_neg s8] at h; exact h⟩
  clear s1 s4 s8 HQ
  go_enter Tryd.func20, Tryd.ntmps20
  go_wp2_with (first
    | (go_at_call 35; refine (C0.out _).mono ?_; rintro e w1 ⟨rfl, hw1⟩; subst w1)
    | (go_at_call 36; refine (C1.out _).mono ?_; rintro e w1 ⟨rfl, hw1⟩; subst w1)
    | (go_at_call 41; refine (C2.out _).mono ?_; rintro e w2 ⟨rfl, hb2⟩))
  go_ret
  exact ⟨ret_str HQ'.out.symm, hb2⟩

theorem refName_bad (op s c : Int) (w : World) (h0 : 1 ≤ op) (h1 : op ≤ 35) (h : (sizeRB op s && condRB op c) = false) :
    Calls Tryd.prog 20 #[.int .i64 op, .int .i64 s, .int .i64 c] w fun e w' => e = .returned (.string ⟨#[]⟩) ∧ Below w.heap.size w w' := by
  have C0 : Hid (∀ v, Calls Tryd.prog 35 #[.int .i64 op, .int .i64 s] v fun e w' => e = .returned (.bool (sizeRB op s)) ∧ w' = v) := ⟨fun v => refSize_any op s v h0 h1⟩
  have C1 : Hid (∀ v, Calls Tryd.prog 36 #[.int .i64 op, .int .i64 c] v fun e w' => e = .returned (.bool (condRB op c)) ∧ w' = v) := ⟨fun v => refCond_any op c v⟩
  generalize sizeRB op s = a at *
  generalize condRB op c = b at *
  clear h0 h1
  rcases a with _ | _
  case' true => rcases b with _ | _
  case true.true => cases h
  all_goals
    clear h
    go_enter Tryd.func20, Tryd.ntmps20
    go_wp2_with (first
      | (go_at_call 35; refine (C0.out _).mono ?_; rintro e w1 ⟨rfl, hw1⟩; subst w1)
      | (go_at_call 36; refine (C1.out _).mono ?_; rintro e w1 ⟨rfl, hw1⟩; subst w1))
    go_ret
    exact ⟨rfl, Below.refl _ _⟩

theorem refName_no (op s c : Int) (w : World) (h : ¬ (1 ≤ op ∧ op ≤ 35)) :
    Calls Tryd.prog 20 #[.int .i64 op, .int .i64 s, .int .i64 c] w fun e w' => e = .returned (.string ⟨#[]⟩) ∧ Below w.heap.size w w' := by
  have C0 : Hid (∀ v, Calls Tryd.prog 35 #[.int .i64 op, .int .i64 s] v fun e w' => e = .returned (.bool false) ∧ w' = v) := ⟨fun v => refSize_no op s v h⟩
  clear h
  go_enter Tryd.func20, Tryd.ntmps20
  go_wp2_with (go_at_call 35; refine (C0.out _).mono ?_; rintro e w1 ⟨rfl, hw1⟩; subst w1)
  go_ret
  exact ⟨rfl, Below.refl _ _⟩

theorem refName_all (op s c : Int) (w : World) :
    Calls Tryd.prog 20 #[.int .i64 op, .int .i64 s, .int .i64 c] w fun e w' => e = .returned (.string (nameV op s c)) ∧ Below w.heap.size w w' := by
  by_cases h : 1 ≤ op ∧ op ≤ 35
  · cases hh : (sizeRB op s && condRB op c)
    · have : nameV op s c = ⟨#[]⟩ := by unfold nameV; rw [if_pos h, has_same op h.1 h.2, hh]; rfl
      rw [this]; exact refName_bad op s c w h.1 h.2 hh
    · simp only [Bool.and_eq_true] at hh
      rw [← name_same op s c h.1 h.2 hh.1 hh.2]
      exact refName_yes op s c w h.1 h.2 hh.1 hh.2
  · have : nameV op s c = ⟨#[]⟩ := by unfold nameV; rw [if_neg h]
    rw [this]; exact refName_no op s c w h
end Go.Proofs.YtdgejingoamfeaaDoor
