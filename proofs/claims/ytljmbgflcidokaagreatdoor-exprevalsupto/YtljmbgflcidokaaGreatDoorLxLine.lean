/- The document's lines. -/
import Derived.Test.YtljmbgflcidokaaGreatDoorLxTok
namespace Go.Proofs.YtljmbgflcidokaaGreatDoor
open Go.ChangeShapes Go.WideShapes Go.ChangeAt Go.RowKit
set_option linter.unusedVariables false
set_option linter.unusedSimpArgs false

theorem word_pos {c : UInt8} {r : List UInt8} (h : isIn c = true) : 1 ≤ wordN (c :: r) := by
  unfold wordN
  rw [List.takeWhile_cons, h]
  simp
theorem dig_in {c : UInt8} (h : isDig c = true) : isIn c = true := by
  unfold isIn inZ
  have : digZ (zOf c) = true := h
  rw [this]; simp
theorem num_len {c : UInt8} {r : List UInt8} {v : Int} {n : Nat} (hc : isDig c = true ∨ c = 39) (h : numM (c :: r) = some (v, n)) : 1 ≤ n ∧ n ≤ (c :: r).length := by
  have hw := word_le (c :: r)
  unfold numM at h
  simp only at h
  split at h
  · split at h
    · split at h
      · simp only [Option.some.injEq, Prod.mk.injEq] at h
        obtain ⟨_, rfl⟩ := h
        simp
      · cases h
    · cases h
  · rename_i h39
    have hi : 1 ≤ wordN (c :: r) := word_pos (dig_in (hc.resolve_right h39))
    split at h
    · simp only [Option.map_eq_some_iff, Prod.mk.injEq] at h
      obtain ⟨_, _, _, rfl⟩ := h
      exact ⟨hi, hw⟩
    · simp only [Option.map_eq_some_iff, Prod.mk.injEq] at h
      obtain ⟨_, _, _, rfl⟩ := h
      exact ⟨hi, hw⟩
theorem quoF_len : ∀ (n : Nat) (l acc : List UInt8) (i : Nat) (t : List UInt8) (j : Nat), quoF n l acc i = some (t, j) → i < j ∧ j ≤ i + l.length
  | 0, l, acc, i, t, j, h => by cases h
  | n + 1, [], acc, i, t, j, h => by cases h
  | n + 1, c :: r, acc, i, t, j, h => by
    unfold quoF at h
    split at h
    · simp only [Option.some.injEq, Prod.mk.injEq] at h
      obtain ⟨_, rfl⟩ := h
      simp
    · split at h
      · cases h
      · split at h
        · split at h
          · cases h
          · rename_i x k he
            have := quoF_len n _ _ _ t j h
            have hk := esc_le he
            rw [List.length_drop] at this
            simp only [List.length_cons]
            omega
        · have := quoF_len n _ _ _ t j h
          simp only [List.length_cons]
          omega
theorem quo_len {c : UInt8} {r : List UInt8} {t : List UInt8} {n : Nat} (h : quoM (c :: r) = some (t, n)) : 1 ≤ n ∧ n ≤ (c :: r).length := by
  have := quoF_len _ _ _ _ _ _ h
  simp only [List.drop_succ_cons, List.drop_zero] at this
  simp only [List.length_cons]
  omega
theorem one_len {l : List UInt8} {t : Tok} {n : Nat} (h : oneM l = some (t, n)) : 1 ≤ n ∧ n ≤ l.length := by
  unfold oneM at h
  cases l with
  | nil => cases h
  | cons c r =>
    simp only at h
    split at h
    · simp only [Option.some.injEq, Prod.mk.injEq] at h
      obtain ⟨_, rfl⟩ := h
      simp
    · split at h
      · rename_i hc
        simp only [Option.map_eq_some_iff, Prod.mk.injEq] at h
        obtain ⟨p, hp, _, rfl⟩ := h
        exact num_len hc hp
      · split at h
        · simp only [Option.map_eq_some_iff, Prod.mk.injEq] at h
          obtain ⟨p, hp, _, rfl⟩ := h
          exact quo_len hp
        · split at h
          · split at h
            · cases h
            · simp only [Option.some.injEq, Prod.mk.injEq] at h
              obtain ⟨_, rfl⟩ := h
              have := reg_le r
              simp only [List.length_cons]
              omega
          · split at h
            · rename_i hi
              split at h
              · simp only [Option.some.injEq, Prod.mk.injEq] at h
                obtain ⟨_, rfl⟩ := h
                exact ⟨word_pos hi, word_le _⟩
              · cases h
            · split at h
              · cases h
              · rename_i hz
                simp only [Option.some.injEq, Prod.mk.injEq] at h
                obtain ⟨_, rfl⟩ := h
                refine ⟨by omega, ?_⟩
                unfold signN
                simp only
                split
                · rename_i h2
                  cases r with
                  | nil => simp at h2
                  | cons d r => simp
                · split <;> simp

/-- How line ends. -/
def LEnds (m : Option (List Tok)) (k : Int) (w : World) (e : Ending) (w' : World) : Prop :=
  match m with
  | none => e = .returned (.tuple #[.slice none 0 0, .bool false]) ∧ Below w.heap.size w w'
  | some ts => ∃ v, e = .returned (.tuple #[v, .bool true]) ∧ OwnT w' w.heap.size v (ts.map fun t => (t, k)) ∧ Below w.heap.size w w'
/-- So far. -/
def LFar (r : ByteArray) (M : Option (List Tok)) (ts : List Tok) : Prop := ∃ n, r.size < n ∧ M = (lineF n (lo r)).map (ts ++ ·)
theorem LFar.stop {r : ByteArray} {M : Option (List Tok)} {ts : List Tok} (h : LFar r M ts) (hr : r.size = 0) : M = some ts := by
  obtain ⟨n, hn, rfl⟩ := h
  rw [show lo r = [] from List.eq_nil_of_length_eq_zero (by rw [lo_len]; exact hr)]
  cases n <;> simp [lineF]
theorem LFar.step {r : ByteArray} {M : Option (List Tok)} {ts : List Tok} (h : LFar r M ts) (hr : 0 < r.size) : ∃ n, r.size ≤ n ∧ M = (if r[0] = 35 then some [] else if r[0] = 32 ∨ r[0] = 9 then lineF n ((lo r).drop 1) else match oneM (lo r) with | none => none | some (t, k) => (lineF n ((lo r).drop k)).map (t :: ·)).map (ts ++ ·) := by
  obtain ⟨n, hn, rfl⟩ := h
  cases n with
  | zero => omega
  | succ n =>
    refine ⟨n, by omega, ?_⟩
    have key : ∀ (l : List UInt8) (c : UInt8) (r' : List UInt8), l = c :: r' → lineF (n + 1) l = if c = 35 then some [] else if c = 32 ∨ c = 9 then lineF n r' else match oneM l with | none => none | some (t, k) => (lineF n (l.drop k)).map (t :: ·) := by
      rintro l c r' rfl
      rfl
    rw [key (lo r) r[0] ((lo r).drop 1) (lo_cons r hr)]
theorem lo_sub1 (r : ByteArray) (n : Nat) : lo (r.extract n r.size) = (lo r).drop n := by
  rw [lo_sub, List.take_of_length_le (by rw [List.length_drop, lo_len]; exact Nat.le_refl _)]
def strLen : Value → Nat
  | .string s => s.size
  | _ => 0
theorem nonempty (s : ByteArray) (h : 0 < s.size) : (s.toList.isEmpty = false) ∧ ((s.toList != []) = true) := by
  have h2 : s.toList.length = s.size := by rw [ByteArray.toList_eq]; simp
  cases hl : s.toList with
  | nil => rw [hl] at h2; simp at h2; omega
  | cons => simp
theorem isempty (s : ByteArray) (h : s.size = 0) : (s.toList.isEmpty = true) ∧ ((s.toList != []) = false) := by
  have h2 : s.toList.length = s.size := by rw [ByteArray.toList_eq]; simp
  rw [List.eq_nil_of_length_eq_zero (h2.trans h)]
  simp

end Go.Proofs.YtljmbgflcidokaaGreatDoor
