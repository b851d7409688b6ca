/- The document's registers; every one. -/
import Derived.Test.YthdkbjifjmhgoaaDoorLxOne
namespace Go.Proofs.YthdkbjifjmhgoaaDoor
open Go.ChangeShapes Go.WideShapes Go.ChangeAt Go.RowKit
set_option linter.unusedVariables false
set_option linter.unusedSimpArgs false

def regB (j : Nat) (c : UInt8) : Bool := isLet c || (decide (0 < j) && isDig c)
theorem reg_at (l : List UInt8) (j : Nat) (hj : j ≤ regN l) : (∀ h : j < l.length, (regB j l[j] = true ↔ j < regN l)) ∧ (j = l.length → j = regN l) := by
  cases l with
  | nil => simp [regN] at hj ⊢; try exact hj
  | cons c r =>
    unfold regN at hj ⊢
    simp only at hj ⊢
    cases hc : isLet c
    · rw [hc] at hj
      simp at hj
      subst hj
      simp [regB, hc]
    · rw [hc] at hj
      simp only [if_true] at hj ⊢
      cases j with
      | zero => simp [regB, hc]; omega
      | succ j =>
        have := takeWhile_at (p := fun c => isLet c || isDig c) r j (by omega)
        refine ⟨fun h => ?_, fun h => ?_⟩
        · have h2 : j < r.length := by simpa using h
          have := this.1 h2
          simp only [List.getElem_cons_succ, regB, decide_eq_true (show 0 < j + 1 by omega), Bool.true_and]
          rw [this]; omega
        · have h2 : j = r.length := by simpa using h
          have := this.2 h2
          omega
theorem reg_le (l : List UInt8) : regN l ≤ l.length := by
  cases l with
  | nil => simp [regN]
  | cons c r =>
    unfold regN
    simp only
    have := (List.takeWhile_sublist (fun c => isLet c || isDig c) (l := r)).length_le
    split
    · simp; omega
    · omega

theorem reg_ret {s : ByteArray} {j r : Nat} {d : Bool} {l : List UInt8} (hr : j = 1 + r) (hj : 1 ≤ j) (hs : s.extract 1 (1 + r) = St (l.take r)) (hd : d = decide (1 < j)) :
    One3 (if r = 0 then none else some (⟨5, 0, l.take r⟩, 1 + r)) (.returned (.tuple #[.agg #[.int .i64 5, .int .i64 0, .int .i64 0, .string (s.extract 1 j)], .int .i64 (j : Int), .bool d])) := by
  subst hr
  by_cases h0 : r = 0
  · rw [if_pos h0]
    exact one_no (by rw [hd]; exact decide_eq_false (by omega))
  · rw [if_neg h0]
    exact one_yes (by rw [hd]; exact decide_eq_true (by omega)) hs
theorem reg_ret2 {M : Option (Tok × Nat)} {s : ByteArray} {j r : Nat} {d : Bool} {l : List UInt8} (hM : M = if r = 0 then none else some (⟨5, 0, l.take r⟩, 1 + r)) (hr : j = 1 + r) (hj : 1 ≤ j) (hs : s.extract 1 (1 + r) = St (l.take r)) (hd : d = decide (1 < j)) :
    One3 M (.returned (.tuple #[.agg #[.int .i64 5, .int .i64 0, .int .i64 0, .string (s.extract 1 j)], .int .i64 (j : Int), .bool d])) := by
  rw [hM]; exact reg_ret hr hj hs hd
set_option maxHeartbeats 4000000 in
set_option maxRecDepth 10000 in
theorem rone_reg (s : ByteArray) (w : World) (h0 : 0 < s.size) (hl : s.size ≤ 8796093022208) (h37 : s[0] = 37) :
    Calls Tryd.prog 37 #[.string s] w fun e w' => One3 (oneM (lo s)) e ∧ Below w.heap.size w w' := by
  have hN := one_c s h0
  have h0i : (0 : Int) < (s.size : Int) := by omega
  have hd : isDig s[0] = false := by rw [h37]; rfl
  rw [if_neg (by rw [h37]; decide), if_neg (by rw [hd, h37]; decide), if_neg (by rw [h37]; decide), if_pos h37] at hN
  obtain ⟨M, hMM⟩ : ∃ M, oneM (lo s) = M := ⟨_, rfl⟩
  rw [hMM] at hN ⊢
  have HM : Hid _ := ⟨hN⟩
  clear hMM
  have q59 : ((s[0].toNat : Int) == 59) = false := by rw [h37]; rfl
  have q39 : ((s[0].toNat : Int) == 39) = false := by rw [h37]; rfl
  have q34 : ((s[0].toNat : Int) == 34) = false := by rw [h37]; rfl
  have q37 : ((s[0].toNat : Int) == 37) = true := by rw [h37]; rfl
  have HD : Hid (∀ w, Calls Tryd.prog 53 #[.int .u8 (s[0].toNat : Int)] w fun e w' => e = .returned (.bool false) ∧ w' = w) := ⟨fun w => by have := rdigit_any (s[0].toNat : Int) w; rw [show digZ (s[0].toNat : Int) = isDig s[0] from rfl, hd] at this; exact this⟩
  have HR : Hid _ := ⟨reg_at ((lo s).drop 1)⟩
  have hle := reg_le ((lo s).drop 1)
  rw [List.length_drop, lo_len] at hle
  have HT : Hid (s.extract 1 (1 + regN ((lo s).drop 1)) = St (((lo s).drop 1).take (regN ((lo s).drop 1)))) := ⟨by rw [sub_St, Nat.add_sub_cancel_left]⟩
  clear hN hd h37
  generalize regN ((lo s).drop 1) = r at *
  go_enter Tryd.func37, Tryd.ntmps37
  go_wp2_with (go_at_call 53; (with_reducible refine (HD.out _).mono ?_); rintro e w' ⟨rfl, hw'⟩; subst w')
  go_loop [12] (fun i => ∃ j : Nat, i = .int .i64 j ∧ 1 ≤ j ∧ j ≤ 1 + r) (fun i => 8796093022210 - (intOf i).toNat)
  case atStart => exact ⟨1, rfl, by omega, by omega⟩
  case round =>
    obtain ⟨j, rfl, hj1, hj⟩ := hrel
    have T := HR.out (j - 1) (by omega)
    have hj1i : (1 : Int) ≤ (j : Int) := by omega
    have hjs : (j : Int) ≤ (s.size : Int) := by omega
    by_cases hlt : j < s.size
    · have hlti : (j : Int) < (s.size : Int) := by omega
      have hb : regB (j - 1) s[j] = true ↔ j - 1 < r := by
        have h1 := T.1 (by rw [List.length_drop, lo_len]; omega)
        rw [List.getElem_drop] at h1
        have e : (lo s)[1 + (j - 1)]'(by rw [lo_len]; omega) = s[j] := by
          have : 1 + (j - 1) = j := by omega
          simp only [this]; rfl
        rw [e] at h1
        exact h1
      have HL : Hid (∀ w, Calls Tryd.prog 56 #[.int .u8 (s[j].toNat : Int)] w fun e w' => e = .returned (.bool (isLet s[j])) ∧ w' = w) := ⟨fun w => rletter_any _ w⟩
      have HG : Hid (∀ w, Calls Tryd.prog 53 #[.int .u8 (s[j].toNat : Int)] w fun e w' => e = .returned (.bool (isDig s[j])) ∧ w' = w) := ⟨fun w => rdigit_any _ w⟩
      unfold regB at hb
      have HBB : Hid _ := ⟨hb⟩
      clear T hb
      generalize isLet s[j] = lt at *
      generalize isDig s[j] = dg at *
      cases lt
      · by_cases hk0 : 1 < j
        · have hk1 : 1 < (j : Int) := by omega
          cases dg
          · skip
            have hr : Hid (j = 1 + r) := ⟨by have := HBB.out; simp at this; omega⟩
            go_wp2_with (first | (go_at_call 56; (with_reducible refine (HL.out _).mono ?_); rintro e w' ⟨rfl, hw'⟩; subst w') | (go_at_call 53; (with_reducible refine (HG.out _).mono ?_); rintro e w' ⟨rfl, hw'⟩; subst w'))
            refine bodyPost_ret (res_tok _ _ w.heap.size _ _ _ _ rfl (by simp; rfl) (by simp; rfl) (by simp; rfl) (by simp; rfl)) rfl ?_
            refine ⟨reg_ret2 HM.out hr.out hj1 HT.out ?_, (Below.refl _ _).alloc (Nat.le_refl _) _⟩
            first | rfl | (simp; omega)
          · skip
            have hr : Hid (j < 1 + r) := ⟨by have := HBB.out; simp at this; omega⟩
            go_wp2_with (first | (go_at_call 56; (with_reducible refine (HL.out _).mono ?_); rintro e w' ⟨rfl, hw'⟩; subst w') | (go_at_call 53; (with_reducible refine (HG.out _).mono ?_); rintro e w' ⟨rfl, hw'⟩; subst w'))
            go_round
            case rel => exact ⟨j + 1, by go_num, by omega, by have := hr.out; omega⟩
            case measure => simp [intOf]; omega
        · have hk1 : ¬ 1 < (j : Int) := by omega
          have hr : Hid (j = 1 + r) := ⟨by have := HBB.out; simp at this; omega⟩
          go_wp2_with (first | (go_at_call 56; (with_reducible refine (HL.out _).mono ?_); rintro e w' ⟨rfl, hw'⟩; subst w') | (go_at_call 53; (with_reducible refine (HG.out _).mono ?_); rintro e w' ⟨rfl, hw'⟩; subst w'))
          refine bodyPost_ret (res_tok _ _ w.heap.size _ _ _ _ rfl (by simp; rfl) (by simp; rfl) (by simp; rfl) (by simp; rfl)) rfl ?_
          refine ⟨reg_ret2 HM.out hr.out hj1 HT.out ?_, (Below.refl _ _).alloc (Nat.le_refl _) _⟩
          first | rfl | (simp; omega)
      · skip
        have hr : Hid (j < 1 + r) := ⟨by have := HBB.out; simp at this; omega⟩
        go_wp2_with (first | (go_at_call 56; (with_reducible refine (HL.out _).mono ?_); rintro e w' ⟨rfl, hw'⟩; subst w') | (go_at_call 53; (with_reducible refine (HG.out _).mono ?_); rintro e w' ⟨rfl, hw'⟩; subst w'))
        go_round
        case rel => exact ⟨j + 1, by go_num, by omega, by have := hr.out; omega⟩
        case measure => simp [intOf]; omega
    · have hlti : ¬ (j : Int) < (s.size : Int) := by omega
      have hr : Hid (j = 1 + r) := ⟨by have := T.2 (by rw [List.length_drop, lo_len]; omega); omega⟩
      clear T
      go_wp2
      refine bodyPost_ret (res_tok _ _ w.heap.size _ _ _ _ rfl (by simp; rfl) (by simp; rfl) (by simp; rfl) (by simp; rfl)) rfl ?_
      refine ⟨reg_ret2 HM.out hr.out hj1 HT.out ?_, (Below.refl _ _).alloc (Nat.le_refl _) _⟩
      first | rfl | (simp; omega)

/-- Every one. -/
theorem rone_any (s : ByteArray) (w : World) (h0 : 0 < s.size) (hl : s.size ≤ 8796093022208) :
    Calls Tryd.prog 37 #[.string s] w fun e w' => One3 (oneM (lo s)) e ∧ Below w.heap.size w w' := by
  by_cases h59 : s[0] = 59
  · exact rone_end s w h0 hl h59
  · by_cases h39 : s[0] = 39
    · exact rone_num s w h0 hl h59 (.inr h39)
    · cases hd : isDig s[0]
      · by_cases h34 : s[0] = 34
        · exact rone_quo s w h0 hl h59 hd h34
        · by_cases h37 : s[0] = 37
          · exact rone_reg s w h0 hl h37
          · cases hi : isIn s[0]
            · exact rone_sign s w h0 hl h59 hd h39 h34 h37 hi
            · exact rone_name s w h0 hl h59 hd h39 h34 h37 hi
      · exact rone_num s w h0 hl h59 (.inl hd)
end Go.Proofs.YthdkbjifjmhgoaaDoor
