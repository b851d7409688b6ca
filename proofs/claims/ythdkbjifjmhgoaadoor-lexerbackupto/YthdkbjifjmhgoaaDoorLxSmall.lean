/- The document's small functions on bytes: letter, digit, inside, hex, word. -/
import Derived.Test.YthdkbjifjmhgoaaDoorLxP
namespace Go.Proofs.YthdkbjifjmhgoaaDoor
open Go.ChangeShapes Go.WideShapes Go.ChangeAt Go.RowKit
set_option linter.unusedVariables false
set_option linter.unusedSimpArgs false

theorem rletter_any (z : Int) (w : World) : Calls Tryd.prog 56 #[.int .u8 z] w fun e w' => e = .returned (.bool (letZ z)) ∧ w' = w := by
  unfold letZ
  by_cases h1 : 65 ≤ z
  · by_cases h2 : z ≤ 90
    · rw [decide_eq_true h1, decide_eq_true h2]
      go_enter Tryd.func56, Tryd.ntmps56
      go_wp2
      go_ret
      exact ⟨rfl, rfl⟩
    · by_cases h3 : 97 ≤ z
      · rw [decide_eq_true h1, decide_eq_false h2, decide_eq_true h3]
        go_enter Tryd.func56, Tryd.ntmps56
        go_wp2
        go_ret
        exact ⟨rfl, rfl⟩
      · rw [decide_eq_true h1, decide_eq_false h2, decide_eq_false h3]
        go_enter Tryd.func56, Tryd.ntmps56
        go_wp2
        go_ret
        exact ⟨rfl, rfl⟩
  · have h3 : ¬ 97 ≤ z := by omega
    rw [decide_eq_false h1, decide_eq_false h3]
    go_enter Tryd.func56, Tryd.ntmps56
    go_wp2
    go_ret
    exact ⟨rfl, rfl⟩

theorem rdigit_any (z : Int) (w : World) : Calls Tryd.prog 53 #[.int .u8 z] w fun e w' => e = .returned (.bool (digZ z)) ∧ w' = w := by
  unfold digZ
  by_cases h1 : 48 ≤ z
  · rw [decide_eq_true h1]
    go_enter Tryd.func53, Tryd.ntmps53
    go_wp2
    go_ret
    exact ⟨rfl, rfl⟩
  · rw [decide_eq_false h1]
    go_enter Tryd.func53, Tryd.ntmps53
    go_wp2
    go_ret
    exact ⟨rfl, rfl⟩

theorem rinside_any (z : Int) (w : World) : Calls Tryd.prog 57 #[.int .u8 z] w fun e w' => e = .returned (.bool (inZ z)) ∧ w' = w := by
  unfold inZ
  have HL : Hid _ := ⟨rletter_any z w⟩
  have HD : Hid _ := ⟨rdigit_any z w⟩
  generalize letZ z = a at *
  generalize digZ z = b at *
  obtain ⟨c, hc⟩ : ∃ c, (z == 95) = c := ⟨_, rfl⟩
  obtain ⟨d, hd⟩ : ∃ c, (z == 46) = c := ⟨_, rfl⟩
  rw [hc, hd]
  cases a <;> cases b <;> cases c
  all_goals
    go_enter Tryd.func57, Tryd.ntmps57
    go_wp2_with (first
      | (go_at_call 56; (with_reducible refine HL.out.mono ?_); rintro e w' ⟨rfl, hw'⟩; subst w')
      | (go_at_call 53; (with_reducible refine HD.out.mono ?_); rintro e w' ⟨rfl, hw'⟩; subst w'))
    go_ret
    exact ⟨rfl, rfl⟩

theorem rhex_any (z : Int) (w : World) (h0 : 0 ≤ z) (h1 : z < 256) : Calls Tryd.prog 70 #[.int .u8 z] w fun e w' => e = .returned (.int .i64 (hexZ z)) ∧ w' = w := by
  have HD : Hid _ := ⟨rdigit_any z w⟩
  unfold hexZ
  cases hd : digZ z
  · rw [hd] at HD
    by_cases a1 : 97 ≤ z
    · by_cases a2 : z ≤ 102
      · rw [if_neg (by simp), if_pos ⟨a1, a2⟩]
        have e1 : IntKind.u8.wrap (z - 97) = z - 97 := by simp [IntKind.wrap, IntKind.bits, IntKind.signed]; omega
        go_enter Tryd.func70, Tryd.ntmps70
        go_wp2_with (go_at_call 53; (with_reducible refine HD.out.mono ?_); rintro e w' ⟨rfl, hw'⟩; subst w')
        go_ret
        exact ⟨by go_num, rfl⟩
      · rw [if_neg (by simp), if_neg (by omega), if_neg (by omega)]
        have b1 : 65 ≤ z := by omega
        have b2 : ¬ z ≤ 70 := by omega
        go_enter Tryd.func70, Tryd.ntmps70
        go_wp2_with (go_at_call 53; (with_reducible refine HD.out.mono ?_); rintro e w' ⟨rfl, hw'⟩; subst w')
        go_ret
        exact ⟨rfl, rfl⟩
    · by_cases b1 : 65 ≤ z
      · by_cases b2 : z ≤ 70
        · rw [if_neg (by simp), if_neg (by omega), if_pos ⟨b1, b2⟩]
          have e1 : IntKind.u8.wrap (z - 65) = z - 65 := by simp [IntKind.wrap, IntKind.bits, IntKind.signed]; omega
          go_enter Tryd.func70, Tryd.ntmps70
          go_wp2_with (go_at_call 53; (with_reducible refine HD.out.mono ?_); rintro e w' ⟨rfl, hw'⟩; subst w')
          go_ret
          exact ⟨by go_num, rfl⟩
        · rw [if_neg (by simp), if_neg (by omega), if_neg (by omega)]
          go_enter Tryd.func70, Tryd.ntmps70
          go_wp2_with (go_at_call 53; (with_reducible refine HD.out.mono ?_); rintro e w' ⟨rfl, hw'⟩; subst w')
          go_ret
          exact ⟨rfl, rfl⟩
      · rw [if_neg (by simp), if_neg (by omega), if_neg (by omega)]
        go_enter Tryd.func70, Tryd.ntmps70
        go_wp2_with (go_at_call 53; (with_reducible refine HD.out.mono ?_); rintro e w' ⟨rfl, hw'⟩; subst w')
        go_ret
        exact ⟨rfl, rfl⟩
  · rw [hd] at HD
    rw [if_pos rfl]
    have hz : 48 ≤ z ∧ z ≤ 57 := by unfold digZ at hd; simpa using hd
    obtain ⟨z1, z2⟩ := hz
    have e1 : IntKind.u8.wrap (z - 48) = z - 48 := by simp [IntKind.wrap, IntKind.bits, IntKind.signed]; omega
    go_enter Tryd.func70, Tryd.ntmps70
    go_wp2_with (go_at_call 53; (with_reducible refine HD.out.mono ?_); rintro e w' ⟨rfl, hw'⟩; subst w')
    go_ret
    exact ⟨by go_num, rfl⟩

theorem takeWhile_at {p : UInt8 → Bool} : ∀ (l : List UInt8) (k : Nat), k ≤ (l.takeWhile p).length → (∀ h : k < l.length, (p l[k] = true ↔ k < (l.takeWhile p).length)) ∧ (k = l.length → k = (l.takeWhile p).length)
  | [], k, hk => by simp at hk; subst hk; simp
  | c :: r, k, hk => by
    cases hc : p c
    · simp [List.takeWhile_cons, hc] at hk
      subst hk
      simp [List.takeWhile_cons, hc]
    · simp only [List.takeWhile_cons, hc, if_true, List.length_cons] at hk ⊢
      cases k with
      | zero => simp [hc]
      | succ k =>
        have := takeWhile_at (p := p) r k (by omega)
        refine ⟨fun h => ?_, fun h => ?_⟩
        · have h2 : k < r.length := by simpa using h
          have := this.1 h2
          simp only [List.getElem_cons_succ]
          rw [this]; omega
        · have h2 : k = r.length := by simpa using h
          have := this.2 h2
          omega

theorem rword_any (s : ByteArray) (w : World) (hl : s.size ≤ 9223372036854775807) : Calls Tryd.prog 58 #[.string s] w fun e w' => e = .returned (.int .i64 (wordN (lo s))) ∧ w' = w := by
  have hll := lo_len s
  obtain ⟨r, HR⟩ : ∃ r, Hid ((List.takeWhile isIn (lo s)).length = r) := ⟨_, ⟨rfl⟩⟩
  have hle : (List.takeWhile isIn (lo s)).length ≤ (lo s).length := (List.takeWhile_sublist _).length_le
  have HT : Hid _ := ⟨takeWhile_at (p := isIn) (lo s)⟩
  unfold wordN
  rw [HR.out, hll] at hle
  rw [HR.out] at HT ⊢
  clear hll
  go_enter Tryd.func58, Tryd.ntmps58
  go_wp2
  go_loop [3] (fun i => ∃ k : Nat, i = .int .i64 k ∧ k ≤ r) (fun i => s.size - (intOf i).toNat)
  case atStart => exact ⟨0, rfl, by omega⟩
  case round =>
    obtain ⟨k, rfl, hk⟩ := hrel
    have T := HT.out k hk
    by_cases hlt : k < s.size
    · have h1 : isIn s[k] = true ↔ k < r := T.1 (by rw [lo_len]; exact hlt)
      have HC : Hid (Calls Tryd.prog 57 #[.int .u8 (s[k].toNat : Int)] w fun e w' => e = .returned (.bool (isIn s[k])) ∧ w' = w) := ⟨rinside_any (s[k].toNat : Int) w⟩
      clear T
      by_cases hkr : k < r
      · rw [h1.2 hkr] at HC
        clear h1
        go_wp2_with (go_at_call 57; (with_reducible refine HC.out.mono ?_); rintro e w' ⟨rfl, hw'⟩; subst w')
        go_round
        case rel => exact ⟨k + 1, by go_num, hkr⟩
        case measure => simp [intOf]; omega
      · have hn : isIn s[k] = false := by
          cases hh : isIn s[k]
          · rfl
          · exact absurd (h1.1 hh) hkr
        rw [hn] at HC
        have hkk : Hid (r = k) := ⟨by omega⟩
        clear h1
        go_wp2_with (go_at_call 57; (with_reducible refine HC.out.mono ?_); rintro e w' ⟨rfl, hw'⟩; subst w')
        go_ret
        exact ⟨ret_int (by have := hkk.out; omega), rfl⟩
    · have hkk : Hid (r = k) := ⟨by have := T.2 (by rw [lo_len]; omega); omega⟩
      clear T
      go_wp2
      go_ret
      exact ⟨ret_int (by have := hkk.out; omega), rfl⟩
end Go.Proofs.YthdkbjifjmhgoaaDoor
