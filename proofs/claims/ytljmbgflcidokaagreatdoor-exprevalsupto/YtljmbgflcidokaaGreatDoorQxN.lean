/- Numbers, plainly: what the library reads of digits is what the document says. -/
import Derived.Test.YtljmbgflcidokaaGreatDoorQxV
import Derived.Test.YtljmbgflcidokaaGreatDoorLxBackP
namespace Go.Proofs.YtljmbgflcidokaaGreatDoor
open Go.ChangeShapes Go.WideShapes Go.ChangeAt Go.RowKit
set_option linter.unusedVariables false
set_option linter.unusedSimpArgs false

theorem dig_hex {c : UInt8} (h : isDig c = true) : hexZ (zOf c) = zOf c - 48 ∧ 48 ≤ zOf c ∧ zOf c ≤ 57 := by
  have h1 : digZ (zOf c) = true := h
  unfold hexZ
  rw [if_pos h1]
  unfold digZ at h1
  simp at h1
  exact ⟨rfl, h1.1, h1.2⟩
theorem decF_bad : ∀ (l : List UInt8) (x : Int) (c : UInt8), c ∈ l → isDig c = false → decF l x = none
  | [], x, c, h, _ => by cases h
  | d :: l, x, c, h, hc => by
    show (if isDig d = false then none else if _ < x then none else decF l _) = none
    split
    · rfl
    · split
      · rfl
      · rename_i hd _
        rcases List.mem_cons.1 h with rfl | h
        · exact absurd hc hd
        · exact decF_bad l _ c h hc
theorem decF_pu : ∀ (l : List UInt8) (x : Int), (∀ c ∈ l, isDig c = true) → decF l x = puF 10 1844674407370955162 18446744073709551615 l x
  | [], x, _ => rfl
  | c :: l, x, h => by
    have hc := h c (by simp)
    obtain ⟨h1, h2, h3⟩ := dig_hex hc
    show (if isDig c = false then none else if (18446744073709551615 - (zOf c - 48)) / 10 < x then none else decF l (10 * x + (zOf c - 48))) = (if (1844674407370955162 : Int) ≤ x then none else if (18446744073709551615 : Int) < x * 10 + hexZ (zOf c) then none else puF _ _ _ l (x * 10 + hexZ (zOf c)))
    rw [if_neg (by rw [hc]; simp), h1]
    by_cases g : (18446744073709551615 - (zOf c - 48)) / 10 < x
    · rw [if_pos g]
      by_cases g2 : (1844674407370955162 : Int) ≤ x
      · rw [if_pos g2]
      · rw [if_neg g2, if_pos (by omega)]
    · rw [if_neg g, if_neg (by omega), if_neg (by omega), decF_pu l _ (fun c hc => h c (by simp [hc]))]
      congr 1
      omega
theorem pu_low : ∀ (l : List UInt8) (x v : Int), 0 ≤ x → (∀ c ∈ l, isDig c = true) → puF 10 1844674407370955162 18446744073709551615 l x = some v → x * 10 ^ l.length ≤ v
  | [], x, v, _, _, h => by simp [puF] at h; simp; omega
  | c :: l, x, v, hx, hd, h => by
    have hc := hd c (by simp)
    obtain ⟨h1, h2, h3⟩ := dig_hex hc
    have h' : (if (1844674407370955162 : Int) ≤ x then none else if (18446744073709551615 : Int) < x * 10 + hexZ (zOf c) then none else puF 10 1844674407370955162 18446744073709551615 l (x * 10 + hexZ (zOf c))) = some v := h
    split at h'
    · cases h'
    · split at h'
      · cases h'
      · have ih := pu_low l _ v (by rw [h1]; omega) (fun c hc => hd c (by simp [hc])) h'
        have : x * 10 ≤ x * 10 + hexZ (zOf c) := by rw [h1]; omega
        have h10 : (0 : Int) ≤ 10 ^ l.length := Int.pow_nonneg (by omega)
        have := Int.mul_le_mul_of_nonneg_right this h10
        rw [List.length_cons, Int.pow_succ, Int.mul_comm (10 ^ l.length) 10, ← Int.mul_assoc]
        omega
theorem pu_top : ∀ (l : List UInt8) (x v : Int), x ≤ 18446744073709551615 → puF 10 1844674407370955162 18446744073709551615 l x = some v → v ≤ 18446744073709551615
  | [], x, v, hx, h => by simp [puF] at h; omega
  | c :: l, x, v, hx, h => by
    have h' : (if (1844674407370955162 : Int) ≤ x then none else if (18446744073709551615 : Int) < x * 10 + hexZ (zOf c) then none else puF 10 1844674407370955162 18446744073709551615 l (x * 10 + hexZ (zOf c))) = some v := h
    split at h'
    · cases h'
    · split at h'
      · cases h'
      · exact pu_top l _ v (by omega) h'
/-- Digits, of which the first is no nought: what the document's decimal says. -/
theorem dec_pu (c : UInt8) (r : List UInt8) (h : ∀ x ∈ c :: r, isDig x = true) (h48 : ¬ c = 48) : decM (c :: r) = puF 10 1844674407370955162 18446744073709551615 (c :: r) 0 := by
  unfold decM
  have hh : ¬ (c :: r).head? = some 48 := by simpa using h48
  by_cases h20 : 20 < (c :: r).length
  · rw [if_pos (.inr h20)]
    symm
    cases hp : puF 10 1844674407370955162 18446744073709551615 (c :: r) 0 with
    | none => rfl
    | some v =>
      exfalso
      have hc := h c (by simp)
      obtain ⟨h1, h2, h3⟩ := dig_hex hc
      have ht := pu_top _ _ v (by omega) hp
      have h' : (if (1844674407370955162 : Int) ≤ 0 then none else if (18446744073709551615 : Int) < 0 * 10 + hexZ (zOf c) then none else puF 10 1844674407370955162 18446744073709551615 r (0 * 10 + hexZ (zOf c))) = some v := hp
      rw [if_neg (by omega), if_neg (by rw [h1]; omega)] at h'
      have hl := pu_low r _ v (by rw [h1]; omega) (fun x hx => h x (by simp [hx])) h'
      have hz : 1 ≤ hexZ (zOf c) := by
        rw [h1]
        have : ¬ zOf c = 48 := fun e => h48 (UInt8.toNat_inj.1 (by have : (c.toNat : Int) = 48 := e; show c.toNat = 48; omega))
        omega
      have hlen : 20 ≤ r.length := by simp at h20; omega
      have hpow : (10 : Int) ^ 20 ≤ 10 ^ r.length := by
        have := Nat.pow_le_pow_right (n := 10) (by omega) hlen
        exact_mod_cast this
      have e20 : (10 : Int) ^ 20 = 100000000000000000000 := by decide
      have hm : 1 * (10 : Int) ^ r.length ≤ (0 * 10 + hexZ (zOf c)) * 10 ^ r.length := Int.mul_le_mul_of_nonneg_right (by omega) (by omega)
      omega
  · rw [if_neg (by rintro (⟨_, h2⟩ | h2); exact hh h2; exact h20 h2), decF_pu _ _ h]

theorem word_app {l : List UInt8} {n : Nat} (hn : n ≤ l.length) (h : ∀ c ∈ l.take n, isIn c = true) : wordN l = n + wordN (l.drop n) := by
  induction n generalizing l with
  | zero => simp
  | succ n ih =>
    cases l with
    | nil => simp at hn
    | cons c r =>
      have hc := h c (by simp)
      have := ih (l := r) (by simpa using hn) (fun x hx => h x (by simp [hx]))
      unfold wordN at this ⊢
      rw [List.takeWhile_cons, hc]
      simp only [if_true, List.length_cons, List.drop_succ_cons]
      rw [this]; omega
theorem word_zero {l : List UInt8} : wordN l = 0 ↔ kB 22 (hdZ l) = false := by
  cases l with
  | nil => simp [wordN, hdZ, kB_lf]
  | cons c r =>
    have : kB 22 (hdZ (c :: r)) = isIn c := kB_in c
    rw [this]
    unfold wordN
    cases hc : isIn c <;> simp [List.takeWhile_cons, hc]
theorem run_mem {K : Nat} {l : List UInt8} : ∀ c ∈ l.take (runN K l), kB K (zOf c) = true := take_while_mem (Nat.le_refl _)
theorem run_stop {K : Nat} (hK : K < 256) (l : List UInt8) : kB K (hdZ (l.drop (runN K l))) = false := by rw [run_at hK (Nat.le_refl _)]; simp

/-- A number that begins with a digit from 1 to 9. -/
theorem num_dec (c : UInt8) (r : List UInt8) (hc : isDig c = true) (h48 : ¬ c = 48) : numM (c :: r) = if kB 22 (hdZ ((c :: r).drop (runN 4 (c :: r)))) = true then none else (puF 10 1844674407370955162 18446744073709551615 ((c :: r).take (runN 4 (c :: r))) 0).map fun v => (v, runN 4 (c :: r)) := by
  have c39 : ¬ c = 39 := by intro e; subst e; cases hc
  have e0 : numM (c :: r) = (decM ((c :: r).take (wordN (c :: r)))).map fun v => (v, wordN (c :: r)) := by
    unfold numM
    simp only
    rw [if_neg c39, if_neg (fun h => h48 h.2.2.1)]
  rw [e0]
  have hle := run_le 4 (c :: r)
  have hall : ∀ x ∈ (c :: r).take (runN 4 (c :: r)), isDig x = true := fun x hx => by rw [← kB_dig]; exact run_mem x hx
  have hw := word_app hle (fun x hx => dig_in (hall x hx))
  have hst := run_stop (K := 4) (by omega) (c :: r)
  have h1 : 1 ≤ runN 4 (c :: r) := by
    rw [run_eq 4 isDig kB_dig, List.takeWhile_cons, hc]; simp
  generalize runN 4 (c :: r) = n at *
  cases hb : kB 22 (hdZ ((c :: r).drop n))
  · rw [if_neg (by simp)]
    have h0 := word_zero.2 hb
    rw [h0, Nat.add_zero] at hw
    rw [hw]
    obtain ⟨m, rfl⟩ : ∃ m, n = m + 1 := ⟨n - 1, by omega⟩
    rw [List.take_succ_cons] at hall ⊢
    rw [dec_pu c _ hall h48]
  · rw [if_pos rfl]
    cases hd : (c :: r).drop n with
    | nil => rw [hd] at hb; rw [show hdZ [] = 10 from rfl, kB_lf 22 (by omega)] at hb; cases hb
    | cons x y =>
      rw [hd] at hb hst
      have hx1 : isIn x = true := by rw [← kB_in]; exact hb
      have hx2 : isDig x = false := by rw [← kB_dig]; exact hst
      have hm : x ∈ (c :: r).take (wordN (c :: r)) := by
        have : (c :: r).take (wordN (c :: r)) = (c :: r).take n ++ ((c :: r).drop n).take (wordN (c :: r) - n) := by
          rw [← List.take_add, show n + (wordN (c :: r) - n) = wordN (c :: r) by omega]
        rw [this, hd]
        have hwp : 1 ≤ wordN (x :: y) := word_pos hx1
        rw [hd] at hw
        obtain ⟨k, hk⟩ : ∃ k, wordN (c :: r) - n = k + 1 := ⟨wordN (c :: r) - n - 1, by omega⟩
        rw [hk]; simp
      unfold decM
      split
      · rfl
      · rw [decF_bad _ _ x hm hx2]; rfl

/-- A nought alone. -/
theorem num_nought (r : List UInt8) (hx : ¬ hdZ r = 120) : numM (48 :: r) = if kB 22 (hdZ r) = true then none else some (0, 1) := by
  have e0 : numM (48 :: r) = (decM ((48 :: r).take (wordN (48 :: r)))).map fun v => (v, wordN (48 :: r)) := by
    unfold numM
    simp only
    rw [if_neg (by decide), if_neg]
    rintro ⟨_, _, _, h⟩
    cases r with
    | nil => cases h
    | cons c r => cases h; exact hx rfl
  rw [e0]
  have hw : wordN (48 :: r) = 1 + wordN r := by
    have := word_app (l := 48 :: r) (n := 1) (by simp) (by intro c hc; simp at hc; subst hc; decide)
    simpa using this
  cases hb : kB 22 (hdZ r)
  · rw [word_zero.2 hb] at hw
    rw [hw, if_neg (by simp)]
    rfl
  · rw [if_pos rfl]
    have : ¬ wordN r = 0 := fun e => by rw [word_zero.1 e] at hb; cases hb
    obtain ⟨k, hk⟩ : ∃ k, wordN r = k + 1 := ⟨wordN r - 1, by omega⟩
    have hr : 0 < r.length := by have := word_le r; omega
    unfold decM
    rw [if_pos]
    · rfl
    · left
      rw [hw, hk]
      constructor
      · simp; omega
      · simp [show 1 + (k + 1) = k + 1 + 1 by omega]

theorem hexF_bad : ∀ (l : List UInt8) (x : Int) (c : UInt8), c ∈ l → hexZ (zOf c) < 0 → hexF l x = none
  | [], x, c, h, _ => by cases h
  | d :: l, x, c, h, hc => by
    show (if hexZ (zOf d) < 0 then none else hexF l _) = none
    split
    · rfl
    · rename_i hd
      rcases List.mem_cons.1 h with rfl | h
      · exact absurd hc hd
      · exact hexF_bad l _ c h hc
theorem pu_hex : ∀ (l : List UInt8) (x : Int), 0 ≤ x → (∀ c ∈ l, 0 ≤ hexZ (zOf c)) → (x + 1) * 16 ^ l.length ≤ 18446744073709551616 → puF 16 1152921504606846976 18446744073709551615 l x = hexF l x
  | [], x, _, _, _ => rfl
  | c :: l, x, hx, h, hb => by
    have hc := h c (by simp)
    have hc2 := hex_lt (zOf c)
    show (if (1152921504606846976 : Int) ≤ x then none else if (18446744073709551615 : Int) < x * 16 + hexZ (zOf c) then none else puF _ _ _ l (x * 16 + hexZ (zOf c))) = (if hexZ (zOf c) < 0 then none else hexF l (16 * x + hexZ (zOf c)))
    rw [List.length_cons, Int.pow_succ, Int.mul_comm (16 ^ l.length) 16, ← Int.mul_assoc] at hb
    have hp : (1 : Int) ≤ 16 ^ l.length := by
      have := Nat.one_le_pow l.length 16 (by omega)
      exact_mod_cast this
    have h1 : (x + 1) * 16 * 1 ≤ (x + 1) * 16 * 16 ^ l.length := Int.mul_le_mul_of_nonneg_left hp (by omega)
    have h2 : (x * 16 + hexZ (zOf c) + 1) * 16 ^ l.length ≤ (x + 1) * 16 * 16 ^ l.length := Int.mul_le_mul_of_nonneg_right (by omega) (by omega)
    rw [if_neg (by omega), if_neg (by omega), if_neg (by omega), pu_hex l _ (by omega) (fun c hc => h c (by simp [hc])) (by omega)]
    congr 1
    omega

theorem hex_in {c : UInt8} (h : 0 ≤ hexZ (zOf c)) : isIn c = true := by
  have : ∀ n : Fin 256, 0 ≤ hexZ ((n.val : Nat) : Int) → inZ ((n.val : Nat) : Int) = true := by decide +kernel
  exact this ⟨c.toNat, c.toNat_lt⟩ h

/-- A number behind 0x. -/
theorem num_hex (r : List UInt8) : numM (48 :: 120 :: r) = if runN 8 r = 0 ∨ 16 < runN 8 r ∨ kB 22 (hdZ (r.drop (runN 8 r))) = true then none else (puF 16 1152921504606846976 18446744073709551615 (r.take (runN 8 r)) 0).map fun v => (v, 2 + runN 8 r) := by
  have hw : wordN (48 :: 120 :: r) = 2 + wordN r := by
    have := word_app (l := 48 :: 120 :: r) (n := 2) (by simp) (by intro c hc; simp at hc; rcases hc with rfl | rfl <;> decide)
    simpa using this
  have e0 : numM (48 :: 120 :: r) = if 2 < wordN (48 :: 120 :: r) ∧ wordN (48 :: 120 :: r) ≤ 18 then (hexF (r.take (wordN r)) 0).map fun v => (v, 2 + wordN r) else (decM ((48 :: 120 :: r).take (2 + wordN r))).map fun v => (v, 2 + wordN r) := by
    unfold numM
    simp only
    rw [if_neg (by decide), hw]
    by_cases g : 2 < 2 + wordN r ∧ 2 + wordN r ≤ 18
    · rw [if_pos (by refine ⟨g.1, g.2, ?_, ?_⟩ <;> first | trivial | rfl), if_pos g]
      rw [show 2 + wordN r = wordN r + 1 + 1 by omega, List.take_succ_cons, List.take_succ_cons]
      rfl
    · rw [if_neg (fun h => g ⟨h.1, h.2.1⟩), if_neg g]
  have hdec : decM ((48 :: 120 :: r).take (2 + wordN r)) = none := by
    unfold decM
    rw [if_pos]
    left
    rw [show 2 + wordN r = wordN r + 1 + 1 by omega, List.take_succ_cons, List.take_succ_cons]
    exact ⟨by simp, rfl⟩
  rw [e0, hw, hdec]
  have hle := run_le 8 r
  have hall : ∀ x ∈ r.take (runN 8 r), 0 ≤ hexZ (zOf x) := fun x hx => by
    have := run_mem x hx
    rw [kB_hex] at this
    exact of_decide_eq_true this
  have hwr := word_app hle (fun x hx => hex_in (hall x hx))
  have hst := run_stop (K := 8) (by omega) r
  generalize runN 8 r = n at *
  cases hb : kB 22 (hdZ (r.drop n))
  · rw [word_zero.2 hb, Nat.add_zero] at hwr
    rw [hwr]
    by_cases g : 2 < 2 + n ∧ 2 + n ≤ 18
    · rw [if_pos g, if_neg (by rintro (h | h | h); omega; omega; cases h)]
      rw [pu_hex _ _ (by omega) hall]
      rw [List.length_take, Nat.min_eq_left hle]
      have : (16 : Int) ^ n ≤ 16 ^ 16 := by
        have := Nat.pow_le_pow_right (n := 16) (by omega) (show n ≤ 16 by omega)
        exact_mod_cast this
      have e16 : (16 : Int) ^ 16 = 18446744073709551616 := by decide
      omega
    · rw [if_neg g, if_pos (by omega)]
      rfl
  · rw [if_pos (c := n = 0 ∨ 16 < n ∨ true = true) (.inr (.inr rfl))]
    split
    · cases hd : r.drop n with
      | nil => rw [hd] at hb; rw [show hdZ [] = 10 from rfl, kB_lf 22 (by omega)] at hb; cases hb
      | cons x y =>
        rw [hd] at hb hst
        have hx1 : isIn x = true := by rw [← kB_in]; exact hb
        have hx2 : hexZ (zOf x) < 0 := by
          have hst' : kB 8 (zOf x) = false := hst
          rw [kB_hex] at hst'
          have := of_decide_eq_false hst'
          omega
        have hm : x ∈ r.take (wordN r) := by
          have : r.take (wordN r) = r.take n ++ (r.drop n).take (wordN r - n) := by
            rw [← List.take_add, show n + (wordN r - n) = wordN r by omega]
          rw [this, hd]
          have hwp : 1 ≤ wordN (x :: y) := word_pos hx1
          rw [hd] at hwr
          obtain ⟨k, hk⟩ : ∃ k, wordN r - n = k + 1 := ⟨wordN r - n - 1, by omega⟩
          rw [hk]; simp
        rw [hexF_bad _ _ x hm hx2]; rfl
    · rfl
end Go.Proofs.YtljmbgflcidokaaGreatDoor
