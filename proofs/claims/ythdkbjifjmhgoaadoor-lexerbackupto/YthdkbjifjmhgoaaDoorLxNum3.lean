/- The document's number, of digits. -/
import Derived.Test.YthdkbjifjmhgoaaDoorLxNum2
namespace Go.Proofs.YthdkbjifjmhgoaaDoor
open Go.ChangeShapes Go.WideShapes Go.ChangeAt Go.RowKit
set_option linter.unusedVariables false
set_option linter.unusedSimpArgs false

theorem num_w (s : ByteArray) (h0 : 0 < s.size) (hq : ¬ s[0] = 39) : numM (lo s) = if 2 < wordN (lo s) ∧ wordN (lo s) ≤ 18 ∧ s[0] = 48 ∧ ((lo s).drop 1).head? = some 120 then (hexF (((lo s).take (wordN (lo s))).drop 2) 0).map fun v => (v, wordN (lo s)) else (decM ((lo s).take (wordN (lo s)))).map fun v => (v, wordN (lo s)) := by
  have e0 := lo_drop s 0 h0
  rw [List.drop_zero] at e0
  unfold numM
  conv => lhs; rw [e0]
  simp only [if_neg hq]
  rw [← e0]
theorem word_le (l : List UInt8) : wordN l ≤ l.length := (List.takeWhile_sublist _).length_le
theorem take_drop_at (s : ByteArray) (n k : Nat) (h : k < n) (hn : n ≤ s.size) : ((lo s).take n).drop k = s[k] :: ((lo s).take n).drop (k + 1) := by
  have h' : k < ((lo s).take n).length := by rw [List.length_take, lo_len]; omega
  rw [List.drop_eq_getElem_cons h']
  congr 1
  rw [List.getElem_take]; rfl
theorem hex_lt (z : Int) : hexZ z < 16 := by
  unfold hexZ digZ
  split
  · rename_i h; simp at h; omega
  · split
    · omega
    · split <;> omega

set_option maxHeartbeats 8000000 in
set_option maxRecDepth 10000 in
theorem rnumber_w (s : ByteArray) (w : World) (h0 : 0 < s.size) (hl : s.size ≤ 9223372036854775807) (hq : ¬ s[0] = 39) :
    Calls Tryd.prog 54 #[.string s] w fun e w' => Num3 (numM (lo s)) e ∧ Below w.heap.size w w' := by
  have hN := num_w s h0 hq
  have hle := word_le (lo s)
  rw [lo_len] at hle
  have HW : Hid _ := ⟨rword_any s w hl⟩
  obtain ⟨M, hM⟩ : ∃ M, numM (lo s) = M := ⟨_, rfl⟩
  rw [hM] at hN ⊢
  generalize wordN (lo s) = n at *
  have q0 : ((s[0].toNat : Int) == 39) = false := by
    rw [beq_eq_false_iff_ne]
    intro h
    exact hq (UInt8.toNat_inj.1 (by show s[0].toNat = 39; omega))
  have HD : Hid (Calls Tryd.prog 71 #[.string (s.extract 0 n)] w fun e w' => e = .returned (num2 (decM ((lo s).take n))) ∧ w' = w) := by
    have := rdecimal_any (s.extract 0 n) w (by rw [ByteArray.size_extract]; omega)
    rw [lo_sub, List.drop_zero, Nat.sub_zero] at this
    exact ⟨this⟩
  have ns : (n : Int) ≤ (s.size : Int) := by omega
  clear hM hq
  by_cases h2 : 2 < n
  · have h2i : 2 < (n : Int) := by omega
    have b1 : 1 < s.size := by omega
    have b1i : (1 : Int) < (s.size : Int) := by omega
    by_cases h18 : n ≤ 18
    · have h18i : (n : Int) ≤ 18 := by omega
      cases h48 : ((s[0].toNat : Int) == 48)
      · have e48 : ¬ s[0] = 48 := by intro e; rw [e] at h48; cases h48
        rw [if_neg (fun h => e48 h.2.2.1)] at hN
        clear e48
        cases hd : decM ((lo s).take n)
        · rw [hd] at hN HD
          dsimp only [num2] at HD
          have hn : Hid (M = none) := ⟨hN⟩
          clear hN hd
          go_enter Tryd.func54, Tryd.ntmps54
          go_wp2_with (first
            | (go_at_call 58; (with_reducible refine HW.out.mono ?_); rintro e w' ⟨rfl, hw'⟩; subst w')
            | (go_at_call 71; (with_reducible refine HD.out.mono ?_); rintro e w' ⟨rfl, hw'⟩; subst w'))
          go_ret3
          exact ret3_no _ _ hn.out (Below.refl _ _)
        · rename_i v
          rw [hd] at hN HD
          dsimp only [num2] at HD
          have hn : Hid (M = some (v, n)) := ⟨hN⟩
          clear hN hd
          go_enter Tryd.func54, Tryd.ntmps54
          go_wp2_with (first
            | (go_at_call 58; (with_reducible refine HW.out.mono ?_); rintro e w' ⟨rfl, hw'⟩; subst w')
            | (go_at_call 71; (with_reducible refine HD.out.mono ?_); rintro e w' ⟨rfl, hw'⟩; subst w'))
          go_ret3
          exact ret3_yes _ n hn.out rfl (Below.refl _ _)
      · have e48 : s[0] = 48 := UInt8.toNat_inj.1 (by show s[0].toNat = 48; have := of_decide_eq_true (p := (s[0].toNat : Int) = 48) h48; omega)
        have hhd : ((lo s).drop 1).head? = some s[1] := by rw [lo_drop s 1 b1]; rfl
        rw [hhd] at hN
        cases h120 : ((s[1].toNat : Int) == 120)
        · have e120 : ¬ (some s[1] = some (120 : UInt8)) := by intro e; rw [Option.some.inj e] at h120; cases h120
          rw [if_neg (fun h => e120 h.2.2.2)] at hN
          clear e48 e120 hhd
          cases hd : decM ((lo s).take n)
          · rw [hd] at hN HD
            dsimp only [num2] at HD
            have hn : Hid (M = none) := ⟨hN⟩
            clear hN hd
            go_enter Tryd.func54, Tryd.ntmps54
            go_wp2_with (first
              | (go_at_call 58; (with_reducible refine HW.out.mono ?_); rintro e w' ⟨rfl, hw'⟩; subst w')
              | (go_at_call 71; (with_reducible refine HD.out.mono ?_); rintro e w' ⟨rfl, hw'⟩; subst w'))
            go_ret3
            exact ret3_no _ _ hn.out (Below.refl _ _)
          · rename_i v
            rw [hd] at hN HD
            dsimp only [num2] at HD
            have hn : Hid (M = some (v, n)) := ⟨hN⟩
            clear hN hd
            go_enter Tryd.func54, Tryd.ntmps54
            go_wp2_with (first
              | (go_at_call 58; (with_reducible refine HW.out.mono ?_); rintro e w' ⟨rfl, hw'⟩; subst w')
              | (go_at_call 71; (with_reducible refine HD.out.mono ?_); rintro e w' ⟨rfl, hw'⟩; subst w'))
            go_ret3
            exact ret3_yes _ n hn.out rfl (Below.refl _ _)
        · have e120 : s[1] = 120 := UInt8.toNat_inj.1 (by show s[1].toNat = 120; have := of_decide_eq_true (p := (s[1].toNat : Int) = 120) h120; omega)
          rw [if_pos ⟨h2, h18, e48, by rw [e120]⟩] at hN
          have HM0 : Hid (M = (hexF (((lo s).take n).drop 2) 0).map fun v => (v, n)) := ⟨hN⟩
          clear e48 e120 hhd hN HD
          go_enter Tryd.func54, Tryd.ntmps54
          go_wp2_with (go_at_call 58; (with_reducible refine HW.out.mono ?_); rintro e w' ⟨rfl, hw'⟩; subst w')
          go_loop [7, 6, 8] (fun i v _ => ∃ k : Nat, ∃ x : Int, i = .int .i64 k ∧ v = .int .u64 x ∧ 2 ≤ k ∧ k ≤ n ∧ 0 ≤ x ∧ Hid (x < 2 ^ (4 * (k - 2)) ∧ M = (hexF (((lo s).take n).drop k) x).map fun v => (v, n))) (fun i _ _ => n - (intOf i).toNat)
          case atStart => exact ⟨2, 0, rfl, rfl, by omega, by omega, by omega, ⟨by simp, HM0.out⟩⟩
          case round =>
            obtain ⟨k, x, rfl, rfl, hk2, hk, hx0, HM⟩ := hrel
            by_cases hlt : k < n
            · have hks : k < s.size := by omega
              have hksi : (k : Int) < (s.size : Int) := by omega
              have hlti : (k : Int) < (n : Int) := by omega
              have hc := s[k].toNat_lt
              have HX : Hid (Calls Tryd.prog 70 #[.int .u8 (s[k].toNat : Int)] w fun e w' => e = .returned (.int .i64 (hexZ (s[k].toNat : Int))) ∧ w' = w) := ⟨rhex_any _ w (by omega) (by omega)⟩
              have hst : hexF (((lo s).take n).drop k) x = if hexZ (s[k].toNat : Int) < 0 then none else hexF (((lo s).take n).drop (k + 1)) (16 * x + hexZ (s[k].toNat : Int)) := by rw [take_drop_at s n k hlt hle]; rfl
              have hd16 := hex_lt (s[k].toNat : Int)
              have hx60 : x < 1152921504606846976 := by
                have h1 := HM.out.1
                have h2 := pow_le_i (a := 4 * (k - 2)) (b := 60) (by omega)
                have h3 : (2 : Int) ^ 60 = 1152921504606846976 := by decide
                omega
              generalize hexZ (s[k].toNat : Int) = d at *
              by_cases hd0 : d < 0
              · rw [if_pos hd0] at hst
                have hMn : Hid (M = none) := ⟨by rw [HM.out.2, hst]; rfl⟩
                clear hst
                go_wp2_with (go_at_call 70; (with_reducible refine HX.out.mono ?_); rintro e w' ⟨rfl, hw'⟩; subst w')
                go_ret3
                exact ret3_no _ _ hMn.out (Below.refl _ _)
              · rw [if_neg hd0] at hst
                have HN : Hid (16 * x + d < 2 ^ (4 * (k + 1 - 2)) ∧ M = (hexF (((lo s).take n).drop (k + 1)) (16 * x + d)).map fun v => (v, n)) := ⟨by
                  have h1 := HM.out.1
                  rw [show 4 * (k + 1 - 2) = 4 * (k - 2) + 4 by omega, Int.pow_add]
                  generalize (2 : Int) ^ (4 * (k - 2)) = P at *
                  have : (2 : Int) ^ 4 = 16 := by decide
                  rw [this]; omega, by rw [HM.out.2, hst]⟩
                have hj := join16 x d hx0 hx60 (by omega) hd16
                have e1 : IntKind.u64.wrap (x * 16) = x * 16 := wraps_u64 _ (by omega) (by omega)
                have e2 : IntKind.u64.wrap d = d := wraps_u64 _ (by omega) (by omega)
                clear hst
                go_wp2_with (go_at_call 70; (with_reducible refine HX.out.mono ?_); rintro e w' ⟨rfl, hw'⟩; subst w')
                go_round
                case rel => exact ⟨k + 1, 16 * x + d, by go_num, by go_num, by omega, by omega, by omega, HN⟩
                case measure => simp [intOf]; omega
            · have hke : Hid (M = some (x, n)) := ⟨by rw [HM.out.2, show k = n by omega, List.drop_of_length_le (by rw [List.length_take]; omega)]; rfl⟩
              have hlti : ¬ (k : Int) < (n : Int) := by omega
              go_wp2
              go_ret3
              exact ret3_yes _ n hke.out rfl (Below.refl _ _)
    · have h18i : ¬ (n : Int) ≤ 18 := by omega
      rw [if_neg (fun h => h18 h.2.1)] at hN
      cases hd : decM ((lo s).take n)
      · rw [hd] at hN HD
        dsimp only [num2] at HD
        have hn : Hid (M = none) := ⟨hN⟩
        clear hN hd
        go_enter Tryd.func54, Tryd.ntmps54
        go_wp2_with (first
          | (go_at_call 58; (with_reducible refine HW.out.mono ?_); rintro e w' ⟨rfl, hw'⟩; subst w')
          | (go_at_call 71; (with_reducible refine HD.out.mono ?_); rintro e w' ⟨rfl, hw'⟩; subst w'))
        go_ret3
        exact ret3_no _ _ hn.out (Below.refl _ _)
      · rename_i v
        rw [hd] at hN HD
        dsimp only [num2] at HD
        have hn : Hid (M = some (v, n)) := ⟨hN⟩
        clear hN hd
        go_enter Tryd.func54, Tryd.ntmps54
        go_wp2_with (first
          | (go_at_call 58; (with_reducible refine HW.out.mono ?_); rintro e w' ⟨rfl, hw'⟩; subst w')
          | (go_at_call 71; (with_reducible refine HD.out.mono ?_); rintro e w' ⟨rfl, hw'⟩; subst w'))
        go_ret3
        exact ret3_yes _ n hn.out rfl (Below.refl _ _)
  · have h2i : ¬ 2 < (n : Int) := by omega
    rw [if_neg (fun h => h2 h.1)] at hN
    cases hd : decM ((lo s).take n)
    · rw [hd] at hN HD
      dsimp only [num2] at HD
      have hn : Hid (M = none) := ⟨hN⟩
      clear hN hd
      go_enter Tryd.func54, Tryd.ntmps54
      go_wp2_with (first
        | (go_at_call 58; (with_reducible refine HW.out.mono ?_); rintro e w' ⟨rfl, hw'⟩; subst w')
        | (go_at_call 71; (with_reducible refine HD.out.mono ?_); rintro e w' ⟨rfl, hw'⟩; subst w'))
      go_ret3
      exact ret3_no _ _ hn.out (Below.refl _ _)
    · rename_i v
      rw [hd] at hN HD
      dsimp only [num2] at HD
      have hn : Hid (M = some (v, n)) := ⟨hN⟩
      clear hN hd
      go_enter Tryd.func54, Tryd.ntmps54
      go_wp2_with (first
        | (go_at_call 58; (with_reducible refine HW.out.mono ?_); rintro e w' ⟨rfl, hw'⟩; subst w')
        | (go_at_call 71; (with_reducible refine HD.out.mono ?_); rintro e w' ⟨rfl, hw'⟩; subst w'))
      go_ret3
      exact ret3_yes _ n hn.out rfl (Below.refl _ _)

theorem rnumber_any (s : ByteArray) (w : World) (h0 : 0 < s.size) (hl : s.size ≤ 9223372036854775807) :
    Calls Tryd.prog 54 #[.string s] w fun e w' => Num3 (numM (lo s)) e ∧ Below w.heap.size w w' := by
  by_cases hq : s[0] = 39
  · exact rnumber_q s w h0 hl hq
  · exact rnumber_w s w h0 hl hq
end Go.Proofs.YthdkbjifjmhgoaaDoor
