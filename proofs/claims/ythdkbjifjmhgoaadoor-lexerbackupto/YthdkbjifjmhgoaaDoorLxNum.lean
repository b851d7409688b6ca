/- The document's numbers: decimal, number. -/
import Derived.Test.YthdkbjifjmhgoaaDoorLxSmall
import Derived.Deep.RegionHeld3
import Derived.Deep.QuietTactic
import Derived.BigQuiet
namespace Go.Proofs.YthdkbjifjmhgoaaDoor
open Go.ChangeShapes Go.WideShapes Go.ChangeAt Go.RowKit
set_option linter.unusedVariables false
set_option linter.unusedSimpArgs false

/-- Two results: a number, and whether there is one. -/
def num2 (m : Option Int) : Value := match m with | none => .tuple #[.int .i64 0, .bool false] | some v => .tuple #[.int .i64 (wrap64 v), .bool true]
/-- Read so far. -/
def Dec (s : ByteArray) (M : Option Int) (k : Nat) (x : Int) : Prop := M = decF ((lo s).drop k) x
theorem lo_drop (s : ByteArray) (k : Nat) (h : k < s.size) : (lo s).drop k = s[k] :: (lo s).drop (k + 1) := by
  have h' : k < (lo s).length := by rw [lo_len]; exact h
  rw [List.drop_eq_getElem_cons h']; rfl
theorem lo_end (s : ByteArray) : (lo s).drop s.size = [] := by rw [← lo_len]; exact List.drop_length
theorem lo_head (s : ByteArray) (h : 0 < s.size) : (lo s).head? = some s[0] := by
  have := lo_drop s 0 h
  rw [List.drop_zero] at this
  rw [this]; rfl
theorem u8_eq (c : UInt8) (n : Nat) (h : n < 256) : ((c.toNat : Int) == (n : Int)) = decide (c = UInt8.ofNat n) := by
  by_cases e : c = UInt8.ofNat n
  · subst e; simp [UInt8.toNat_ofNat, Nat.mod_eq_of_lt h]
  · rw [decide_eq_false e, beq_eq_false_iff_ne]
    intro h'
    apply e
    have : c.toNat = n := by omega
    subst this
    simp

set_option maxRecDepth 10000 in
theorem rdecimal_any (s : ByteArray) (w : World) (hl : s.size ≤ 9223372036854775807) :
    Calls Tryd.prog 71 #[.string s] w fun e w' => e = .returned (num2 (decM (lo s))) ∧ w' = w := by
  by_cases h20 : 20 < s.size
  · have hm : decM (lo s) = none := by unfold decM; rw [if_pos (.inr (by rw [lo_len]; exact h20))]
    rw [hm]
    obtain ⟨q, hq⟩ : ∃ q, ((s[0].toNat : Int) == 48) = q := ⟨_, rfl⟩
    have h1 : 1 < (s.size : Int) := by omega
    have h0 : 0 < s.size := by omega
    cases q
    all_goals
      go_enter Tryd.func71, Tryd.ntmps71
      go_wp2
      go_ret2
      exact ⟨rfl, rfl⟩
  · by_cases hz : 1 < s.size
    · have h0 : 0 < s.size := by omega
      have h1 : 1 < (s.size : Int) := by omega
      cases hq : ((s[0].toNat : Int) == 48)
      · have hm : decM (lo s) = decF (lo s) 0 := by
          unfold decM
          rw [if_neg]
          rintro (⟨_, h⟩ | h)
          · rw [lo_head s h0] at h
            have : s[0] = 48 := Option.some.inj h
            rw [this] at hq
            simp at hq
          · rw [lo_len] at h; omega
        rw [hm]
        obtain ⟨M, hM⟩ : ∃ M, decF (lo s) 0 = M := ⟨_, rfl⟩
        have HM0 : Hid (M = decF ((lo s).drop 0) 0) := ⟨by rw [List.drop_zero]; exact hM.symm⟩
        rw [hM]
        clear hm hM
        go_enter Tryd.func71, Tryd.ntmps71
        go_wp2
        go_loop [5, 4, 6] (fun i n _ => ∃ k : Nat, ∃ x : Int, i = .int .i64 k ∧ n = .int .u64 x ∧ k ≤ s.size ∧ 0 ≤ x ∧ x ≤ 18446744073709551615 ∧ Hid (M = decF ((lo s).drop k) x)) (fun i _ _ => s.size - (intOf i).toNat)
        case atStart => exact ⟨0, 0, rfl, rfl, by omega, by omega, by omega, HM0⟩
        case round =>
          obtain ⟨k, x, rfl, rfl, hk, hx0, hx1, HM⟩ := hrel
          by_cases hlt : k < s.size
          · have hc := s[k].toNat_lt
            have HD : Hid (Calls Tryd.prog 53 #[.int .u8 (s[k].toNat : Int)] w fun e w' => e = .returned (.bool (digZ (s[k].toNat : Int))) ∧ w' = w) := ⟨rdigit_any _ w⟩
            have hst : decF ((lo s).drop k) x = if digZ (s[k].toNat : Int) = false then none else if (18446744073709551615 - ((s[k].toNat : Int) - 48)) / 10 < x then none else decF ((lo s).drop (k + 1)) (10 * x + ((s[k].toNat : Int) - 48)) := by rw [lo_drop s k hlt]; rfl
            cases hd : digZ (s[k].toNat : Int)
            · rw [hd] at HD hst
              have hMn : Hid (M = none) := ⟨by rw [HM.out, hst]; rfl⟩
              clear hst
              go_wp2_with (go_at_call 53; (with_reducible refine HD.out.mono ?_); rintro e w' ⟨rfl, hw'⟩; subst w')
              go_ret2
              exact ⟨by rw [hMn.out]; rfl, rfl⟩
            · rw [hd] at HD hst
              have hz : 48 ≤ (s[k].toNat : Int) ∧ (s[k].toNat : Int) ≤ 57 := by unfold digZ at hd; simpa using hd
              obtain ⟨z1, z2⟩ := hz
              rw [if_neg (by simp)] at hst
              have e1 : IntKind.u8.wrap ((s[k].toNat : Int) - 48) = (s[k].toNat : Int) - 48 := by simp [IntKind.wrap, IntKind.bits, IntKind.signed]; omega
              have e2 : IntKind.u64.wrap ((s[k].toNat : Int) - 48) = (s[k].toNat : Int) - 48 := by simp [IntKind.wrap, IntKind.bits, IntKind.signed]; omega
              have e3 : IntKind.u64.wrap (18446744073709551615 - ((s[k].toNat : Int) - 48)) = 18446744073709551615 - ((s[k].toNat : Int) - 48) := by simp [IntKind.wrap, IntKind.bits, IntKind.signed]; omega
              by_cases hx : (18446744073709551615 - ((s[k].toNat : Int) - 48)) / 10 < x
              · rw [if_pos hx] at hst
                have hMn : Hid (M = none) := ⟨by rw [HM.out, hst]⟩
                clear hst hd
                go_wp2_with (go_at_call 53; (with_reducible refine HD.out.mono ?_); rintro e w' ⟨rfl, hw'⟩; subst w')
                go_ret2
                exact ⟨by rw [hMn.out]; rfl, rfl⟩
              · rw [if_neg hx] at hst
                have HN : Hid _ := ⟨HM.out.trans hst⟩
                clear hst hd
                go_wp2_with (go_at_call 53; (with_reducible refine HD.out.mono ?_); rintro e w' ⟨rfl, hw'⟩; subst w')
                go_round
                case rel => exact ⟨k + 1, 10 * x + ((s[k].toNat : Int) - 48), by go_num, by go_num, hlt, by omega, by omega, HN⟩
                case measure => simp [intOf]; omega
          · have hke : Hid (M = some x) := ⟨by rw [HM.out, show k = s.size by omega, lo_end]; rfl⟩
            go_wp2
            go_ret2
            exact ⟨by rw [hke.out]; rfl, rfl⟩
      · have hm : decM (lo s) = none := by
          unfold decM
          rw [if_pos]
          left
          rw [lo_len, lo_head s h0]
          refine ⟨hz, ?_⟩
          have h48 : s[0].toNat = 48 := by have := of_decide_eq_true (p := (s[0].toNat : Int) = 48) hq; omega
          rw [show s[0] = 48 from UInt8.toNat_inj.1 h48]
        rw [hm]
        go_enter Tryd.func71, Tryd.ntmps71
        go_wp2
        go_ret2
        exact ⟨rfl, rfl⟩
    · have hm : decM (lo s) = decF (lo s) 0 := by
        unfold decM
        rw [if_neg]
        rintro (⟨h, _⟩ | h)
        · rw [lo_len] at h; omega
        · rw [lo_len] at h; omega
      rw [hm]
      obtain ⟨M, hM⟩ : ∃ M, decF (lo s) 0 = M := ⟨_, rfl⟩
      have HM0 : Hid (M = decF ((lo s).drop 0) 0) := ⟨by rw [List.drop_zero]; exact hM.symm⟩
      rw [hM]
      clear hm hM
      go_enter Tryd.func71, Tryd.ntmps71
      go_wp2
      go_loop [5, 4, 6] (fun i n _ => ∃ k : Nat, ∃ x : Int, i = .int .i64 k ∧ n = .int .u64 x ∧ k ≤ s.size ∧ 0 ≤ x ∧ x ≤ 18446744073709551615 ∧ Hid (M = decF ((lo s).drop k) x)) (fun i _ _ => s.size - (intOf i).toNat)
      case atStart => exact ⟨0, 0, rfl, rfl, by omega, by omega, by omega, HM0⟩
      case round =>
        obtain ⟨k, x, rfl, rfl, hk, hx0, hx1, HM⟩ := hrel
        by_cases hlt : k < s.size
        · have hc := s[k].toNat_lt
          have HD : Hid (Calls Tryd.prog 53 #[.int .u8 (s[k].toNat : Int)] w fun e w' => e = .returned (.bool (digZ (s[k].toNat : Int))) ∧ w' = w) := ⟨rdigit_any _ w⟩
          have hst : decF ((lo s).drop k) x = if digZ (s[k].toNat : Int) = false then none else if (18446744073709551615 - ((s[k].toNat : Int) - 48)) / 10 < x then none else decF ((lo s).drop (k + 1)) (10 * x + ((s[k].toNat : Int) - 48)) := by rw [lo_drop s k hlt]; rfl
          cases hd : digZ (s[k].toNat : Int)
          · rw [hd] at HD hst
            have hMn : Hid (M = none) := ⟨by rw [HM.out, hst]; rfl⟩
            clear hst
            go_wp2_with (go_at_call 53; (with_reducible refine HD.out.mono ?_); rintro e w' ⟨rfl, hw'⟩; subst w')
            go_ret2
            exact ⟨by rw [hMn.out]; rfl, rfl⟩
          · rw [hd] at HD hst
            have hz : 48 ≤ (s[k].toNat : Int) ∧ (s[k].toNat : Int) ≤ 57 := by unfold digZ at hd; simpa using hd
            obtain ⟨z1, z2⟩ := hz
            rw [if_neg (by simp)] at hst
            have e1 : IntKind.u8.wrap ((s[k].toNat : Int) - 48) = (s[k].toNat : Int) - 48 := by simp [IntKind.wrap, IntKind.bits, IntKind.signed]; omega
            have e2 : IntKind.u64.wrap ((s[k].toNat : Int) - 48) = (s[k].toNat : Int) - 48 := by simp [IntKind.wrap, IntKind.bits, IntKind.signed]; omega
            have e3 : IntKind.u64.wrap (18446744073709551615 - ((s[k].toNat : Int) - 48)) = 18446744073709551615 - ((s[k].toNat : Int) - 48) := by simp [IntKind.wrap, IntKind.bits, IntKind.signed]; omega
            by_cases hx : (18446744073709551615 - ((s[k].toNat : Int) - 48)) / 10 < x
            · rw [if_pos hx] at hst
              have hMn : Hid (M = none) := ⟨by rw [HM.out, hst]⟩
              clear hst hd
              go_wp2_with (go_at_call 53; (with_reducible refine HD.out.mono ?_); rintro e w' ⟨rfl, hw'⟩; subst w')
              go_ret2
              exact ⟨by rw [hMn.out]; rfl, rfl⟩
            · rw [if_neg hx] at hst
              have HN : Hid _ := ⟨HM.out.trans hst⟩
              clear hst hd
              go_wp2_with (go_at_call 53; (with_reducible refine HD.out.mono ?_); rintro e w' ⟨rfl, hw'⟩; subst w')
              go_round
              case rel => exact ⟨k + 1, 10 * x + ((s[k].toNat : Int) - 48), by go_num, by go_num, hlt, by omega, by omega, HN⟩
              case measure => simp [intOf]; omega
        · have hke : Hid (M = some x) := ⟨by rw [HM.out, show k = s.size by omega, lo_end]; rfl⟩
          go_wp2
          go_ret2
          exact ⟨by rw [hke.out]; rfl, rfl⟩

/-- Three results: a number, its length, and whether there is one. -/
def Num3 (m : Option (Int × Nat)) (e : Ending) : Prop :=
  match m with
  | none => ∃ v n : Int, e = .returned (.tuple #[.int .i64 v, .int .i64 n, .bool false])
  | some p => e = .returned (.tuple #[.int .i64 (wrap64 p.1), .int .i64 p.2, .bool true])

theorem nu8 {c : UInt8} {n : Nat} (h : c.toNat = n) (hn : n < 256) : c = UInt8.ofNat n := by subst h; simp

/-- A byte between two '. -/
theorem num_q (s : ByteArray) (h0 : 0 < s.size) (h : s[0] = 39) (M : Option (Int × Nat)) (hM : numM (lo s) = M) :
    (s.size < 3 → M = none) ∧ ∀ h3 : 3 ≤ s.size, M = if 33 ≤ zOf s[1] ∧ zOf s[1] ≤ 126 ∧ s[2] = 39 ∧ (((lo s).drop 3).head?.map isIn).getD false = false then some (zOf s[1], 3) else none := by
  subst hM
  have e0 := lo_drop s 0 h0
  rw [List.drop_zero] at e0
  constructor
  · intro hs
    rw [e0, h]
    by_cases h1 : 1 < s.size
    · have e1 := lo_drop s 1 h1
      have e2 : (lo s).drop 2 = [] := List.drop_of_length_le (by rw [lo_len]; omega)
      simp [numM, e1, e2]
    · have e1 : (lo s).drop 1 = [] := List.drop_of_length_le (by rw [lo_len]; omega)
      simp [numM, e1]
  · intro h3
    have e1 := lo_drop s 1 (by omega)
    have e2 := lo_drop s 2 (by omega)
    rw [e0, h, e1, e2]
    simp [numM]
end Go.Proofs.YthdkbjifjmhgoaaDoor
