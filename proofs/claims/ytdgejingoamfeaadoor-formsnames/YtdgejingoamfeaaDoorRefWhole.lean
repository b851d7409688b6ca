/- The document's Digits, Whole, signed, mod, stem, condName. -/
import Derived.Test.YtdgejingoamfeaaDoorRefDigits
import Derived.Test.YtdgejingoamfeaaDoorRow
import Derived.Test.YtdgejingoamfeaaDoorName
import Derived.Lib.ItoaMem
namespace Go.Proofs.YtdgejingoamfeaaDoor
open Go.ChangeShapes Go.WideShapes Go.ChangeAt Go.RowKit
set_option linter.unusedVariables false
set_option linter.unusedSimpArgs false

theorem digS_size (u : Nat) (h : u ≤ 9223372036854775807) : (digS u).size ≤ 21 := by
  have := Lib.itoa_length_le (u : Int) (by omega) (by omega)
  rw [Lib.itoa_nonneg] at this
  simpa [digS, ByteArray.size] using this

theorem digS_small (u : Nat) (h : u < 10) : digS u = ⟨#[UInt8.ofNat (48 + u)]⟩ := by
  unfold digS; rw [Lib.decDigits_one h]
theorem digS_big (u : Nat) (h : ¬ u < 10) : digS u = digS (u / 10) ++ strOfNums [48 + ((u % 10 : Nat) : Int)] := by
  have e : strOfNums [48 + ((u % 10 : Nat) : Int)] = ⟨#[UInt8.ofNat (48 + u % 10)]⟩ := by
    show (⟨#[UInt8.ofNat (48 + ((u % 10 : Nat) : Int)).toNat]⟩ : ByteArray) = _
    rw [show (48 + ((u % 10 : Nat) : Int)).toNat = 48 + u % 10 by omega]
  rw [e]
  unfold digS
  rw [Lib.decDigits, dif_neg h]
  apply ByteArray.ext
  simp

theorem digits_any (u : Nat) (h : u ≤ 9223372036854775807) (w : World) :
    Calls Tryd.prog 45 #[.int .i64 (u : Int)] w fun e w' => e = .returned (.string (digS u)) ∧ Below w.heap.size w w' := by
  induction u using Nat.strongRecOn generalizing w with
  | ind u ih =>
    by_cases hu : u < 10
    · exact digits_small (u : Int) (by omega) (by omega) _ ⟨by rw [digS_small u hu]; simp⟩ w
    · have hq : (u : Int).tdiv 10 = ((u / 10 : Nat) : Int) := by
        rw [Int.tdiv_eq_ediv_of_nonneg (by omega)]; omega
      have hr : (u : Int).tmod 10 = ((u % 10 : Nat) : Int) := by
        rw [Int.tmod_eq_emod_of_nonneg (by omega)]; omega
      have hs := digS_size (u / 10) (by omega)
      refine digits_big (u : Int) ((u / 10 : Nat) : Int) ((u % 10 : Nat) : Int) (by omega) ?_ hr ?_ ?_ (digS (u / 10)) _ (by omega) ⟨fun v => ih (u / 10) (by omega) (by omega) v⟩ ⟨digS_big u hu⟩ w
      · rw [hq, IntKind.wrap_i64]; omega
      · rw [IntKind.wrap_i64]; omega
      · have : u % 10 < 10 := Nat.mod_lt _ (by omega)
        rw [IntKind.wrap_u8']; omega

theorem itoa_pos (n : Int) (h : 0 ≤ n) : itoaS n = digS n.toNat := by
  unfold itoaS digS Lib.itoa; rw [if_neg (by omega)]
theorem itoa_low (n : Int) (h : n < 0) : itoaS n = ⟨#[45]⟩ ++ digS n.natAbs := by
  unfold itoaS digS Lib.itoa; rw [if_pos h]
  apply ByteArray.ext
  simp

set_option maxHeartbeats 1000000 in
theorem refWhole_any (n : Int) (h : i64 n) (w : World) :
    Calls Tryd.prog 52 #[.int .i64 n] w fun e w' => e = .returned (.string (itoaS n)) ∧ Below w.heap.size w w' := by
  obtain ⟨l, u⟩ := h
  have HD : Hid (∀ (k : Nat) v, k ≤ 9223372036854775807 → Calls Tryd.prog 45 #[.int .i64 (k : Int)] v fun e w' => e = .returned (.string (digS k)) ∧ Below v.heap.size v w') := ⟨fun k v hk => digits_any k hk v⟩
  by_cases h0 : 0 ≤ n
  · have HR := hid (itoa_pos n h0)
    obtain ⟨m, rfl⟩ := Int.eq_ofNat_of_zero_le h0
    rw [Int.toNat_natCast] at HR
    generalize itoaS (m : Int) = z at *
    go_enter Tryd.func52, Tryd.ntmps52
    go_wp2_with (go_at_call 45; refine (HD.out m _ (by omega)).mono ?_; rintro e w1 ⟨rfl, hb⟩)
    go_ret
    exact ⟨ret_str HR.out.symm, hb⟩
  · have HR := hid (itoa_low n (by omega))
    obtain ⟨m, hm, hn⟩ : ∃ m : Nat, 1 ≤ m ∧ n = -(m : Int) := ⟨n.natAbs, by omega, by omega⟩
    subst hn
    rw [Int.natAbs_neg, Int.natAbs_natCast] at HR
    generalize itoaS (-(m : Int)) = z at *
    by_cases h1 : m < 10
    · have hz := digS_size m (by omega)
      have HC : Hid (∀ v, Calls Tryd.prog 45 #[.int .i64 (m : Int)] v fun e w' => e = .returned (.string (digS m)) ∧ Below v.heap.size v w') := ⟨fun v => HD.out m v (by omega)⟩
      generalize digS m = d at *
      have k1 : (⟨#[45]⟩ : ByteArray).size = 1 := rfl
      go_enter Tryd.func52, Tryd.ntmps52
      go_wp2_with (go_at_call 45; refine (HC.out _).mono ?_; rintro e w1 ⟨rfl, hb⟩)
      go_ret
      exact ⟨ret_str HR.out.symm, hb⟩
    · have hz := digS_size (m / 10) (by omega)
      have hy := digS_size (m % 10) (by omega)
      have HC : Hid (∀ v, Calls Tryd.prog 45 #[.int .i64 ((m : Int) / 10)] v fun e w' => e = .returned (.string (digS (m / 10))) ∧ Below v.heap.size v w') := ⟨fun v => HD.out (m / 10) v (by omega)⟩
      have HE : Hid (∀ v, Calls Tryd.prog 45 #[.int .i64 ((m : Int) % 10)] v fun e w' => e = .returned (.string (digS (m % 10))) ∧ Below v.heap.size v w') := ⟨fun v => HD.out (m % 10) v (by omega)⟩
      have HS : Hid (z = ⟨#[45]⟩ ++ digS (m / 10) ++ digS (m % 10)) := ⟨by
        rw [HR.out, digS_big m h1, ByteArray.append_assoc, digS_small (m % 10) (by omega)]
        show _ = (⟨#[45]⟩ : ByteArray) ++ (digS (m / 10) ++ _)
        congr 2⟩
      clear HD HR
      generalize digS (m / 10) = d at *
      generalize digS (m % 10) = f at *
      have k1 : (⟨#[45]⟩ : ByteArray).size = 1 := rfl
      have A1 : ∀ v, (Op.stringOp .add ⟨#[45]⟩ d).run Tryd.prog v = .ok (.string (⟨#[45]⟩ ++ d)) v := fun v => run_string_add_sum v _ _ (by omega)
      have A2 : ∀ v, (Op.stringOp .add (⟨#[45]⟩ ++ d) f).run Tryd.prog v = .ok (.string (⟨#[45]⟩ ++ d ++ f)) v := fun v => run_string_add_sum v _ _ (by simp only [ByteArray.size_append]; omega)
      clear hz hy
      go_enter Tryd.func52, Tryd.ntmps52
      go_wp2_with (first
        | (have _ := hb; go_at_call 45; refine (HE.out _).mono ?_; rintro e w2 ⟨rfl, hb2⟩)
        | (go_at_call 45; refine (HC.out _).mono ?_; rintro e w1 ⟨rfl, hb⟩))
      go_ret
      exact ⟨ret_str HS.out.symm, bel_trans hb hb2⟩

theorem refSigned_any (n : Int) (h : i64 n) (w : World) :
    Calls Tryd.prog 55 #[.int .i64 n] w fun e w' => e = .returned (.string (signV n)) ∧ Below w.heap.size w w' := by
  have HC : Hid (∀ v, Calls Tryd.prog 52 #[.int .i64 n] v fun e w' => e = .returned (.string (itoaS n)) ∧ Below v.heap.size v w') := ⟨fun v => refWhole_any n h v⟩
  have hz := itoa_size n h
  unfold signV
  generalize itoaS n = z at *
  have k1 : (⟨#[43]⟩ : ByteArray).size = 1 := rfl
  have A1 : ∀ v, (Op.stringOp .add ⟨#[43]⟩ z).run Tryd.prog v = .ok (.string (⟨#[43]⟩ ++ z)) v := fun v => run_string_add_sum v _ _ (by omega)
  clear h hz
  by_cases h0 : n < 0
  · rw [if_pos h0]
    go_enter Tryd.func55, Tryd.ntmps55
    go_wp2_with (go_at_call 52; refine (HC.out _).mono ?_; rintro e w1 ⟨rfl, hb⟩)
    go_ret
    exact ⟨rfl, hb⟩
  · rw [if_neg h0]
    go_enter Tryd.func55, Tryd.ntmps55
    go_wp2_with (go_at_call 52; refine (HC.out _).mono ?_; rintro e w1 ⟨rfl, hb⟩)
    go_ret
    exact ⟨rfl, hb⟩

theorem refMod_any (m : Int) (h : 0 ≤ m ∧ m ≤ 5) (w : World) :
    Calls Tryd.prog 54 #[.int .i64 m] w fun e w' => e = .returned (.string (modV m)) ∧ Below w.heap.size w w' := by
  have : m = 0 ∨ m = 1 ∨ m = 2 ∨ m = 3 ∨ m = 4 ∨ m = 5 := by omega
  clear h
  rcases this with rfl | rfl | rfl | rfl | rfl | rfl
  all_goals
    go_enter Tryd.func54, Tryd.ntmps54
    go_wp2
    go_ret
    exact ⟨rfl, bel_alloc (Below.refl _ _) _⟩
end Go.Proofs.YtdgejingoamfeaaDoor
