/- The contracts of the document's own Put and Get. -/
import Derived.Test.YtbhdledlahbokaaGet
import Derived.Test.YtbhdledlahbokaaLent
namespace Go.Proofs.Ytbhdledlahbokaa
open Go.ChangeShapes Go.WideShapes Go.ChangeAt Go.RowKit
set_option linter.unusedVariables false

theorem rsized_yes (n : Int) (w : World) (h : n = 1 ∨ n = 2 ∨ n = 4 ∨ n = 8) :
    Calls Try.prog 64 #[.int .i64 n] w fun e w' => e = .returned (.bool true) ∧ w' = w := by
  rcases h with rfl | rfl | rfl | rfl
  all_goals
    go_enter Try.func64, Try.ntmps64
    go_wp2
    go_ret
    exact ⟨rfl, rfl⟩

theorem rsized_no (n : Int) (w : World) (h : ¬ (n = 1 ∨ n = 2 ∨ n = 4 ∨ n = 8)) :
    Calls Try.prog 64 #[.int .i64 n] w fun e w' => e = .returned (.bool false) ∧ w' = w := by
  have h1 : (n == 1) = false := by simp; omega
  have h2 : (n == 2) = false := by simp; omega
  have h4 : (n == 4) = false := by simp; omega
  have h8 : (n == 8) = false := by simp; omega
  clear h
  go_enter Try.func64, Try.ntmps64
  go_wp2
  go_ret
  exact ⟨rfl, rfl⟩

theorem rget_step (bs : Nat → Int) (hbs : ∀ i, 0 ≤ bs i ∧ bs i < 256) (a j M : Nat) (U : Int) (hj : j < M) (hM : M ≤ 8) (hU : U = bacc bs (a + (j + 1)) (M - (j + 1))) :
    Hid (bits .or .u64 (IntKind.u64.wrap (U * 256)) (IntKind.u64.wrap (bs (a + j))) = bacc bs (a + j) (M - j)) := by
  show _ = _
  have h := bacc_back bs hbs (a + j) (M - (j + 1)) (by omega)
  rw [hU, show a + (j + 1) = a + j + 1 from by omega, h, show M - (j + 1) + 1 = M - j from by omega]

theorem rget_next (j : Nat) : (j = 0 ∧ Value.int .i64 ((j : Int) - 1) = .int .i64 (-1)) ∨ ∃ j' : Nat, j = j' + 1 ∧ Value.int .i64 ((j : Int) - 1) = .int .i64 j' := by
  cases j with
  | zero => exact .inl ⟨rfl, rfl⟩
  | succ j => exact .inr ⟨j, rfl, by rw [show (((j + 1 : Nat) : Int) - 1) = (j : Int) from by omega]⟩

theorem gv_plain (bs : Nat → Int) (a s : Nat) : gval bs a s false = wrap64 (bacc bs a s) := rfl


/-- The bytes of a number, the low one first. -/
def pl (n : Int) (s : Nat) : List Int := (List.range s).map fun j => n / 2 ^ (8 * j) % 256

theorem part_full (n : Int) (s : Nat) : part n s s = (pl n s).map (Value.int .u8) := by
  unfold part pl
  rw [List.map_map]
  apply List.map_congr_left
  intro j hj
  simp only [List.mem_range] at hj
  simp [hj]

theorem pl_len (n : Int) (s : Nat) : (pl n s).length = s := by simp [pl]
theorem pl_succ (n : Int) (s : Nat) : pl n (s + 1) = pl n s ++ [n / 2 ^ (8 * s) % 256] := by simp [pl, List.range_succ]

theorem digit_mod (n : Int) (j : Nat) (hj : j < 8) : n % 18446744073709551616 / 2 ^ (8 * j) % 256 = n / 2 ^ (8 * j) % 256 := by
  obtain ⟨d, hd⟩ : ∃ d, 8 = j + 1 + d := ⟨8 - j - 1, by omega⟩
  have e : (18446744073709551616 : Int) = 2 ^ (8 * j) * (256 * 2 ^ (8 * d)) := by
    have : (18446744073709551616 : Int) = 2 ^ (8 * 8) := by decide
    rw [this, show 8 * 8 = 8 * j + (8 + 8 * d) from by omega, Int.pow_add, Int.pow_add]; rfl
  rw [e]
  exact mod_div_mod _ _ _ (Int.ne_of_gt (pow_pos_i _))

theorem rput_arg (n s : Int) (w : World) (h : ¬ (s = 1 ∨ s = 2 ∨ s = 4 ∨ s = 8)) :
    Calls Try.prog 43 #[.int .i64 n, .int .i64 s] w fun e w' => e = .returned (.tuple #[.slice none 0 0, .int .i64 1]) ∧ w' = w := by
  have H : Hid (¬ (s = 1 ∨ s = 2 ∨ s = 4 ∨ s = 8)) := h
  clear h
  go_enter Try.func43, Try.ntmps43
  go_wp2_with (go_at_call 64; refine (rsized_no _ _ H.out).mono ?_; rintro e w' ⟨rfl, rfl⟩)
  go_ret2
  exact ⟨rfl, rfl⟩

theorem rput_range_1 (n : Int) (w : World) (h : n < -128 ∨ 256 ≤ n) :
    Calls Try.prog 43 #[.int .i64 n, .int .i64 1] w fun e w' => e = .returned (.tuple #[.slice none 0 0, .int .i64 11]) ∧ w' = w := by
  by_cases h0 : n < -128
  · clear h
    go_enter Try.func43, Try.ntmps43
    go_wp2_with (go_at_call 64; refine (rsized_yes _ _ (by decide)).mono ?_; rintro e w' ⟨rfl, rfl⟩)
    go_ret2
    exact ⟨rfl, rfl⟩
  · have h1 : 256 ≤ n := by omega
    clear h
    go_enter Try.func43, Try.ntmps43
    go_wp2_with (go_at_call 64; refine (rsized_yes _ _ (by decide)).mono ?_; rintro e w' ⟨rfl, rfl⟩)
    go_ret2
    exact ⟨rfl, rfl⟩
theorem rput_range_2 (n : Int) (w : World) (h : n < -32768 ∨ 65536 ≤ n) :
    Calls Try.prog 43 #[.int .i64 n, .int .i64 2] w fun e w' => e = .returned (.tuple #[.slice none 0 0, .int .i64 11]) ∧ w' = w := by
  by_cases h0 : n < -32768
  · clear h
    go_enter Try.func43, Try.ntmps43
    go_wp2_with (go_at_call 64; refine (rsized_yes _ _ (by decide)).mono ?_; rintro e w' ⟨rfl, rfl⟩)
    go_ret2
    exact ⟨rfl, rfl⟩
  · have h1 : 65536 ≤ n := by omega
    clear h
    go_enter Try.func43, Try.ntmps43
    go_wp2_with (go_at_call 64; refine (rsized_yes _ _ (by decide)).mono ?_; rintro e w' ⟨rfl, rfl⟩)
    go_ret2
    exact ⟨rfl, rfl⟩
theorem rput_range_4 (n : Int) (w : World) (h : n < -2147483648 ∨ 4294967296 ≤ n) :
    Calls Try.prog 43 #[.int .i64 n, .int .i64 4] w fun e w' => e = .returned (.tuple #[.slice none 0 0, .int .i64 11]) ∧ w' = w := by
  by_cases h0 : n < -2147483648
  · clear h
    go_enter Try.func43, Try.ntmps43
    go_wp2_with (go_at_call 64; refine (rsized_yes _ _ (by decide)).mono ?_; rintro e w' ⟨rfl, rfl⟩)
    go_ret2
    exact ⟨rfl, rfl⟩
  · have h1 : 4294967296 ≤ n := by omega
    clear h
    go_enter Try.func43, Try.ntmps43
    go_wp2_with (go_at_call 64; refine (rsized_yes _ _ (by decide)).mono ?_; rintro e w' ⟨rfl, rfl⟩)
    go_ret2
    exact ⟨rfl, rfl⟩

theorem rput_1 (n : Int) (w : World) (hc : -128 ≤ n ∧ n < 256) :
    Calls Try.prog 43 #[.int .i64 n, .int .i64 1] w fun e w' => ∃ v, e = .returned (.tuple #[v, .int .i64 0]) ∧ Own w' w.heap.size v (pl n 1) ∧ Below w.heap.size w w' := by
  obtain ⟨m, hm⟩ : ∃ m : Int, m = n % 18446744073709551616 := ⟨_, rfl⟩
  have HM : Hid (m = n % 18446744073709551616) := hm
  have hm' : IntKind.u64.wrap n = m := by rw [IntKind.wrap_u64]; exact hm.symm
  have hm0 : 0 ≤ m := by omega
  clear hm
  go_enter Try.func43, Try.ntmps43
  go_wp2_with (go_at_call 64; refine (rsized_yes _ _ (by decide)).mono ?_; rintro e w' ⟨rfl, rfl⟩)
  go_loopw [6, 7, 8] (fun u v i wr => ∃ (k : Nat) (U : Int), k ≤ 1 ∧ u = .int .u64 U ∧ i = .int .i64 k ∧ Hid (U = m / 2 ^ (8 * k)) ∧ Own wr w'.heap.size v (pl n k) ∧ Below w'.heap.size w' wr) (fun _ _ i _ => 1 - (intOf i).toNat)
  case atStart => exact ⟨0, m, by omega, rfl, rfl, by simp [Hid], Own.nil _ _, Below.refl _ _⟩
  case round =>
    obtain ⟨k, U, hk, rfl, rfl, HU, hown, hbel⟩ := hrel
    clear hm' hc
    by_cases hlt : k < 1
    · have hl2 := pl_len n k
      have HD : Hid (U % 256 = n / 2 ^ (8 * k) % 256) := by show U % 256 = _; rw [HU.out, HM.out]; exact digit_mod n k (by omega)
      have HN : Hid (U / 256 = m / 2 ^ (8 * (k + 1))) := by
        show U / 256 = _
        rw [HU.out, show 8 * (k + 1) = 8 * k + 8 from by omega, Int.pow_add, ← Int.ediv_ediv_of_nonneg (Int.le_of_lt (pow_pos_i _))]; rfl
      go_wp2_with (first
        | (at_builtin; refine append_byte _ rfl _ _ rfl w'.heap.size _ (pl n k) rfl hown (U % 256) rfl (by omega) hbel.size ?_; intro v2 w2 hown2 hbel2))
      go_roundw
      case rel => exact ⟨k + 1, U / 256, by omega, rfl, by go_num, HN, by rw [pl_succ, ← HD.out]; exact hown2, hbel.trans hbel2⟩
      case measure => simp [intOf]; omega
    · obtain rfl : k = 1 := by omega
      go_wp2
      go_ret2
      exact ⟨_, rfl, hown, hbel⟩
theorem rput_2 (n : Int) (w : World) (hc : -32768 ≤ n ∧ n < 65536) :
    Calls Try.prog 43 #[.int .i64 n, .int .i64 2] w fun e w' => ∃ v, e = .returned (.tuple #[v, .int .i64 0]) ∧ Own w' w.heap.size v (pl n 2) ∧ Below w.heap.size w w' := by
  obtain ⟨m, hm⟩ : ∃ m : Int, m = n % 18446744073709551616 := ⟨_, rfl⟩
  have HM : Hid (m = n % 18446744073709551616) := hm
  have hm' : IntKind.u64.wrap n = m := by rw [IntKind.wrap_u64]; exact hm.symm
  have hm0 : 0 ≤ m := by omega
  clear hm
  go_enter Try.func43, Try.ntmps43
  go_wp2_with (go_at_call 64; refine (rsized_yes _ _ (by decide)).mono ?_; rintro e w' ⟨rfl, rfl⟩)
  go_loopw [6, 7, 8] (fun u v i wr => ∃ (k : Nat) (U : Int), k ≤ 2 ∧ u = .int .u64 U ∧ i = .int .i64 k ∧ Hid (U = m / 2 ^ (8 * k)) ∧ Own wr w'.heap.size v (pl n k) ∧ Below w'.heap.size w' wr) (fun _ _ i _ => 2 - (intOf i).toNat)
  case atStart => exact ⟨0, m, by omega, rfl, rfl, by simp [Hid], Own.nil _ _, Below.refl _ _⟩
  case round =>
    obtain ⟨k, U, hk, rfl, rfl, HU, hown, hbel⟩ := hrel
    clear hm' hc
    by_cases hlt : k < 2
    · have hl2 := pl_len n k
      have HD : Hid (U % 256 = n / 2 ^ (8 * k) % 256) := by show U % 256 = _; rw [HU.out, HM.out]; exact digit_mod n k (by omega)
      have HN : Hid (U / 256 = m / 2 ^ (8 * (k + 1))) := by
        show U / 256 = _
        rw [HU.out, show 8 * (k + 1) = 8 * k + 8 from by omega, Int.pow_add, ← Int.ediv_ediv_of_nonneg (Int.le_of_lt (pow_pos_i _))]; rfl
      go_wp2_with (first
        | (at_builtin; refine append_byte _ rfl _ _ rfl w'.heap.size _ (pl n k) rfl hown (U % 256) rfl (by omega) hbel.size ?_; intro v2 w2 hown2 hbel2))
      go_roundw
      case rel => exact ⟨k + 1, U / 256, by omega, rfl, by go_num, HN, by rw [pl_succ, ← HD.out]; exact hown2, hbel.trans hbel2⟩
      case measure => simp [intOf]; omega
    · obtain rfl : k = 2 := by omega
      go_wp2
      go_ret2
      exact ⟨_, rfl, hown, hbel⟩
theorem rput_4 (n : Int) (w : World) (hc : -2147483648 ≤ n ∧ n < 4294967296) :
    Calls Try.prog 43 #[.int .i64 n, .int .i64 4] w fun e w' => ∃ v, e = .returned (.tuple #[v, .int .i64 0]) ∧ Own w' w.heap.size v (pl n 4) ∧ Below w.heap.size w w' := by
  obtain ⟨m, hm⟩ : ∃ m : Int, m = n % 18446744073709551616 := ⟨_, rfl⟩
  have HM : Hid (m = n % 18446744073709551616) := hm
  have hm' : IntKind.u64.wrap n = m := by rw [IntKind.wrap_u64]; exact hm.symm
  have hm0 : 0 ≤ m := by omega
  clear hm
  go_enter Try.func43, Try.ntmps43
  go_wp2_with (go_at_call 64; refine (rsized_yes _ _ (by decide)).mono ?_; rintro e w' ⟨rfl, rfl⟩)
  go_loopw [6, 7, 8] (fun u v i wr => ∃ (k : Nat) (U : Int), k ≤ 4 ∧ u = .int .u64 U ∧ i = .int .i64 k ∧ Hid (U = m / 2 ^ (8 * k)) ∧ Own wr w'.heap.size v (pl n k) ∧ Below w'.heap.size w' wr) (fun _ _ i _ => 4 - (intOf i).toNat)
  case atStart => exact ⟨0, m, by omega, rfl, rfl, by simp [Hid], Own.nil _ _, Below.refl _ _⟩
  case round =>
    obtain ⟨k, U, hk, rfl, rfl, HU, hown, hbel⟩ := hrel
    clear hm' hc
    by_cases hlt : k < 4
    · have hl2 := pl_len n k
      have HD : Hid (U % 256 = n / 2 ^ (8 * k) % 256) := by show U % 256 = _; rw [HU.out, HM.out]; exact digit_mod n k (by omega)
      have HN : Hid (U / 256 = m / 2 ^ (8 * (k + 1))) := by
        show U / 256 = _
        rw [HU.out, show 8 * (k + 1) = 8 * k + 8 from by omega, Int.pow_add, ← Int.ediv_ediv_of_nonneg (Int.le_of_lt (pow_pos_i _))]; rfl
      go_wp2_with (first
        | (at_builtin; refine append_byte _ rfl _ _ rfl w'.heap.size _ (pl n k) rfl hown (U % 256) rfl (by omega) hbel.size ?_; intro v2 w2 hown2 hbel2))
      go_roundw
      case rel => exact ⟨k + 1, U / 256, by omega, rfl, by go_num, HN, by rw [pl_succ, ← HD.out]; exact hown2, hbel.trans hbel2⟩
      case measure => simp [intOf]; omega
    · obtain rfl : k = 4 := by omega
      go_wp2
      go_ret2
      exact ⟨_, rfl, hown, hbel⟩
theorem rput_8 (n : Int) (w : World) (hc : True) :
    Calls Try.prog 43 #[.int .i64 n, .int .i64 8] w fun e w' => ∃ v, e = .returned (.tuple #[v, .int .i64 0]) ∧ Own w' w.heap.size v (pl n 8) ∧ Below w.heap.size w w' := by
  obtain ⟨m, hm⟩ : ∃ m : Int, m = n % 18446744073709551616 := ⟨_, rfl⟩
  have HM : Hid (m = n % 18446744073709551616) := hm
  have hm' : IntKind.u64.wrap n = m := by rw [IntKind.wrap_u64]; exact hm.symm
  have hm0 : 0 ≤ m := by omega
  clear hm
  go_enter Try.func43, Try.ntmps43
  go_wp2_with (go_at_call 64; refine (rsized_yes _ _ (by decide)).mono ?_; rintro e w' ⟨rfl, rfl⟩)
  go_loopw [6, 7, 8] (fun u v i wr => ∃ (k : Nat) (U : Int), k ≤ 8 ∧ u = .int .u64 U ∧ i = .int .i64 k ∧ Hid (U = m / 2 ^ (8 * k)) ∧ Own wr w'.heap.size v (pl n k) ∧ Below w'.heap.size w' wr) (fun _ _ i _ => 8 - (intOf i).toNat)
  case atStart => exact ⟨0, m, by omega, rfl, rfl, by simp [Hid], Own.nil _ _, Below.refl _ _⟩
  case round =>
    obtain ⟨k, U, hk, rfl, rfl, HU, hown, hbel⟩ := hrel
    clear hm' hc
    by_cases hlt : k < 8
    · have hl2 := pl_len n k
      have HD : Hid (U % 256 = n / 2 ^ (8 * k) % 256) := by show U % 256 = _; rw [HU.out, HM.out]; exact digit_mod n k (by omega)
      have HN : Hid (U / 256 = m / 2 ^ (8 * (k + 1))) := by
        show U / 256 = _
        rw [HU.out, show 8 * (k + 1) = 8 * k + 8 from by omega, Int.pow_add, ← Int.ediv_ediv_of_nonneg (Int.le_of_lt (pow_pos_i _))]; rfl
      go_wp2_with (first
        | (at_builtin; refine append_byte _ rfl _ _ rfl w'.heap.size _ (pl n k) rfl hown (U % 256) rfl (by omega) hbel.size ?_; intro v2 w2 hown2 hbel2))
      go_roundw
      case rel => exact ⟨k + 1, U / 256, by omega, rfl, by go_num, HN, by rw [pl_succ, ← HD.out]; exact hown2, hbel.trans hbel2⟩
      case measure => simp [intOf]; omega
    · obtain rfl : k = 8 := by omega
      go_wp2
      go_ret2
      exact ⟨_, rfl, hown, hbel⟩
end Go.Proofs.Ytbhdledlahbokaa
