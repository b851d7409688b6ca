/- The contracts of inGroups, Uleb and Sleb, and of the document's own Uleb and Sleb. -/
import Derived.Test.YtbhdledlahbokaaGrouped
import Derived.Test.YtbhdledlahbokaaBytes
import Derived.Test.YtbhdledlahbokaaGroupPlain
import Derived.Outline
namespace Go.Proofs.Ytbhdledlahbokaa
open Go.ChangeShapes Go.WideShapes Go.ChangeAt Go.RowKit
set_option linter.unusedVariables false

theorem low7_u64 (n : Int) (w : World) :
    Calls Try.prog 75 #[.int .u64 n, .int .i64 7] w fun e w' => e = .returned (.int .u64 (n % 128)) ∧ w' = w := low_u64 n 7 w (by omega) (by omega)

theorem low7_i64 (n : Int) (w : World) :
    Calls Try.prog 89 #[.int .i64 n, .int .i64 7] w fun e w' => e = .returned (.int .i64 ((n + 64) % 128 - 64)) ∧ w' = w := by
  have h := low_i64 n 7 w (by omega) (by omega)
  rw [show (7 : Int).toNat = 7 from rfl, sx7] at h
  exact h

theorem inGroups_u64 (n : Nat) (w : World) (hn : n < 18446744073709551616) :
    Calls Try.prog 63 #[.int .u64 n] w fun e w' => ∃ v, e = .returned v ∧ Own w' w.heap.size v (ul n) ∧ Below w.heap.size w w' := by
  have hlen := ul_len10 n hn
  go_enter Try.func63, Try.ntmps63
  go_wp2
  go_loopw [0, 3] (fun i v wr => ∃ (u : Nat) (xs : List Int), i = .int .u64 u ∧ u < 18446744073709551616 ∧ xs ++ ul u = ul n ∧ Own wr w.heap.size v xs ∧ Below w.heap.size w wr) (fun i _ _ => (intOf i).toNat)
  case atStart => exact ⟨n, [], rfl, hn, rfl, Own.nil _ _, Below.refl _ _⟩
  case round =>
    obtain ⟨u, xs, rfl, hu, hxs, hown, hbel⟩ := hrel
    have hl2 : xs.length + (ul u).length ≤ 10 := by rw [← List.length_append, hxs]; exact hlen
    have hl3 := ul_len_pos u
    by_cases hlt : u < 128
    · have ht : ((u : Int) % 128 != (u : Int)) = false := by simp; omega
      have hb : bits .and .u8 (u : Int) 127 = (u : Int) := by rw [u8_and127 _ (by omega) (by omega)]; omega
      have HU : Hid _ := ul_lt hlt
      go_wp2_with (first
        | (go_at_call 75; refine (low7_u64 _ _).mono ?_; rintro e w' ⟨rfl, rfl⟩)
        | (at_builtin; refine append_byte _ rfl _ _ rfl w.heap.size _ xs rfl hown (u : Int) rfl (by omega) hbel.size ?_; intro v2 w2 hown2 hbel2))
      go_ret
      exact ⟨_, rfl, by rw [← hxs, HU.out]; exact hown2, hbel.trans hbel2⟩
    · have ht : ((u : Int) % 128 != (u : Int)) = true := by simp; omega
      have hb : bits .or .u8 ((u : Int) % 256) 128 = (u : Int) % 128 + 128 := by rw [or128_u8 _ (by omega) (by omega)]; omega
      have HU : Hid _ := ul_ge hlt
      go_wp2_with (first
        | (go_at_call 75; refine (low7_u64 _ _).mono ?_; rintro e w' ⟨rfl, rfl⟩)
        | (at_builtin; refine append_byte _ rfl _ _ rfl w.heap.size _ xs rfl hown ((u : Int) % 128 + 128) rfl (by omega) hbel.size ?_; intro v2 w2 hown2 hbel2))
      go_roundw
      case rel => exact ⟨u / 128, xs ++ [(u : Int) % 128 + 128], by go_num, by omega, by rw [← hxs, HU.out]; simp, hown2, hbel.trans hbel2⟩
      case measure => simp [intOf]; omega

theorem inGroups_i64 (n : Int) (w : World) (hn : -9223372036854775808 ≤ n ∧ n ≤ 9223372036854775807) :
    Calls Try.prog 74 #[.int .i64 n] w fun e w' => ∃ v, e = .returned v ∧ Own w' w.heap.size v (sl n) ∧ Below w.heap.size w w' := by
  have hlen := sl_len10 n hn
  go_enter Try.func74, Try.ntmps74
  go_wp2
  go_loopw [0, 3] (fun i v wr => ∃ (u : Int) (xs : List Int), i = .int .i64 u ∧ (-9223372036854775808 ≤ u ∧ u ≤ 9223372036854775807) ∧ xs ++ sl u = sl n ∧ Own wr w.heap.size v xs ∧ Below w.heap.size w wr) (fun i _ _ => (intOf i).natAbs)
  case atStart => exact ⟨n, [], rfl, hn, rfl, Own.nil _ _, Below.refl _ _⟩
  case round =>
    obtain ⟨u, xs, rfl, hu, hxs, hown, hbel⟩ := hrel
    have hl2 : xs.length + (sl u).length ≤ 10 := by rw [← List.length_append, hxs]; exact hlen
    have hl3 := sl_len_pos u
    by_cases hlt : -64 ≤ u ∧ u ≤ 63
    · have ht : ((u + 64) % 128 - 64 != u) = false := by simp; omega
      have hb : bits .and .u8 (u % 256) 127 = u % 128 := by rw [u8_and127 _ (by omega) (by omega)]; omega
      have HU : Hid _ := sl_in hlt
      go_wp2_with (first
        | (go_at_call 89; refine (low7_i64 _ _).mono ?_; rintro e w' ⟨rfl, rfl⟩)
        | (at_builtin; refine append_byte _ rfl _ _ rfl w.heap.size _ xs rfl hown (u % 128) rfl (by omega) hbel.size ?_; intro v2 w2 hown2 hbel2))
      go_ret
      exact ⟨_, rfl, by rw [← hxs, HU.out]; exact hown2, hbel.trans hbel2⟩
    · have ht : ((u + 64) % 128 - 64 != u) = true := by simp; omega
      have hb : bits .or .u8 (u % 256) 128 = u % 128 + 128 := by rw [or128_u8 _ (by omega) (by omega)]; omega
      have HU : Hid _ := sl_out hlt
      have HM : Hid (¬ (-64 ≤ u ∧ u ≤ 63)) := hlt
      clear hlt
      go_wp2_with (first
        | (go_at_call 89; refine (low7_i64 _ _).mono ?_; rintro e w' ⟨rfl, rfl⟩)
        | (at_builtin; refine append_byte _ rfl _ _ rfl w.heap.size _ xs rfl hown (u % 128 + 128) rfl (by omega) hbel.size ?_; intro v2 w2 hown2 hbel2))
      go_roundw
      case rel => exact ⟨u / 128, xs ++ [u % 128 + 128], rfl, by omega, by rw [← hxs, HU.out]; simp, hown2, hbel.trans hbel2⟩
      case measure => have := HM.out; simp [intOf]; omega

theorem uleb_any (n : Int) (w : World) :
    Calls Try.prog 41 #[.int .i64 n] w fun e w' => ∃ v, e = .returned v ∧ Own w' w.heap.size v (ul (n % 18446744073709551616).toNat) ∧ Below w.heap.size w w' := by
  obtain ⟨m, hm⟩ := Int.eq_ofNat_of_zero_le (show 0 ≤ n % 18446744073709551616 by omega)
  have G := inGroups_u64 m w (by omega)
  rw [← hm] at G
  rw [show (n % 18446744073709551616).toNat = m from by omega]
  clear hm
  go_enter Try.func41, Try.ntmps41
  go_wp2_with (go_at_call 63; refine G.mono ?_; rintro e w1 ⟨v, rfl, hown, hbel⟩)
  go_ret
  exact ⟨_, rfl, hown, hbel⟩

theorem sleb_any (n : Int) (w : World) (hn : -9223372036854775808 ≤ n ∧ n ≤ 9223372036854775807) :
    Calls Try.prog 61 #[.int .i64 n] w fun e w' => ∃ v, e = .returned v ∧ Own w' w.heap.size v (sl n) ∧ Below w.heap.size w w' := by
  have G := inGroups_i64 n w hn
  clear hn
  go_enter Try.func61, Try.ntmps61
  go_wp2_with (go_at_call 74; refine G.mono ?_; rintro e w1 ⟨v, rfl, hown, hbel⟩)
  go_ret
  exact ⟨_, rfl, hown, hbel⟩

theorem ul_lti {u : Int} (h0 : 0 ≤ u) (h : u < 128) : ul u.toNat = [u] := by rw [ul_lt (by omega)]; congr 1; omega
theorem ul_gei {u : Int} (h0 : 0 ≤ u) (h : ¬ u < 128) : ul u.toNat = (u % 128 + 128) :: ul (u / 128).toNat := by
  rw [ul_ge (by omega)]
  congr 1
  · omega
  · congr 1; omega

theorem ruleb_any (n : Int) (w : World) :
    Calls Try.prog 26 #[.int .i64 n] w fun e w' => ∃ v, e = .returned v ∧ Own w' w.heap.size v (ul (n % 18446744073709551616).toNat) ∧ Below w.heap.size w w' := by
  obtain ⟨m, hm⟩ : ∃ m : Int, m = n % 18446744073709551616 := ⟨_, rfl⟩
  have hmn : 0 ≤ m ∧ m ≤ 18446744073709551615 := by omega
  rw [← hm]
  have hlen := ul_len10 m.toNat (by omega)
  have hm' : IntKind.u64.wrap n = m := by rw [IntKind.wrap_u64]; exact hm.symm
  clear hm
  go_enter Try.func26, Try.ntmps26
  go_wp2
  go_loopw [3, 4] (fun i v wr => ∃ (u : Int) (xs : List Int), i = .int .u64 u ∧ (0 ≤ u ∧ u ≤ 18446744073709551615) ∧ xs ++ ul u.toNat = ul m.toNat ∧ Own wr w.heap.size v xs ∧ Below w.heap.size w wr) (fun i _ _ => (intOf i).toNat)
  case atStart => exact ⟨m, [], rfl, hmn, rfl, Own.nil _ _, Below.refl _ _⟩
  case round =>
    obtain ⟨u, xs, rfl, hu, hxs, hown, hbel⟩ := hrel
    have hl2 : xs.length + (ul u.toNat).length ≤ 10 := by rw [← List.length_append, hxs]; exact hlen
    have hl3 := ul_len_pos u.toNat
    clear hm' hmn hlen
    by_cases hlt : u < 128
    · have HU : Hid _ := ul_lti hu.1 hlt
      go_wp2_with (first
        | (at_builtin; refine append_byte _ rfl _ _ rfl w.heap.size _ xs rfl hown u rfl (by omega) hbel.size ?_; intro v2 w2 hown2 hbel2))
      go_ret
      exact ⟨_, rfl, by rw [← hxs, HU.out]; exact hown2, hbel.trans hbel2⟩
    · have HU : Hid _ := ul_gei hu.1 hlt
      go_wp2_with (first
        | (at_builtin; refine append_byte _ rfl _ _ rfl w.heap.size _ xs rfl hown (u % 128 + 128) rfl (by omega) hbel.size ?_; intro v2 w2 hown2 hbel2))
      go_roundw
      case rel => exact ⟨u / 128, xs ++ [u % 128 + 128], rfl, by omega, by rw [← hxs, HU.out]; simp, hown2, hbel.trans hbel2⟩
      case measure => simp [intOf]; omega

theorem rsleb_any (n : Int) (w : World) (hn : -9223372036854775808 ≤ n ∧ n ≤ 9223372036854775807) :
    Calls Try.prog 44 #[.int .i64 n] w fun e w' => ∃ v, e = .returned v ∧ Own w' w.heap.size v (sl n) ∧ Below w.heap.size w w' := by
  have hlen := sl_len10 n hn
  go_enter Try.func44, Try.ntmps44
  go_wp2
  go_loopw [0, 3] (fun i v wr => ∃ (u : Int) (xs : List Int), i = .int .i64 u ∧ (-9223372036854775808 ≤ u ∧ u ≤ 9223372036854775807) ∧ xs ++ sl u = sl n ∧ Own wr w.heap.size v xs ∧ Below w.heap.size w wr) (fun i _ _ => (intOf i).natAbs)
  case atStart => exact ⟨n, [], rfl, hn, rfl, Own.nil _ _, Below.refl _ _⟩
  case round =>
    obtain ⟨u, xs, rfl, hu, hxs, hown, hbel⟩ := hrel
    have hl2 : xs.length + (sl u).length ≤ 10 := by rw [← List.length_append, hxs]; exact hlen
    have hl3 := sl_len_pos u
    have hb : bits .and .i64 u 127 = u % 128 := i64_and127 u
    by_cases hlt : -64 ≤ u ∧ u ≤ 63
    · have HU : Hid _ := sl_in hlt
      obtain ⟨hlo, hhi⟩ := hlt
      go_wp2_with (first
        | (at_builtin; refine append_byte _ rfl _ _ rfl w.heap.size _ xs rfl hown (u % 128) rfl (by omega) hbel.size ?_; intro v2 w2 hown2 hbel2))
      go_ret
      exact ⟨_, rfl, by rw [← hxs, HU.out]; exact hown2, hbel.trans hbel2⟩
    · have HU : Hid _ := sl_out hlt
      have HM : Hid (¬ (-64 ≤ u ∧ u ≤ 63)) := hlt
      clear hlt
      by_cases hlo : u < -64
      · go_wp2_with (first
          | (at_builtin; refine append_byte _ rfl _ _ rfl w.heap.size _ xs rfl hown (u % 128 + 128) rfl (by omega) hbel.size ?_; intro v2 w2 hown2 hbel2))
        go_roundw
        case rel => exact ⟨u / 128, xs ++ [u % 128 + 128], rfl, by omega, by rw [← hxs, HU.out]; simp, hown2, hbel.trans hbel2⟩
        case measure => have := HM.out; simp [intOf]; omega
      · have hhi : 63 < u := by have := HM.out; omega
        go_wp2_with (first
          | (at_builtin; refine append_byte _ rfl _ _ rfl w.heap.size _ xs rfl hown (u % 128 + 128) rfl (by omega) hbel.size ?_; intro v2 w2 hown2 hbel2))
        go_roundw
        case rel => exact ⟨u / 128, xs ++ [u % 128 + 128], rfl, by omega, by rw [← hxs, HU.out]; simp, hown2, hbel.trans hbel2⟩
        case measure => have := HM.out; simp [intOf]; omega
end Go.Proofs.Ytbhdledlahbokaa
