/- The contracts of the document's own Put and Get. The contracts of the document's own readers of numbers in groups. -/
import Derived.Test.YtomboebfbipaaaaDoorLebB
import Derived.Test.YtomboebfbipaaaaDoorLebA
namespace Go.Proofs.YtomboebfbipaaaaDoor
open Go.ChangeShapes Go.WideShapes Go.ChangeAt Go.RowKit
set_option linter.unusedVariables false

theorem rsized_yes (n : Int) (w : World) (h : n = 1 ∨ n = 2 ∨ n = 4 ∨ n = 8) :
    Calls Tryd.prog 56 #[.int .i64 n] w fun e w' => e = .returned (.bool true) ∧ w' = w := by
  rcases h with rfl | rfl | rfl | rfl
  all_goals
    go_enter Tryd.func56, Tryd.ntmps56
    go_wp2
    go_ret
    exact ⟨rfl, rfl⟩

theorem rsized_no (n : Int) (w : World) (h : ¬ (n = 1 ∨ n = 2 ∨ n = 4 ∨ n = 8)) :
    Calls Tryd.prog 56 #[.int .i64 n] w fun e w' => e = .returned (.bool false) ∧ w' = w := by
  have h1 : (n == 1) = false := by simp; omega
  have h2 : (n == 2) = false := by simp; omega
  have h4 : (n == 4) = false := by simp; omega
  have h8 : (n == 8) = false := by simp; omega
  clear h
  go_enter Tryd.func56, Tryd.ntmps56
  go_wp2
  go_ret
  exact ⟨rfl, rfl⟩

theorem rget_arg (ao : Option Addr) (len cap : Nat) (t s : Int) (sg : Bool) (w : World) (h : ¬ (s = 1 ∨ s = 2 ∨ s = 4 ∨ s = 8)) :
    Calls Tryd.prog 35 #[.slice ao len cap, .int .i64 t, .int .i64 s, .bool sg] w fun e w' => e = .returned (.tuple #[.int .i64 0, .int .i64 1]) ∧ w' = w := by
  have H : Hid (¬ (s = 1 ∨ s = 2 ∨ s = 4 ∨ s = 8)) := h
  clear h
  go_enter Tryd.func35, Tryd.ntmps35
  go_wp2_with (go_at_call 56; refine (rsized_no _ _ H.out).mono ?_; rintro e w' ⟨rfl, rfl⟩)
  go_ret2
  exact ⟨rfl, rfl⟩

theorem rget_end (ao : Option Addr) (len cap : Nat) (t s : Int) (sg : Bool) (w : World) (hl : len ≤ 140737488355328) (hs : s = 1 ∨ s = 2 ∨ s = 4 ∨ s = 8) (h : t < 0 ∨ (len : Int) - t < s) :
    Calls Tryd.prog 35 #[.slice ao len cap, .int .i64 t, .int .i64 s, .bool sg] w fun e w' => e = .returned (.tuple #[.int .i64 0, .int .i64 20]) ∧ w' = w := by
  have H : Hid (s = 1 ∨ s = 2 ∨ s = 4 ∨ s = 8) := hs
  have hs0 : 1 ≤ s := by omega
  have hs1 : s ≤ 8 := by omega
  clear hs
  by_cases h0 : t < 0
  · clear h
    go_enter Tryd.func35, Tryd.ntmps35
    go_wp2_with (go_at_call 56; refine (rsized_yes _ _ H.out).mono ?_; rintro e w' ⟨rfl, rfl⟩)
    go_ret2
    exact ⟨rfl, rfl⟩
  · have h1 : (len : Int) - t < s := by omega
    clear h
    by_cases h2 : (len : Int) < t
    · go_enter Tryd.func35, Tryd.ntmps35
      go_wp2_with (go_at_call 56; refine (rsized_yes _ _ H.out).mono ?_; rintro e w' ⟨rfl, rfl⟩)
      go_ret2
      exact ⟨rfl, rfl⟩
    · go_enter Tryd.func35, Tryd.ntmps35
      go_wp2_with (go_at_call 56; refine (rsized_yes _ _ H.out).mono ?_; rintro e w' ⟨rfl, rfl⟩)
      go_ret2
      exact ⟨rfl, rfl⟩

theorem rget_step (bs : Nat → Int) (hbs : ∀ i, 0 ≤ bs i ∧ bs i < 256) (a j M : Nat) (U : Int) (hj : j < M) (hM : M ≤ 8) (hU : U = bacc bs (a + (j + 1)) (M - (j + 1))) :
    Hid (bits .or .u64 (IntKind.u64.wrap (U * 256)) (IntKind.u64.wrap (bs (a + j))) = bacc bs (a + j) (M - j)) := by
  show _ = _
  have h := bacc_back bs hbs (a + j) (M - (j + 1)) (by omega)
  rw [hU, show a + (j + 1) = a + j + 1 from by omega, h, show M - (j + 1) + 1 = M - j from by omega]

theorem rget_next (j : Nat) : (j = 0 ∧ Value.int .i64 ((j : Int) - 1) = .int .i64 (-1)) ∨ ∃ j' : Nat, j = j' + 1 ∧ Value.int .i64 ((j : Int) - 1) = .int .i64 j' := by
  cases j with
  | zero => exact .inl ⟨rfl, rfl⟩
  | succ j => exact .inr ⟨j, rfl, by rw [show (((j + 1 : Nat) : Int) - 1) = (j : Int) from by omega]⟩

theorem gv_plain (bs : Nat → Int) (a s : Nat) : gval bs a s false = wrap64 (bacc bs a s) := rfl

theorem sx_1 (U : Int) (h0 : 0 ≤ U) (h1 : U ≤ 255) : sx (8 * 1) U = if 128 ≤ U then U - 256 else U := by
  show (U + 128) % 256 - 128 = _
  split <;> omega

theorem rget_1 (b off len cap a : Nat) (sg : Bool) (bs : Nat → Int) (w : World) (hl : len ≤ 140737488355328)
    (hcell : ∀ i, i < len → w.cell? ⟨b, off + i, none⟩ = some (.int .u8 (bs i))) (hbs : ∀ i, 0 ≤ bs i ∧ bs i < 256) (hin : a + 1 ≤ len) :
    Calls Tryd.prog 35 #[.slice (some ⟨b, off, none⟩) len cap, .int .i64 a, .int .i64 1, .bool sg] w fun e w' => e = .returned (.tuple #[.int .i64 (gval bs a 1 sg), .int .i64 0]) ∧ w' = w := by
  have HC : Hid (∀ i, i < len → w.cell? ⟨b, off + i, none⟩ = some (.int .u8 (bs i))) := hcell
  have HB : Hid (∀ i, 0 ≤ bs i ∧ bs i < 256) := hbs
  clear hcell hbs
  go_enter Tryd.func35, Tryd.ntmps35
  go_wp2_with (go_at_call 56; refine (rsized_yes _ _ (by decide)).mono ?_; rintro e w' ⟨rfl, rfl⟩)
  go_loop [10, 11] (fun u i => ∃ (k : Nat) (U : Int), k ≤ 1 ∧ u = .int .u64 U ∧ Hid (U = bacc bs (a + k) (1 - k)) ∧ ((k = 0 ∧ i = .int .i64 (-1)) ∨ ∃ j : Nat, k = j + 1 ∧ i = .int .i64 j)) (fun _ i => (intOf i + 1).toNat)
  case atStart => exact ⟨1, 0, by omega, rfl, rfl, .inr ⟨1 - 1, rfl, rfl⟩⟩
  case round =>
    obtain ⟨k, U, hk, rfl, HU, hki⟩ := hrel
    have hU := bacc_in bs HB.out (a + k) (1 - k)
    rw [← HU.out] at hU
    rcases hki with ⟨rfl, rfl⟩ | ⟨j, rfl, rfl⟩
    · have hU1 : 0 ≤ U := hU.1
      have hU2 : U ≤ 255 := by have := hU.2; simp at this; omega
      have HG : Hid (bacc bs a 1 = U) := HU.out.symm
      clear hU
      cases sg
      · go_wp2
        go_ret2
        exact ⟨ret_2i (by show U = wrap64 (bacc bs a 1); rw [HG.out]; unfold wrap64; omega) rfl, rfl⟩
      · by_cases hh : 128 ≤ U
        · go_wp2
          go_ret2
          exact ⟨ret_2i (by show U - 256 = sx (8 * 1) (bacc bs a 1); rw [HG.out, sx_1 U hU1 hU2, if_pos (by omega)]) rfl, rfl⟩
        · go_wp2
          go_ret2
          exact ⟨ret_2i (by show U = sx (8 * 1) (bacc bs a 1); rw [HG.out, sx_1 U hU1 hU2, if_neg (by omega)]) rfl, rfl⟩
    · have hcx := HC.out (a + j) (by omega)
      clear hU
      go_wp2
      go_round
      case rel => exact ⟨j, _, by omega, rfl, rget_step bs HB.out a j 1 U (by omega) (by omega) HU.out, rget_next j⟩
      case measure => simp [intOf] <;> omega
theorem sx_2 (U : Int) (h0 : 0 ≤ U) (h1 : U ≤ 65535) : sx (8 * 2) U = if 32768 ≤ U then U - 65536 else U := by
  show (U + 32768) % 65536 - 32768 = _
  split <;> omega

theorem rget_2 (b off len cap a : Nat) (sg : Bool) (bs : Nat → Int) (w : World) (hl : len ≤ 140737488355328)
    (hcell : ∀ i, i < len → w.cell? ⟨b, off + i, none⟩ = some (.int .u8 (bs i))) (hbs : ∀ i, 0 ≤ bs i ∧ bs i < 256) (hin : a + 2 ≤ len) :
    Calls Tryd.prog 35 #[.slice (some ⟨b, off, none⟩) len cap, .int .i64 a, .int .i64 2, .bool sg] w fun e w' => e = .returned (.tuple #[.int .i64 (gval bs a 2 sg), .int .i64 0]) ∧ w' = w := by
  have HC : Hid (∀ i, i < len → w.cell? ⟨b, off + i, none⟩ = some (.int .u8 (bs i))) := hcell
  have HB : Hid (∀ i, 0 ≤ bs i ∧ bs i < 256) := hbs
  clear hcell hbs
  go_enter Tryd.func35, Tryd.ntmps35
  go_wp2_with (go_at_call 56; refine (rsized_yes _ _ (by decide)).mono ?_; rintro e w' ⟨rfl, rfl⟩)
  go_loop [10, 11] (fun u i => ∃ (k : Nat) (U : Int), k ≤ 2 ∧ u = .int .u64 U ∧ Hid (U = bacc bs (a + k) (2 - k)) ∧ ((k = 0 ∧ i = .int .i64 (-1)) ∨ ∃ j : Nat, k = j + 1 ∧ i = .int .i64 j)) (fun _ i => (intOf i + 1).toNat)
  case atStart => exact ⟨2, 0, by omega, rfl, rfl, .inr ⟨2 - 1, rfl, rfl⟩⟩
  case round =>
    obtain ⟨k, U, hk, rfl, HU, hki⟩ := hrel
    have hU := bacc_in bs HB.out (a + k) (2 - k)
    rw [← HU.out] at hU
    rcases hki with ⟨rfl, rfl⟩ | ⟨j, rfl, rfl⟩
    · have hU1 : 0 ≤ U := hU.1
      have hU2 : U ≤ 65535 := by have := hU.2; simp at this; omega
      have HG : Hid (bacc bs a 2 = U) := HU.out.symm
      clear hU
      cases sg
      · go_wp2
        go_ret2
        exact ⟨ret_2i (by show U = wrap64 (bacc bs a 2); rw [HG.out]; unfold wrap64; omega) rfl, rfl⟩
      · by_cases hh : 32768 ≤ U
        · go_wp2
          go_ret2
          exact ⟨ret_2i (by show U - 65536 = sx (8 * 2) (bacc bs a 2); rw [HG.out, sx_2 U hU1 hU2, if_pos (by omega)]) rfl, rfl⟩
        · go_wp2
          go_ret2
          exact ⟨ret_2i (by show U = sx (8 * 2) (bacc bs a 2); rw [HG.out, sx_2 U hU1 hU2, if_neg (by omega)]) rfl, rfl⟩
    · have hcx := HC.out (a + j) (by omega)
      clear hU
      go_wp2
      go_round
      case rel => exact ⟨j, _, by omega, rfl, rget_step bs HB.out a j 2 U (by omega) (by omega) HU.out, rget_next j⟩
      case measure => simp [intOf] <;> omega
theorem sx_4 (U : Int) (h0 : 0 ≤ U) (h1 : U ≤ 4294967295) : sx (8 * 4) U = if 2147483648 ≤ U then U - 4294967296 else U := by
  show (U + 2147483648) % 4294967296 - 2147483648 = _
  split <;> omega

theorem rget_4 (b off len cap a : Nat) (sg : Bool) (bs : Nat → Int) (w : World) (hl : len ≤ 140737488355328)
    (hcell : ∀ i, i < len → w.cell? ⟨b, off + i, none⟩ = some (.int .u8 (bs i))) (hbs : ∀ i, 0 ≤ bs i ∧ bs i < 256) (hin : a + 4 ≤ len) :
    Calls Tryd.prog 35 #[.slice (some ⟨b, off, none⟩) len cap, .int .i64 a, .int .i64 4, .bool sg] w fun e w' => e = .returned (.tuple #[.int .i64 (gval bs a 4 sg), .int .i64 0]) ∧ w' = w := by
  have HC : Hid (∀ i, i < len → w.cell? ⟨b, off + i, none⟩ = some (.int .u8 (bs i))) := hcell
  have HB : Hid (∀ i, 0 ≤ bs i ∧ bs i < 256) := hbs
  clear hcell hbs
  go_enter Tryd.func35, Tryd.ntmps35
  go_wp2_with (go_at_call 56; refine (rsized_yes _ _ (by decide)).mono ?_; rintro e w' ⟨rfl, rfl⟩)
  go_loop [10, 11] (fun u i => ∃ (k : Nat) (U : Int), k ≤ 4 ∧ u = .int .u64 U ∧ Hid (U = bacc bs (a + k) (4 - k)) ∧ ((k = 0 ∧ i = .int .i64 (-1)) ∨ ∃ j : Nat, k = j + 1 ∧ i = .int .i64 j)) (fun _ i => (intOf i + 1).toNat)
  case atStart => exact ⟨4, 0, by omega, rfl, rfl, .inr ⟨4 - 1, rfl, rfl⟩⟩
  case round =>
    obtain ⟨k, U, hk, rfl, HU, hki⟩ := hrel
    have hU := bacc_in bs HB.out (a + k) (4 - k)
    rw [← HU.out] at hU
    rcases hki with ⟨rfl, rfl⟩ | ⟨j, rfl, rfl⟩
    · have hU1 : 0 ≤ U := hU.1
      have hU2 : U ≤ 4294967295 := by have := hU.2; simp at this; omega
      have HG : Hid (bacc bs a 4 = U) := HU.out.symm
      clear hU
      cases sg
      · go_wp2
        go_ret2
        exact ⟨ret_2i (by show U = wrap64 (bacc bs a 4); rw [HG.out]; unfold wrap64; omega) rfl, rfl⟩
      · by_cases hh : 2147483648 ≤ U
        · go_wp2
          go_ret2
          exact ⟨ret_2i (by show U - 4294967296 = sx (8 * 4) (bacc bs a 4); rw [HG.out, sx_4 U hU1 hU2, if_pos (by omega)]) rfl, rfl⟩
        · go_wp2
          go_ret2
          exact ⟨ret_2i (by show U = sx (8 * 4) (bacc bs a 4); rw [HG.out, sx_4 U hU1 hU2, if_neg (by omega)]) rfl, rfl⟩
    · have hcx := HC.out (a + j) (by omega)
      clear hU
      go_wp2
      go_round
      case rel => exact ⟨j, _, by omega, rfl, rget_step bs HB.out a j 4 U (by omega) (by omega) HU.out, rget_next j⟩
      case measure => simp [intOf] <;> omega

theorem rget_8 (b off len cap a : Nat) (sg : Bool) (bs : Nat → Int) (w : World) (hl : len ≤ 140737488355328)
    (hcell : ∀ i, i < len → w.cell? ⟨b, off + i, none⟩ = some (.int .u8 (bs i))) (hbs : ∀ i, 0 ≤ bs i ∧ bs i < 256) (hin : a + 8 ≤ len) :
    Calls Tryd.prog 35 #[.slice (some ⟨b, off, none⟩) len cap, .int .i64 a, .int .i64 8, .bool sg] w fun e w' => e = .returned (.tuple #[.int .i64 (gval bs a 8 sg), .int .i64 0]) ∧ w' = w := by
  have HC : Hid (∀ i, i < len → w.cell? ⟨b, off + i, none⟩ = some (.int .u8 (bs i))) := hcell
  have HB : Hid (∀ i, 0 ≤ bs i ∧ bs i < 256) := hbs
  clear hcell hbs
  go_enter Tryd.func35, Tryd.ntmps35
  go_wp2_with (go_at_call 56; refine (rsized_yes _ _ (by decide)).mono ?_; rintro e w' ⟨rfl, rfl⟩)
  go_loop [10, 11] (fun u i => ∃ (k : Nat) (U : Int), k ≤ 8 ∧ u = .int .u64 U ∧ Hid (U = bacc bs (a + k) (8 - k)) ∧ ((k = 0 ∧ i = .int .i64 (-1)) ∨ ∃ j : Nat, k = j + 1 ∧ i = .int .i64 j)) (fun _ i => (intOf i + 1).toNat)
  case atStart => exact ⟨8, 0, by omega, rfl, rfl, .inr ⟨8 - 1, rfl, rfl⟩⟩
  case round =>
    obtain ⟨k, U, hk, rfl, HU, hki⟩ := hrel
    rcases hki with ⟨rfl, rfl⟩ | ⟨j, rfl, rfl⟩
    · have HG : Hid (bacc bs a 8 = U) := HU.out.symm
      cases sg
      · go_wp2
        go_ret2
        exact ⟨ret_2i (by show wrap64 U = wrap64 (bacc bs a 8); rw [HG.out]) rfl, rfl⟩
      · go_wp2
        go_ret2
        exact ⟨ret_2i (by show wrap64 U = sx 64 (bacc bs a 8); rw [HG.out, sx64]) rfl, rfl⟩
    · have hcx := HC.out (a + j) (by omega)
      go_wp2
      go_round
      case rel => exact ⟨j, _, by omega, rfl, rget_step bs HB.out a j 8 U (by omega) (by omega) HU.out, rget_next j⟩
      case measure => simp [intOf] <;> omega

theorem rget_ok (ao : Option Addr) (len cap a s : Nat) (sg : Bool) (bs : Nat → Int) (w : World) (hr : Row w ao len bs) (hbs : ∀ i, 0 ≤ bs i ∧ bs i < 256) (hl : len ≤ 140737488355328) (hs : s = 1 ∨ s = 2 ∨ s = 4 ∨ s = 8) (hin : a + s ≤ len) :
    Calls Tryd.prog 35 #[.slice ao len cap, .int .i64 a, .int .i64 s, .bool sg] w fun e w' => e = .returned (.tuple #[.int .i64 (gval bs a s sg), .int .i64 0]) ∧ w' = w := by
  rcases hr with hr | ⟨b, off, rfl, hc⟩
  · omega
  · rcases hs with rfl | rfl | rfl | rfl
    · exact rget_1 b off len cap a sg bs w hl hc hbs hin
    · exact rget_2 b off len cap a sg bs w hl hc hbs hin
    · exact rget_4 b off len cap a sg bs w hl hc hbs hin
    · exact rget_8 b off len cap a sg bs w hl hc hbs hin

/-- The bytes of a number, the low one first. -/
def pl (n : Int) (s : Nat) : List Int := (List.range s).map fun j => n / 2 ^ (8 * j) % 256

theorem part_full (n : Int) (s : Nat) : part n s s = (pl n s).map (Value.int .u8) := by
  unfold part pl
  rw [List.map_map]
  apply List.map_congr_left
  intro j hj
  simp only [List.mem_range] at hj
  simp [hj]

theorem pl_len (n : Int) (s : Nat) : (pl n s).length = s := by simp [pl]
theorem pl_succ (n : Int) (s : Nat) : pl n (s + 1) = pl n s ++ [n / 2 ^ (8 * s) % 256] := by simp [pl, List.range_succ]

theorem digit_mod (n : Int) (j : Nat) (hj : j < 8) : n % 18446744073709551616 / 2 ^ (8 * j) % 256 = n / 2 ^ (8 * j) % 256 := by
  obtain ⟨d, hd⟩ : ∃ d, 8 = j + 1 + d := ⟨8 - j - 1, by omega⟩
  have e : (18446744073709551616 : Int) = 2 ^ (8 * j) * (256 * 2 ^ (8 * d)) := by
    have : (18446744073709551616 : Int) = 2 ^ (8 * 8) := by decide
    rw [this, show 8 * 8 = 8 * j + (8 + 8 * d) from by omega, Int.pow_add, Int.pow_add]; rfl
  rw [e]
  exact mod_div_mod _ _ _ (Int.ne_of_gt (pow_pos_i _))

theorem rput_arg (n s : Int) (w : World) (h : ¬ (s = 1 ∨ s = 2 ∨ s = 4 ∨ s = 8)) :
    Calls Tryd.prog 31 #[.int .i64 n, .int .i64 s] w fun e w' => e = .returned (.tuple #[.slice none 0 0, .int .i64 1]) ∧ w' = w := by
  have H : Hid (¬ (s = 1 ∨ s = 2 ∨ s = 4 ∨ s = 8)) := h
  clear h
  go_enter Tryd.func31, Tryd.ntmps31
  go_wp2_with (go_at_call 56; refine (rsized_no _ _ H.out).mono ?_; rintro e w' ⟨rfl, rfl⟩)
  go_ret2
  exact ⟨rfl, rfl⟩

theorem rput_range_1 (n : Int) (w : World) (h : n < -128 ∨ 256 ≤ n) :
    Calls Tryd.prog 31 #[.int .i64 n, .int .i64 1] w fun e w' => e = .returned (.tuple #[.slice none 0 0, .int .i64 11]) ∧ w' = w := by
  by_cases h0 : n < -128
  · clear h
    go_enter Tryd.func31, Tryd.ntmps31
    go_wp2_with (go_at_call 56; refine (rsized_yes _ _ (by decide)).mono ?_; rintro e w' ⟨rfl, rfl⟩)
    go_ret2
    exact ⟨rfl, rfl⟩
  · have h1 : 256 ≤ n := by omega
    clear h
    go_enter Tryd.func31, Tryd.ntmps31
    go_wp2_with (go_at_call 56; refine (rsized_yes _ _ (by decide)).mono ?_; rintro e w' ⟨rfl, rfl⟩)
    go_ret2
    exact ⟨rfl, rfl⟩
theorem rput_range_2 (n : Int) (w : World) (h : n < -32768 ∨ 65536 ≤ n) :
    Calls Tryd.prog 31 #[.int .i64 n, .int .i64 2] w fun e w' => e = .returned (.tuple #[.slice none 0 0, .int .i64 11]) ∧ w' = w := by
  by_cases h0 : n < -32768
  · clear h
    go_enter Tryd.func31, Tryd.ntmps31
    go_wp2_with (go_at_call 56; refine (rsized_yes _ _ (by decide)).mono ?_; rintro e w' ⟨rfl, rfl⟩)
    go_ret2
    exact ⟨rfl, rfl⟩
  · have h1 : 65536 ≤ n := by omega
    clear h
    go_enter Tryd.func31, Tryd.ntmps31
    go_wp2_with (go_at_call 56; refine (rsized_yes _ _ (by decide)).mono ?_; rintro e w' ⟨rfl, rfl⟩)
    go_ret2
    exact ⟨rfl, rfl⟩
theorem rput_range_4 (n : Int) (w : World) (h : n < -2147483648 ∨ 4294967296 ≤ n) :
    Calls Tryd.prog 31 #[.int .i64 n, .int .i64 4] w fun e w' => e = .returned (.tuple #[.slice none 0 0, .int .i64 11]) ∧ w' = w := by
  by_cases h0 : n < -2147483648
  · clear h
    go_enter Tryd.func31, Tryd.ntmps31
    go_wp2_with (go_at_call 56; refine (rsized_yes _ _ (by decide)).mono ?_; rintro e w' ⟨rfl, rfl⟩)
    go_ret2
    exact ⟨rfl, rfl⟩
  · have h1 : 4294967296 ≤ n := by omega
    clear h
    go_enter Tryd.func31, Tryd.ntmps31
    go_wp2_with (go_at_call 56; refine (rsized_yes _ _ (by decide)).mono ?_; rintro e w' ⟨rfl, rfl⟩)
    go_ret2
    exact ⟨rfl, rfl⟩

theorem rput_1 (n : Int) (w : World) (hc : -128 ≤ n ∧ n < 256) :
    Calls Tryd.prog 31 #[.int .i64 n, .int .i64 1] w fun e w' => ∃ v, e = .returned (.tuple #[v, .int .i64 0]) ∧ Own w' w.heap.size v (pl n 1) ∧ Below w.heap.size w w' := by
  obtain ⟨m, hm⟩ : ∃ m : Int, m = n % 18446744073709551616 := ⟨_, rfl⟩
  have HM : Hid (m = n % 18446744073709551616) := hm
  have hm' : IntKind.u64.wrap n = m := by rw [IntKind.wrap_u64]; exact hm.symm
  have hm0 : 0 ≤ m := by omega
  clear hm
  go_enter Tryd.func31, Tryd.ntmps31
  go_wp2_with (go_at_call 56; refine (rsized_yes _ _ (by decide)).mono ?_; rintro e w' ⟨rfl, rfl⟩)
  go_loopw [6, 7, 8] (fun u v i wr => ∃ (k : Nat) (U : Int), k ≤ 1 ∧ u = .int .u64 U ∧ i = .int .i64 k ∧ Hid (U = m / 2 ^ (8 * k)) ∧ Own wr w'.heap.size v (pl n k) ∧ Below w'.heap.size w' wr) (fun _ _ i _ => 1 - (intOf i).toNat)
  case atStart => exact ⟨0, m, by omega, rfl, rfl, by simp [Hid], Own.nil _ _, Below.refl _ _⟩
  case round =>
    obtain ⟨k, U, hk, rfl, rfl, HU, hown, hbel⟩ := hrel
    clear hm' hc
    by_cases hlt : k < 1
    · have hl2 := pl_len n k
      have HD : Hid (U % 256 = n / 2 ^ (8 * k) % 256) := by show U % 256 = _; rw [HU.out, HM.out]; exact digit_mod n k (by omega)
      have HN : Hid (U / 256 = m / 2 ^ (8 * (k + 1))) := by
        show U / 256 = _
        rw [HU.out, show 8 * (k + 1) = 8 * k + 8 from by omega, Int.pow_add, ← Int.ediv_ediv_of_nonneg (Int.le_of_lt (pow_pos_i _))]; rfl
      go_wp2_with (first
        | (at_builtin; refine append_byte _ rfl _ _ rfl w'.heap.size _ (pl n k) rfl hown (U % 256) rfl (by omega) hbel.size ?_; intro v2 w2 hown2 hbel2))
      go_roundw
      case rel => exact ⟨k + 1, U / 256, by omega, rfl, by go_num, HN, by rw [pl_succ, ← HD.out]; exact hown2, hbel.trans hbel2⟩
      case measure => simp [intOf]; omega
    · obtain rfl : k = 1 := by omega
      go_wp2
      go_ret2
      exact ⟨_, rfl, hown, hbel⟩
theorem rput_2 (n : Int) (w : World) (hc : -32768 ≤ n ∧ n < 65536) :
    Calls Tryd.prog 31 #[.int .i64 n, .int .i64 2] w fun e w' => ∃ v, e = .returned (.tuple #[v, .int .i64 0]) ∧ Own w' w.heap.size v (pl n 2) ∧ Below w.heap.size w w' := by
  obtain ⟨m, hm⟩ : ∃ m : Int, m = n % 18446744073709551616 := ⟨_, rfl⟩
  have HM : Hid (m = n % 18446744073709551616) := hm
  have hm' : IntKind.u64.wrap n = m := by rw [IntKind.wrap_u64]; exact hm.symm
  have hm0 : 0 ≤ m := by omega
  clear hm
  go_enter Tryd.func31, Tryd.ntmps31
  go_wp2_with (go_at_call 56; refine (rsized_yes _ _ (by decide)).mono ?_; rintro e w' ⟨rfl, rfl⟩)
  go_loopw [6, 7, 8] (fun u v i wr => ∃ (k : Nat) (U : Int), k ≤ 2 ∧ u = .int .u64 U ∧ i = .int .i64 k ∧ Hid (U = m / 2 ^ (8 * k)) ∧ Own wr w'.heap.size v (pl n k) ∧ Below w'.heap.size w' wr) (fun _ _ i _ => 2 - (intOf i).toNat)
  case atStart => exact ⟨0, m, by omega, rfl, rfl, by simp [Hid], Own.nil _ _, Below.refl _ _⟩
  case round =>
    obtain ⟨k, U, hk, rfl, rfl, HU, hown, hbel⟩ := hrel
    clear hm' hc
    by_cases hlt : k < 2
    · have hl2 := pl_len n k
      have HD : Hid (U % 256 = n / 2 ^ (8 * k) % 256) := by show U % 256 = _; rw [HU.out, HM.out]; exact digit_mod n k (by omega)
      have HN : Hid (U / 256 = m / 2 ^ (8 * (k + 1))) := by
        show U / 256 = _
        rw [HU.out, show 8 * (k + 1) = 8 * k + 8 from by omega, Int.pow_add, ← Int.ediv_ediv_of_nonneg (Int.le_of_lt (pow_pos_i _))]; rfl
      go_wp2_with (first
        | (at_builtin; refine append_byte _ rfl _ _ rfl w'.heap.size _ (pl n k) rfl hown (U % 256) rfl (by omega) hbel.size ?_; intro v2 w2 hown2 hbel2))
      go_roundw
      case rel => exact ⟨k + 1, U / 256, by omega, rfl, by go_num, HN, by rw [pl_succ, ← HD.out]; exact hown2, hbel.trans hbel2⟩
      case measure => simp [intOf]; omega
    · obtain rfl : k = 2 := by omega
      go_wp2
      go_ret2
      exact ⟨_, rfl, hown, hbel⟩
theorem rput_4 (n : Int) (w : World) (hc : -2147483648 ≤ n ∧ n < 4294967296) :
    Calls Tryd.prog 31 #[.int .i64 n, .int .i64 4] w fun e w' => ∃ v, e = .returned (.tuple #[v, .int .i64 0]) ∧ Own w' w.heap.size v (pl n 4) ∧ Below w.heap.size w w' := by
  obtain ⟨m, hm⟩ : ∃ m : Int, m = n % 18446744073709551616 := ⟨_, rfl⟩
  have HM : Hid (m = n % 18446744073709551616) := hm
  have hm' : IntKind.u64.wrap n = m := by rw [IntKind.wrap_u64]; exact hm.symm
  have hm0 : 0 ≤ m := by omega
  clear hm
  go_enter Tryd.func31, Tryd.ntmps31
  go_wp2_with (go_at_call 56; refine (rsized_yes _ _ (by decide)).mono ?_; rintro e w' ⟨rfl, rfl⟩)
  go_loopw [6, 7, 8] (fun u v i wr => ∃ (k : Nat) (U : Int), k ≤ 4 ∧ u = .int .u64 U ∧ i = .int .i64 k ∧ Hid (U = m / 2 ^ (8 * k)) ∧ Own wr w'.heap.size v (pl n k) ∧ Below w'.heap.size w' wr) (fun _ _ i _ => 4 - (intOf i).toNat)
  case atStart => exact ⟨0, m, by omega, rfl, rfl, by simp [Hid], Own.nil _ _, Below.refl _ _⟩
  case round =>
    obtain ⟨k, U, hk, rfl, rfl, HU, hown, hbel⟩ := hrel
    clear hm' hc
    by_cases hlt : k < 4
    · have hl2 := pl_len n k
      have HD : Hid (U % 256 = n / 2 ^ (8 * k) % 256) := by show U % 256 = _; rw [HU.out, HM.out]; exact digit_mod n k (by omega)
      have HN : Hid (U / 256 = m / 2 ^ (8 * (k + 1))) := by
        show U / 256 = _
        rw [HU.out, show 8 * (k + 1) = 8 * k + 8 from by omega, Int.pow_add, ← Int.ediv_ediv_of_nonneg (Int.le_of_lt (pow_pos_i _))]; rfl
      go_wp2_with (first
        | (at_builtin; refine append_byte _ rfl _ _ rfl w'.heap.size _ (pl n k) rfl hown (U % 256) rfl (by omega) hbel.size ?_; intro v2 w2 hown2 hbel2))
      go_roundw
      case rel => exact ⟨k + 1, U / 256, by omega, rfl, by go_num, HN, by rw [pl_succ, ← HD.out]; exact hown2, hbel.trans hbel2⟩
      case measure => simp [intOf]; omega
    · obtain rfl : k = 4 := by omega
      go_wp2
      go_ret2
      exact ⟨_, rfl, hown, hbel⟩
theorem rput_8 (n : Int) (w : World) (hc : True) :
    Calls Tryd.prog 31 #[.int .i64 n, .int .i64 8] w fun e w' => ∃ v, e = .returned (.tuple #[v, .int .i64 0]) ∧ Own w' w.heap.size v (pl n 8) ∧ Below w.heap.size w w' := by
  obtain ⟨m, hm⟩ : ∃ m : Int, m = n % 18446744073709551616 := ⟨_, rfl⟩
  have HM : Hid (m = n % 18446744073709551616) := hm
  have hm' : IntKind.u64.wrap n = m := by rw [IntKind.wrap_u64]; exact hm.symm
  have hm0 : 0 ≤ m := by omega
  clear hm
  go_enter Tryd.func31, Tryd.ntmps31
  go_wp2_with (go_at_call 56; refine (rsized_yes _ _ (by decide)).mono ?_; rintro e w' ⟨rfl, rfl⟩)
  go_loopw [6, 7, 8] (fun u v i wr => ∃ (k : Nat) (U : Int), k ≤ 8 ∧ u = .int .u64 U ∧ i = .int .i64 k ∧ Hid (U = m / 2 ^ (8 * k)) ∧ Own wr w'.heap.size v (pl n k) ∧ Below w'.heap.size w' wr) (fun _ _ i _ => 8 - (intOf i).toNat)
  case atStart => exact ⟨0, m, by omega, rfl, rfl, by simp [Hid], Own.nil _ _, Below.refl _ _⟩
  case round =>
    obtain ⟨k, U, hk, rfl, rfl, HU, hown, hbel⟩ := hrel
    clear hm' hc
    by_cases hlt : k < 8
    · have hl2 := pl_len n k
      have HD : Hid (U % 256 = n / 2 ^ (8 * k) % 256) := by show U % 256 = _; rw [HU.out, HM.out]; exact digit_mod n k (by omega)
      have HN : Hid (U / 256 = m / 2 ^ (8 * (k + 1))) := by
        show U / 256 = _
        rw [HU.out, show 8 * (k + 1) = 8 * k + 8 from by omega, Int.pow_add, ← Int.ediv_ediv_of_nonneg (Int.le_of_lt (pow_pos_i _))]; rfl
      go_wp2_with (first
        | (at_builtin; refine append_byte _ rfl _ _ rfl w'.heap.size _ (pl n k) rfl hown (U % 256) rfl (by omega) hbel.size ?_; intro v2 w2 hown2 hbel2))
      go_roundw
      case rel => exact ⟨k + 1, U / 256, by omega, rfl, by go_num, HN, by rw [pl_succ, ← HD.out]; exact hown2, hbel.trans hbel2⟩
      case measure => simp [intOf]; omega
    · obtain rfl : k = 8 := by omega
      go_wp2
      go_ret2
      exact ⟨_, rfl, hown, hbel⟩

theorem rgroups_num (b off len cap a c : Nat) (bs : Nat → Int) (w : World) (hl : len ≤ 140737488355328)
    (hcell : ∀ i, i < len → w.cell? ⟨b, off + i, none⟩ = some (.int .u8 (bs i))) (h : Num len bs a c) :
    Calls Tryd.prog 60 #[.slice (some ⟨b, off, none⟩) len cap, .int .i64 a] w fun e w' => e = .returned (.int .i64 c) ∧ w' = w := by
  obtain ⟨hc1, hc2, hc3, hhi, hlo⟩ := h
  have HC : Hid (∀ i, i < len → w.cell? ⟨b, off + i, none⟩ = some (.int .u8 (bs i))) := hcell
  have HH : Hid (∀ j, j + 1 < c → 128 ≤ bs (a + j)) := hhi
  have HL : Hid (bs (a + (c - 1)) < 128) := hlo
  clear hcell hhi hlo
  go_enter Tryd.func60, Tryd.ntmps60
  go_wp2
  go_loop [5] (fun i => ∃ j : Nat, a ≤ j ∧ j < a + c ∧ i = .int .i64 j) (fun i => len - (intOf i).toNat)
  case atStart => exact ⟨a, by omega, by omega, rfl⟩
  case round =>
    obtain ⟨j, hj0, hj1, rfl⟩ := hrel
    have hcx := HC.out j (by omega)
    by_cases hlt : j + 1 < a + c
    · have h128 := HH.out (j - a) (by omega)
      rw [show a + (j - a) = j from by omega] at h128
      have h10 : ((j : Int) - (a : Int) == 10) = false := by simp; omega
      go_wp2
      go_round
      case rel => exact ⟨j + 1, by omega, by omega, by go_num⟩
      case measure => simp [intOf]; omega
    · have h128 : bs j < 128 := by have := HL.out; rw [show a + (c - 1) = j from by omega] at this; exact this
      go_wp2
      go_ret
      exact ⟨ret_int (by omega), rfl⟩

theorem rgroups_long (b off len cap a : Nat) (bs : Nat → Int) (w : World) (hl : len ≤ 140737488355328)
    (hcell : ∀ i, i < len → w.cell? ⟨b, off + i, none⟩ = some (.int .u8 (bs i))) (hend : a + 11 ≤ len) (hhi : ∀ j, j < 10 → 128 ≤ bs (a + j)) :
    Calls Tryd.prog 60 #[.slice (some ⟨b, off, none⟩) len cap, .int .i64 a] w fun e w' => e = .returned (.int .i64 11) ∧ w' = w := by
  have HC : Hid (∀ i, i < len → w.cell? ⟨b, off + i, none⟩ = some (.int .u8 (bs i))) := hcell
  have HH : Hid (∀ j, j < 10 → 128 ≤ bs (a + j)) := hhi
  clear hcell hhi
  go_enter Tryd.func60, Tryd.ntmps60
  go_wp2
  go_loop [5] (fun i => ∃ j : Nat, a ≤ j ∧ j ≤ a + 10 ∧ i = .int .i64 j) (fun i => len - (intOf i).toNat)
  case atStart => exact ⟨a, by omega, by omega, rfl⟩
  case round =>
    obtain ⟨j, hj0, hj1, rfl⟩ := hrel
    have hcx := HC.out j (by omega)
    by_cases hlt : j < a + 10
    · have h128 := HH.out (j - a) (by omega)
      rw [show a + (j - a) = j from by omega] at h128
      have h10 : ((j : Int) - (a : Int) == 10) = false := by simp; omega
      go_wp2
      go_round
      case rel => exact ⟨j + 1, by omega, by omega, by go_num⟩
      case measure => simp [intOf]; omega
    · have hj : j = a + 10 := by omega
      have HJ : Hid (j = a + 10) := hj
      clear hj
      by_cases hb : bs j < 128
      all_goals
        go_wp2
        go_ret
        exact ⟨ret_int (by have := HJ.out; omega), rfl⟩

theorem rgroups_end (b off len cap a : Nat) (bs : Nat → Int) (w : World) (hl : len ≤ 140737488355328) (ha : a ≤ len)
    (hcell : ∀ i, i < len → w.cell? ⟨b, off + i, none⟩ = some (.int .u8 (bs i))) (hend : len ≤ a + 10) (hhi : ∀ j, a + j < len → 128 ≤ bs (a + j)) :
    Calls Tryd.prog 60 #[.slice (some ⟨b, off, none⟩) len cap, .int .i64 a] w fun e w' => e = .returned (.int .i64 0) ∧ w' = w := by
  have HC : Hid (∀ i, i < len → w.cell? ⟨b, off + i, none⟩ = some (.int .u8 (bs i))) := hcell
  have HH : Hid (∀ j, a + j < len → 128 ≤ bs (a + j)) := hhi
  clear hcell hhi
  go_enter Tryd.func60, Tryd.ntmps60
  go_wp2
  go_loop [5] (fun i => ∃ j : Nat, a ≤ j ∧ j ≤ len ∧ i = .int .i64 j) (fun i => len - (intOf i).toNat)
  case atStart => exact ⟨a, by omega, by omega, rfl⟩
  case round =>
    obtain ⟨j, hj0, hj1, rfl⟩ := hrel
    by_cases hlt : j < len
    · have hcx := HC.out j (by omega)
      have h128 := HH.out (j - a) (by omega)
      rw [show a + (j - a) = j from by omega] at h128
      have h10 : ((j : Int) - (a : Int) == 10) = false := by simp; omega
      go_wp2
      go_round
      case rel => exact ⟨j + 1, by omega, by omega, by go_num⟩
      case measure => simp [intOf]; omega
    · go_wp2
      go_ret
      exact ⟨rfl, rfl⟩

theorem rgroups_out (ao : Option Addr) (len cap : Nat) (t : Int) (w : World) (hl : len ≤ 140737488355328) (h : t < 0 ∨ (len : Int) < t) :
    Calls Tryd.prog 60 #[.slice ao len cap, .int .i64 t] w fun e w' => e = .returned (.int .i64 0) ∧ w' = w := by
  by_cases h0 : t < 0
  · clear h
    go_enter Tryd.func60, Tryd.ntmps60
    go_wp2
    go_ret
    exact ⟨rfl, rfl⟩
  · have h1 : (len : Int) < t := by omega
    clear h
    go_enter Tryd.func60, Tryd.ntmps60
    go_wp2
    go_ret
    exact ⟨rfl, rfl⟩

theorem rgroups_nil (ao : Option Addr) (cap : Nat) (w : World) :
    Calls Tryd.prog 60 #[.slice ao 0 cap, .int .i64 0] w fun e w' => e = .returned (.int .i64 0) ∧ w' = w := by
  go_enter Tryd.func60, Tryd.ntmps60
  go_wp2
  go_loop [5] (fun i => i = .int .i64 0) (fun i => 0)
  case atStart => rfl
  case round =>
    subst hrel
    go_wp2
    go_ret
    exact ⟨rfl, rfl⟩

theorem rgroups_fin (ao : Option Addr) (len cap : Nat) (bs : Nat → Int) (t : Int) (w : World) (hr : Row w ao len bs) (hl : len ≤ 140737488355328) (h : Fin len bs t) :
    Calls Tryd.prog 60 #[.slice ao len cap, .int .i64 t] w fun e w' => e = .returned (.int .i64 0) ∧ w' = w := by
  rcases h with h | ⟨a, rfl, h1, h2⟩
  · exact rgroups_out ao len cap t w hl (.inl h)
  · by_cases ho : len < a
    · exact rgroups_out ao len cap a w hl (.inr (by omega))
    · by_cases h0 : len = 0
      · subst h0
        obtain rfl : a = 0 := by omega
        exact rgroups_nil ao cap w
      · rcases hr with hr | ⟨b, off, rfl, hc⟩
        · exact absurd hr h0
        · exact rgroups_end b off len cap a bs w hl (by omega) hc h1 h2

theorem rraw_any (b off len cap a c : Nat) (bs : Nat → Int) (w : World) (hl : len ≤ 140737488355328)
    (hcell : ∀ i, i < len → w.cell? ⟨b, off + i, none⟩ = some (.int .u8 (bs i))) (hbs : ∀ i, 0 ≤ bs i ∧ bs i < 256) (hc : c ≤ 10) (hc3 : a + c ≤ len) :
    Calls Tryd.prog 61 #[.slice (some ⟨b, off, none⟩) len cap, .int .i64 a, .int .i64 c] w fun e w' => e = .returned (.int .u64 (uacc bs a c % 18446744073709551616)) ∧ w' = w := by
  have HC : Hid (∀ i, i < len → w.cell? ⟨b, off + i, none⟩ = some (.int .u8 (bs i))) := hcell
  have HB : Hid (∀ i, 0 ≤ bs i ∧ bs i < 256) := hbs
  clear hcell hbs
  go_enter Tryd.func61, Tryd.ntmps61
  go_wp2
  go_loop [7, 8] (fun n i => ∃ k : Nat, k ≤ c ∧ i = .int .i64 k ∧ n = .int .u64 (uacc bs a k % 18446744073709551616)) (fun _ i => 10 - (intOf i).toNat)
  case atStart => exact ⟨0, by omega, rfl, rfl⟩
  case round =>
    obtain ⟨k, hk, rfl, rfl⟩ := hrel
    by_cases hlt : k < c
    · have hcx := HC.out (a + k) (by omega)
      go_wp2
      go_round
      case rel => exact ⟨k + 1, by omega, by go_num, by rw [uacc_step_u64 bs a k (by omega) (HB.out _).1 (HB.out _).2]⟩
      case measure => simp [intOf]; omega
    · obtain rfl : k = c := by omega
      go_wp2
      go_ret
      exact ⟨rfl, rfl⟩

theorem rreadU_num (b off len cap a c : Nat) (bs : Nat → Int) (w : World) (hl : len ≤ 140737488355328)
    (hcell : ∀ i, i < len → w.cell? ⟨b, off + i, none⟩ = some (.int .u8 (bs i))) (hbs : ∀ i, 0 ≤ bs i ∧ bs i < 256) (h : Num len bs a c) (ht : c = 10 → bs (a + 9) ≤ 1) :
    Calls Tryd.prog 33 #[.slice (some ⟨b, off, none⟩) len cap, .int .i64 a] w fun e w' => e = .returned (.tuple #[.int .i64 (wrap64 (uacc bs a c)), .int .i64 (a + c), .int .i64 0]) ∧ w' = w := by
  have G := rgroups_num b off len cap a c bs w hl hcell h
  have R := rraw_any b off len cap a c bs w hl hcell hbs h.2.1 h.2.2.1
  have V : Hid (wrap64 (uacc bs a c % 18446744073709551616) = wrap64 (uacc bs a c)) := wrap64_of_mod _
  obtain ⟨h1, h2, h3, -, -⟩ := h
  by_cases h10 : c = 10
  · subst h10
    have hcx := hcell (a + 9) (by omega)
    have h9 := ht rfl
    clear hcell hbs ht
    go_enter Tryd.func33, Tryd.ntmps33
    go_wp2_with (first
      | (go_at_call 60; refine G.mono ?_; rintro e w' ⟨rfl, rfl⟩)
      | (go_at_call 61; refine R.mono ?_; rintro e w' ⟨rfl, rfl⟩))
    go_ret3
    exact ⟨ret_3i V.out rfl rfl, rfl⟩
  · clear hcell hbs ht
    go_enter Tryd.func33, Tryd.ntmps33
    go_wp2_with (first
      | (go_at_call 60; refine G.mono ?_; rintro e w' ⟨rfl, rfl⟩)
      | (go_at_call 61; refine R.mono ?_; rintro e w' ⟨rfl, rfl⟩))
    go_ret3
    exact ⟨ret_3i V.out rfl rfl, rfl⟩

theorem rreadU_fin (ao : Option Addr) (len cap : Nat) (bs : Nat → Int) (t : Int) (w : World) (hr : Row w ao len bs) (hl : len ≤ 140737488355328) (h : Fin len bs t) :
    Calls Tryd.prog 33 #[.slice ao len cap, .int .i64 t] w fun e w' => e = .returned (.tuple #[.int .i64 0, .int .i64 0, .int .i64 20]) ∧ w' = w := by
  have G := rgroups_fin ao len cap bs t w hr hl h
  clear hr h
  go_enter Tryd.func33, Tryd.ntmps33
  go_wp2_with (go_at_call 60; refine G.mono ?_; rintro e w' ⟨rfl, rfl⟩)
  go_ret3
  exact ⟨rfl, rfl⟩

theorem rreadU_lng (ao : Option Addr) (len cap : Nat) (bs : Nat → Int) (t : Int) (w : World) (hr : Row w ao len bs) (hl : len ≤ 140737488355328) (h : Long len bs t) :
    Calls Tryd.prog 33 #[.slice ao len cap, .int .i64 t] w fun e w' => e = .returned (.tuple #[.int .i64 0, .int .i64 0, .int .i64 21]) ∧ w' = w := by
  obtain ⟨a, rfl, h1, h2⟩ := h
  rcases hr with hr | ⟨b, off, rfl, hc⟩
  · omega
  · have G := rgroups_long b off len cap a bs w hl hc h1 h2
    clear hc h2
    go_enter Tryd.func33, Tryd.ntmps33
    go_wp2_with (go_at_call 60; refine G.mono ?_; rintro e w' ⟨rfl, rfl⟩)
    go_ret3
    exact ⟨rfl, rfl⟩
theorem rreadS_fin (ao : Option Addr) (len cap : Nat) (bs : Nat → Int) (t : Int) (w : World) (hr : Row w ao len bs) (hl : len ≤ 140737488355328) (h : Fin len bs t) :
    Calls Tryd.prog 34 #[.slice ao len cap, .int .i64 t] w fun e w' => e = .returned (.tuple #[.int .i64 0, .int .i64 0, .int .i64 20]) ∧ w' = w := by
  have G := rgroups_fin ao len cap bs t w hr hl h
  clear hr h
  go_enter Tryd.func34, Tryd.ntmps34
  go_wp2_with (go_at_call 60; refine G.mono ?_; rintro e w' ⟨rfl, rfl⟩)
  go_ret3
  exact ⟨rfl, rfl⟩

theorem rreadS_lng (ao : Option Addr) (len cap : Nat) (bs : Nat → Int) (t : Int) (w : World) (hr : Row w ao len bs) (hl : len ≤ 140737488355328) (h : Long len bs t) :
    Calls Tryd.prog 34 #[.slice ao len cap, .int .i64 t] w fun e w' => e = .returned (.tuple #[.int .i64 0, .int .i64 0, .int .i64 21]) ∧ w' = w := by
  obtain ⟨a, rfl, h1, h2⟩ := h
  rcases hr with hr | ⟨b, off, rfl, hc⟩
  · omega
  · have G := rgroups_long b off len cap a bs w hl hc h1 h2
    clear hc h2
    go_enter Tryd.func34, Tryd.ntmps34
    go_wp2_with (go_at_call 60; refine G.mono ?_; rintro e w' ⟨rfl, rfl⟩)
    go_ret3
    exact ⟨rfl, rfl⟩

theorem rreadU_bad (ao : Option Addr) (len cap a : Nat) (bs : Nat → Int) (w : World) (hr : Row w ao len bs) (hl : len ≤ 140737488355328) (h : Num len bs a 10) (ht : ¬ bs (a + 9) ≤ 1) :
    Calls Tryd.prog 33 #[.slice ao len cap, .int .i64 a] w fun e w' => e = .returned (.tuple #[.int .i64 0, .int .i64 0, .int .i64 21]) ∧ w' = w := by
  rcases hr with hr | ⟨b, off, rfl, hc⟩
  · have := h.2.2.1; omega
  · have G := rgroups_num b off len cap a 10 bs w hl hc h
    have hcx := hc (a + 9) (by have := h.2.2.1; omega)
    have h3 := h.2.2.1
    have h9 : 1 < bs (a + 9) := by omega
    clear hc h ht
    go_enter Tryd.func33, Tryd.ntmps33
    go_wp2_with (go_at_call 60; refine G.mono ?_; rintro e w' ⟨rfl, rfl⟩)
    go_ret3
    exact ⟨rfl, rfl⟩

theorem rreadS_bad (ao : Option Addr) (len cap a : Nat) (bs : Nat → Int) (w : World) (hr : Row w ao len bs) (hl : len ≤ 140737488355328) (h : Num len bs a 10) (ht : ¬ (bs (a + 9) = 0 ∨ bs (a + 9) = 127)) :
    Calls Tryd.prog 34 #[.slice ao len cap, .int .i64 a] w fun e w' => e = .returned (.tuple #[.int .i64 0, .int .i64 0, .int .i64 21]) ∧ w' = w := by
  rcases hr with hr | ⟨b, off, rfl, hc⟩
  · have := h.2.2.1; omega
  · have G := rgroups_num b off len cap a 10 bs w hl hc h
    have hcx := hc (a + 9) (by have := h.2.2.1; omega)
    have h3 := h.2.2.1
    have h9 : (bs (a + 9) != 0) = true := by simp; omega
    have h9' : (bs (a + 9) != 127) = true := by simp; omega
    clear hc h ht
    go_enter Tryd.func34, Tryd.ntmps34
    go_wp2_with (go_at_call 60; refine G.mono ?_; rintro e w' ⟨rfl, rfl⟩)
    go_ret3
    exact ⟨rfl, rfl⟩

theorem rreadS_num (b off len cap a c : Nat) (bs : Nat → Int) (w : World) (hl : len ≤ 140737488355328)
    (hcell : ∀ i, i < len → w.cell? ⟨b, off + i, none⟩ = some (.int .u8 (bs i))) (hbs : ∀ i, 0 ≤ bs i ∧ bs i < 256) (h : Num len bs a c) (ht : c = 10 → bs (a + 9) = 0 ∨ bs (a + 9) = 127) :
    Calls Tryd.prog 34 #[.slice (some ⟨b, off, none⟩) len cap, .int .i64 a] w fun e w' => e = .returned (.tuple #[.int .i64 (sval bs a c), .int .i64 (a + c), .int .i64 0]) ∧ w' = w := by
  have G := rgroups_num b off len cap a c bs w hl hcell h
  have R := rraw_any b off len cap a c bs w hl hcell hbs h.2.1 h.2.2.1
  have hlo := h.2.2.2.2
  obtain ⟨h1, h2, h3, -, -⟩ := h
  by_cases h10 : c = 10
  · subst h10
    have hcx := hcell (a + 9) (by omega)
    have V : Hid (wrap64 (uacc bs a 10 % 18446744073709551616) = sval bs a 10) := by rw [wrap64_of_mod]; exact (sx64 _).symm
    by_cases h0 : bs (a + 9) = 0
    · have h9 : (bs (a + 9) != 0) = false := by simp [h0]
      clear hcell hbs ht h0 hlo
      go_enter Tryd.func34, Tryd.ntmps34
      go_wp2_with (first
        | (go_at_call 60; refine G.mono ?_; rintro e w' ⟨rfl, rfl⟩)
        | (go_at_call 61; refine R.mono ?_; rintro e w' ⟨rfl, rfl⟩))
      go_ret3
      exact ⟨ret_3i V.out rfl rfl, rfl⟩
    · have h1' : bs (a + 9) = 127 := (ht rfl).resolve_left h0
      have h9 : (bs (a + 9) != 0) = true := by simp [h1']
      have h9' : (bs (a + 9) != 127) = false := by simp [h1']
      clear hcell hbs ht h0 h1' hlo
      go_enter Tryd.func34, Tryd.ntmps34
      go_wp2_with (first
        | (go_at_call 60; refine G.mono ?_; rintro e w' ⟨rfl, rfl⟩)
        | (go_at_call 61; refine R.mono ?_; rintro e w' ⟨rfl, rfl⟩))
      go_ret3
      exact ⟨ret_3i V.out rfl rfl, rfl⟩
  · have hcx := hcell (a + c - 1) (by omega)
    have hbb := hbs (a + c - 1)
    have hlo' : bs (a + c - 1) < 128 := by rw [show a + c - 1 = a + (c - 1) from by omega]; exact hlo
    have hS := sext_ref bs a c h1 (by omega) hbb.1 hlo'
    by_cases h64 : 64 ≤ bs (a + c - 1)
    · have hb : (bits .and .u8 (bs (a + c - 1)) 64 != 0) = true := by rw [and64_u8 _ hbb.1 (by omega), if_pos h64]; decide
      have V : Hid _ := hS.1 h64
      clear hcell hbs ht hlo hS hbb hlo'
      go_enter Tryd.func34, Tryd.ntmps34
      go_wp2_with (first
        | (go_at_call 60; refine G.mono ?_; rintro e w' ⟨rfl, rfl⟩)
        | (go_at_call 61; refine R.mono ?_; rintro e w' ⟨rfl, rfl⟩))
      go_ret3
      exact ⟨ret_3i V.out rfl rfl, rfl⟩
    · have hb : (bits .and .u8 (bs (a + c - 1)) 64 != 0) = false := by rw [and64_u8 _ hbb.1 (by omega), if_neg h64]; decide
      have V : Hid _ := hS.2 h64
      clear hcell hbs ht hlo hS hbb hlo'
      go_enter Tryd.func34, Tryd.ntmps34
      go_wp2_with (first
        | (go_at_call 60; refine G.mono ?_; rintro e w' ⟨rfl, rfl⟩)
        | (go_at_call 61; refine R.mono ?_; rintro e w' ⟨rfl, rfl⟩))
      go_ret3
      exact ⟨ret_3i V.out rfl rfl, rfl⟩
end Go.Proofs.YtomboebfbipaaaaDoor
