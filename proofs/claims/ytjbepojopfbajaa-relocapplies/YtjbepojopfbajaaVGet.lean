/- The contract of leb's Get. -/
import Derived.Test.YtjbepojopfbajaaVAppOk
import Derived.LoopN
namespace Go.Proofs.Ytjbepojopfbajaa
open Go.ChangeShapes Go.WideShapes Go.ChangeAt Go.RowKit
set_option linter.unusedVariables false
set_option linter.unusedSimpArgs false

/-- The number of k bytes from place a on, the low one first. -/
def bacc (bs : Nat → Int) (a : Nat) : Nat → Int
  | 0 => 0
  | k + 1 => bacc bs a k + bs (a + k) * 2 ^ (8 * k)

theorem bacc_in (bs : Nat → Int) (hbs : ∀ i, 0 ≤ bs i ∧ bs i < 256) (a k : Nat) : 0 ≤ bacc bs a k ∧ bacc bs a k < 2 ^ (8 * k) := by
  induction k with
  | zero => simp [bacc]
  | succ k ih =>
    have hp := pow_pos_i (8 * k)
    have e : (2 : Int) ^ (8 * (k + 1)) = 256 * 2 ^ (8 * k) := by
      rw [show 8 * (k + 1) = 8 + 8 * k from by omega, Int.pow_add]; rfl
    have hb := hbs (a + k)
    have m0 := Int.mul_nonneg hb.1 (Int.le_of_lt hp)
    have m1 := Int.mul_le_mul_of_nonneg_right (show bs (a + k) ≤ 255 by omega) (Int.le_of_lt hp)
    simp only [bacc]
    rw [e]
    omega

theorem bacc_head (bs : Nat → Int) (a k : Nat) : bacc bs a (k + 1) = bs a + 256 * bacc bs (a + 1) k := by
  induction k with
  | zero => simp [bacc]
  | succ k ih =>
    have e1 : bacc bs a (k + 1 + 1) = bacc bs a (k + 1) + bs (a + (k + 1)) * 2 ^ (8 * (k + 1)) := rfl
    have e2 : bacc bs (a + 1) (k + 1) = bacc bs (a + 1) k + bs (a + 1 + k) * 2 ^ (8 * k) := rfl
    have e3 : (2 : Int) ^ (8 * (k + 1)) = 256 * 2 ^ (8 * k) := by
      rw [show 8 * (k + 1) = 8 + 8 * k from by omega, Int.pow_add]; rfl
    have e4 : a + (k + 1) = a + 1 + k := by omega
    rw [e1, ih, e2, e3, e4, Int.mul_add, ← Int.mul_assoc, Int.mul_comm _ 256, Int.mul_assoc]
    omega

theorem bacc_step_u64 (bs : Nat → Int) (hbs : ∀ i, 0 ≤ bs i ∧ bs i < 256) (a k : Nat) (hk : k ≤ 7) :
    bits .or .u64 (bacc bs a k % 18446744073709551616) (IntKind.u64.wrap (IntKind.u64.wrap (bs (a + k)) * 2 ^ (8 * k))) = bacc bs a (k + 1) % 18446744073709551616 := by
  have h := bacc_in bs hbs a k
  have hb := hbs (a + k)
  rw [IntKind.wrap_u64, IntKind.wrap_u64, show bs (a + k) % 18446744073709551616 = bs (a + k) from by omega, join_u64 (8 * k) (by omega) _ _ h.1 h.2]
  rfl

theorem bacc_step_i64 (bs : Nat → Int) (hbs : ∀ i, 0 ≤ bs i ∧ bs i < 256) (a k : Nat) (hk : k ≤ 7) :
    bits .or .i64 (wrap64 (bacc bs a k)) (wrap64 (wrap64 (bs (a + k)) * 2 ^ (8 * k))) = wrap64 (bacc bs a (k + 1)) := by
  have h := bacc_in bs hbs a k
  have hb := hbs (a + k)
  rw [show wrap64 (bs (a + k)) = bs (a + k) from by unfold wrap64; omega, or_i64, wrap64_mod, wrap64_mod, join_u64 (8 * k) (by omega) _ _ h.1 h.2, wrap64_of_mod]
  rfl

/-- The document's own step: the high bytes first. -/
theorem bacc_back (bs : Nat → Int) (hbs : ∀ i, 0 ≤ bs i ∧ bs i < 256) (a m : Nat) (hm : m ≤ 7) :
    bits .or .u64 (IntKind.u64.wrap (bacc bs (a + 1) m * 256)) (IntKind.u64.wrap (bs a)) = bacc bs a (m + 1) := by
  have h := bacc_in bs hbs (a + 1) m
  have h2 := bacc_in bs hbs a (m + 1)
  have hb := hbs a
  have hle : (2 : Int) ^ (8 * (m + 1)) ≤ 2 ^ 64 := pow_le_i (by omega)
  have j := join_u64 8 (by omega) (bs a) (bacc bs (a + 1) m) hb.1 (by omega)
  rw [show (2 : Int) ^ 8 = 256 from rfl] at j
  rw [IntKind.wrap_u64, IntKind.wrap_u64, or_comm_bits, j, show bacc bs (a + 1) m * 256 = 256 * bacc bs (a + 1) m from by omega, ← bacc_head]
  omega

theorem bfin_u64 (bs : Nat → Int) (hbs : ∀ i, 0 ≤ bs i ∧ bs i < 256) (a s : Nat) (hs : s ≤ 8) : bacc bs a s % 18446744073709551616 % 2 ^ (8 * (s : Int)).toNat = bacc bs a s := by
  have h := bacc_in bs hbs a s
  have hle : (2 : Int) ^ (8 * s) ≤ 2 ^ 64 := pow_le_i (by omega)
  rw [show (8 * (s : Int)).toNat = 8 * s from by omega, show bacc bs a s % 18446744073709551616 = bacc bs a s from by omega]
  exact Int.emod_eq_of_lt h.1 h.2

theorem bfin_i64 (bs : Nat → Int) (hbs : ∀ i, 0 ≤ bs i ∧ bs i < 256) (a s : Nat) (hs : s ≤ 8) : sx (8 * (s : Int)).toNat (wrap64 (bacc bs a s)) = sx (8 * s) (bacc bs a s) := by
  have h := bacc_in bs hbs a s
  rw [show (8 * (s : Int)).toNat = 8 * s from by omega]
  by_cases h8 : s = 8
  · subst h8
    show sx 64 _ = sx 64 _
    rw [sx64, sx64, wrap64_wrap64]
  · have hle : (2 : Int) ^ (8 * s) ≤ 2 ^ 56 := pow_le_i (by omega)
    rw [show wrap64 (bacc bs a s) = bacc bs a s from by unfold wrap64; omega]

/-- What Get answers. -/
def gval (bs : Nat → Int) (a s : Nat) (sg : Bool) : Int := if sg then sx (8 * s) (bacc bs a s) else wrap64 (bacc bs a s)
theorem low_u64 (n : Int) (b : Int) (w : World) (h0 : 0 ≤ b) (h1 : b ≤ 64) :
    Calls Try.prog 48 #[.int .u64 n, .int .i64 b] w fun e w' => e = .returned (.int .u64 (n % 2 ^ b.toNat)) ∧ w' = w := by
  rw [← low_u n b.toNat (by omega)]
  have e : (64 - b).toNat = 64 - b.toNat := by omega
  go_enter Try.func48, Try.ntmps48
  go_wp2
  go_ret
  exact ⟨rfl, rfl⟩

theorem low_i64 (n : Int) (b : Int) (w : World) (h0 : 1 ≤ b) (h1 : b ≤ 64) :
    Calls Try.prog 47 #[.int .i64 n, .int .i64 b] w fun e w' => e = .returned (.int .i64 (sx b.toNat n)) ∧ w' = w := by
  rw [← low_i n b.toNat (by omega) (by omega)]
  have e : (64 - b).toNat = 64 - b.toNat := by omega
  go_enter Try.func47, Try.ntmps47
  go_wp2
  go_ret
  exact ⟨rfl, rfl⟩

theorem fixed_u64 (b off len cap a s : Nat) (bs : Nat → Int) (w : World) (hl : len ≤ 140737488355328)
    (hcell : ∀ i, i < len → w.cell? ⟨b, off + i, none⟩ = some (.int .u8 (bs i))) (hbs : ∀ i, 0 ≤ bs i ∧ bs i < 256) (hs : 1 ≤ s) (hs8 : s ≤ 8) (hin : a + s ≤ len) :
    Calls Try.prog 38 #[.agg #[.slice (some ⟨b, off, none⟩) len cap, .int .i64 a], .int .i64 s] w fun e w' => e = .returned (.int .u64 (bacc bs a s)) ∧ Below w.heap.size w w' := by
  have HC : Hid (∀ i, i < len → w.cell? ⟨b, off + i, none⟩ = some (.int .u8 (bs i))) := ⟨hcell⟩
  have hbw : b < w.heap.size := World.block_lt_of_cell? w ⟨b, off + 0, none⟩ (hcell 0 (by omega))
  have HB : Hid (∀ i, 0 ≤ bs i ∧ bs i < 256) := ⟨hbs⟩
  clear hcell hbs
  go_enter Try.func38, Try.ntmps38
  go_wp2
  go_loop [5, 8] (fun n i => ∃ k : Nat, k ≤ s ∧ i = .int .i64 k ∧ n = .int .u64 (bacc bs a k % 18446744073709551616)) (fun _ i => 10 - (intOf i).toNat)
  case atStart => exact ⟨0, by omega, rfl, by first | rfl | (simp only [bacc]; unfold wrap64; rfl)⟩
  case round =>
    obtain ⟨k, hk, rfl, rfl⟩ := hrel
    by_cases hlt : k < s
    · have hcx := HC.out (a + k) (by omega)
      go_wp2
      go_round
      case rel => exact ⟨k + 1, by omega, by go_num, by rw [bacc_step_u64 bs HB.out a k (by omega)]⟩
      case measure => simp [intOf]; omega
    · obtain rfl : k = s := by omega
      go_wp2_with (go_at_call 48; refine (low_u64 _ _ _ (by omega) (by omega)).mono ?_; rintro e w' ⟨rfl, rfl⟩)
      go_ret
      exact ⟨ret_int (bfin_u64 bs HB.out a k hs8), (Below.refl _ _).alloc (Nat.le_refl _) _⟩
theorem fixed_i64 (b off len cap a s : Nat) (bs : Nat → Int) (w : World) (hl : len ≤ 140737488355328)
    (hcell : ∀ i, i < len → w.cell? ⟨b, off + i, none⟩ = some (.int .u8 (bs i))) (hbs : ∀ i, 0 ≤ bs i ∧ bs i < 256) (hs : 1 ≤ s) (hs8 : s ≤ 8) (hin : a + s ≤ len) :
    Calls Try.prog 37 #[.agg #[.slice (some ⟨b, off, none⟩) len cap, .int .i64 a], .int .i64 s] w fun e w' => e = .returned (.int .i64 (sx (8 * s) (bacc bs a s))) ∧ Below w.heap.size w w' := by
  have HC : Hid (∀ i, i < len → w.cell? ⟨b, off + i, none⟩ = some (.int .u8 (bs i))) := ⟨hcell⟩
  have hbw : b < w.heap.size := World.block_lt_of_cell? w ⟨b, off + 0, none⟩ (hcell 0 (by omega))
  have HB : Hid (∀ i, 0 ≤ bs i ∧ bs i < 256) := ⟨hbs⟩
  clear hcell hbs
  go_enter Try.func37, Try.ntmps37
  go_wp2
  go_loop [5, 8] (fun n i => ∃ k : Nat, k ≤ s ∧ i = .int .i64 k ∧ n = .int .i64 (wrap64 (bacc bs a k))) (fun _ i => 10 - (intOf i).toNat)
  case atStart => exact ⟨0, by omega, rfl, by first | rfl | (simp only [bacc]; unfold wrap64; rfl)⟩
  case round =>
    obtain ⟨k, hk, rfl, rfl⟩ := hrel
    by_cases hlt : k < s
    · have hcx := HC.out (a + k) (by omega)
      go_wp2
      go_round
      case rel => exact ⟨k + 1, by omega, by go_num, by rw [bacc_step_i64 bs HB.out a k (by omega)]⟩
      case measure => simp [intOf]; omega
    · obtain rfl : k = s := by omega
      go_wp2_with (go_at_call 47; refine (low_i64 _ _ _ (by omega) (by omega)).mono ?_; rintro e w' ⟨rfl, rfl⟩)
      go_ret
      exact ⟨ret_int (bfin_i64 bs HB.out a k hs8), (Below.refl _ _).alloc (Nat.le_refl _) _⟩

theorem get_arg (ao : Option Addr) (len cap : Nat) (t s : Int) (sg : Bool) (w : World) (h : ¬ (s = 1 ∨ s = 2 ∨ s = 4 ∨ s = 8)) :
    Calls Try.prog 27 #[.slice ao len cap, .int .i64 t, .int .i64 s, .bool sg] w fun e w' => e = .returned (.tuple #[.int .i64 0, .int .i64 1]) ∧ Below w.heap.size w w' := by
  have H : Hid (¬ (s = 1 ∨ s = 2 ∨ s = 4 ∨ s = 8)) := ⟨h⟩
  clear h
  go_enter Try.func27, Try.ntmps27
  go_wp2_with (go_at_call 36; refine (isSize_no _ _ H.out).mono ?_; rintro e w' ⟨rfl, rfl⟩)
  go_ret2
  exact ⟨rfl, Below.refl _ _⟩

theorem get_end (ao : Option Addr) (len cap : Nat) (t s : Int) (sg : Bool) (w : World) (hl : len ≤ 140737488355328) (ht : t ≤ 9223372036854775807) (hs : s = 1 ∨ s = 2 ∨ s = 4 ∨ s = 8) (h : t < 0 ∨ (len : Int) - t < s) :
    Calls Try.prog 27 #[.slice ao len cap, .int .i64 t, .int .i64 s, .bool sg] w fun e w' => e = .returned (.tuple #[.int .i64 0, .int .i64 20]) ∧ Below w.heap.size w w' := by
  have H : Hid (s = 1 ∨ s = 2 ∨ s = 4 ∨ s = 8) := ⟨hs⟩
  have hs0 : 1 ≤ s := by omega
  have hs1 : s ≤ 8 := by omega
  clear hs
  by_cases h0 : t < 0
  · clear h
    go_enter Try.func27, Try.ntmps27
    go_wp2_with (go_at_call 36; refine (isSize_yes _ _ H.out).mono ?_; rintro e w' ⟨rfl, rfl⟩)
    go_ret2
    exact ⟨rfl, Below.refl _ _⟩
  · have h1 : (len : Int) - t < s := by omega
    clear h
    go_enter Try.func27, Try.ntmps27
    go_wp2_with (go_at_call 36; refine (isSize_yes _ _ H.out).mono ?_; rintro e w' ⟨rfl, rfl⟩)
    go_ret2
    exact ⟨rfl, Below.refl _ _⟩

theorem get_ok (ao : Option Addr) (len cap a s : Nat) (sg : Bool) (bs : Nat → Int) (w : World) (hr : Row w ao len bs) (hbs : ∀ i, 0 ≤ bs i ∧ bs i < 256) (hl : len ≤ 140737488355328) (hs : s = 1 ∨ s = 2 ∨ s = 4 ∨ s = 8) (hin : a + s ≤ len) :
    Calls Try.prog 27 #[.slice ao len cap, .int .i64 a, .int .i64 s, .bool sg] w fun e w' => e = .returned (.tuple #[.int .i64 (gval bs a s sg), .int .i64 0]) ∧ Below w.heap.size w w' := by
  rcases hr with hr | ⟨b, off, rfl, hc⟩
  · omega
  · have U := fixed_u64 b off len cap a s bs w hl hc hbs (by omega) (by omega) hin
    have S := fixed_i64 b off len cap a s bs w hl hc hbs (by omega) (by omega) hin
    have H : Hid ((s : Int) = 1 ∨ (s : Int) = 2 ∨ (s : Int) = 4 ∨ (s : Int) = 8) := ⟨by show _ ∨ _; omega⟩
    have hs0 : 1 ≤ s := by omega
    have hs1 : s ≤ 8 := by omega
    clear hc hbs hs
    cases sg
    · go_enter Try.func27, Try.ntmps27
      go_wp2_with (first
        | (go_at_call 36; refine (isSize_yes _ _ H.out).mono ?_; rintro e w' ⟨rfl, rfl⟩)
        | (go_at_call 38; refine U.mono ?_; rintro e w1 ⟨rfl, hb⟩))
      go_ret2
      exact ⟨rfl, hb⟩
    · go_enter Try.func27, Try.ntmps27
      go_wp2_with (first
        | (go_at_call 36; refine (isSize_yes _ _ H.out).mono ?_; rintro e w' ⟨rfl, rfl⟩)
        | (go_at_call 37; refine S.mono ?_; rintro e w1 ⟨rfl, hb⟩))
      go_ret2
      exact ⟨rfl, hb⟩
end Go.Proofs.Ytjbepojopfbajaa
