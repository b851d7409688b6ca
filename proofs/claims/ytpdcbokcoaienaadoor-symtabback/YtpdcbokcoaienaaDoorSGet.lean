/- Numbers as bytes, the low one first; the contracts of leb.Get (without a sign) and of the document's number. -/
import Derived.Test.YtpdcbokcoaienaaDoorSLeb
namespace Go.Proofs.YtpdcbokcoaienaaDoor
open Go.ChangeShapes Go.WideShapes Go.ChangeAt Go.RowKit
set_option linter.unusedVariables false
set_option linter.unusedSimpArgs false

/-- The number of k bytes from place a on, the low one first. -/
def bacc (bs : Nat → Int) (a : Nat) : Nat → Int
  | 0 => 0
  | k + 1 => bacc bs a k + bs (a + k) * 2 ^ (8 * k)

theorem bacc_in (bs : Nat → Int) (hbs : ∀ i, 0 ≤ bs i ∧ bs i < 256) (a k : Nat) : 0 ≤ bacc bs a k ∧ bacc bs a k < 2 ^ (8 * k) := by
  induction k with
  | zero => simp [bacc]
  | succ k ih =>
    have hp := pow_pos_i (8 * k)
    have e : (2 : Int) ^ (8 * (k + 1)) = 256 * 2 ^ (8 * k) := by
      rw [show 8 * (k + 1) = 8 + 8 * k from by omega, Int.pow_add]; rfl
    have hb := hbs (a + k)
    have m0 := Int.mul_nonneg hb.1 (Int.le_of_lt hp)
    have m1 := Int.mul_le_mul_of_nonneg_right (show bs (a + k) ≤ 255 by omega) (Int.le_of_lt hp)
    simp only [bacc]
    rw [e]
    omega

theorem bacc_head (bs : Nat → Int) (a k : Nat) : bacc bs a (k + 1) = bs a + 256 * bacc bs (a + 1) k := by
  induction k with
  | zero => simp [bacc]
  | succ k ih =>
    have e1 : bacc bs a (k + 1 + 1) = bacc bs a (k + 1) + bs (a + (k + 1)) * 2 ^ (8 * (k + 1)) := rfl
    have e2 : bacc bs (a + 1) (k + 1) = bacc bs (a + 1) k + bs (a + 1 + k) * 2 ^ (8 * k) := rfl
    have e3 : (2 : Int) ^ (8 * (k + 1)) = 256 * 2 ^ (8 * k) := by
      rw [show 8 * (k + 1) = 8 + 8 * k from by omega, Int.pow_add]; rfl
    have e4 : a + (k + 1) = a + 1 + k := by omega
    rw [e1, ih, e2, e3, e4, Int.mul_add, ← Int.mul_assoc, Int.mul_comm _ 256, Int.mul_assoc]
    omega

theorem bacc_step_u64 (bs : Nat → Int) (hbs : ∀ i, 0 ≤ bs i ∧ bs i < 256) (a k : Nat) (hk : k ≤ 7) :
    bits .or .u64 (bacc bs a k % 18446744073709551616) (IntKind.u64.wrap (IntKind.u64.wrap (bs (a + k)) * 2 ^ (8 * k))) = bacc bs a (k + 1) % 18446744073709551616 := by
  have h := bacc_in bs hbs a k
  have hb := hbs (a + k)
  rw [IntKind.wrap_u64, IntKind.wrap_u64, show bs (a + k) % 18446744073709551616 = bs (a + k) from by omega, join_u64 (8 * k) (by omega) _ _ h.1 h.2]
  rfl

/-- The document's own step: the high bytes first. -/
theorem bacc_back (bs : Nat → Int) (hbs : ∀ i, 0 ≤ bs i ∧ bs i < 256) (a m : Nat) (hm : m ≤ 7) :
    bits .or .u64 (IntKind.u64.wrap (bacc bs (a + 1) m * 256)) (IntKind.u64.wrap (bs a)) = bacc bs a (m + 1) := by
  have h := bacc_in bs hbs (a + 1) m
  have h2 := bacc_in bs hbs a (m + 1)
  have hb := hbs a
  have hle : (2 : Int) ^ (8 * (m + 1)) ≤ 2 ^ 64 := pow_le_i (by omega)
  have j := join_u64 8 (by omega) (bs a) (bacc bs (a + 1) m) hb.1 (by omega)
  rw [show (2 : Int) ^ 8 = 256 from rfl] at j
  rw [IntKind.wrap_u64, IntKind.wrap_u64, or_comm_bits, j, show bacc bs (a + 1) m * 256 = 256 * bacc bs (a + 1) m from by omega, ← bacc_head]
  omega

theorem bfin_u64 (bs : Nat → Int) (hbs : ∀ i, 0 ≤ bs i ∧ bs i < 256) (a s : Nat) (hs : s ≤ 8) : bacc bs a s % 18446744073709551616 % 2 ^ (8 * (s : Int)).toNat = bacc bs a s := by
  have h := bacc_in bs hbs a s
  have hle : (2 : Int) ^ (8 * s) ≤ 2 ^ 64 := pow_le_i (by omega)
  rw [show (8 * (s : Int)).toNat = 8 * s from by omega, show bacc bs a s % 18446744073709551616 = bacc bs a s from by omega]
  exact Int.emod_eq_of_lt h.1 h.2


theorem low_u64 (n : Int) (b : Int) (w : World) (h0 : 0 ≤ b) (h1 : b ≤ 64) :
    Calls Tryd.prog 70 #[.int .u64 n, .int .i64 b] w fun e w' => e = .returned (.int .u64 (n % 2 ^ b.toNat)) ∧ w' = w := by
  rw [← low_u n b.toNat (by omega)]
  have e : (64 - b).toNat = 64 - b.toNat := by omega
  go_enter Tryd.func70, Tryd.ntmps70
  go_wp2
  go_ret
  exact ⟨rfl, rfl⟩

theorem fixed_u64 (b off len cap a s : Nat) (bs : Nat → Int) (w : World) (hl : len ≤ 140737488355328)
    (hcell : ∀ i, i < len → w.cell? ⟨b, off + i, none⟩ = some (.int .u8 (bs i))) (hbs : ∀ i, 0 ≤ bs i ∧ bs i < 256) (hs : 1 ≤ s) (hs8 : s ≤ 8) (hin : a + s ≤ len) :
    Calls Tryd.prog 67 #[.agg #[.slice (some ⟨b, off, none⟩) len cap, .int .i64 a], .int .i64 s] w fun e w' => e = .returned (.int .u64 (bacc bs a s)) ∧ Below w.heap.size w w' := by
  have HC : Hid (∀ i, i < len → w.cell? ⟨b, off + i, none⟩ = some (.int .u8 (bs i))) := ⟨hcell⟩
  have hbw : b < w.heap.size := World.block_lt_of_cell? w ⟨b, off + 0, none⟩ (hcell 0 (by omega))
  have HB : Hid (∀ i, 0 ≤ bs i ∧ bs i < 256) := ⟨hbs⟩
  clear hcell hbs
  go_enter Tryd.func67, Tryd.ntmps67
  go_wp2
  go_loop [5, 8] (fun n i => ∃ k : Nat, k ≤ s ∧ i = .int .i64 k ∧ n = .int .u64 (bacc bs a k % 18446744073709551616)) (fun _ i => 10 - (intOf i).toNat)
  case atStart => exact ⟨0, by omega, rfl, rfl⟩
  case round =>
    obtain ⟨k, hk, rfl, rfl⟩ := hrel
    by_cases hlt : k < s
    · have hcx := HC.out (a + k) (by omega)
      go_wp2
      go_round
      case rel => exact ⟨k + 1, by omega, by go_num, by rw [bacc_step_u64 bs HB.out a k (by omega)]⟩
      case measure => simp [intOf]; omega
    · obtain rfl : k = s := by omega
      go_wp2_with (go_at_call 70; refine (low_u64 _ _ _ (by omega) (by omega)).mono ?_; rintro e w' ⟨rfl, rfl⟩)
      go_ret
      exact ⟨ret_int (bfin_u64 bs HB.out a k hs8), (Below.refl _ _).alloc (Nat.le_refl _) _⟩

theorem get_end (ao : Option Addr) (len cap a s : Nat) (w : World) (hl : len ≤ 140737488355328) (hs : s = 1 ∨ s = 2 ∨ s = 4 ∨ s = 8) (h : len < a + s) (ha : a ≤ 140737488355328) :
    Calls Tryd.prog 63 #[.slice ao len cap, .int .i64 a, .int .i64 s, .bool false] w fun e w' => e = .returned (.tuple #[.int .i64 0, .int .i64 20]) ∧ w' = w := by
  have H : Hid ((s : Int) = 1 ∨ (s : Int) = 2 ∨ (s : Int) = 4 ∨ (s : Int) = 8) := ⟨by omega⟩
  have hs1 : s ≤ 8 := by omega
  have h1 : (len : Int) - (a : Int) < (s : Int) := by omega
  have h0 : ¬ (a : Int) < 0 := by omega
  clear hs
  go_enter Tryd.func63, Tryd.ntmps63
  go_wp2_with (go_at_call 49; refine (isSize_yes _ _ H.out).mono ?_; rintro e w' ⟨rfl, rfl⟩)
  go_ret2
  exact ⟨rfl, rfl⟩

theorem get_ok (ao : Option Addr) (len cap a s : Nat) (bs : Nat → Int) (w : World) (hr : Row w ao len bs) (hbs : ∀ i, 0 ≤ bs i ∧ bs i < 256) (hl : len ≤ 140737488355328) (hs : s = 1 ∨ s = 2 ∨ s = 4 ∨ s = 8) (hin : a + s ≤ len) :
    Calls Tryd.prog 63 #[.slice ao len cap, .int .i64 a, .int .i64 s, .bool false] w fun e w' => e = .returned (.tuple #[.int .i64 (wrap64 (bacc bs a s)), .int .i64 0]) ∧ Below w.heap.size w w' := by
  rcases hr with hr | ⟨b, off, rfl, hc⟩
  · omega
  · have U := fixed_u64 b off len cap a s bs w hl hc hbs (by omega) (by omega) hin
    have H : Hid ((s : Int) = 1 ∨ (s : Int) = 2 ∨ (s : Int) = 4 ∨ (s : Int) = 8) := ⟨by omega⟩
    have HU : Hid _ := ⟨U⟩
    have hs0 : 1 ≤ s := by omega
    have hs1 : s ≤ 8 := by omega
    clear hc hbs hs U
    go_enter Tryd.func63, Tryd.ntmps63
    go_wp2_with (first
      | (go_at_call 49; refine (isSize_yes _ _ H.out).mono ?_; rintro e w' ⟨rfl, rfl⟩)
      | (go_at_call 67; refine HU.out.mono ?_; rintro e w1 ⟨rfl, hb⟩))
    go_ret2
    exact ⟨rfl, hb⟩

/-- The document's step, as an int. -/
theorem bacc_back_i (bs : Nat → Int) (hbs : ∀ i, 0 ≤ bs i ∧ bs i < 256) (a m : Nat) (hm : m ≤ 7) :
    bits .or .i64 (wrap64 (wrap64 (bacc bs (a + 1) m) * 256)) (bs a) = wrap64 (bacc bs a (m + 1)) := by
  have h := bacc_back bs hbs a m hm
  have hb := hbs a
  have h2 := bacc_in bs hbs a (m + 1)
  have hle : (2 : Int) ^ (8 * (m + 1)) ≤ 2 ^ 64 := pow_le_i (by omega)
  rw [IntKind.wrap_u64, IntKind.wrap_u64] at h
  have e1 : wrap64 (wrap64 (bacc bs (a + 1) m) * 256) % 18446744073709551616 = bacc bs (a + 1) m * 256 % 18446744073709551616 := by
    rw [wrap64_mod, Int.mul_emod, wrap64_mod, ← Int.mul_emod]
  rw [or_i64, e1, h]

theorem rnumber_any (b off len cap a s : Nat) (bs : Nat → Int) (w : World) (hl : len ≤ 140737488355328)
    (hcell : ∀ i, i < len → w.cell? ⟨b, off + i, none⟩ = some (.int .u8 (bs i))) (hbs : ∀ i, 0 ≤ bs i ∧ bs i < 256) (hs8 : s ≤ 8) (hin : a + s ≤ len) :
    Calls Tryd.prog 36 #[.slice (some ⟨b, off, none⟩) len cap, .int .i64 a, .int .i64 s] w fun e w' => e = .returned (.int .i64 (wrap64 (bacc bs a s))) ∧ w' = w := by
  have HC : Hid (∀ i, i < len → w.cell? ⟨b, off + i, none⟩ = some (.int .u8 (bs i))) := ⟨hcell⟩
  have HB : Hid (∀ i, 0 ≤ bs i ∧ bs i < 256) := ⟨hbs⟩
  clear hcell hbs
  go_enter Tryd.func36, Tryd.ntmps36
  go_wp2
  go_loop [7, 8] (fun n i => ∃ m : Nat, m ≤ s ∧ i = .int .i64 ((s : Int) - 1 - m) ∧ n = .int .i64 (wrap64 (bacc bs (a + (s - m)) m))) (fun _ i => (intOf i + 1).toNat)
  case atStart => exact ⟨0, by omega, by simp, (by simp only [bacc]; unfold wrap64; rfl)⟩
  case round =>
    obtain ⟨m, hm, rfl, rfl⟩ := hrel
    by_cases hlt : m < s
    · have hcx := HC.out (a + (s - 1 - m)) (by omega)
      have hb := HB.out (a + (s - 1 - m))
      have HE : Hid (bits .or .i64 (wrap64 (wrap64 (bacc bs (a + (s - m)) m) * 256)) (bs (a + (s - 1 - m))) = wrap64 (bacc bs (a + (s - (m + 1))) (m + 1))) := ⟨by
        have := bacc_back_i bs HB.out (a + (s - 1 - m)) m (by omega)
        rw [show a + (s - 1 - m) + 1 = a + (s - m) from by omega] at this
        rw [show a + (s - (m + 1)) = a + (s - 1 - m) from by omega]
        exact this⟩
      obtain ⟨k, hk⟩ : ∃ k : Nat, (s : Int) - 1 - (m : Int) = (k : Int) := ⟨s - 1 - m, by omega⟩
      rw [show s - 1 - m = k from by omega] at hcx hb HE
      generalize wrap64 (bacc bs (a + (s - m)) m) = y at *
      rw [hk]
      have i0 : (0 : Int) ≤ (k : Int) := by omega
      have i1 : (a : Int) + (k : Int) < (len : Int) := by omega
      have i2 : (0 : Int) ≤ (a : Int) + (k : Int) := by omega
      go_wp2
      go_round
      case rel => exact ⟨m + 1, by omega, by go_num, by rw [HE.out]⟩
      case measure => simp [intOf] <;> omega
    · obtain rfl : m = s := by omega
      have i0 : ¬ (0 : Int) ≤ (m : Int) - 1 - (m : Int) := by omega
      rw [show a + (m - m) = a from by omega]
      go_wp2
      go_ret
      exact ⟨rfl, rfl⟩
end Go.Proofs.YtpdcbokcoaienaaDoor
