/- The contracts of Get, and of the document's own Get. -/
import Derived.Test.YtbhdledlahbokaaReads
import Derived.Test.YtbhdledlahbokaaGetPlain
namespace Go.Proofs.Ytbhdledlahbokaa
open Go.ChangeShapes Go.WideShapes Go.ChangeAt Go.RowKit
set_option linter.unusedVariables false

theorem fixed_u64 (b off len cap a s : Nat) (bs : Nat → Int) (w : World) (hl : len ≤ 140737488355328)
    (hcell : ∀ i, i < len → w.cell? ⟨b, off + i, none⟩ = some (.int .u8 (bs i))) (hbs : ∀ i, 0 ≤ bs i ∧ bs i < 256) (hs : 1 ≤ s) (hs8 : s ≤ 8) (hin : a + s ≤ len) :
    Calls Try.prog 72 #[.agg #[.slice (some ⟨b, off, none⟩) len cap, .int .i64 a], .int .i64 s] w fun e w' => e = .returned (.int .u64 (bacc bs a s)) ∧ Below w.heap.size w w' := by
  have HC : Hid (∀ i, i < len → w.cell? ⟨b, off + i, none⟩ = some (.int .u8 (bs i))) := hcell
  have hbw : b < w.heap.size := cell_lt (hcell 0 (by omega))
  have HB : Hid (∀ i, 0 ≤ bs i ∧ bs i < 256) := hbs
  clear hcell hbs
  go_enter Try.func72, Try.ntmps72
  go_wp2
  go_loop [5, 8] (fun n i => ∃ k : Nat, k ≤ s ∧ i = .int .i64 k ∧ n = .int .u64 (bacc bs a k % 18446744073709551616)) (fun _ i => 10 - (intOf i).toNat)
  case atStart => exact ⟨0, by omega, rfl, by first | rfl | (simp only [bacc]; unfold wrap64; rfl)⟩
  case round =>
    obtain ⟨k, hk, rfl, rfl⟩ := hrel
    by_cases hlt : k < s
    · have hcx := HC.out (a + k) (by omega)
      go_wp2
      go_round
      case rel => exact ⟨k + 1, by omega, by go_num, by rw [bacc_step_u64 bs HB.out a k (by omega)]⟩
      case measure => simp [intOf]; omega
    · obtain rfl : k = s := by omega
      go_wp2_with (go_at_call 75; refine (low_u64 _ _ _ (by omega) (by omega)).mono ?_; rintro e w' ⟨rfl, rfl⟩)
      go_ret
      exact ⟨ret_int (bfin_u64 bs HB.out a k hs8), (Below.refl _ _).alloc (Nat.le_refl _) _⟩
theorem fixed_i64 (b off len cap a s : Nat) (bs : Nat → Int) (w : World) (hl : len ≤ 140737488355328)
    (hcell : ∀ i, i < len → w.cell? ⟨b, off + i, none⟩ = some (.int .u8 (bs i))) (hbs : ∀ i, 0 ≤ bs i ∧ bs i < 256) (hs : 1 ≤ s) (hs8 : s ≤ 8) (hin : a + s ≤ len) :
    Calls Try.prog 71 #[.agg #[.slice (some ⟨b, off, none⟩) len cap, .int .i64 a], .int .i64 s] w fun e w' => e = .returned (.int .i64 (sx (8 * s) (bacc bs a s))) ∧ Below w.heap.size w w' := by
  have HC : Hid (∀ i, i < len → w.cell? ⟨b, off + i, none⟩ = some (.int .u8 (bs i))) := hcell
  have hbw : b < w.heap.size := cell_lt (hcell 0 (by omega))
  have HB : Hid (∀ i, 0 ≤ bs i ∧ bs i < 256) := hbs
  clear hcell hbs
  go_enter Try.func71, Try.ntmps71
  go_wp2
  go_loop [5, 8] (fun n i => ∃ k : Nat, k ≤ s ∧ i = .int .i64 k ∧ n = .int .i64 (wrap64 (bacc bs a k))) (fun _ i => 10 - (intOf i).toNat)
  case atStart => exact ⟨0, by omega, rfl, by first | rfl | (simp only [bacc]; unfold wrap64; rfl)⟩
  case round =>
    obtain ⟨k, hk, rfl, rfl⟩ := hrel
    by_cases hlt : k < s
    · have hcx := HC.out (a + k) (by omega)
      go_wp2
      go_round
      case rel => exact ⟨k + 1, by omega, by go_num, by rw [bacc_step_i64 bs HB.out a k (by omega)]⟩
      case measure => simp [intOf]; omega
    · obtain rfl : k = s := by omega
      go_wp2_with (go_at_call 89; refine (low_i64 _ _ _ (by omega) (by omega)).mono ?_; rintro e w' ⟨rfl, rfl⟩)
      go_ret
      exact ⟨ret_int (bfin_i64 bs HB.out a k hs8), (Below.refl _ _).alloc (Nat.le_refl _) _⟩

theorem get_arg (ao : Option Addr) (len cap : Nat) (t s : Int) (sg : Bool) (w : World) (h : ¬ (s = 1 ∨ s = 2 ∨ s = 4 ∨ s = 8)) :
    Calls Try.prog 54 #[.slice ao len cap, .int .i64 t, .int .i64 s, .bool sg] w fun e w' => e = .returned (.tuple #[.int .i64 0, .int .i64 1]) ∧ Below w.heap.size w w' := by
  have H : Hid (¬ (s = 1 ∨ s = 2 ∨ s = 4 ∨ s = 8)) := h
  clear h
  go_enter Try.func54, Try.ntmps54
  go_wp2_with (go_at_call 55; refine (isSize_no _ _ H.out).mono ?_; rintro e w' ⟨rfl, rfl⟩)
  go_ret2
  exact ⟨rfl, Below.refl _ _⟩

theorem get_end (ao : Option Addr) (len cap : Nat) (t s : Int) (sg : Bool) (w : World) (hl : len ≤ 140737488355328) (ht : t ≤ 9223372036854775807) (hs : s = 1 ∨ s = 2 ∨ s = 4 ∨ s = 8) (h : t < 0 ∨ (len : Int) - t < s) :
    Calls Try.prog 54 #[.slice ao len cap, .int .i64 t, .int .i64 s, .bool sg] w fun e w' => e = .returned (.tuple #[.int .i64 0, .int .i64 20]) ∧ Below w.heap.size w w' := by
  have H : Hid (s = 1 ∨ s = 2 ∨ s = 4 ∨ s = 8) := hs
  have hs0 : 1 ≤ s := by omega
  have hs1 : s ≤ 8 := by omega
  clear hs
  by_cases h0 : t < 0
  · clear h
    go_enter Try.func54, Try.ntmps54
    go_wp2_with (go_at_call 55; refine (isSize_yes _ _ H.out).mono ?_; rintro e w' ⟨rfl, rfl⟩)
    go_ret2
    exact ⟨rfl, Below.refl _ _⟩
  · have h1 : (len : Int) - t < s := by omega
    clear h
    go_enter Try.func54, Try.ntmps54
    go_wp2_with (go_at_call 55; refine (isSize_yes _ _ H.out).mono ?_; rintro e w' ⟨rfl, rfl⟩)
    go_ret2
    exact ⟨rfl, Below.refl _ _⟩

theorem get_ok (ao : Option Addr) (len cap a s : Nat) (sg : Bool) (bs : Nat → Int) (w : World) (hr : Row w ao len bs) (hbs : ∀ i, 0 ≤ bs i ∧ bs i < 256) (hl : len ≤ 140737488355328) (hs : s = 1 ∨ s = 2 ∨ s = 4 ∨ s = 8) (hin : a + s ≤ len) :
    Calls Try.prog 54 #[.slice ao len cap, .int .i64 a, .int .i64 s, .bool sg] w fun e w' => e = .returned (.tuple #[.int .i64 (gval bs a s sg), .int .i64 0]) ∧ Below w.heap.size w w' := by
  rcases hr with hr | ⟨b, off, rfl, hc⟩
  · omega
  · have U := fixed_u64 b off len cap a s bs w hl hc hbs (by omega) (by omega) hin
    have S := fixed_i64 b off len cap a s bs w hl hc hbs (by omega) (by omega) hin
    have H : Hid ((s : Int) = 1 ∨ (s : Int) = 2 ∨ (s : Int) = 4 ∨ (s : Int) = 8) := by show _ ∨ _; omega
    have hs0 : 1 ≤ s := by omega
    have hs1 : s ≤ 8 := by omega
    clear hc hbs hs
    cases sg
    · go_enter Try.func54, Try.ntmps54
      go_wp2_with (first
        | (go_at_call 55; refine (isSize_yes _ _ H.out).mono ?_; rintro e w' ⟨rfl, rfl⟩)
        | (go_at_call 72; refine U.mono ?_; rintro e w1 ⟨rfl, hb⟩))
      go_ret2
      exact ⟨rfl, hb⟩
    · go_enter Try.func54, Try.ntmps54
      go_wp2_with (first
        | (go_at_call 55; refine (isSize_yes _ _ H.out).mono ?_; rintro e w' ⟨rfl, rfl⟩)
        | (go_at_call 71; refine S.mono ?_; rintro e w1 ⟨rfl, hb⟩))
      go_ret2
      exact ⟨rfl, hb⟩
end Go.Proofs.Ytbhdledlahbokaa
