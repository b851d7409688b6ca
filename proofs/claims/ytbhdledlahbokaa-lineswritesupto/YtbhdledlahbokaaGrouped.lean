/- The contracts of grouped, ReadUleb, ReadSleb. -/
import Derived.Test.YtbhdledlahbokaaRead
import Derived.Deep.QuietTactic
import Derived.BigQuiet
namespace Go.Proofs.Ytbhdledlahbokaa
open Go.ChangeShapes Go.WideShapes Go.ChangeAt Go.RowKit
set_option linter.unusedVariables false

theorem bcell {W w1 : World} (hb : Below W.heap.size W w1) : (∀ b o, b < W.heap.size → w1.cell? ⟨b, o, none⟩ = W.cell? ⟨b, o, none⟩) ∧ (∀ b o, b < W.heap.size → w1.frozen? ⟨b, o, none⟩ = W.frozen? ⟨b, o, none⟩) :=
  ⟨fun b o h => hb.cell (p := ⟨b, o, none⟩) h, fun b o h => hb.frozen (p := ⟨b, o, none⟩) h⟩

theorem low_u64 (n : Int) (b : Int) (w : World) (h0 : 0 ≤ b) (h1 : b ≤ 64) :
    Calls Try.prog 75 #[.int .u64 n, .int .i64 b] w fun e w' => e = .returned (.int .u64 (n % 2 ^ b.toNat)) ∧ w' = w := by
  rw [← low_u n b.toNat (by omega)]
  have e : (64 - b).toNat = 64 - b.toNat := by omega
  go_enter Try.func75, Try.ntmps75
  go_wp2
  go_ret
  exact ⟨rfl, rfl⟩

theorem low_i64 (n : Int) (b : Int) (w : World) (h0 : 1 ≤ b) (h1 : b ≤ 64) :
    Calls Try.prog 89 #[.int .i64 n, .int .i64 b] w fun e w' => e = .returned (.int .i64 (sx b.toNat n)) ∧ w' = w := by
  rw [← low_i n b.toNat (by omega) (by omega)]
  have e : (64 - b).toNat = 64 - b.toNat := by omega
  go_enter Try.func89, Try.ntmps89
  go_wp2
  go_ret
  exact ⟨rfl, rfl⟩

theorem below_drewN {B : Nat} {a w : World} (h : Below B a w) (n : Nat) : Below B a (w.drewN n) := by
  induction n generalizing w with
  | zero => exact h
  | succ n ih => exact (ih h).drew

theorem ret_3i {k k' k'' : IntKind} {a b c d x y : Int} (h : a = b) (h' : c = d) (h'' : x = y) : Ending.returned (.tuple #[.int k a, .int k' c, .int k'' x]) = .returned (.tuple #[.int k b, .int k' d, .int k'' y]) := by rw [h, h', h'']

theorem fin_u64 (bs : Nat → Int) (a k : Nat) (hk : k ≤ 9) : uacc bs a k % 18446744073709551616 % 2 ^ (7 * (k : Int)).toNat = uacc bs a k := by
  have h := uacc_in bs a k
  have h2 : (2 : Int) ^ (7 * k) ≤ 2 ^ 63 := pow_le_i (by omega)
  rw [show (7 * (k : Int)).toNat = 7 * k from by omega, show uacc bs a k % 18446744073709551616 = uacc bs a k from by omega]
  exact Int.emod_eq_of_lt h.1 h.2

theorem fin_i64 (bs : Nat → Int) (a k : Nat) (hk : k ≤ 9) : sx (7 * (k : Int)).toNat (wrap64 (uacc bs a k)) = sx (7 * k) (uacc bs a k) := by
  have h := uacc_in bs a k
  have h2 : (2 : Int) ^ (7 * k) ≤ 2 ^ 63 := pow_le_i (by omega)
  rw [show (7 * (k : Int)).toNat = 7 * k from by omega, show wrap64 (uacc bs a k) = uacc bs a k from by unfold wrap64; omega]

theorem fin10_u64 (bs : Nat → Int) (a : Nat) : uacc bs a 10 % 18446744073709551616 % 2 ^ (64 : Int).toNat = uacc bs a 10 % 18446744073709551616 := by
  have : (2 : Int) ^ (64 : Int).toNat = 18446744073709551616 := by decide
  rw [this]; omega

theorem fin10_i64 (bs : Nat → Int) (a : Nat) : sx (64 : Int).toNat (wrap64 (uacc bs a 10)) = wrap64 (uacc bs a 10) := by
  have : (64 : Int).toNat = 64 := rfl
  rw [this, sx64, wrap64_wrap64]

theorem grouped_num_u64 (b off len cap a c : Nat) (bs : Nat → Int) (w : World) (hl : len ≤ 140737488355328)
    (hcell : ∀ i, i < len → w.cell? ⟨b, off + i, none⟩ = some (.int .u8 (bs i))) (hbs : ∀ i, 0 ≤ bs i ∧ bs i < 256)
    (hc1 : 1 ≤ c) (hc2 : c ≤ 9) (hc3 : a + c ≤ len) (hhi : ∀ j, j + 1 < c → 128 ≤ bs (a + j)) (hlo : bs (a + (c - 1)) < 128) :
    Calls Try.prog 66 #[.agg #[.slice (some ⟨b, off, none⟩) len cap, .int .i64 a]] w fun e w' => e = .returned (.tuple #[.int .u64 (uacc bs a c), .int .i64 (a + c), .int .i64 0]) ∧ Below w.heap.size w w' := by
  have HC : Hid (∀ i, i < len → w.cell? ⟨b, off + i, none⟩ = some (.int .u8 (bs i))) := hcell
  have hbw : b < w.heap.size := cell_lt (hcell 0 (by omega))
  have G := fun w hcell => groups_num_u64 b off len cap a c bs w hl hcell hc1 (by omega) hc3 hhi hlo
  have HB : Hid (∀ i, 0 ≤ bs i ∧ bs i < 256) := hbs
  clear hcell hhi hlo hbs
  go_enter Try.func66, Try.ntmps66
  go_wp2_with (go_at_call 77; refine (G _ (by intro i hi; simp [World.cell?_alloc_past, hbw]; exact HC.out i hi)).mono ?_; rintro e w1 ⟨rfl, hb1⟩; obtain ⟨hcA, hfA⟩ := bcell hb1)
  go_loop [2, 16] (fun n i => ∃ k : Nat, k ≤ c ∧ i = .int .i64 k ∧ n = .int .u64 (uacc bs a k % 18446744073709551616)) (fun _ i => 10 - (intOf i).toNat)
  case atStart => exact ⟨0, by omega, rfl, by first | rfl | (simp only [uacc]; unfold wrap64; rfl)⟩
  case round =>
    obtain ⟨k, hk, rfl, rfl⟩ := hrel
    by_cases hlt : k < c
    · have hcx := HC.out (a + k) (by omega)
      go_wp2
      go_round
      case rel => exact ⟨k + 1, by omega, by go_num, by rw [uacc_step_u64 bs a k (by omega) (HB.out _).1 (HB.out _).2]⟩
      case measure => simp [intOf]; omega
    · obtain rfl : k = c := by omega
      have hmin : min (7 * (k : Int)) 64 = 7 * (k : Int) := by omega
      go_wp2
      go_quiet ((go_at_call 75; exact Calls.quiet_of_same (low_u64 _ _ _ (by omega) (by omega))))
      go_wp2
      go_ret3
      exact ⟨ret_3i (fin_u64 bs a k hc2) rfl rfl, below_drewN (((Below.refl _ _).alloc (Nat.le_refl _) _).trans (hb1.mono (by simp))) _⟩

theorem grouped_ten_u64 (b off len cap a : Nat) (bs : Nat → Int) (w : World) (hl : len ≤ 140737488355328)
    (hcell : ∀ i, i < len → w.cell? ⟨b, off + i, none⟩ = some (.int .u8 (bs i))) (hbs : ∀ i, 0 ≤ bs i ∧ bs i < 256)
    (hc3 : a + 10 ≤ len) (hhi : ∀ j, j + 1 < 10 → 128 ≤ bs (a + j)) (hlo : bs (a + 9) < 128) (ht : bs (a + 9) ≤ 1) :
    Calls Try.prog 66 #[.agg #[.slice (some ⟨b, off, none⟩) len cap, .int .i64 a]] w fun e w' => e = .returned (.tuple #[.int .u64 (uacc bs a 10 % 18446744073709551616), .int .i64 (a + 10), .int .i64 0]) ∧ Below w.heap.size w w' := by
  have HC : Hid (∀ i, i < len → w.cell? ⟨b, off + i, none⟩ = some (.int .u8 (bs i))) := hcell
  have hbw : b < w.heap.size := cell_lt (hcell 0 (by omega))
  have G := fun w hcell => groups_num_u64 b off len cap a 10 bs w hl hcell (by omega) (by omega) hc3 hhi hlo
  have HB : Hid (∀ i, 0 ≤ bs i ∧ bs i < 256) := hbs
  have T := ten_u64_ok bs a (hbs _).1 ht
  clear hcell hhi hlo hbs ht
  go_enter Try.func66, Try.ntmps66
  go_wp2_with (go_at_call 77; refine (G _ (by intro i hi; simp [World.cell?_alloc_past, hbw]; exact HC.out i hi)).mono ?_; rintro e w1 ⟨rfl, hb1⟩; obtain ⟨hcA, hfA⟩ := bcell hb1)
  go_loop [2, 16] (fun n i => ∃ k : Nat, k ≤ 10 ∧ i = .int .i64 k ∧ n = .int .u64 (uacc bs a k % 18446744073709551616)) (fun _ i => 10 - (intOf i).toNat)
  case atStart => exact ⟨0, by omega, rfl, by first | rfl | (simp only [uacc]; unfold wrap64; rfl)⟩
  case round =>
    obtain ⟨k, hk, rfl, rfl⟩ := hrel
    by_cases hlt : k < 10
    · have hcx := HC.out (a + k) (by omega)
      go_wp2
      go_round
      case rel => exact ⟨k + 1, by omega, by go_num, by rw [uacc_step_u64 bs a k (by omega) (HB.out _).1 (HB.out _).2]⟩
      case measure => simp [intOf]; omega
    · obtain rfl : k = 10 := by omega
      have hcx := HC.out (a + 9) (by omega)
      go_wp2
      go_quiet ((go_at_call 75; exact Calls.quiet_of_same (low_u64 _ _ _ (by omega) (by omega))))
      go_wp2
      go_ret3
      exact ⟨ret_3i (fin10_u64 bs a) rfl rfl, below_drewN (((Below.refl _ _).alloc (Nat.le_refl _) _).trans (hb1.mono (by simp))) _⟩

theorem grouped_bad_u64 (b off len cap a : Nat) (bs : Nat → Int) (w : World) (hl : len ≤ 140737488355328)
    (hcell : ∀ i, i < len → w.cell? ⟨b, off + i, none⟩ = some (.int .u8 (bs i))) (hbs : ∀ i, 0 ≤ bs i ∧ bs i < 256)
    (hc3 : a + 10 ≤ len) (hhi : ∀ j, j + 1 < 10 → 128 ≤ bs (a + j)) (hlo : bs (a + 9) < 128) (ht : ¬ (bs (a + 9) ≤ 1)) :
    Calls Try.prog 66 #[.agg #[.slice (some ⟨b, off, none⟩) len cap, .int .i64 a]] w fun e w' => e = .returned (.tuple #[.int .u64 0, .int .i64 0, .int .i64 21]) ∧ Below w.heap.size w w' := by
  have HC : Hid (∀ i, i < len → w.cell? ⟨b, off + i, none⟩ = some (.int .u8 (bs i))) := hcell
  have hbw : b < w.heap.size := cell_lt (hcell 0 (by omega))
  have G := fun w hcell => groups_num_u64 b off len cap a 10 bs w hl hcell (by omega) (by omega) hc3 hhi hlo
  have HB : Hid (∀ i, 0 ≤ bs i ∧ bs i < 256) := hbs
  have T := ten_u64_bad bs a (by omega) hlo
  clear hcell hhi hlo hbs ht
  go_enter Try.func66, Try.ntmps66
  go_wp2_with (go_at_call 77; refine (G _ (by intro i hi; simp [World.cell?_alloc_past, hbw]; exact HC.out i hi)).mono ?_; rintro e w1 ⟨rfl, hb1⟩; obtain ⟨hcA, hfA⟩ := bcell hb1)
  go_loop [2, 16] (fun n i => ∃ k : Nat, k ≤ 10 ∧ i = .int .i64 k ∧ n = .int .u64 (uacc bs a k % 18446744073709551616)) (fun _ i => 10 - (intOf i).toNat)
  case atStart => exact ⟨0, by omega, rfl, by first | rfl | (simp only [uacc]; unfold wrap64; rfl)⟩
  case round =>
    obtain ⟨k, hk, rfl, rfl⟩ := hrel
    by_cases hlt : k < 10
    · have hcx := HC.out (a + k) (by omega)
      go_wp2
      go_round
      case rel => exact ⟨k + 1, by omega, by go_num, by rw [uacc_step_u64 bs a k (by omega) (HB.out _).1 (HB.out _).2]⟩
      case measure => simp [intOf]; omega
    · obtain rfl : k = 10 := by omega
      have hcx := HC.out (a + 9) (by omega)
      go_wp2
      go_ret3
      exact ⟨rfl, ((Below.refl _ _).alloc (Nat.le_refl _) _).trans (hb1.mono (by simp))⟩

theorem grouped_err_u64 (ao : Option Addr) (len cap : Nat) (at' E : Int) (w : World) (hE : (E != 0) = true)
    (G : ∀ o, Calls Try.prog 77 #[.agg #[.slice ao len cap, .int .i64 at']] (w.alloc o) fun e w' => e = .returned (.tuple #[.int .i64 0, .int .i64 E]) ∧ Below (w.alloc o).heap.size (w.alloc o) w') :
    Calls Try.prog 66 #[.agg #[.slice ao len cap, .int .i64 at']] w fun e w' => e = .returned (.tuple #[.int .u64 0, .int .i64 0, .int .i64 E]) ∧ Below w.heap.size w w' := by
  go_enter Try.func66, Try.ntmps66
  go_wp2_with (go_at_call 77; refine (G _).mono ?_; rintro e w1 ⟨rfl, hb1⟩)
  go_ret3
  exact ⟨rfl, ((Below.refl _ _).alloc (Nat.le_refl _) _).trans (hb1.mono (by simp))⟩
theorem grouped_num_i64 (b off len cap a c : Nat) (bs : Nat → Int) (w : World) (hl : len ≤ 140737488355328)
    (hcell : ∀ i, i < len → w.cell? ⟨b, off + i, none⟩ = some (.int .u8 (bs i))) (hbs : ∀ i, 0 ≤ bs i ∧ bs i < 256)
    (hc1 : 1 ≤ c) (hc2 : c ≤ 9) (hc3 : a + c ≤ len) (hhi : ∀ j, j + 1 < c → 128 ≤ bs (a + j)) (hlo : bs (a + (c - 1)) < 128) :
    Calls Try.prog 96 #[.agg #[.slice (some ⟨b, off, none⟩) len cap, .int .i64 a]] w fun e w' => e = .returned (.tuple #[.int .i64 (sx (7 * c) (uacc bs a c)), .int .i64 (a + c), .int .i64 0]) ∧ Below w.heap.size w w' := by
  have HC : Hid (∀ i, i < len → w.cell? ⟨b, off + i, none⟩ = some (.int .u8 (bs i))) := hcell
  have hbw : b < w.heap.size := cell_lt (hcell 0 (by omega))
  have G := fun w hcell => groups_num_i64 b off len cap a c bs w hl hcell hc1 (by omega) hc3 hhi hlo
  have HB : Hid (∀ i, 0 ≤ bs i ∧ bs i < 256) := hbs
  clear hcell hhi hlo hbs
  go_enter Try.func96, Try.ntmps96
  go_wp2_with (go_at_call 98; refine (G _ (by intro i hi; simp [World.cell?_alloc_past, hbw]; exact HC.out i hi)).mono ?_; rintro e w1 ⟨rfl, hb1⟩; obtain ⟨hcA, hfA⟩ := bcell hb1)
  go_loop [2, 16] (fun n i => ∃ k : Nat, k ≤ c ∧ i = .int .i64 k ∧ n = .int .i64 (wrap64 (uacc bs a k))) (fun _ i => 10 - (intOf i).toNat)
  case atStart => exact ⟨0, by omega, rfl, by first | rfl | (simp only [uacc]; unfold wrap64; rfl)⟩
  case round =>
    obtain ⟨k, hk, rfl, rfl⟩ := hrel
    by_cases hlt : k < c
    · have hcx := HC.out (a + k) (by omega)
      go_wp2
      go_round
      case rel => exact ⟨k + 1, by omega, by go_num, by rw [uacc_step_i64 bs a k (by omega) (HB.out _).1 (HB.out _).2]⟩
      case measure => simp [intOf]; omega
    · obtain rfl : k = c := by omega
      have hmin : min (7 * (k : Int)) 64 = 7 * (k : Int) := by omega
      go_wp2
      go_quiet ((go_at_call 89; exact Calls.quiet_of_same (low_i64 _ _ _ (by omega) (by omega))))
      go_wp2
      go_ret3
      exact ⟨ret_3i (fin_i64 bs a k hc2) rfl rfl, below_drewN (((Below.refl _ _).alloc (Nat.le_refl _) _).trans (hb1.mono (by simp))) _⟩

theorem grouped_ten_i64 (b off len cap a : Nat) (bs : Nat → Int) (w : World) (hl : len ≤ 140737488355328)
    (hcell : ∀ i, i < len → w.cell? ⟨b, off + i, none⟩ = some (.int .u8 (bs i))) (hbs : ∀ i, 0 ≤ bs i ∧ bs i < 256)
    (hc3 : a + 10 ≤ len) (hhi : ∀ j, j + 1 < 10 → 128 ≤ bs (a + j)) (hlo : bs (a + 9) < 128) (ht : bs (a + 9) = 0 ∨ bs (a + 9) = 127) :
    Calls Try.prog 96 #[.agg #[.slice (some ⟨b, off, none⟩) len cap, .int .i64 a]] w fun e w' => e = .returned (.tuple #[.int .i64 (wrap64 (uacc bs a 10)), .int .i64 (a + 10), .int .i64 0]) ∧ Below w.heap.size w w' := by
  have HC : Hid (∀ i, i < len → w.cell? ⟨b, off + i, none⟩ = some (.int .u8 (bs i))) := hcell
  have hbw : b < w.heap.size := cell_lt (hcell 0 (by omega))
  have G := fun w hcell => groups_num_i64 b off len cap a 10 bs w hl hcell (by omega) (by omega) hc3 hhi hlo
  have HB : Hid (∀ i, 0 ≤ bs i ∧ bs i < 256) := hbs
  have T := ten_i64_ok bs a ht
  clear hcell hhi hlo hbs ht
  go_enter Try.func96, Try.ntmps96
  go_wp2_with (go_at_call 98; refine (G _ (by intro i hi; simp [World.cell?_alloc_past, hbw]; exact HC.out i hi)).mono ?_; rintro e w1 ⟨rfl, hb1⟩; obtain ⟨hcA, hfA⟩ := bcell hb1)
  go_loop [2, 16] (fun n i => ∃ k : Nat, k ≤ 10 ∧ i = .int .i64 k ∧ n = .int .i64 (wrap64 (uacc bs a k))) (fun _ i => 10 - (intOf i).toNat)
  case atStart => exact ⟨0, by omega, rfl, by first | rfl | (simp only [uacc]; unfold wrap64; rfl)⟩
  case round =>
    obtain ⟨k, hk, rfl, rfl⟩ := hrel
    by_cases hlt : k < 10
    · have hcx := HC.out (a + k) (by omega)
      go_wp2
      go_round
      case rel => exact ⟨k + 1, by omega, by go_num, by rw [uacc_step_i64 bs a k (by omega) (HB.out _).1 (HB.out _).2]⟩
      case measure => simp [intOf]; omega
    · obtain rfl : k = 10 := by omega
      have hcx := HC.out (a + 9) (by omega)
      go_wp2
      go_quiet ((go_at_call 89; exact Calls.quiet_of_same (low_i64 _ _ _ (by omega) (by omega))))
      go_wp2
      go_ret3
      exact ⟨ret_3i (fin10_i64 bs a) rfl rfl, below_drewN (((Below.refl _ _).alloc (Nat.le_refl _) _).trans (hb1.mono (by simp))) _⟩

theorem grouped_bad_i64 (b off len cap a : Nat) (bs : Nat → Int) (w : World) (hl : len ≤ 140737488355328)
    (hcell : ∀ i, i < len → w.cell? ⟨b, off + i, none⟩ = some (.int .u8 (bs i))) (hbs : ∀ i, 0 ≤ bs i ∧ bs i < 256)
    (hc3 : a + 10 ≤ len) (hhi : ∀ j, j + 1 < 10 → 128 ≤ bs (a + j)) (hlo : bs (a + 9) < 128) (ht : ¬ (bs (a + 9) = 0 ∨ bs (a + 9) = 127)) :
    Calls Try.prog 96 #[.agg #[.slice (some ⟨b, off, none⟩) len cap, .int .i64 a]] w fun e w' => e = .returned (.tuple #[.int .i64 0, .int .i64 0, .int .i64 21]) ∧ Below w.heap.size w w' := by
  have HC : Hid (∀ i, i < len → w.cell? ⟨b, off + i, none⟩ = some (.int .u8 (bs i))) := hcell
  have hbw : b < w.heap.size := cell_lt (hcell 0 (by omega))
  have G := fun w hcell => groups_num_i64 b off len cap a 10 bs w hl hcell (by omega) (by omega) hc3 hhi hlo
  have HB : Hid (∀ i, 0 ≤ bs i ∧ bs i < 256) := hbs
  have T := ten_i64_bad bs a (hbs _).1 hlo ht
  clear hcell hhi hlo hbs ht
  go_enter Try.func96, Try.ntmps96
  go_wp2_with (go_at_call 98; refine (G _ (by intro i hi; simp [World.cell?_alloc_past, hbw]; exact HC.out i hi)).mono ?_; rintro e w1 ⟨rfl, hb1⟩; obtain ⟨hcA, hfA⟩ := bcell hb1)
  go_loop [2, 16] (fun n i => ∃ k : Nat, k ≤ 10 ∧ i = .int .i64 k ∧ n = .int .i64 (wrap64 (uacc bs a k))) (fun _ i => 10 - (intOf i).toNat)
  case atStart => exact ⟨0, by omega, rfl, by first | rfl | (simp only [uacc]; unfold wrap64; rfl)⟩
  case round =>
    obtain ⟨k, hk, rfl, rfl⟩ := hrel
    by_cases hlt : k < 10
    · have hcx := HC.out (a + k) (by omega)
      go_wp2
      go_round
      case rel => exact ⟨k + 1, by omega, by go_num, by rw [uacc_step_i64 bs a k (by omega) (HB.out _).1 (HB.out _).2]⟩
      case measure => simp [intOf]; omega
    · obtain rfl : k = 10 := by omega
      have hcx := HC.out (a + 9) (by omega)
      go_wp2
      go_ret3
      exact ⟨rfl, ((Below.refl _ _).alloc (Nat.le_refl _) _).trans (hb1.mono (by simp))⟩

theorem grouped_err_i64 (ao : Option Addr) (len cap : Nat) (at' E : Int) (w : World) (hE : (E != 0) = true)
    (G : ∀ o, Calls Try.prog 98 #[.agg #[.slice ao len cap, .int .i64 at']] (w.alloc o) fun e w' => e = .returned (.tuple #[.int .i64 0, .int .i64 E]) ∧ Below (w.alloc o).heap.size (w.alloc o) w') :
    Calls Try.prog 96 #[.agg #[.slice ao len cap, .int .i64 at']] w fun e w' => e = .returned (.tuple #[.int .i64 0, .int .i64 0, .int .i64 E]) ∧ Below w.heap.size w w' := by
  go_enter Try.func96, Try.ntmps96
  go_wp2_with (go_at_call 98; refine (G _).mono ?_; rintro e w1 ⟨rfl, hb1⟩)
  go_ret3
  exact ⟨rfl, ((Below.refl _ _).alloc (Nat.le_refl _) _).trans (hb1.mono (by simp))⟩
end Go.Proofs.Ytbhdledlahbokaa
