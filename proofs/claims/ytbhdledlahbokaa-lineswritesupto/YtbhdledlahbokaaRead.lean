/- The contracts of the readers of numbers in groups: groups, grouped, ReadUleb, ReadSleb. -/
import Derived.Test.YtbhdledlahbokaaPure
import Derived.Outline
namespace Go.Proofs.Ytbhdledlahbokaa
open Go.ChangeShapes Go.WideShapes Go.ChangeAt Go.RowKit
set_option linter.unusedVariables false

theorem cell_lt {w : World} {b o : Nat} {v : Value} (h : w.cell? ⟨b, o, none⟩ = some v) : b < w.heap.size := by
  apply Classical.byContradiction
  intro hn
  have : w.heap[b]? = none := by simp; omega
  simp [World.cell?, this] at h

theorem ret_2i {k k' : IntKind} {a b c d : Int} (h : a = b) (h' : c = d) : Ending.returned (.tuple #[.int k a, .int k' c]) = .returned (.tuple #[.int k b, .int k' d]) := by rw [h, h']

theorem groups_neg_u64 (ao : Option Addr) (len cap : Nat) (at' : Int) (w : World) (h : at' < 0) :
    Calls Try.prog 77 #[.agg #[.slice ao len cap, .int .i64 at']] w fun e w' => e = .returned (.tuple #[.int .i64 0, .int .i64 20]) ∧ Below w.heap.size w w' := by
  go_enter Try.func77, Try.ntmps77
  go_wp2
  go_ret2
  exact ⟨rfl, (Below.refl _ _).alloc (Nat.le_refl _) _⟩

theorem groups_none_u64 (ao : Option Addr) (cap : Nat) (a : Nat) (w : World) (ha : a ≤ 9223372036854775807) :
    Calls Try.prog 77 #[.agg #[.slice ao 0 cap, .int .i64 a]] w fun e w' => e = .returned (.tuple #[.int .i64 0, .int .i64 20]) ∧ Below w.heap.size w w' := by
  go_enter Try.func77, Try.ntmps77
  go_wp2
  go_loop [15] (fun i => i = .int .i64 0) (fun i => 10 - (intOf i).toNat)
  case atStart => rfl
  case round =>
    subst hrel
    have h : 0 - (a : Int) ≤ 0 := by omega
    go_wp2
    go_ret2
    exact ⟨rfl, (Below.refl _ _).alloc (Nat.le_refl _) _⟩

theorem groups_num_u64 (b off len cap a c : Nat) (bs : Nat → Int) (w : World) (hl : len ≤ 140737488355328)
    (hcell : ∀ i, i < len → w.cell? ⟨b, off + i, none⟩ = some (.int .u8 (bs i)))
    (hc1 : 1 ≤ c) (hc2 : c ≤ 10) (hc3 : a + c ≤ len) (hhi : ∀ j, j + 1 < c → 128 ≤ bs (a + j)) (hlo : bs (a + (c - 1)) < 128) :
    Calls Try.prog 77 #[.agg #[.slice (some ⟨b, off, none⟩) len cap, .int .i64 a]] w fun e w' => e = .returned (.tuple #[.int .i64 c, .int .i64 0]) ∧ Below w.heap.size w w' := by
  have HC : Hid (∀ i, i < len → w.cell? ⟨b, off + i, none⟩ = some (.int .u8 (bs i))) := hcell
  have HH : Hid (∀ j, j + 1 < c → 128 ≤ bs (a + j)) := hhi
  have HL : Hid (bs (a + (c - 1)) < 128) := hlo
  have hbw : b < w.heap.size := cell_lt (hcell 0 (by omega))
  clear hcell hhi hlo
  go_enter Try.func77, Try.ntmps77
  go_wp2
  go_loop [15] (fun i => ∃ k : Nat, k < c ∧ i = .int .i64 k) (fun i => 10 - (intOf i).toNat)
  case atStart => exact ⟨0, by omega, rfl⟩
  case round =>
    obtain ⟨k, hk, rfl⟩ := hrel
    have hcx := HC.out (a + k) (by omega)
    by_cases hlt : k + 1 < c
    · have h128 := HH.out k hlt
      go_wp2
      go_round
      case rel => exact ⟨k + 1, hlt, by go_num⟩
      case measure => simp [intOf]; omega
    · have h128 : bs (a + k) < 128 := by have := HL.out; rw [show c - 1 = k from by omega] at this; exact this
      go_wp2
      go_ret2
      exact ⟨ret_2i (by omega) rfl, (Below.refl _ _).alloc (Nat.le_refl _) _⟩

theorem groups_end_u64 (b off len cap a : Nat) (bs : Nat → Int) (w : World) (hl : len ≤ 140737488355328) (hl0 : 0 < len) (ha : a ≤ 9223372036854775807)
    (hcell : ∀ i, i < len → w.cell? ⟨b, off + i, none⟩ = some (.int .u8 (bs i)))
    (hend : len ≤ a + 10) (hhi : ∀ j, a + j < len → 128 ≤ bs (a + j)) :
    Calls Try.prog 77 #[.agg #[.slice (some ⟨b, off, none⟩) len cap, .int .i64 a]] w fun e w' => e = .returned (.tuple #[.int .i64 0, .int .i64 20]) ∧ Below w.heap.size w w' := by
  have HC : Hid (∀ i, i < len → w.cell? ⟨b, off + i, none⟩ = some (.int .u8 (bs i))) := hcell
  have HH : Hid (∀ j, a + j < len → 128 ≤ bs (a + j)) := hhi
  have hbw : b < w.heap.size := cell_lt (hcell 0 hl0)
  clear hcell hhi
  go_enter Try.func77, Try.ntmps77
  go_wp2
  go_loop [15] (fun i => ∃ k : Nat, k ≤ 10 ∧ (k = 0 ∨ a + k ≤ len) ∧ i = .int .i64 k) (fun i => 10 - (intOf i).toNat)
  case atStart => exact ⟨0, by omega, .inl rfl, rfl⟩
  case round =>
    obtain ⟨k, hk, hka, rfl⟩ := hrel
    by_cases h10 : k = 10
    · subst h10
      have hx : len = a + 10 := by omega
      subst hx
      go_wp2
      go_ret2
      exact ⟨rfl, (Below.refl _ _).alloc (Nat.le_refl _) _⟩
    · by_cases hlt : a + k < len
      · have hcx := HC.out (a + k) (by omega)
        have h128 := HH.out k hlt
        go_wp2
        go_round
        case rel => exact ⟨k + 1, by omega, by omega, by go_num⟩
        case measure => simp [intOf]; omega
      · go_wp2
        go_ret2
        exact ⟨rfl, (Below.refl _ _).alloc (Nat.le_refl _) _⟩

theorem groups_long_u64 (b off len cap a : Nat) (bs : Nat → Int) (w : World) (hl : len ≤ 140737488355328)
    (hcell : ∀ i, i < len → w.cell? ⟨b, off + i, none⟩ = some (.int .u8 (bs i)))
    (hend : a + 11 ≤ len) (hhi : ∀ j, j < 10 → 128 ≤ bs (a + j)) :
    Calls Try.prog 77 #[.agg #[.slice (some ⟨b, off, none⟩) len cap, .int .i64 a]] w fun e w' => e = .returned (.tuple #[.int .i64 0, .int .i64 21]) ∧ Below w.heap.size w w' := by
  have HC : Hid (∀ i, i < len → w.cell? ⟨b, off + i, none⟩ = some (.int .u8 (bs i))) := hcell
  have HH : Hid (∀ j, j < 10 → 128 ≤ bs (a + j)) := hhi
  have hbw : b < w.heap.size := cell_lt (hcell 0 (by omega))
  clear hcell hhi
  go_enter Try.func77, Try.ntmps77
  go_wp2
  go_loop [15] (fun i => ∃ k : Nat, k ≤ 10 ∧ i = .int .i64 k) (fun i => 10 - (intOf i).toNat)
  case atStart => exact ⟨0, by omega, rfl⟩
  case round =>
    obtain ⟨k, hk, rfl⟩ := hrel
    by_cases hlt : k < 10
    · have hcx := HC.out (a + k) (by omega)
      have h128 := HH.out k hlt
      go_wp2
      go_round
      case rel => exact ⟨k + 1, by omega, by go_num⟩
      case measure => simp [intOf]; omega
    · obtain rfl : k = 10 := by omega
      have hne : ((len : Int) - (a : Int) == 10) = false := by simp; omega
      go_wp2
      go_ret2
      exact ⟨rfl, (Below.refl _ _).alloc (Nat.le_refl _) _⟩
theorem groups_neg_i64 (ao : Option Addr) (len cap : Nat) (at' : Int) (w : World) (h : at' < 0) :
    Calls Try.prog 98 #[.agg #[.slice ao len cap, .int .i64 at']] w fun e w' => e = .returned (.tuple #[.int .i64 0, .int .i64 20]) ∧ Below w.heap.size w w' := by
  go_enter Try.func98, Try.ntmps98
  go_wp2
  go_ret2
  exact ⟨rfl, (Below.refl _ _).alloc (Nat.le_refl _) _⟩

theorem groups_none_i64 (ao : Option Addr) (cap : Nat) (a : Nat) (w : World) (ha : a ≤ 9223372036854775807) :
    Calls Try.prog 98 #[.agg #[.slice ao 0 cap, .int .i64 a]] w fun e w' => e = .returned (.tuple #[.int .i64 0, .int .i64 20]) ∧ Below w.heap.size w w' := by
  go_enter Try.func98, Try.ntmps98
  go_wp2
  go_loop [15] (fun i => i = .int .i64 0) (fun i => 10 - (intOf i).toNat)
  case atStart => rfl
  case round =>
    subst hrel
    have h : 0 - (a : Int) ≤ 0 := by omega
    go_wp2
    go_ret2
    exact ⟨rfl, (Below.refl _ _).alloc (Nat.le_refl _) _⟩

theorem groups_num_i64 (b off len cap a c : Nat) (bs : Nat → Int) (w : World) (hl : len ≤ 140737488355328)
    (hcell : ∀ i, i < len → w.cell? ⟨b, off + i, none⟩ = some (.int .u8 (bs i)))
    (hc1 : 1 ≤ c) (hc2 : c ≤ 10) (hc3 : a + c ≤ len) (hhi : ∀ j, j + 1 < c → 128 ≤ bs (a + j)) (hlo : bs (a + (c - 1)) < 128) :
    Calls Try.prog 98 #[.agg #[.slice (some ⟨b, off, none⟩) len cap, .int .i64 a]] w fun e w' => e = .returned (.tuple #[.int .i64 c, .int .i64 0]) ∧ Below w.heap.size w w' := by
  have HC : Hid (∀ i, i < len → w.cell? ⟨b, off + i, none⟩ = some (.int .u8 (bs i))) := hcell
  have HH : Hid (∀ j, j + 1 < c → 128 ≤ bs (a + j)) := hhi
  have HL : Hid (bs (a + (c - 1)) < 128) := hlo
  have hbw : b < w.heap.size := cell_lt (hcell 0 (by omega))
  clear hcell hhi hlo
  go_enter Try.func98, Try.ntmps98
  go_wp2
  go_loop [15] (fun i => ∃ k : Nat, k < c ∧ i = .int .i64 k) (fun i => 10 - (intOf i).toNat)
  case atStart => exact ⟨0, by omega, rfl⟩
  case round =>
    obtain ⟨k, hk, rfl⟩ := hrel
    have hcx := HC.out (a + k) (by omega)
    by_cases hlt : k + 1 < c
    · have h128 := HH.out k hlt
      go_wp2
      go_round
      case rel => exact ⟨k + 1, hlt, by go_num⟩
      case measure => simp [intOf]; omega
    · have h128 : bs (a + k) < 128 := by have := HL.out; rw [show c - 1 = k from by omega] at this; exact this
      go_wp2
      go_ret2
      exact ⟨ret_2i (by omega) rfl, (Below.refl _ _).alloc (Nat.le_refl _) _⟩

theorem groups_end_i64 (b off len cap a : Nat) (bs : Nat → Int) (w : World) (hl : len ≤ 140737488355328) (hl0 : 0 < len) (ha : a ≤ 9223372036854775807)
    (hcell : ∀ i, i < len → w.cell? ⟨b, off + i, none⟩ = some (.int .u8 (bs i)))
    (hend : len ≤ a + 10) (hhi : ∀ j, a + j < len → 128 ≤ bs (a + j)) :
    Calls Try.prog 98 #[.agg #[.slice (some ⟨b, off, none⟩) len cap, .int .i64 a]] w fun e w' => e = .returned (.tuple #[.int .i64 0, .int .i64 20]) ∧ Below w.heap.size w w' := by
  have HC : Hid (∀ i, i < len → w.cell? ⟨b, off + i, none⟩ = some (.int .u8 (bs i))) := hcell
  have HH : Hid (∀ j, a + j < len → 128 ≤ bs (a + j)) := hhi
  have hbw : b < w.heap.size := cell_lt (hcell 0 hl0)
  clear hcell hhi
  go_enter Try.func98, Try.ntmps98
  go_wp2
  go_loop [15] (fun i => ∃ k : Nat, k ≤ 10 ∧ (k = 0 ∨ a + k ≤ len) ∧ i = .int .i64 k) (fun i => 10 - (intOf i).toNat)
  case atStart => exact ⟨0, by omega, .inl rfl, rfl⟩
  case round =>
    obtain ⟨k, hk, hka, rfl⟩ := hrel
    by_cases h10 : k = 10
    · subst h10
      have hx : len = a + 10 := by omega
      subst hx
      go_wp2
      go_ret2
      exact ⟨rfl, (Below.refl _ _).alloc (Nat.le_refl _) _⟩
    · by_cases hlt : a + k < len
      · have hcx := HC.out (a + k) (by omega)
        have h128 := HH.out k hlt
        go_wp2
        go_round
        case rel => exact ⟨k + 1, by omega, by omega, by go_num⟩
        case measure => simp [intOf]; omega
      · go_wp2
        go_ret2
        exact ⟨rfl, (Below.refl _ _).alloc (Nat.le_refl _) _⟩

theorem groups_long_i64 (b off len cap a : Nat) (bs : Nat → Int) (w : World) (hl : len ≤ 140737488355328)
    (hcell : ∀ i, i < len → w.cell? ⟨b, off + i, none⟩ = some (.int .u8 (bs i)))
    (hend : a + 11 ≤ len) (hhi : ∀ j, j < 10 → 128 ≤ bs (a + j)) :
    Calls Try.prog 98 #[.agg #[.slice (some ⟨b, off, none⟩) len cap, .int .i64 a]] w fun e w' => e = .returned (.tuple #[.int .i64 0, .int .i64 21]) ∧ Below w.heap.size w w' := by
  have HC : Hid (∀ i, i < len → w.cell? ⟨b, off + i, none⟩ = some (.int .u8 (bs i))) := hcell
  have HH : Hid (∀ j, j < 10 → 128 ≤ bs (a + j)) := hhi
  have hbw : b < w.heap.size := cell_lt (hcell 0 (by omega))
  clear hcell hhi
  go_enter Try.func98, Try.ntmps98
  go_wp2
  go_loop [15] (fun i => ∃ k : Nat, k ≤ 10 ∧ i = .int .i64 k) (fun i => 10 - (intOf i).toNat)
  case atStart => exact ⟨0, by omega, rfl⟩
  case round =>
    obtain ⟨k, hk, rfl⟩ := hrel
    by_cases hlt : k < 10
    · have hcx := HC.out (a + k) (by omega)
      have h128 := HH.out k hlt
      go_wp2
      go_round
      case rel => exact ⟨k + 1, by omega, by go_num⟩
      case measure => simp [intOf]; omega
    · obtain rfl : k = 10 := by omega
      have hne : ((len : Int) - (a : Int) == 10) = false := by simp; omega
      go_wp2
      go_ret2
      exact ⟨rfl, (Below.refl _ _).alloc (Nat.le_refl _) _⟩
end Go.Proofs.Ytbhdledlahbokaa
