/- The contracts of package leb's functions that only compute. The contracts of the readers of numbers in groups: groups, grouped, ReadUleb, ReadSleb. The contracts of grouped, ReadUleb, ReadSleb. The contracts of lowFirst and Put: the bytes of a number, the low one first, in a new row. The contracts of ReadUleb and ReadSleb over any row of bytes, and of knows. The contract of knows: what must come does come. Rows of bytes that a call makes by itself: one more byte; what they read as. The contracts of inGroups, Uleb and Sleb, and of the document's own Uleb and Sleb. What a law's walk is told of a slice of bytes that came in; readings of any bytes, named ahead of the walk. The contracts of Get, and of the document's own Get. Rows that are appended to rows; what rows read as; the contracts of Lent and Stays. -/
import Derived.Test.YtomboebfbipaaaaDoorRows
import Derived.Test.YtomboebfbipaaaaDoorLebA
import Derived.WalkKit
import Derived.ProofKit
import Derived.Below
import Derived.Laws.BitsAllLaws
import Derived.WalkLawsBesides
import Derived.Outline
import Derived.Deep.QuietTactic
import Derived.BigQuiet
import Derived.Laws.BytesArg
import Derived.Laws.AppendOwnNone
namespace Go.Proofs.YtomboebfbipaaaaDoor
open Go.ChangeShapes Go.WideShapes Go.ChangeAt Go.RowKit
set_option linter.unusedVariables false

theorem isSize_yes (n : Int) (w : World) (h : n = 1 ∨ n = 2 ∨ n = 4 ∨ n = 8) :
    Calls Tryd.prog 68 #[.int .i64 n] w fun e w' => e = .returned (.bool true) ∧ w' = w := by
  rcases h with rfl | rfl | rfl | rfl
  all_goals
    go_enter Tryd.func68, Tryd.ntmps68
    go_wp2
    go_ret
    exact ⟨rfl, rfl⟩

theorem isSize_no (n : Int) (w : World) (h : ¬ (n = 1 ∨ n = 2 ∨ n = 4 ∨ n = 8)) :
    Calls Tryd.prog 68 #[.int .i64 n] w fun e w' => e = .returned (.bool false) ∧ w' = w := by
  have h1 : (n == 1) = false := by simp; omega
  have h2 : (n == 2) = false := by simp; omega
  have h4 : (n == 4) = false := by simp; omega
  have h8 : (n == 8) = false := by simp; omega
  clear h
  go_enter Tryd.func68, Tryd.ntmps68
  go_wp2
  go_ret
  exact ⟨rfl, rfl⟩


/-- A shift to the right by k leaves 0 or -1 just where the number lies within k bits and a sign. -/
theorem sar_in (n : Int) (k : Nat) : (n / 2 ^ k = 0 ∨ n / 2 ^ k = -1) ↔ (-(2 ^ k) ≤ n ∧ n < 2 ^ k) := by
  have hp := pow_pos_i k
  constructor
  · rintro (h | h)
    · have := Int.emod_add_mul_ediv n (2 ^ k); rw [h] at this
      have a := Int.emod_nonneg n (Int.ne_of_gt hp); have b := Int.emod_lt_of_pos n hp
      omega
    · have := Int.emod_add_mul_ediv n (2 ^ k); rw [h] at this
      have a := Int.emod_nonneg n (Int.ne_of_gt hp); have b := Int.emod_lt_of_pos n hp
      omega
  · rintro ⟨h1, h2⟩
    by_cases h : 0 ≤ n
    · exact .inl (Int.ediv_eq_zero_of_lt h h2)
    · right
      have a := Int.emod_nonneg n (Int.ne_of_gt hp); have b := Int.emod_lt_of_pos n hp
      have e := Int.emod_add_mul_ediv n (2 ^ k)
      have lo : -1 ≤ n / 2 ^ k := by
        apply Int.le_ediv_of_mul_le hp; omega
      have hi : n / 2 ^ k < 0 := Int.ediv_neg_of_neg_of_pos (by omega) hp
      omega

def fitsB (n b : Int) (s : Bool) : Bool :=
  decide (1 ≤ b) && decide (b ≤ 64) && (if s then decide (-(2 ^ (b.toNat - 1)) ≤ n) && decide (n < 2 ^ (b.toNat - 1)) else decide (0 ≤ n) && decide (n < 2 ^ b.toNat))

theorem ret_bool {a b : Bool} (h : a = b) : Ending.returned (.bool a) = .returned (.bool b) := by rw [h]

theorem fits_any (n b : Int) (s : Bool) (w : World) :
    Calls Tryd.prog 52 #[.int .i64 n, .int .i64 b, .bool s] w fun e w' => e = .returned (.bool (fitsB n b s)) ∧ w' = w := by
  by_cases h0 : 1 ≤ b
  · by_cases h1 : b ≤ 64
    · have S := sar_in n (b.toNat - 1)
      have U := sar_in n b.toNat
      have p1 := pow_pos_i (b.toNat - 1)
      have p2 := pow_pos_i b.toNat
      cases s
      · have F : fitsB n b false = (decide (0 ≤ n) && (n / 2 ^ b.toNat == 0)) := by
          unfold fitsB
          rw [Bool.eq_iff_iff]; simp [h0, h1]
          intro hn
          constructor
          · intro hlt; exact Int.ediv_eq_zero_of_lt hn hlt
          · intro h; exact (U.1 (.inl h)).2
        rw [F]; clear S U p1 p2 F
        go_enter Tryd.func52, Tryd.ntmps52
        go_wp2
        all_goals
          go_ret
          exact ⟨ret_bool (by first | (simp [*]; done) | (simp [*]; omega)), rfl⟩
      · have F : fitsB n b true = (n / 2 ^ (b.toNat - 1) == 0 || n / 2 ^ (b.toNat - 1) == -1) := by
          unfold fitsB
          rw [Bool.eq_iff_iff]; simp [h0, h1]
          exact S.symm
        rw [F]; clear S U p1 p2 F
        go_enter Tryd.func52, Tryd.ntmps52
        go_wp2
        all_goals
          go_ret
          exact ⟨ret_bool (by first | (simp [*]; done) | (simp [*]; omega)), rfl⟩
    · have F : fitsB n b s = false := by simp [fitsB, h1]
      rw [F]; clear F
      go_enter Tryd.func52, Tryd.ntmps52
      go_wp2
      go_ret
      exact ⟨rfl, rfl⟩
  · have F : fitsB n b s = false := by simp [fitsB, h0]
    rw [F]; clear F
    go_enter Tryd.func52, Tryd.ntmps52
    go_wp2
    go_ret
    exact ⟨rfl, rfl⟩

theorem cell_lt {w : World} {b o : Nat} {v : Value} (h : w.cell? ⟨b, o, none⟩ = some v) : b < w.heap.size := by
  apply Classical.byContradiction
  intro hn
  have : w.heap[b]? = none := by simp; omega
  simp [World.cell?, this] at h

theorem ret_2i {k k' : IntKind} {a b c d : Int} (h : a = b) (h' : c = d) : Ending.returned (.tuple #[.int k a, .int k' c]) = .returned (.tuple #[.int k b, .int k' d]) := by rw [h, h']

theorem groups_neg_u64 (ao : Option Addr) (len cap : Nat) (at' : Int) (w : World) (h : at' < 0) :
    Calls Tryd.prog 92 #[.agg #[.slice ao len cap, .int .i64 at']] w fun e w' => e = .returned (.tuple #[.int .i64 0, .int .i64 20]) ∧ Below w.heap.size w w' := by
  go_enter Tryd.func92, Tryd.ntmps92
  go_wp2
  go_ret2
  exact ⟨rfl, (Below.refl _ _).alloc (Nat.le_refl _) _⟩

theorem groups_none_u64 (ao : Option Addr) (cap : Nat) (a : Nat) (w : World) (ha : a ≤ 9223372036854775807) :
    Calls Tryd.prog 92 #[.agg #[.slice ao 0 cap, .int .i64 a]] w fun e w' => e = .returned (.tuple #[.int .i64 0, .int .i64 20]) ∧ Below w.heap.size w w' := by
  go_enter Tryd.func92, Tryd.ntmps92
  go_wp2
  go_loop [15] (fun i => i = .int .i64 0) (fun i => 10 - (intOf i).toNat)
  case atStart => rfl
  case round =>
    subst hrel
    have h : 0 - (a : Int) ≤ 0 := by omega
    go_wp2
    go_ret2
    exact ⟨rfl, (Below.refl _ _).alloc (Nat.le_refl _) _⟩

theorem groups_num_u64 (b off len cap a c : Nat) (bs : Nat → Int) (w : World) (hl : len ≤ 140737488355328)
    (hcell : ∀ i, i < len → w.cell? ⟨b, off + i, none⟩ = some (.int .u8 (bs i)))
    (hc1 : 1 ≤ c) (hc2 : c ≤ 10) (hc3 : a + c ≤ len) (hhi : ∀ j, j + 1 < c → 128 ≤ bs (a + j)) (hlo : bs (a + (c - 1)) < 128) :
    Calls Tryd.prog 92 #[.agg #[.slice (some ⟨b, off, none⟩) len cap, .int .i64 a]] w fun e w' => e = .returned (.tuple #[.int .i64 c, .int .i64 0]) ∧ Below w.heap.size w w' := by
  have HC : Hid (∀ i, i < len → w.cell? ⟨b, off + i, none⟩ = some (.int .u8 (bs i))) := hcell
  have HH : Hid (∀ j, j + 1 < c → 128 ≤ bs (a + j)) := hhi
  have HL : Hid (bs (a + (c - 1)) < 128) := hlo
  have hbw : b < w.heap.size := cell_lt (hcell 0 (by omega))
  clear hcell hhi hlo
  go_enter Tryd.func92, Tryd.ntmps92
  go_wp2
  go_loop [15] (fun i => ∃ k : Nat, k < c ∧ i = .int .i64 k) (fun i => 10 - (intOf i).toNat)
  case atStart => exact ⟨0, by omega, rfl⟩
  case round =>
    obtain ⟨k, hk, rfl⟩ := hrel
    have hcx := HC.out (a + k) (by omega)
    by_cases hlt : k + 1 < c
    · have h128 := HH.out k hlt
      go_wp2
      go_round
      case rel => exact ⟨k + 1, hlt, by go_num⟩
      case measure => simp [intOf]; omega
    · have h128 : bs (a + k) < 128 := by have := HL.out; rw [show c - 1 = k from by omega] at this; exact this
      go_wp2
      go_ret2
      exact ⟨ret_2i (by omega) rfl, (Below.refl _ _).alloc (Nat.le_refl _) _⟩

theorem groups_end_u64 (b off len cap a : Nat) (bs : Nat → Int) (w : World) (hl : len ≤ 140737488355328) (hl0 : 0 < len) (ha : a ≤ 9223372036854775807)
    (hcell : ∀ i, i < len → w.cell? ⟨b, off + i, none⟩ = some (.int .u8 (bs i)))
    (hend : len ≤ a + 10) (hhi : ∀ j, a + j < len → 128 ≤ bs (a + j)) :
    Calls Tryd.prog 92 #[.agg #[.slice (some ⟨b, off, none⟩) len cap, .int .i64 a]] w fun e w' => e = .returned (.tuple #[.int .i64 0, .int .i64 20]) ∧ Below w.heap.size w w' := by
  have HC : Hid (∀ i, i < len → w.cell? ⟨b, off + i, none⟩ = some (.int .u8 (bs i))) := hcell
  have HH : Hid (∀ j, a + j < len → 128 ≤ bs (a + j)) := hhi
  have hbw : b < w.heap.size := cell_lt (hcell 0 hl0)
  clear hcell hhi
  go_enter Tryd.func92, Tryd.ntmps92
  go_wp2
  go_loop [15] (fun i => ∃ k : Nat, k ≤ 10 ∧ (k = 0 ∨ a + k ≤ len) ∧ i = .int .i64 k) (fun i => 10 - (intOf i).toNat)
  case atStart => exact ⟨0, by omega, .inl rfl, rfl⟩
  case round =>
    obtain ⟨k, hk, hka, rfl⟩ := hrel
    by_cases h10 : k = 10
    · subst h10
      have hx : len = a + 10 := by omega
      subst hx
      go_wp2
      go_ret2
      exact ⟨rfl, (Below.refl _ _).alloc (Nat.le_refl _) _⟩
    · by_cases hlt : a + k < len
      · have hcx := HC.out (a + k) (by omega)
        have h128 := HH.out k hlt
        go_wp2
        go_round
        case rel => exact ⟨k + 1, by omega, by omega, by go_num⟩
        case measure => simp [intOf]; omega
      · go_wp2
        go_ret2
        exact ⟨rfl, (Below.refl _ _).alloc (Nat.le_refl _) _⟩

theorem groups_long_u64 (b off len cap a : Nat) (bs : Nat → Int) (w : World) (hl : len ≤ 140737488355328)
    (hcell : ∀ i, i < len → w.cell? ⟨b, off + i, none⟩ = some (.int .u8 (bs i)))
    (hend : a + 11 ≤ len) (hhi : ∀ j, j < 10 → 128 ≤ bs (a + j)) :
    Calls Tryd.prog 92 #[.agg #[.slice (some ⟨b, off, none⟩) len cap, .int .i64 a]] w fun e w' => e = .returned (.tuple #[.int .i64 0, .int .i64 21]) ∧ Below w.heap.size w w' := by
  have HC : Hid (∀ i, i < len → w.cell? ⟨b, off + i, none⟩ = some (.int .u8 (bs i))) := hcell
  have HH : Hid (∀ j, j < 10 → 128 ≤ bs (a + j)) := hhi
  have hbw : b < w.heap.size := cell_lt (hcell 0 (by omega))
  clear hcell hhi
  go_enter Tryd.func92, Tryd.ntmps92
  go_wp2
  go_loop [15] (fun i => ∃ k : Nat, k ≤ 10 ∧ i = .int .i64 k) (fun i => 10 - (intOf i).toNat)
  case atStart => exact ⟨0, by omega, rfl⟩
  case round =>
    obtain ⟨k, hk, rfl⟩ := hrel
    by_cases hlt : k < 10
    · have hcx := HC.out (a + k) (by omega)
      have h128 := HH.out k hlt
      go_wp2
      go_round
      case rel => exact ⟨k + 1, by omega, by go_num⟩
      case measure => simp [intOf]; omega
    · obtain rfl : k = 10 := by omega
      have hne : ((len : Int) - (a : Int) == 10) = false := by simp; omega
      go_wp2
      go_ret2
      exact ⟨rfl, (Below.refl _ _).alloc (Nat.le_refl _) _⟩
theorem groups_neg_i64 (ao : Option Addr) (len cap : Nat) (at' : Int) (w : World) (h : at' < 0) :
    Calls Tryd.prog 91 #[.agg #[.slice ao len cap, .int .i64 at']] w fun e w' => e = .returned (.tuple #[.int .i64 0, .int .i64 20]) ∧ Below w.heap.size w w' := by
  go_enter Tryd.func91, Tryd.ntmps91
  go_wp2
  go_ret2
  exact ⟨rfl, (Below.refl _ _).alloc (Nat.le_refl _) _⟩

theorem groups_none_i64 (ao : Option Addr) (cap : Nat) (a : Nat) (w : World) (ha : a ≤ 9223372036854775807) :
    Calls Tryd.prog 91 #[.agg #[.slice ao 0 cap, .int .i64 a]] w fun e w' => e = .returned (.tuple #[.int .i64 0, .int .i64 20]) ∧ Below w.heap.size w w' := by
  go_enter Tryd.func91, Tryd.ntmps91
  go_wp2
  go_loop [15] (fun i => i = .int .i64 0) (fun i => 10 - (intOf i).toNat)
  case atStart => rfl
  case round =>
    subst hrel
    have h : 0 - (a : Int) ≤ 0 := by omega
    go_wp2
    go_ret2
    exact ⟨rfl, (Below.refl _ _).alloc (Nat.le_refl _) _⟩

theorem groups_num_i64 (b off len cap a c : Nat) (bs : Nat → Int) (w : World) (hl : len ≤ 140737488355328)
    (hcell : ∀ i, i < len → w.cell? ⟨b, off + i, none⟩ = some (.int .u8 (bs i)))
    (hc1 : 1 ≤ c) (hc2 : c ≤ 10) (hc3 : a + c ≤ len) (hhi : ∀ j, j + 1 < c → 128 ≤ bs (a + j)) (hlo : bs (a + (c - 1)) < 128) :
    Calls Tryd.prog 91 #[.agg #[.slice (some ⟨b, off, none⟩) len cap, .int .i64 a]] w fun e w' => e = .returned (.tuple #[.int .i64 c, .int .i64 0]) ∧ Below w.heap.size w w' := by
  have HC : Hid (∀ i, i < len → w.cell? ⟨b, off + i, none⟩ = some (.int .u8 (bs i))) := hcell
  have HH : Hid (∀ j, j + 1 < c → 128 ≤ bs (a + j)) := hhi
  have HL : Hid (bs (a + (c - 1)) < 128) := hlo
  have hbw : b < w.heap.size := cell_lt (hcell 0 (by omega))
  clear hcell hhi hlo
  go_enter Tryd.func91, Tryd.ntmps91
  go_wp2
  go_loop [15] (fun i => ∃ k : Nat, k < c ∧ i = .int .i64 k) (fun i => 10 - (intOf i).toNat)
  case atStart => exact ⟨0, by omega, rfl⟩
  case round =>
    obtain ⟨k, hk, rfl⟩ := hrel
    have hcx := HC.out (a + k) (by omega)
    by_cases hlt : k + 1 < c
    · have h128 := HH.out k hlt
      go_wp2
      go_round
      case rel => exact ⟨k + 1, hlt, by go_num⟩
      case measure => simp [intOf]; omega
    · have h128 : bs (a + k) < 128 := by have := HL.out; rw [show c - 1 = k from by omega] at this; exact this
      go_wp2
      go_ret2
      exact ⟨ret_2i (by omega) rfl, (Below.refl _ _).alloc (Nat.le_refl _) _⟩

theorem groups_end_i64 (b off len cap a : Nat) (bs : Nat → Int) (w : World) (hl : len ≤ 140737488355328) (hl0 : 0 < len) (ha : a ≤ 9223372036854775807)
    (hcell : ∀ i, i < len → w.cell? ⟨b, off + i, none⟩ = some (.int .u8 (bs i)))
    (hend : len ≤ a + 10) (hhi : ∀ j, a + j < len → 128 ≤ bs (a + j)) :
    Calls Tryd.prog 91 #[.agg #[.slice (some ⟨b, off, none⟩) len cap, .int .i64 a]] w fun e w' => e = .returned (.tuple #[.int .i64 0, .int .i64 20]) ∧ Below w.heap.size w w' := by
  have HC : Hid (∀ i, i < len → w.cell? ⟨b, off + i, none⟩ = some (.int .u8 (bs i))) := hcell
  have HH : Hid (∀ j, a + j < len → 128 ≤ bs (a + j)) := hhi
  have hbw : b < w.heap.size := cell_lt (hcell 0 hl0)
  clear hcell hhi
  go_enter Tryd.func91, Tryd.ntmps91
  go_wp2
  go_loop [15] (fun i => ∃ k : Nat, k ≤ 10 ∧ (k = 0 ∨ a + k ≤ len) ∧ i = .int .i64 k) (fun i => 10 - (intOf i).toNat)
  case atStart => exact ⟨0, by omega, .inl rfl, rfl⟩
  case round =>
    obtain ⟨k, hk, hka, rfl⟩ := hrel
    by_cases h10 : k = 10
    · subst h10
      have hx : len = a + 10 := by omega
      subst hx
      go_wp2
      go_ret2
      exact ⟨rfl, (Below.refl _ _).alloc (Nat.le_refl _) _⟩
    · by_cases hlt : a + k < len
      · have hcx := HC.out (a + k) (by omega)
        have h128 := HH.out k hlt
        go_wp2
        go_round
        case rel => exact ⟨k + 1, by omega, by omega, by go_num⟩
        case measure => simp [intOf]; omega
      · go_wp2
        go_ret2
        exact ⟨rfl, (Below.refl _ _).alloc (Nat.le_refl _) _⟩

theorem groups_long_i64 (b off len cap a : Nat) (bs : Nat → Int) (w : World) (hl : len ≤ 140737488355328)
    (hcell : ∀ i, i < len → w.cell? ⟨b, off + i, none⟩ = some (.int .u8 (bs i)))
    (hend : a + 11 ≤ len) (hhi : ∀ j, j < 10 → 128 ≤ bs (a + j)) :
    Calls Tryd.prog 91 #[.agg #[.slice (some ⟨b, off, none⟩) len cap, .int .i64 a]] w fun e w' => e = .returned (.tuple #[.int .i64 0, .int .i64 21]) ∧ Below w.heap.size w w' := by
  have HC : Hid (∀ i, i < len → w.cell? ⟨b, off + i, none⟩ = some (.int .u8 (bs i))) := hcell
  have HH : Hid (∀ j, j < 10 → 128 ≤ bs (a + j)) := hhi
  have hbw : b < w.heap.size := cell_lt (hcell 0 (by omega))
  clear hcell hhi
  go_enter Tryd.func91, Tryd.ntmps91
  go_wp2
  go_loop [15] (fun i => ∃ k : Nat, k ≤ 10 ∧ i = .int .i64 k) (fun i => 10 - (intOf i).toNat)
  case atStart => exact ⟨0, by omega, rfl⟩
  case round =>
    obtain ⟨k, hk, rfl⟩ := hrel
    by_cases hlt : k < 10
    · have hcx := HC.out (a + k) (by omega)
      have h128 := HH.out k hlt
      go_wp2
      go_round
      case rel => exact ⟨k + 1, by omega, by go_num⟩
      case measure => simp [intOf]; omega
    · obtain rfl : k = 10 := by omega
      have hne : ((len : Int) - (a : Int) == 10) = false := by simp; omega
      go_wp2
      go_ret2
      exact ⟨rfl, (Below.refl _ _).alloc (Nat.le_refl _) _⟩

theorem bcell {W w1 : World} (hb : Below W.heap.size W w1) : (∀ b o, b < W.heap.size → w1.cell? ⟨b, o, none⟩ = W.cell? ⟨b, o, none⟩) ∧ (∀ b o, b < W.heap.size → w1.frozen? ⟨b, o, none⟩ = W.frozen? ⟨b, o, none⟩) :=
  ⟨fun b o h => hb.cell (p := ⟨b, o, none⟩) h, fun b o h => hb.frozen (p := ⟨b, o, none⟩) h⟩

theorem low_u64 (n : Int) (b : Int) (w : World) (h0 : 0 ≤ b) (h1 : b ≤ 64) :
    Calls Tryd.prog 90 #[.int .u64 n, .int .i64 b] w fun e w' => e = .returned (.int .u64 (n % 2 ^ b.toNat)) ∧ w' = w := by
  rw [← low_u n b.toNat (by omega)]
  have e : (64 - b).toNat = 64 - b.toNat := by omega
  go_enter Tryd.func90, Tryd.ntmps90
  go_wp2
  go_ret
  exact ⟨rfl, rfl⟩

theorem low_i64 (n : Int) (b : Int) (w : World) (h0 : 1 ≤ b) (h1 : b ≤ 64) :
    Calls Tryd.prog 89 #[.int .i64 n, .int .i64 b] w fun e w' => e = .returned (.int .i64 (sx b.toNat n)) ∧ w' = w := by
  rw [← low_i n b.toNat (by omega) (by omega)]
  have e : (64 - b).toNat = 64 - b.toNat := by omega
  go_enter Tryd.func89, Tryd.ntmps89
  go_wp2
  go_ret
  exact ⟨rfl, rfl⟩

theorem below_drewN {B : Nat} {a w : World} (h : Below B a w) (n : Nat) : Below B a (w.drewN n) := by
  induction n generalizing w with
  | zero => exact h
  | succ n ih => exact (ih h).drew

theorem ret_3i {k k' k'' : IntKind} {a b c d x y : Int} (h : a = b) (h' : c = d) (h'' : x = y) : Ending.returned (.tuple #[.int k a, .int k' c, .int k'' x]) = .returned (.tuple #[.int k b, .int k' d, .int k'' y]) := by rw [h, h', h'']

theorem fin_u64 (bs : Nat → Int) (a k : Nat) (hk : k ≤ 9) : uacc bs a k % 18446744073709551616 % 2 ^ (7 * (k : Int)).toNat = uacc bs a k := by
  have h := uacc_in bs a k
  have h2 : (2 : Int) ^ (7 * k) ≤ 2 ^ 63 := pow_le_i (by omega)
  rw [show (7 * (k : Int)).toNat = 7 * k from by omega, show uacc bs a k % 18446744073709551616 = uacc bs a k from by omega]
  exact Int.emod_eq_of_lt h.1 h.2

theorem fin_i64 (bs : Nat → Int) (a k : Nat) (hk : k ≤ 9) : sx (7 * (k : Int)).toNat (wrap64 (uacc bs a k)) = sx (7 * k) (uacc bs a k) := by
  have h := uacc_in bs a k
  have h2 : (2 : Int) ^ (7 * k) ≤ 2 ^ 63 := pow_le_i (by omega)
  rw [show (7 * (k : Int)).toNat = 7 * k from by omega, show wrap64 (uacc bs a k) = uacc bs a k from by unfold wrap64; omega]

theorem fin10_u64 (bs : Nat → Int) (a : Nat) : uacc bs a 10 % 18446744073709551616 % 2 ^ (64 : Int).toNat = uacc bs a 10 % 18446744073709551616 := by
  have : (2 : Int) ^ (64 : Int).toNat = 18446744073709551616 := by decide
  rw [this]; omega

theorem fin10_i64 (bs : Nat → Int) (a : Nat) : sx (64 : Int).toNat (wrap64 (uacc bs a 10)) = wrap64 (uacc bs a 10) := by
  have : (64 : Int).toNat = 64 := rfl
  rw [this, sx64, wrap64_wrap64]

theorem grouped_num_u64 (b off len cap a c : Nat) (bs : Nat → Int) (w : World) (hl : len ≤ 140737488355328)
    (hcell : ∀ i, i < len → w.cell? ⟨b, off + i, none⟩ = some (.int .u8 (bs i))) (hbs : ∀ i, 0 ≤ bs i ∧ bs i < 256)
    (hc1 : 1 ≤ c) (hc2 : c ≤ 9) (hc3 : a + c ≤ len) (hhi : ∀ j, j + 1 < c → 128 ≤ bs (a + j)) (hlo : bs (a + (c - 1)) < 128) :
    Calls Tryd.prog 78 #[.agg #[.slice (some ⟨b, off, none⟩) len cap, .int .i64 a]] w fun e w' => e = .returned (.tuple #[.int .u64 (uacc bs a c), .int .i64 (a + c), .int .i64 0]) ∧ Below w.heap.size w w' := by
  have HC : Hid (∀ i, i < len → w.cell? ⟨b, off + i, none⟩ = some (.int .u8 (bs i))) := hcell
  have hbw : b < w.heap.size := cell_lt (hcell 0 (by omega))
  have G := fun w hcell => groups_num_u64 b off len cap a c bs w hl hcell hc1 (by omega) hc3 hhi hlo
  have HB : Hid (∀ i, 0 ≤ bs i ∧ bs i < 256) := hbs
  clear hcell hhi hlo hbs
  go_enter Tryd.func78, Tryd.ntmps78
  go_wp2_with (go_at_call 92; refine (G _ (by intro i hi; simp [World.cell?_alloc_past, hbw]; exact HC.out i hi)).mono ?_; rintro e w1 ⟨rfl, hb1⟩; obtain ⟨hcA, hfA⟩ := bcell hb1)
  go_loop [2, 16] (fun n i => ∃ k : Nat, k ≤ c ∧ i = .int .i64 k ∧ n = .int .u64 (uacc bs a k % 18446744073709551616)) (fun _ i => 10 - (intOf i).toNat)
  case atStart => exact ⟨0, by omega, rfl, by first | rfl | (simp only [uacc]; unfold wrap64; rfl)⟩
  case round =>
    obtain ⟨k, hk, rfl, rfl⟩ := hrel
    by_cases hlt : k < c
    · have hcx := HC.out (a + k) (by omega)
      go_wp2
      go_round
      case rel => exact ⟨k + 1, by omega, by go_num, by rw [uacc_step_u64 bs a k (by omega) (HB.out _).1 (HB.out _).2]⟩
      case measure => simp [intOf]; omega
    · obtain rfl : k = c := by omega
      have hmin : min (7 * (k : Int)) 64 = 7 * (k : Int) := by omega
      go_wp2
      go_quiet ((go_at_call 90; exact Calls.quiet_of_same (low_u64 _ _ _ (by omega) (by omega))))
      go_wp2
      go_ret3
      exact ⟨ret_3i (fin_u64 bs a k hc2) rfl rfl, below_drewN (((Below.refl _ _).alloc (Nat.le_refl _) _).trans (hb1.mono (by simp))) _⟩

theorem grouped_ten_u64 (b off len cap a : Nat) (bs : Nat → Int) (w : World) (hl : len ≤ 140737488355328)
    (hcell : ∀ i, i < len → w.cell? ⟨b, off + i, none⟩ = some (.int .u8 (bs i))) (hbs : ∀ i, 0 ≤ bs i ∧ bs i < 256)
    (hc3 : a + 10 ≤ len) (hhi : ∀ j, j + 1 < 10 → 128 ≤ bs (a + j)) (hlo : bs (a + 9) < 128) (ht : bs (a + 9) ≤ 1) :
    Calls Tryd.prog 78 #[.agg #[.slice (some ⟨b, off, none⟩) len cap, .int .i64 a]] w fun e w' => e = .returned (.tuple #[.int .u64 (uacc bs a 10 % 18446744073709551616), .int .i64 (a + 10), .int .i64 0]) ∧ Below w.heap.size w w' := by
  have HC : Hid (∀ i, i < len → w.cell? ⟨b, off + i, none⟩ = some (.int .u8 (bs i))) := hcell
  have hbw : b < w.heap.size := cell_lt (hcell 0 (by omega))
  have G := fun w hcell => groups_num_u64 b off len cap a 10 bs w hl hcell (by omega) (by omega) hc3 hhi hlo
  have HB : Hid (∀ i, 0 ≤ bs i ∧ bs i < 256) := hbs
  have T := ten_u64_ok bs a (hbs _).1 ht
  clear hcell hhi hlo hbs ht
  go_enter Tryd.func78, Tryd.ntmps78
  go_wp2_with (go_at_call 92; refine (G _ (by intro i hi; simp [World.cell?_alloc_past, hbw]; exact HC.out i hi)).mono ?_; rintro e w1 ⟨rfl, hb1⟩; obtain ⟨hcA, hfA⟩ := bcell hb1)
  go_loop [2, 16] (fun n i => ∃ k : Nat, k ≤ 10 ∧ i = .int .i64 k ∧ n = .int .u64 (uacc bs a k % 18446744073709551616)) (fun _ i => 10 - (intOf i).toNat)
  case atStart => exact ⟨0, by omega, rfl, by first | rfl | (simp only [uacc]; unfold wrap64; rfl)⟩
  case round =>
    obtain ⟨k, hk, rfl, rfl⟩ := hrel
    by_cases hlt : k < 10
    · have hcx := HC.out (a + k) (by omega)
      go_wp2
      go_round
      case rel => exact ⟨k + 1, by omega, by go_num, by rw [uacc_step_u64 bs a k (by omega) (HB.out _).1 (HB.out _).2]⟩
      case measure => simp [intOf]; omega
    · obtain rfl : k = 10 := by omega
      have hcx := HC.out (a + 9) (by omega)
      go_wp2
      go_quiet ((go_at_call 90; exact Calls.quiet_of_same (low_u64 _ _ _ (by omega) (by omega))))
      go_wp2
      go_ret3
      exact ⟨ret_3i (fin10_u64 bs a) rfl rfl, below_drewN (((Below.refl _ _).alloc (Nat.le_refl _) _).trans (hb1.mono (by simp))) _⟩

theorem grouped_bad_u64 (b off len cap a : Nat) (bs : Nat → Int) (w : World) (hl : len ≤ 140737488355328)
    (hcell : ∀ i, i < len → w.cell? ⟨b, off + i, none⟩ = some (.int .u8 (bs i))) (hbs : ∀ i, 0 ≤ bs i ∧ bs i < 256)
    (hc3 : a + 10 ≤ len) (hhi : ∀ j, j + 1 < 10 → 128 ≤ bs (a + j)) (hlo : bs (a + 9) < 128) (ht : ¬ (bs (a + 9) ≤ 1)) :
    Calls Tryd.prog 78 #[.agg #[.slice (some ⟨b, off, none⟩) len cap, .int .i64 a]] w fun e w' => e = .returned (.tuple #[.int .u64 0, .int .i64 0, .int .i64 21]) ∧ Below w.heap.size w w' := by
  have HC : Hid (∀ i, i < len → w.cell? ⟨b, off + i, none⟩ = some (.int .u8 (bs i))) := hcell
  have hbw : b < w.heap.size := cell_lt (hcell 0 (by omega))
  have G := fun w hcell => groups_num_u64 b off len cap a 10 bs w hl hcell (by omega) (by omega) hc3 hhi hlo
  have HB : Hid (∀ i, 0 ≤ bs i ∧ bs i < 256) := hbs
  have T := ten_u64_bad bs a (by omega) hlo
  clear hcell hhi hlo hbs ht
  go_enter Tryd.func78, Tryd.ntmps78
  go_wp2_with (go_at_call 92; refine (G _ (by intro i hi; simp [World.cell?_alloc_past, hbw]; exact HC.out i hi)).mono ?_; rintro e w1 ⟨rfl, hb1⟩; obtain ⟨hcA, hfA⟩ := bcell hb1)
  go_loop [2, 16] (fun n i => ∃ k : Nat, k ≤ 10 ∧ i = .int .i64 k ∧ n = .int .u64 (uacc bs a k % 18446744073709551616)) (fun _ i => 10 - (intOf i).toNat)
  case atStart => exact ⟨0, by omega, rfl, by first | rfl | (simp only [uacc]; unfold wrap64; rfl)⟩
  case round =>
    obtain ⟨k, hk, rfl, rfl⟩ := hrel
    by_cases hlt : k < 10
    · have hcx := HC.out (a + k) (by omega)
      go_wp2
      go_round
      case rel => exact ⟨k + 1, by omega, by go_num, by rw [uacc_step_u64 bs a k (by omega) (HB.out _).1 (HB.out _).2]⟩
      case measure => simp [intOf]; omega
    · obtain rfl : k = 10 := by omega
      have hcx := HC.out (a + 9) (by omega)
      go_wp2
      go_ret3
      exact ⟨rfl, ((Below.refl _ _).alloc (Nat.le_refl _) _).trans (hb1.mono (by simp))⟩

theorem grouped_err_u64 (ao : Option Addr) (len cap : Nat) (at' E : Int) (w : World) (hE : (E != 0) = true)
    (G : ∀ o, Calls Tryd.prog 92 #[.agg #[.slice ao len cap, .int .i64 at']] (w.alloc o) fun e w' => e = .returned (.tuple #[.int .i64 0, .int .i64 E]) ∧ Below (w.alloc o).heap.size (w.alloc o) w') :
    Calls Tryd.prog 78 #[.agg #[.slice ao len cap, .int .i64 at']] w fun e w' => e = .returned (.tuple #[.int .u64 0, .int .i64 0, .int .i64 E]) ∧ Below w.heap.size w w' := by
  go_enter Tryd.func78, Tryd.ntmps78
  go_wp2_with (go_at_call 92; refine (G _).mono ?_; rintro e w1 ⟨rfl, hb1⟩)
  go_ret3
  exact ⟨rfl, ((Below.refl _ _).alloc (Nat.le_refl _) _).trans (hb1.mono (by simp))⟩
theorem grouped_num_i64 (b off len cap a c : Nat) (bs : Nat → Int) (w : World) (hl : len ≤ 140737488355328)
    (hcell : ∀ i, i < len → w.cell? ⟨b, off + i, none⟩ = some (.int .u8 (bs i))) (hbs : ∀ i, 0 ≤ bs i ∧ bs i < 256)
    (hc1 : 1 ≤ c) (hc2 : c ≤ 9) (hc3 : a + c ≤ len) (hhi : ∀ j, j + 1 < c → 128 ≤ bs (a + j)) (hlo : bs (a + (c - 1)) < 128) :
    Calls Tryd.prog 77 #[.agg #[.slice (some ⟨b, off, none⟩) len cap, .int .i64 a]] w fun e w' => e = .returned (.tuple #[.int .i64 (sx (7 * c) (uacc bs a c)), .int .i64 (a + c), .int .i64 0]) ∧ Below w.heap.size w w' := by
  have HC : Hid (∀ i, i < len → w.cell? ⟨b, off + i, none⟩ = some (.int .u8 (bs i))) := hcell
  have hbw : b < w.heap.size := cell_lt (hcell 0 (by omega))
  have G := fun w hcell => groups_num_i64 b off len cap a c bs w hl hcell hc1 (by omega) hc3 hhi hlo
  have HB : Hid (∀ i, 0 ≤ bs i ∧ bs i < 256) := hbs
  clear hcell hhi hlo hbs
  go_enter Tryd.func77, Tryd.ntmps77
  go_wp2_with (go_at_call 91; refine (G _ (by intro i hi; simp [World.cell?_alloc_past, hbw]; exact HC.out i hi)).mono ?_; rintro e w1 ⟨rfl, hb1⟩; obtain ⟨hcA, hfA⟩ := bcell hb1)
  go_loop [2, 16] (fun n i => ∃ k : Nat, k ≤ c ∧ i = .int .i64 k ∧ n = .int .i64 (wrap64 (uacc bs a k))) (fun _ i => 10 - (intOf i).toNat)
  case atStart => exact ⟨0, by omega, rfl, by first | rfl | (simp only [uacc]; unfold wrap64; rfl)⟩
  case round =>
    obtain ⟨k, hk, rfl, rfl⟩ := hrel
    by_cases hlt : k < c
    · have hcx := HC.out (a + k) (by omega)
      go_wp2
      go_round
      case rel => exact ⟨k + 1, by omega, by go_num, by rw [uacc_step_i64 bs a k (by omega) (HB.out _).1 (HB.out _).2]⟩
      case measure => simp [intOf]; omega
    · obtain rfl : k = c := by omega
      have hmin : min (7 * (k : Int)) 64 = 7 * (k : Int) := by omega
      go_wp2
      go_quiet ((go_at_call 89; exact Calls.quiet_of_same (low_i64 _ _ _ (by omega) (by omega))))
      go_wp2
      go_ret3
      exact ⟨ret_3i (fin_i64 bs a k hc2) rfl rfl, below_drewN (((Below.refl _ _).alloc (Nat.le_refl _) _).trans (hb1.mono (by simp))) _⟩

theorem grouped_ten_i64 (b off len cap a : Nat) (bs : Nat → Int) (w : World) (hl : len ≤ 140737488355328)
    (hcell : ∀ i, i < len → w.cell? ⟨b, off + i, none⟩ = some (.int .u8 (bs i))) (hbs : ∀ i, 0 ≤ bs i ∧ bs i < 256)
    (hc3 : a + 10 ≤ len) (hhi : ∀ j, j + 1 < 10 → 128 ≤ bs (a + j)) (hlo : bs (a + 9) < 128) (ht : bs (a + 9) = 0 ∨ bs (a + 9) = 127) :
    Calls Tryd.prog 77 #[.agg #[.slice (some ⟨b, off, none⟩) len cap, .int .i64 a]] w fun e w' => e = .returned (.tuple #[.int .i64 (wrap64 (uacc bs a 10)), .int .i64 (a + 10), .int .i64 0]) ∧ Below w.heap.size w w' := by
  have HC : Hid (∀ i, i < len → w.cell? ⟨b, off + i, none⟩ = some (.int .u8 (bs i))) := hcell
  have hbw : b < w.heap.size := cell_lt (hcell 0 (by omega))
  have G := fun w hcell => groups_num_i64 b off len cap a 10 bs w hl hcell (by omega) (by omega) hc3 hhi hlo
  have HB : Hid (∀ i, 0 ≤ bs i ∧ bs i < 256) := hbs
  have T := ten_i64_ok bs a ht
  clear hcell hhi hlo hbs ht
  go_enter Tryd.func77, Tryd.ntmps77
  go_wp2_with (go_at_call 91; refine (G _ (by intro i hi; simp [World.cell?_alloc_past, hbw]; exact HC.out i hi)).mono ?_; rintro e w1 ⟨rfl, hb1⟩; obtain ⟨hcA, hfA⟩ := bcell hb1)
  go_loop [2, 16] (fun n i => ∃ k : Nat, k ≤ 10 ∧ i = .int .i64 k ∧ n = .int .i64 (wrap64 (uacc bs a k))) (fun _ i => 10 - (intOf i).toNat)
  case atStart => exact ⟨0, by omega, rfl, by first | rfl | (simp only [uacc]; unfold wrap64; rfl)⟩
  case round =>
    obtain ⟨k, hk, rfl, rfl⟩ := hrel
    by_cases hlt : k < 10
    · have hcx := HC.out (a + k) (by omega)
      go_wp2
      go_round
      case rel => exact ⟨k + 1, by omega, by go_num, by rw [uacc_step_i64 bs a k (by omega) (HB.out _).1 (HB.out _).2]⟩
      case measure => simp [intOf]; omega
    · obtain rfl : k = 10 := by omega
      have hcx := HC.out (a + 9) (by omega)
      go_wp2
      go_quiet ((go_at_call 89; exact Calls.quiet_of_same (low_i64 _ _ _ (by omega) (by omega))))
      go_wp2
      go_ret3
      exact ⟨ret_3i (fin10_i64 bs a) rfl rfl, below_drewN (((Below.refl _ _).alloc (Nat.le_refl _) _).trans (hb1.mono (by simp))) _⟩

theorem grouped_bad_i64 (b off len cap a : Nat) (bs : Nat → Int) (w : World) (hl : len ≤ 140737488355328)
    (hcell : ∀ i, i < len → w.cell? ⟨b, off + i, none⟩ = some (.int .u8 (bs i))) (hbs : ∀ i, 0 ≤ bs i ∧ bs i < 256)
    (hc3 : a + 10 ≤ len) (hhi : ∀ j, j + 1 < 10 → 128 ≤ bs (a + j)) (hlo : bs (a + 9) < 128) (ht : ¬ (bs (a + 9) = 0 ∨ bs (a + 9) = 127)) :
    Calls Tryd.prog 77 #[.agg #[.slice (some ⟨b, off, none⟩) len cap, .int .i64 a]] w fun e w' => e = .returned (.tuple #[.int .i64 0, .int .i64 0, .int .i64 21]) ∧ Below w.heap.size w w' := by
  have HC : Hid (∀ i, i < len → w.cell? ⟨b, off + i, none⟩ = some (.int .u8 (bs i))) := hcell
  have hbw : b < w.heap.size := cell_lt (hcell 0 (by omega))
  have G := fun w hcell => groups_num_i64 b off len cap a 10 bs w hl hcell (by omega) (by omega) hc3 hhi hlo
  have HB : Hid (∀ i, 0 ≤ bs i ∧ bs i < 256) := hbs
  have T := ten_i64_bad bs a (hbs _).1 hlo ht
  clear hcell hhi hlo hbs ht
  go_enter Tryd.func77, Tryd.ntmps77
  go_wp2_with (go_at_call 91; refine (G _ (by intro i hi; simp [World.cell?_alloc_past, hbw]; exact HC.out i hi)).mono ?_; rintro e w1 ⟨rfl, hb1⟩; obtain ⟨hcA, hfA⟩ := bcell hb1)
  go_loop [2, 16] (fun n i => ∃ k : Nat, k ≤ 10 ∧ i = .int .i64 k ∧ n = .int .i64 (wrap64 (uacc bs a k))) (fun _ i => 10 - (intOf i).toNat)
  case atStart => exact ⟨0, by omega, rfl, by first | rfl | (simp only [uacc]; unfold wrap64; rfl)⟩
  case round =>
    obtain ⟨k, hk, rfl, rfl⟩ := hrel
    by_cases hlt : k < 10
    · have hcx := HC.out (a + k) (by omega)
      go_wp2
      go_round
      case rel => exact ⟨k + 1, by omega, by go_num, by rw [uacc_step_i64 bs a k (by omega) (HB.out _).1 (HB.out _).2]⟩
      case measure => simp [intOf]; omega
    · obtain rfl : k = 10 := by omega
      have hcx := HC.out (a + 9) (by omega)
      go_wp2
      go_ret3
      exact ⟨rfl, ((Below.refl _ _).alloc (Nat.le_refl _) _).trans (hb1.mono (by simp))⟩

theorem grouped_err_i64 (ao : Option Addr) (len cap : Nat) (at' E : Int) (w : World) (hE : (E != 0) = true)
    (G : ∀ o, Calls Tryd.prog 91 #[.agg #[.slice ao len cap, .int .i64 at']] (w.alloc o) fun e w' => e = .returned (.tuple #[.int .i64 0, .int .i64 E]) ∧ Below (w.alloc o).heap.size (w.alloc o) w') :
    Calls Tryd.prog 77 #[.agg #[.slice ao len cap, .int .i64 at']] w fun e w' => e = .returned (.tuple #[.int .i64 0, .int .i64 0, .int .i64 E]) ∧ Below w.heap.size w w' := by
  go_enter Tryd.func77, Tryd.ntmps77
  go_wp2_with (go_at_call 91; refine (G _).mono ?_; rintro e w1 ⟨rfl, hb1⟩)
  go_ret3
  exact ⟨rfl, ((Below.refl _ _).alloc (Nat.le_refl _) _).trans (hb1.mono (by simp))⟩

theorem ret_int {k : IntKind} {a b : Int} (h : a = b) : Ending.returned (.int k a) = .returned (.int k b) := by rw [h]

/-- The element type's row of the table. -/
theorem info5 : (Tryd.prog.info? 5).map (fun i => (i.zero, i.size, i.bytes)) = some (some (.int .u8 0), 1, 1) := by kernel_rfl

/-- m bytes, of which the first k are those of n, the low one first. -/
def part (n : Int) (m k : Nat) : List Value := (List.range m).map fun j => .int .u8 (if j < k then n / 2 ^ (8 * j) % 256 else 0)

theorem part_len (n : Int) (m k : Nat) : (part n m k).length = m := by simp [part]

theorem part_set (n : Int) (m k : Nat) (v : Value) (hv : v = .int .u8 (n / 2 ^ (8 * k) % 256)) : (part n m k).set k v = part n m (k + 1) := by
  subst hv
  apply List.ext_getElem
  · simp [part]
  · intro i h1 h2
    simp only [part, List.getElem_set, List.getElem_map, List.getElem_range]
    by_cases h : k = i
    · subst h; simp
    · rw [if_neg h]
      by_cases h3 : i < k
      · rw [if_pos h3, if_pos (by omega)]
      · rw [if_neg h3, if_neg (by omega)]

theorem part_at (n : Int) (m k : Nat) (h : k < m) : (part n m k)[k]? = some (.int .u8 0) := by
  simp [part, h]

theorem small8 (n : Int) (h0 : 0 ≤ n) (h1 : n < 256) (k : Nat) : n / 2 ^ (8 * k) % 256 = n / 2 ^ (8 * k) := by
  have hp := pow_pos_i (8 * k)
  refine Int.emod_eq_of_lt (Int.ediv_nonneg h0 (Int.le_of_lt hp)) ?_
  have := Int.ediv_le_self (2 ^ (8 * k)) h0
  omega

theorem made_part (n : Int) (m : Nat) : (madeCells (Value.int .u8 0).cells (m * 1)).toList = part n m 0 := by
  apply List.ext_getElem
  · simp [part, madeCells, Value.cells]
  · intro i h1 h2
    simp [part, madeCells, Value.cells, Nat.mod_one]

theorem mod_div_mod (n A C : Int) (hA : A ≠ 0) : n % (A * (256 * C)) / A % 256 = n / A % 256 := by
  have e : n % (A * (256 * C)) = n + A * (256 * (-(C * (n / (A * (256 * C)))))) := by
    have h := Int.emod_add_mul_ediv n (A * (256 * C))
    have h2 : A * (256 * C) * (n / (A * (256 * C))) = -(A * (256 * (-(C * (n / (A * (256 * C))))))) := by
      simp only [Int.mul_assoc, Int.mul_neg, Int.neg_neg]
    rw [h2] at h; omega
  rw [e, Int.add_mul_ediv_left _ _ hA, Int.add_mul_emod_self_left]

theorem part_mod (n : Int) (m k : Nat) (h : k ≤ m) (X : Int) (hX : X = 2 ^ (8 * m)) : part (n % X) m k = part n m k := by
  subst hX
  apply List.ext_getElem
  · simp [part]
  · intro i h1 h2
    simp only [part, List.getElem_map, List.getElem_range]
    by_cases hi : i < k
    · rw [if_pos hi, if_pos hi]
      congr 1
      obtain ⟨d, hd⟩ : ∃ d, m = i + 1 + d := ⟨m - i - 1, by omega⟩
      have e : (2 : Int) ^ (8 * m) = 2 ^ (8 * i) * (256 * 2 ^ (8 * d)) := by
        rw [hd, show 8 * (i + 1 + d) = 8 * i + (8 + 8 * d) from by omega, Int.pow_add, Int.pow_add]; rfl
      rw [e]
      exact mod_div_mod _ _ _ (Int.ne_of_gt (pow_pos_i _))
    · rw [if_neg hi, if_neg hi]

set_option maxRecDepth 100000 in
theorem len64_8 (w : World) :
    Calls Tryd.prog 88 #[.int .u64 255] w fun e w' => e = .returned (.int .i64 8) ∧ w' = w := by
  go_enter Tryd.func88, Tryd.ntmps88
  go_wp2
  go_ret
  exact ⟨ret_int (by kernel_rfl), rfl⟩
set_option maxRecDepth 100000 in
theorem len64_16 (w : World) :
    Calls Tryd.prog 88 #[.int .u64 65535] w fun e w' => e = .returned (.int .i64 16) ∧ w' = w := by
  go_enter Tryd.func88, Tryd.ntmps88
  go_wp2
  go_ret
  exact ⟨ret_int (by kernel_rfl), rfl⟩
set_option maxRecDepth 100000 in
theorem len64_32 (w : World) :
    Calls Tryd.prog 88 #[.int .u64 4294967295] w fun e w' => e = .returned (.int .i64 32) ∧ w' = w := by
  go_enter Tryd.func88, Tryd.ntmps88
  go_wp2
  go_ret
  exact ⟨ret_int (by kernel_rfl), rfl⟩
set_option maxRecDepth 100000 in
theorem len64_64 (w : World) :
    Calls Tryd.prog 88 #[.int .u64 18446744073709551615] w fun e w' => e = .returned (.int .i64 64) ∧ w' = w := by
  go_enter Tryd.func88, Tryd.ntmps88
  go_wp2
  go_ret
  exact ⟨ret_int (by kernel_rfl), rfl⟩

set_option maxRecDepth 100000 in
theorem lowFirst_u8 (n : Int) (w : World) (h0 : 0 ≤ n) (h1 : n < 256) :
    Calls Tryd.prog 69 #[.int .u8 n] w fun e w' => e = .returned (.slice (some ⟨w.heap.size, 0, none⟩) 1 1) ∧ w'.ownsRow w.heap.size 5 1 (.slice (some ⟨w.heap.size, 0, none⟩) 1 1) 1 (part n 1 1) ∧ Below w.heap.size w w' := by
  obtain ⟨i0, hi, hz0, hz1, hz2⟩ := info_parts info5
  go_enter Tryd.func69, Tryd.ntmps69
  go_wp2_with (first
    | (go_at_call 88; refine (len64_8 _).mono ?_; rintro e w' ⟨rfl, rfl⟩)
    | (at_make; refine wpList_make_full w' rfl _ _ 24 rfl w'.heap.size 5 i0 (.int .u8 0) 1 Tryd.underlying24 hi hz0 hz1 .i64 .i64 1 1 1 rfl rfl rfl rfl (by rw [hz2]; decide) (by decide) (Nat.le_refl _) ?_; intro w1 hown hgrow))
  have hb1 : Below w'.heap.size w' w1 := (Below.refl _ _).grown hgrow (Nat.le_refl _) (fun k e => by cases e)
  have hown : w1.ownsRow w'.heap.size 5 1 (.slice (some ⟨w'.heap.size, 0, none⟩) 1 1) 1 (part n 1 0) := by rw [made_part n 1] at hown; exact hown
  clear hgrow
  go_loopw [13] (fun i wr => ∃ k : Nat, k ≤ 1 ∧ i = .int .i64 k ∧ wr.ownsRow w'.heap.size 5 1 (.slice (some ⟨w'.heap.size, 0, none⟩) 1 1) 1 (part n 1 k) ∧ Below w'.heap.size w' wr) (fun i _ => 1 - (intOf i).toNat)
  case atStart => exact ⟨0, by omega, rfl, hown, hb1⟩
  case round =>
    obtain ⟨k, hk, rfl, hownr, hbr⟩ := hrel
    clear hown hb1
    by_cases hlt : k < 1
    · have hst := hownr.stored k (.int .u8 (n / 2 ^ (8 * k) % 256))
      rw [part_set n 1 k _ rfl] at hst
      have hfz := hownr.frozenAt k
      have hcell := (hownr.cellAt k (by omega)).trans (part_at n 1 k hlt)
      have hb2 := hbr.grown hst.2 hbr.size (fun j e => by cases e; exact Nat.le_refl _)
      have HS := hst.1
      clear hst hownr hbr
      simp only [small8 n h0 h1] at HS hb2
      go_wp2
      go_roundw
      case rel => exact ⟨k + 1, by omega, by go_num, HS, hb2⟩
      case measure => simp [intOf]; omega
    · have e : k = 1 := by omega
      subst e
      go_wp2
      go_ret
      exact ⟨rfl, hownr, hbr⟩
set_option maxRecDepth 100000 in
theorem lowFirst_u16 (n : Int) (w : World) (h0 : 0 ≤ n) (h1 : n < 65536) :
    Calls Tryd.prog 70 #[.int .u16 n] w fun e w' => e = .returned (.slice (some ⟨w.heap.size, 0, none⟩) 2 2) ∧ w'.ownsRow w.heap.size 5 1 (.slice (some ⟨w.heap.size, 0, none⟩) 2 2) 2 (part n 2 2) ∧ Below w.heap.size w w' := by
  obtain ⟨i0, hi, hz0, hz1, hz2⟩ := info_parts info5
  go_enter Tryd.func70, Tryd.ntmps70
  go_wp2_with (first
    | (go_at_call 88; refine (len64_16 _).mono ?_; rintro e w' ⟨rfl, rfl⟩)
    | (at_make; refine wpList_make_full w' rfl _ _ 24 rfl w'.heap.size 5 i0 (.int .u8 0) 1 Tryd.underlying24 hi hz0 hz1 .i64 .i64 2 2 2 rfl rfl rfl rfl (by rw [hz2]; decide) (by decide) (Nat.le_refl _) ?_; intro w1 hown hgrow))
  have hb1 : Below w'.heap.size w' w1 := (Below.refl _ _).grown hgrow (Nat.le_refl _) (fun k e => by cases e)
  have hown : w1.ownsRow w'.heap.size 5 1 (.slice (some ⟨w'.heap.size, 0, none⟩) 2 2) 2 (part n 2 0) := by rw [made_part n 2] at hown; exact hown
  clear hgrow
  go_loopw [13] (fun i wr => ∃ k : Nat, k ≤ 2 ∧ i = .int .i64 k ∧ wr.ownsRow w'.heap.size 5 1 (.slice (some ⟨w'.heap.size, 0, none⟩) 2 2) 2 (part n 2 k) ∧ Below w'.heap.size w' wr) (fun i _ => 2 - (intOf i).toNat)
  case atStart => exact ⟨0, by omega, rfl, hown, hb1⟩
  case round =>
    obtain ⟨k, hk, rfl, hownr, hbr⟩ := hrel
    clear hown hb1
    by_cases hlt : k < 2
    · have hst := hownr.stored k (.int .u8 (n / 2 ^ (8 * k) % 256))
      rw [part_set n 2 k _ rfl] at hst
      have hfz := hownr.frozenAt k
      have hcell := (hownr.cellAt k (by omega)).trans (part_at n 2 k hlt)
      have hb2 := hbr.grown hst.2 hbr.size (fun j e => by cases e; exact Nat.le_refl _)
      have HS := hst.1
      clear hst hownr hbr
      skip
      go_wp2
      go_roundw
      case rel => exact ⟨k + 1, by omega, by go_num, HS, hb2⟩
      case measure => simp [intOf]; omega
    · have e : k = 2 := by omega
      subst e
      go_wp2
      go_ret
      exact ⟨rfl, hownr, hbr⟩
set_option maxRecDepth 100000 in
theorem lowFirst_u32 (n : Int) (w : World) (h0 : 0 ≤ n) (h1 : n < 4294967296) :
    Calls Tryd.prog 71 #[.int .u32 n] w fun e w' => e = .returned (.slice (some ⟨w.heap.size, 0, none⟩) 4 4) ∧ w'.ownsRow w.heap.size 5 1 (.slice (some ⟨w.heap.size, 0, none⟩) 4 4) 4 (part n 4 4) ∧ Below w.heap.size w w' := by
  obtain ⟨i0, hi, hz0, hz1, hz2⟩ := info_parts info5
  go_enter Tryd.func71, Tryd.ntmps71
  go_wp2_with (first
    | (go_at_call 88; refine (len64_32 _).mono ?_; rintro e w' ⟨rfl, rfl⟩)
    | (at_make; refine wpList_make_full w' rfl _ _ 24 rfl w'.heap.size 5 i0 (.int .u8 0) 1 Tryd.underlying24 hi hz0 hz1 .i64 .i64 4 4 4 rfl rfl rfl rfl (by rw [hz2]; decide) (by decide) (Nat.le_refl _) ?_; intro w1 hown hgrow))
  have hb1 : Below w'.heap.size w' w1 := (Below.refl _ _).grown hgrow (Nat.le_refl _) (fun k e => by cases e)
  have hown : w1.ownsRow w'.heap.size 5 1 (.slice (some ⟨w'.heap.size, 0, none⟩) 4 4) 4 (part n 4 0) := by rw [made_part n 4] at hown; exact hown
  clear hgrow
  go_loopw [13] (fun i wr => ∃ k : Nat, k ≤ 4 ∧ i = .int .i64 k ∧ wr.ownsRow w'.heap.size 5 1 (.slice (some ⟨w'.heap.size, 0, none⟩) 4 4) 4 (part n 4 k) ∧ Below w'.heap.size w' wr) (fun i _ => 4 - (intOf i).toNat)
  case atStart => exact ⟨0, by omega, rfl, hown, hb1⟩
  case round =>
    obtain ⟨k, hk, rfl, hownr, hbr⟩ := hrel
    clear hown hb1
    by_cases hlt : k < 4
    · have hst := hownr.stored k (.int .u8 (n / 2 ^ (8 * k) % 256))
      rw [part_set n 4 k _ rfl] at hst
      have hfz := hownr.frozenAt k
      have hcell := (hownr.cellAt k (by omega)).trans (part_at n 4 k hlt)
      have hb2 := hbr.grown hst.2 hbr.size (fun j e => by cases e; exact Nat.le_refl _)
      have HS := hst.1
      clear hst hownr hbr
      skip
      go_wp2
      go_roundw
      case rel => exact ⟨k + 1, by omega, by go_num, HS, hb2⟩
      case measure => simp [intOf]; omega
    · have e : k = 4 := by omega
      subst e
      go_wp2
      go_ret
      exact ⟨rfl, hownr, hbr⟩
set_option maxRecDepth 100000 in
theorem lowFirst_u64 (n : Int) (w : World) (h0 : 0 ≤ n) (h1 : n < 18446744073709551616) :
    Calls Tryd.prog 72 #[.int .u64 n] w fun e w' => e = .returned (.slice (some ⟨w.heap.size, 0, none⟩) 8 8) ∧ w'.ownsRow w.heap.size 5 1 (.slice (some ⟨w.heap.size, 0, none⟩) 8 8) 8 (part n 8 8) ∧ Below w.heap.size w w' := by
  obtain ⟨i0, hi, hz0, hz1, hz2⟩ := info_parts info5
  go_enter Tryd.func72, Tryd.ntmps72
  go_wp2_with (first
    | (go_at_call 88; refine (len64_64 _).mono ?_; rintro e w' ⟨rfl, rfl⟩)
    | (at_make; refine wpList_make_full w' rfl _ _ 24 rfl w'.heap.size 5 i0 (.int .u8 0) 1 Tryd.underlying24 hi hz0 hz1 .i64 .i64 8 8 8 rfl rfl rfl rfl (by rw [hz2]; decide) (by decide) (Nat.le_refl _) ?_; intro w1 hown hgrow))
  have hb1 : Below w'.heap.size w' w1 := (Below.refl _ _).grown hgrow (Nat.le_refl _) (fun k e => by cases e)
  have hown : w1.ownsRow w'.heap.size 5 1 (.slice (some ⟨w'.heap.size, 0, none⟩) 8 8) 8 (part n 8 0) := by rw [made_part n 8] at hown; exact hown
  clear hgrow
  go_loopw [12] (fun i wr => ∃ k : Nat, k ≤ 8 ∧ i = .int .i64 k ∧ wr.ownsRow w'.heap.size 5 1 (.slice (some ⟨w'.heap.size, 0, none⟩) 8 8) 8 (part n 8 k) ∧ Below w'.heap.size w' wr) (fun i _ => 8 - (intOf i).toNat)
  case atStart => exact ⟨0, by omega, rfl, hown, hb1⟩
  case round =>
    obtain ⟨k, hk, rfl, hownr, hbr⟩ := hrel
    clear hown hb1
    by_cases hlt : k < 8
    · have hst := hownr.stored k (.int .u8 (n / 2 ^ (8 * k) % 256))
      rw [part_set n 8 k _ rfl] at hst
      have hfz := hownr.frozenAt k
      have hcell := (hownr.cellAt k (by omega)).trans (part_at n 8 k hlt)
      have hb2 := hbr.grown hst.2 hbr.size (fun j e => by cases e; exact Nat.le_refl _)
      have HS := hst.1
      clear hst hownr hbr
      skip
      go_wp2
      go_roundw
      case rel => exact ⟨k + 1, by omega, by go_num, HS, hb2⟩
      case measure => simp [intOf]; omega
    · have e : k = 8 := by omega
      subst e
      go_wp2
      go_ret
      exact ⟨rfl, hownr, hbr⟩


theorem put_arg (n s : Int) (w : World) (h : ¬ (s = 1 ∨ s = 2 ∨ s = 4 ∨ s = 8)) :
    Calls Tryd.prog 53 #[.int .i64 n, .int .i64 s] w fun e w' => e = .returned (.tuple #[.slice none 0 0, .int .i64 1]) ∧ w' = w := by
  have H : Hid (¬ (s = 1 ∨ s = 2 ∨ s = 4 ∨ s = 8)) := h
  clear h
  go_enter Tryd.func53, Tryd.ntmps53
  go_wp2_with (go_at_call 68; refine (isSize_no _ _ H.out).mono ?_; rintro e w' ⟨rfl, rfl⟩)
  go_ret2
  exact ⟨rfl, rfl⟩

theorem put_range (n s : Int) (w : World) (h : s = 1 ∨ s = 2 ∨ s = 4 ∨ s = 8) (h1 : fitsB n (8 * s) true = false) (h2 : fitsB n (8 * s) false = false) :
    Calls Tryd.prog 53 #[.int .i64 n, .int .i64 s] w fun e w' => e = .returned (.tuple #[.slice none 0 0, .int .i64 11]) ∧ w' = w := by
  have H : Hid (s = 1 ∨ s = 2 ∨ s = 4 ∨ s = 8) := h
  have hs0 : 1 ≤ s := by omega
  have hs1 : s ≤ 8 := by omega
  clear h
  go_enter Tryd.func53, Tryd.ntmps53
  go_wp2_with (first
    | (go_at_call 68; refine (isSize_yes _ _ H.out).mono ?_; rintro e w' ⟨rfl, rfl⟩)
    | (go_at_call 52; refine (fits_any _ _ _ _).mono ?_; rintro e w' ⟨rfl, rfl⟩))
  go_ret2
  exact ⟨rfl, rfl⟩

theorem put_1 (n : Int) (w : World) (h : fitsB n 8 true = true ∨ fitsB n 8 false = true) :
    Calls Tryd.prog 53 #[.int .i64 n, .int .i64 1] w fun e w' => e = .returned (.tuple #[.slice (some ⟨w.heap.size, 0, none⟩) 1 1, .int .i64 0]) ∧ w'.ownsRow w.heap.size 5 1 (.slice (some ⟨w.heap.size, 0, none⟩) 1 1) 1 (part n 1 1) ∧ Below w.heap.size w w' := by
  have R := (lowFirst_u8 (n % 256) w (by omega) (by omega))
  rw [part_mod n 1 1 (Nat.le_refl _) 256 (by decide)] at R
  by_cases h1 : fitsB n 8 true = true
  · clear h
    go_enter Tryd.func53, Tryd.ntmps53
    go_wp2_with (first
      | (go_at_call 68; refine (isSize_yes _ _ (by decide)).mono ?_; rintro e w' ⟨rfl, rfl⟩)
      | (go_at_call 52; refine (fits_any _ _ _ _).mono ?_; rintro e w' ⟨rfl, rfl⟩)
      | (go_at_call 69; refine R.mono ?_; rintro e w' ⟨rfl, hown, hbel⟩))
    go_ret2
    exact ⟨rfl, hown, hbel⟩
  · have h2 := h.resolve_left h1
    have h1 : fitsB n 8 true = false := by simpa using h1
    clear h
    go_enter Tryd.func53, Tryd.ntmps53
    go_wp2_with (first
      | (go_at_call 68; refine (isSize_yes _ _ (by decide)).mono ?_; rintro e w' ⟨rfl, rfl⟩)
      | (go_at_call 52; refine (fits_any _ _ _ _).mono ?_; rintro e w' ⟨rfl, rfl⟩)
      | (go_at_call 69; refine R.mono ?_; rintro e w' ⟨rfl, hown, hbel⟩))
    go_ret2
    exact ⟨rfl, hown, hbel⟩
theorem put_2 (n : Int) (w : World) (h : fitsB n 16 true = true ∨ fitsB n 16 false = true) :
    Calls Tryd.prog 53 #[.int .i64 n, .int .i64 2] w fun e w' => e = .returned (.tuple #[.slice (some ⟨w.heap.size, 0, none⟩) 2 2, .int .i64 0]) ∧ w'.ownsRow w.heap.size 5 1 (.slice (some ⟨w.heap.size, 0, none⟩) 2 2) 2 (part n 2 2) ∧ Below w.heap.size w w' := by
  have R := (lowFirst_u16 (n % 65536) w (by omega) (by omega))
  rw [part_mod n 2 2 (Nat.le_refl _) 65536 (by decide)] at R
  by_cases h1 : fitsB n 16 true = true
  · clear h
    go_enter Tryd.func53, Tryd.ntmps53
    go_wp2_with (first
      | (go_at_call 68; refine (isSize_yes _ _ (by decide)).mono ?_; rintro e w' ⟨rfl, rfl⟩)
      | (go_at_call 52; refine (fits_any _ _ _ _).mono ?_; rintro e w' ⟨rfl, rfl⟩)
      | (go_at_call 70; refine R.mono ?_; rintro e w' ⟨rfl, hown, hbel⟩))
    go_ret2
    exact ⟨rfl, hown, hbel⟩
  · have h2 := h.resolve_left h1
    have h1 : fitsB n 16 true = false := by simpa using h1
    clear h
    go_enter Tryd.func53, Tryd.ntmps53
    go_wp2_with (first
      | (go_at_call 68; refine (isSize_yes _ _ (by decide)).mono ?_; rintro e w' ⟨rfl, rfl⟩)
      | (go_at_call 52; refine (fits_any _ _ _ _).mono ?_; rintro e w' ⟨rfl, rfl⟩)
      | (go_at_call 70; refine R.mono ?_; rintro e w' ⟨rfl, hown, hbel⟩))
    go_ret2
    exact ⟨rfl, hown, hbel⟩
theorem put_4 (n : Int) (w : World) (h : fitsB n 32 true = true ∨ fitsB n 32 false = true) :
    Calls Tryd.prog 53 #[.int .i64 n, .int .i64 4] w fun e w' => e = .returned (.tuple #[.slice (some ⟨w.heap.size, 0, none⟩) 4 4, .int .i64 0]) ∧ w'.ownsRow w.heap.size 5 1 (.slice (some ⟨w.heap.size, 0, none⟩) 4 4) 4 (part n 4 4) ∧ Below w.heap.size w w' := by
  have R := (lowFirst_u32 (n % 4294967296) w (by omega) (by omega))
  rw [part_mod n 4 4 (Nat.le_refl _) 4294967296 (by decide)] at R
  by_cases h1 : fitsB n 32 true = true
  · clear h
    go_enter Tryd.func53, Tryd.ntmps53
    go_wp2_with (first
      | (go_at_call 68; refine (isSize_yes _ _ (by decide)).mono ?_; rintro e w' ⟨rfl, rfl⟩)
      | (go_at_call 52; refine (fits_any _ _ _ _).mono ?_; rintro e w' ⟨rfl, rfl⟩)
      | (go_at_call 71; refine R.mono ?_; rintro e w' ⟨rfl, hown, hbel⟩))
    go_ret2
    exact ⟨rfl, hown, hbel⟩
  · have h2 := h.resolve_left h1
    have h1 : fitsB n 32 true = false := by simpa using h1
    clear h
    go_enter Tryd.func53, Tryd.ntmps53
    go_wp2_with (first
      | (go_at_call 68; refine (isSize_yes _ _ (by decide)).mono ?_; rintro e w' ⟨rfl, rfl⟩)
      | (go_at_call 52; refine (fits_any _ _ _ _).mono ?_; rintro e w' ⟨rfl, rfl⟩)
      | (go_at_call 71; refine R.mono ?_; rintro e w' ⟨rfl, hown, hbel⟩))
    go_ret2
    exact ⟨rfl, hown, hbel⟩
theorem put_8 (n : Int) (w : World) (h : fitsB n 64 true = true ∨ fitsB n 64 false = true) :
    Calls Tryd.prog 53 #[.int .i64 n, .int .i64 8] w fun e w' => e = .returned (.tuple #[.slice (some ⟨w.heap.size, 0, none⟩) 8 8, .int .i64 0]) ∧ w'.ownsRow w.heap.size 5 1 (.slice (some ⟨w.heap.size, 0, none⟩) 8 8) 8 (part n 8 8) ∧ Below w.heap.size w w' := by
  have R := (lowFirst_u64 (n % 18446744073709551616) w (by omega) (by omega))
  rw [part_mod n 8 8 (Nat.le_refl _) 18446744073709551616 (by decide)] at R
  by_cases h1 : fitsB n 64 true = true
  · clear h
    go_enter Tryd.func53, Tryd.ntmps53
    go_wp2_with (first
      | (go_at_call 68; refine (isSize_yes _ _ (by decide)).mono ?_; rintro e w' ⟨rfl, rfl⟩)
      | (go_at_call 52; refine (fits_any _ _ _ _).mono ?_; rintro e w' ⟨rfl, rfl⟩)
      | (go_at_call 72; refine R.mono ?_; rintro e w' ⟨rfl, hown, hbel⟩))
    go_ret2
    exact ⟨rfl, hown, hbel⟩
  · have h2 := h.resolve_left h1
    have h1 : fitsB n 64 true = false := by simpa using h1
    clear h
    go_enter Tryd.func53, Tryd.ntmps53
    go_wp2_with (first
      | (go_at_call 68; refine (isSize_yes _ _ (by decide)).mono ?_; rintro e w' ⟨rfl, rfl⟩)
      | (go_at_call 52; refine (fits_any _ _ _ _).mono ?_; rintro e w' ⟨rfl, rfl⟩)
      | (go_at_call 72; refine R.mono ?_; rintro e w' ⟨rfl, hown, hbel⟩))
    go_ret2
    exact ⟨rfl, hown, hbel⟩

/-- A slice's bytes in memory: it is empty, or they lie one behind the other. -/
def Row (w : World) (ao : Option Addr) (len : Nat) (bs : Nat → Int) : Prop :=
  len = 0 ∨ ∃ b off, ao = some ⟨b, off, none⟩ ∧ ∀ i, i < len → w.cell? ⟨b, off + i, none⟩ = some (.int .u8 (bs i))

theorem Row.below {w w' : World} {ao : Option Addr} {len : Nat} {bs : Nat → Int} (h : Row w ao len bs) {B : Nat} (hb : Below B w w') (hB : w.heap.size ≤ B) : Row w' ao len bs := by
  rcases h with h | ⟨b, off, e, h⟩
  · exact .inl h
  · refine .inr ⟨b, off, e, fun i hi => ?_⟩
    have h1 := h i hi
    rw [hb.cell (p := ⟨b, off + i, none⟩) (Nat.lt_of_lt_of_le (cell_lt h1) hB)]
    exact h1

theorem Row.alloc {w : World} {ao : Option Addr} {len : Nat} {bs : Nat → Int} (h : Row w ao len bs) (o : Obj) : Row (w.alloc o) ao len bs :=
  h.below ((Below.refl _ _).alloc (Nat.le_refl _) o) (Nat.le_refl _)

/-- The bytes end within the number. -/
def Fin (len : Nat) (bs : Nat → Int) (t : Int) : Prop := t < 0 ∨ ∃ a : Nat, t = a ∧ len ≤ a + 10 ∧ ∀ j, a + j < len → 128 ≤ bs (a + j)
/-- Ten bytes with 128, and an eleventh one is there. -/
def Long (len : Nat) (bs : Nat → Int) (t : Int) : Prop := ∃ a : Nat, t = a ∧ a + 11 ≤ len ∧ ∀ j, j < 10 → 128 ≤ bs (a + j)
/-- A number of c bytes. -/
def Num (len : Nat) (bs : Nat → Int) (a c : Nat) : Prop := 1 ≤ c ∧ c ≤ 10 ∧ a + c ≤ len ∧ (∀ j, j + 1 < c → 128 ≤ bs (a + j)) ∧ bs (a + (c - 1)) < 128

theorem run_or (bs : Nat → Int) (a : Nat) : ∀ n, (∀ j, j < n → 128 ≤ bs (a + j)) ∨ ∃ c, 1 ≤ c ∧ c ≤ n ∧ (∀ j, j + 1 < c → 128 ≤ bs (a + j)) ∧ bs (a + (c - 1)) < 128 := by
  intro n
  induction n with
  | zero => exact .inl (by intro j h; omega)
  | succ n ih =>
    rcases ih with h | ⟨c, h1, h2, h3, h4⟩
    · by_cases hn : 128 ≤ bs (a + n)
      · left; intro j hj
        by_cases e : j = n
        · subst e; exact hn
        · exact h j (by omega)
      · exact .inr ⟨n + 1, by omega, by omega, fun j hj => h j (by omega), by simpa using hn⟩
    · exact .inr ⟨c, h1, by omega, h3, h4⟩

theorem sorts (len : Nat) (bs : Nat → Int) (t : Int) : Fin len bs t ∨ Long len bs t ∨ ∃ a c : Nat, t = a ∧ Num len bs a c := by
  by_cases h : t < 0
  · exact .inl (.inl h)
  · obtain ⟨a, rfl⟩ := Int.eq_ofNat_of_zero_le (show 0 ≤ t by omega)
    rcases run_or bs a (min 10 (len - a)) with h1 | ⟨c, h1, h2, h3, h4⟩
    · by_cases hl : a + 11 ≤ len
      · exact .inr (.inl ⟨a, rfl, hl, fun j hj => h1 j (by omega)⟩)
      · exact .inl (.inr ⟨a, rfl, by omega, fun j hj => h1 j (by omega)⟩)
    · exact .inr (.inr ⟨a, c, rfl, h1, by omega, by omega, h3, h4⟩)

theorem rten_u (bs : Nat → Int) (a : Nat) : wrap64 (uacc bs a 10 % 18446744073709551616) = wrap64 (uacc bs a 10) := wrap64_of_mod _
theorem rten_s (bs : Nat → Int) (a : Nat) : wrap64 (uacc bs a 10) = sval bs a 10 := (sx64 _).symm
theorem rconv_u (bs : Nat → Int) (a c : Nat) (hc : c ≤ 9) : wrap64 (uacc bs a c) = wrap64 (uacc bs a c) := rfl
theorem rconv_s (bs : Nat → Int) (a c : Nat) (hc : c ≤ 9) : sx (7 * c) (uacc bs a c) = sval bs a c := by unfold sval; rw [show min (7 * c) 64 = 7 * c from by omega]

theorem ne20 : ((20 : Int) != 0) = true := by decide
theorem ne21 : ((21 : Int) != 0) = true := by decide

theorem groups_fin_u64 (ao : Option Addr) (len cap : Nat) (bs : Nat → Int) (t : Int) (w : World) (hr : Row w ao len bs) (hl : len ≤ 140737488355328) (ht : t ≤ 9223372036854775807) (h : Fin len bs t) :
    Calls Tryd.prog 92 #[.agg #[.slice ao len cap, .int .i64 t]] w fun e w' => e = .returned (.tuple #[.int .i64 0, .int .i64 20]) ∧ Below w.heap.size w w' := by
  rcases h with h | ⟨a, rfl, h1, h2⟩
  · exact groups_neg_u64 ao len cap t w h
  · by_cases h0 : len = 0
    · subst h0; exact groups_none_u64 ao cap a w (by omega)
    · rcases hr with hr | ⟨b, off, rfl, hc⟩
      · exact absurd hr h0
      · exact groups_end_u64 b off len cap a bs w hl (by omega) (by omega) hc h1 h2

theorem groups_lng_u64 (ao : Option Addr) (len cap : Nat) (bs : Nat → Int) (t : Int) (w : World) (hr : Row w ao len bs) (hl : len ≤ 140737488355328) (h : Long len bs t) :
    Calls Tryd.prog 92 #[.agg #[.slice ao len cap, .int .i64 t]] w fun e w' => e = .returned (.tuple #[.int .i64 0, .int .i64 21]) ∧ Below w.heap.size w w' := by
  obtain ⟨a, rfl, h1, h2⟩ := h
  rcases hr with hr | ⟨b, off, rfl, hc⟩
  · omega
  · exact groups_long_u64 b off len cap a bs w hl hc h1 h2

theorem readU_err (ao : Option Addr) (len cap : Nat) (t E : Int) (w : World)
    (G : Calls Tryd.prog 78 #[.agg #[.slice ao len cap, .int .i64 t]] w fun e w' => e = .returned (.tuple #[.int .u64 0, .int .i64 0, .int .i64 E]) ∧ Below w.heap.size w w') :
    Calls Tryd.prog 59 #[.slice ao len cap, .int .i64 t] w fun e w' => e = .returned (.tuple #[.int .i64 0, .int .i64 0, .int .i64 E]) ∧ Below w.heap.size w w' := by
  go_enter Tryd.func59, Tryd.ntmps59
  go_wp2_with (go_at_call 78; refine G.mono ?_; rintro e w1 ⟨rfl, hb1⟩)
  go_ret3
  exact ⟨rfl, hb1⟩

/-- The bytes end within the number: ErrEnd. -/
theorem readU_fin (ao : Option Addr) (len cap : Nat) (bs : Nat → Int) (t : Int) (w : World) (hr : Row w ao len bs) (hl : len ≤ 140737488355328) (ht : t ≤ 9223372036854775807) (h : Fin len bs t) :
    Calls Tryd.prog 59 #[.slice ao len cap, .int .i64 t] w fun e w' => e = .returned (.tuple #[.int .i64 0, .int .i64 0, .int .i64 20]) ∧ Below w.heap.size w w' :=
  readU_err ao len cap t 20 w (grouped_err_u64 ao len cap t 20 w ne20 (fun o => groups_fin_u64 ao len cap bs t _ (hr.alloc o) hl ht h))

/-- It is too long: ErrLeb. -/
theorem readU_lng (ao : Option Addr) (len cap : Nat) (bs : Nat → Int) (t : Int) (w : World) (hr : Row w ao len bs) (hl : len ≤ 140737488355328) (h : Long len bs t) :
    Calls Tryd.prog 59 #[.slice ao len cap, .int .i64 t] w fun e w' => e = .returned (.tuple #[.int .i64 0, .int .i64 0, .int .i64 21]) ∧ Below w.heap.size w w' :=
  readU_err ao len cap t 21 w (grouped_err_u64 ao len cap t 21 w ne21 (fun o => groups_lng_u64 ao len cap bs t _ (hr.alloc o) hl h))

/-- Its tenth byte does not fit: ErrLeb. -/
theorem readU_bad (ao : Option Addr) (len cap a : Nat) (bs : Nat → Int) (w : World) (hr : Row w ao len bs) (hbs : ∀ i, 0 ≤ bs i ∧ bs i < 256) (hl : len ≤ 140737488355328) (h : Num len bs a 10) (ht : ¬ (bs (a + 9) ≤ 1)) :
    Calls Tryd.prog 59 #[.slice ao len cap, .int .i64 a] w fun e w' => e = .returned (.tuple #[.int .i64 0, .int .i64 0, .int .i64 21]) ∧ Below w.heap.size w w' := by
  obtain ⟨h1, h2, h3, h4, h5⟩ := h
  rcases hr with hr | ⟨b, off, rfl, hc⟩
  · omega
  · exact readU_err _ len cap a 21 w (grouped_bad_u64 b off len cap a bs w hl hc hbs h3 h4 h5 ht)

/-- It is read. -/
theorem readU_num (ao : Option Addr) (len cap a c : Nat) (bs : Nat → Int) (w : World) (hr : Row w ao len bs) (hbs : ∀ i, 0 ≤ bs i ∧ bs i < 256) (hl : len ≤ 140737488355328) (h : Num len bs a c) (ht : c = 10 → bs (a + 9) ≤ 1) :
    Calls Tryd.prog 59 #[.slice ao len cap, .int .i64 a] w fun e w' => e = .returned (.tuple #[.int .i64 (wrap64 (uacc bs a c)), .int .i64 (a + c), .int .i64 0]) ∧ Below w.heap.size w w' := by
  obtain ⟨h1, h2, h3, h4, h5⟩ := h
  rcases hr with hr | ⟨b, off, rfl, hc⟩
  · omega
  · by_cases h10 : c = 10
    · subst h10
      have G := grouped_ten_u64 b off len cap a bs w hl hc hbs h3 h4 h5 (ht rfl)
      clear h1 h2 h3 h4 h5 ht hc hbs
      go_enter Tryd.func59, Tryd.ntmps59
      go_wp2_with (go_at_call 78; refine G.mono ?_; rintro e w1 ⟨rfl, hb1⟩)
      go_ret3
      exact ⟨ret_3i (rten_u bs a) rfl rfl, hb1⟩
    · have G := grouped_num_u64 b off len cap a c bs w hl hc hbs h1 (by omega) h3 h4 h5
      have F := rconv_u bs a c (by omega)
      have HF : Hid _ := F
      clear h3 h4 h5 ht hc hbs F
      go_enter Tryd.func59, Tryd.ntmps59
      go_wp2_with (go_at_call 78; refine G.mono ?_; rintro e w1 ⟨rfl, hb1⟩)
      go_ret3
      exact ⟨ret_3i (by first | exact HF.out | rfl) rfl rfl, hb1⟩
theorem groups_fin_i64 (ao : Option Addr) (len cap : Nat) (bs : Nat → Int) (t : Int) (w : World) (hr : Row w ao len bs) (hl : len ≤ 140737488355328) (ht : t ≤ 9223372036854775807) (h : Fin len bs t) :
    Calls Tryd.prog 91 #[.agg #[.slice ao len cap, .int .i64 t]] w fun e w' => e = .returned (.tuple #[.int .i64 0, .int .i64 20]) ∧ Below w.heap.size w w' := by
  rcases h with h | ⟨a, rfl, h1, h2⟩
  · exact groups_neg_i64 ao len cap t w h
  · by_cases h0 : len = 0
    · subst h0; exact groups_none_i64 ao cap a w (by omega)
    · rcases hr with hr | ⟨b, off, rfl, hc⟩
      · exact absurd hr h0
      · exact groups_end_i64 b off len cap a bs w hl (by omega) (by omega) hc h1 h2

theorem groups_lng_i64 (ao : Option Addr) (len cap : Nat) (bs : Nat → Int) (t : Int) (w : World) (hr : Row w ao len bs) (hl : len ≤ 140737488355328) (h : Long len bs t) :
    Calls Tryd.prog 91 #[.agg #[.slice ao len cap, .int .i64 t]] w fun e w' => e = .returned (.tuple #[.int .i64 0, .int .i64 21]) ∧ Below w.heap.size w w' := by
  obtain ⟨a, rfl, h1, h2⟩ := h
  rcases hr with hr | ⟨b, off, rfl, hc⟩
  · omega
  · exact groups_long_i64 b off len cap a bs w hl hc h1 h2

theorem readS_err (ao : Option Addr) (len cap : Nat) (t E : Int) (w : World)
    (G : Calls Tryd.prog 77 #[.agg #[.slice ao len cap, .int .i64 t]] w fun e w' => e = .returned (.tuple #[.int .i64 0, .int .i64 0, .int .i64 E]) ∧ Below w.heap.size w w') :
    Calls Tryd.prog 58 #[.slice ao len cap, .int .i64 t] w fun e w' => e = .returned (.tuple #[.int .i64 0, .int .i64 0, .int .i64 E]) ∧ Below w.heap.size w w' := by
  go_enter Tryd.func58, Tryd.ntmps58
  go_wp2_with (go_at_call 77; refine G.mono ?_; rintro e w1 ⟨rfl, hb1⟩)
  go_ret3
  exact ⟨rfl, hb1⟩

/-- The bytes end within the number: ErrEnd. -/
theorem readS_fin (ao : Option Addr) (len cap : Nat) (bs : Nat → Int) (t : Int) (w : World) (hr : Row w ao len bs) (hl : len ≤ 140737488355328) (ht : t ≤ 9223372036854775807) (h : Fin len bs t) :
    Calls Tryd.prog 58 #[.slice ao len cap, .int .i64 t] w fun e w' => e = .returned (.tuple #[.int .i64 0, .int .i64 0, .int .i64 20]) ∧ Below w.heap.size w w' :=
  readS_err ao len cap t 20 w (grouped_err_i64 ao len cap t 20 w ne20 (fun o => groups_fin_i64 ao len cap bs t _ (hr.alloc o) hl ht h))

/-- It is too long: ErrLeb. -/
theorem readS_lng (ao : Option Addr) (len cap : Nat) (bs : Nat → Int) (t : Int) (w : World) (hr : Row w ao len bs) (hl : len ≤ 140737488355328) (h : Long len bs t) :
    Calls Tryd.prog 58 #[.slice ao len cap, .int .i64 t] w fun e w' => e = .returned (.tuple #[.int .i64 0, .int .i64 0, .int .i64 21]) ∧ Below w.heap.size w w' :=
  readS_err ao len cap t 21 w (grouped_err_i64 ao len cap t 21 w ne21 (fun o => groups_lng_i64 ao len cap bs t _ (hr.alloc o) hl h))

/-- Its tenth byte does not fit: ErrLeb. -/
theorem readS_bad (ao : Option Addr) (len cap a : Nat) (bs : Nat → Int) (w : World) (hr : Row w ao len bs) (hbs : ∀ i, 0 ≤ bs i ∧ bs i < 256) (hl : len ≤ 140737488355328) (h : Num len bs a 10) (ht : ¬ (bs (a + 9) = 0 ∨ bs (a + 9) = 127)) :
    Calls Tryd.prog 58 #[.slice ao len cap, .int .i64 a] w fun e w' => e = .returned (.tuple #[.int .i64 0, .int .i64 0, .int .i64 21]) ∧ Below w.heap.size w w' := by
  obtain ⟨h1, h2, h3, h4, h5⟩ := h
  rcases hr with hr | ⟨b, off, rfl, hc⟩
  · omega
  · exact readS_err _ len cap a 21 w (grouped_bad_i64 b off len cap a bs w hl hc hbs h3 h4 h5 ht)

/-- It is read. -/
theorem readS_num (ao : Option Addr) (len cap a c : Nat) (bs : Nat → Int) (w : World) (hr : Row w ao len bs) (hbs : ∀ i, 0 ≤ bs i ∧ bs i < 256) (hl : len ≤ 140737488355328) (h : Num len bs a c) (ht : c = 10 → bs (a + 9) = 0 ∨ bs (a + 9) = 127) :
    Calls Tryd.prog 58 #[.slice ao len cap, .int .i64 a] w fun e w' => e = .returned (.tuple #[.int .i64 (sval bs a c), .int .i64 (a + c), .int .i64 0]) ∧ Below w.heap.size w w' := by
  obtain ⟨h1, h2, h3, h4, h5⟩ := h
  rcases hr with hr | ⟨b, off, rfl, hc⟩
  · omega
  · by_cases h10 : c = 10
    · subst h10
      have G := grouped_ten_i64 b off len cap a bs w hl hc hbs h3 h4 h5 (ht rfl)
      clear h1 h2 h3 h4 h5 ht hc hbs
      go_enter Tryd.func58, Tryd.ntmps58
      go_wp2_with (go_at_call 77; refine G.mono ?_; rintro e w1 ⟨rfl, hb1⟩)
      go_ret3
      exact ⟨ret_3i (rten_s bs a) rfl rfl, hb1⟩
    · have G := grouped_num_i64 b off len cap a c bs w hl hc hbs h1 (by omega) h3 h4 h5
      have F := rconv_s bs a c (by omega)
      have HF : Hid _ := F
      clear h3 h4 h5 ht hc hbs F
      go_enter Tryd.func58, Tryd.ntmps58
      go_wp2_with (go_at_call 77; refine G.mono ?_; rintro e w1 ⟨rfl, hb1⟩)
      go_ret3
      exact ⟨ret_3i (by first | exact HF.out | rfl) rfl rfl, hb1⟩

/-- The three bytes of 624485. -/
def three (i : Nat) : Int := if i = 0 then 229 else if i = 1 then 142 else 38

theorem three_in (i : Nat) : 0 ≤ three i ∧ three i < 256 := by unfold three; split <;> (try split) <;> decide

theorem three_num : Num 3 three 0 3 := by
  refine ⟨by omega, by omega, by omega, ?_, by decide⟩
  intro j hj
  have : j = 0 ∨ j = 1 := by omega
  rcases this with rfl | rfl <;> decide

theorem readU_three (b : Nat) (w : World) (h0 : w.cell? ⟨b, 0, none⟩ = some (.int .u8 229)) (h1 : w.cell? ⟨b, 1, none⟩ = some (.int .u8 142)) (h2 : w.cell? ⟨b, 2, none⟩ = some (.int .u8 38)) :
    Calls Tryd.prog 59 #[.slice (some ⟨b, 0, none⟩) 3 3, .int .i64 0] w fun e w' => e = .returned (.tuple #[.int .i64 624485, .int .i64 3, .int .i64 0]) ∧ Below w.heap.size w w' := by
  have h := readU_num (some ⟨b, 0, none⟩) 3 3 0 3 three w (.inr ⟨b, 0, rfl, by
    intro i hi
    have : i = 0 ∨ i = 1 ∨ i = 2 := by omega
    rcases this with rfl | rfl | rfl
    · exact h0
    · exact h1
    · exact h2⟩) three_in (by omega) three_num (by omega)
  have e : wrap64 (uacc three 0 3) = 624485 := by unfold wrap64; decide
  rw [e] at h
  exact h

theorem three_laid (w : World) : let W := w.alloc (.cells #[.int .u8 229, .int .u8 142, .int .u8 38] 5)
    W.cell? ⟨w.heap.size, 0, none⟩ = some (.int .u8 229) ∧ W.cell? ⟨w.heap.size, 1, none⟩ = some (.int .u8 142) ∧ W.cell? ⟨w.heap.size, 2, none⟩ = some (.int .u8 38) := by
  simp [World.cell?_alloc_at]

theorem fits258 : fitsB 258 16 true = true := by decide

theorem str21 : strOfNums [2, 1] = { data := #[2, 1] } := by decide


/-- A row of bytes of the call's own, from block base on. -/
def Own (w : World) (base : Nat) (v : Value) (xs : List Int) : Prop := w.ownsRow base 5 1 v xs.length (xs.map (Value.int .u8))

theorem Own.nil (w : World) (base : Nat) : Own w base (.slice none 0 0) [] := World.ownsRow_nil _ _ _ _

theorem Own.block {w : World} {base : Nat} {v : Value} {xs : List Int} (h : Own w base v xs) : ∀ k, v.ownBlock = some k → base ≤ k := by
  intro k hk
  rcases h.2 with ⟨hv, _⟩ | ⟨g, cap, cur, hv, hb, _⟩
  · subst hv; cases hk
  · subst hv; simp [Value.ownBlock] at hk; omega

theorem append_byte {ops : Array Oper} {rest : List Oper} {o : Oper} {a : Act} {Q : Exit → Act → World → Prop} (w : World) (hgd : o.guard = none) (s x : Operand)
    (ho : o.op = .call { callee := .builtin .append, args := #[s, x], argTypes := #[24, 24] })
    (base : Nat) (v : Value) (xs : List Int) (hs : a.eval s = v) (hown : Own w base v xs) (b : Int) (hx : a.eval x = .slice (some ⟨w.heap.size, 0, none⟩) 1 1)
    (hn : xs.length + 1 ≤ 140737488355328) (hbase : base ≤ w.heap.size)
    (h : ∀ v' w', Own w' base v' (xs ++ [b]) → Below base w w' → wpList Tryd.prog ops Q rest (a.put o.dst v') w') :
    wpList Tryd.prog ops Q (o :: rest) a (w.alloc (.cells #[.int .u8 b] 5)) := by
  obtain ⟨i0, hi, hz0, hz1, hz2⟩ := info_parts info5
  refine wpList_append_own _ hgd s x 24 ho base 5 i0 (.int .u8 0) 1 1 Tryd.underlying24 hi hz0 hz1 hz2 rfl (by decide) v xs.length _ hs (hown.alloc _) ⟨w.heap.size, 0, none⟩ 1 1 [.int .u8 b] hx rfl ?_ ?_ (by unfold maxLen; omega) (by omega) (by simp; omega) ?_
  · intro j u hj
    match j, hj with
    | 0, hj => simp at hj; subst hj; simp [Addr.add]
  · intro u hu; simp at hu; subst hu; rfl
  · intro v' w' hown' hgrow _
    refine h v' w' ?_ (((Below.refl base w).alloc hbase _).grown hgrow (by simp; omega) hown.block)
    unfold Own
    simpa using hown'

/-- What a row of the call's own reads as: its address, and each byte's cell. -/
theorem Own.lies {w : World} {base : Nat} {v : Value} {xs : List Int} (h : Own w base v xs) (hne : 1 ≤ xs.length) :
    ∃ g cap, v = .slice (some ⟨g, 0, none⟩) xs.length cap ∧ base ≤ g ∧ g < w.heap.size ∧ ∀ i, i < xs.length → w.cell? ⟨g, i, none⟩ = some (.int .u8 (xs.getD i 0)) := by
  rcases h.2 with ⟨_, hn⟩ | ⟨g, cap, cur, hv, hb, hg, _⟩
  · omega
  · refine ⟨g, cap, hv, hb, ?_, ?_⟩
    · apply Classical.byContradiction
      intro hn
      rw [Array.getElem?_eq_none (by omega)] at hg
      cases hg
    · intro i hi
      subst hv
      have := h.cellAt i (by omega)
      rw [this]
      simp [hi]

theorem low7_u64 (n : Int) (w : World) :
    Calls Tryd.prog 90 #[.int .u64 n, .int .i64 7] w fun e w' => e = .returned (.int .u64 (n % 128)) ∧ w' = w := low_u64 n 7 w (by omega) (by omega)

theorem low7_i64 (n : Int) (w : World) :
    Calls Tryd.prog 89 #[.int .i64 n, .int .i64 7] w fun e w' => e = .returned (.int .i64 ((n + 64) % 128 - 64)) ∧ w' = w := by
  have h := low_i64 n 7 w (by omega) (by omega)
  rw [show (7 : Int).toNat = 7 from rfl, sx7] at h
  exact h

theorem inGroups_u64 (n : Nat) (w : World) (hn : n < 18446744073709551616) :
    Calls Tryd.prog 74 #[.int .u64 n] w fun e w' => ∃ v, e = .returned v ∧ Own w' w.heap.size v (ul n) ∧ Below w.heap.size w w' := by
  have hlen := ul_len10 n hn
  go_enter Tryd.func74, Tryd.ntmps74
  go_wp2
  go_loopw [0, 3] (fun i v wr => ∃ (u : Nat) (xs : List Int), i = .int .u64 u ∧ u < 18446744073709551616 ∧ xs ++ ul u = ul n ∧ Own wr w.heap.size v xs ∧ Below w.heap.size w wr) (fun i _ _ => (intOf i).toNat)
  case atStart => exact ⟨n, [], rfl, hn, rfl, Own.nil _ _, Below.refl _ _⟩
  case round =>
    obtain ⟨u, xs, rfl, hu, hxs, hown, hbel⟩ := hrel
    have hl2 : xs.length + (ul u).length ≤ 10 := by rw [← List.length_append, hxs]; exact hlen
    have hl3 := ul_len_pos u
    by_cases hlt : u < 128
    · have ht : ((u : Int) % 128 != (u : Int)) = false := by simp; omega
      have hb : bits .and .u8 (u : Int) 127 = (u : Int) := by rw [u8_and127 _ (by omega) (by omega)]; omega
      have HU : Hid _ := ul_lt hlt
      go_wp2_with (first
        | (go_at_call 90; refine (low7_u64 _ _).mono ?_; rintro e w' ⟨rfl, rfl⟩)
        | (at_builtin; refine append_byte _ rfl _ _ rfl w.heap.size _ xs rfl hown (u : Int) rfl (by omega) hbel.size ?_; intro v2 w2 hown2 hbel2))
      go_ret
      exact ⟨_, rfl, by rw [← hxs, HU.out]; exact hown2, hbel.trans hbel2⟩
    · have ht : ((u : Int) % 128 != (u : Int)) = true := by simp; omega
      have hb : bits .or .u8 ((u : Int) % 256) 128 = (u : Int) % 128 + 128 := by rw [or128_u8 _ (by omega) (by omega)]; omega
      have HU : Hid _ := ul_ge hlt
      go_wp2_with (first
        | (go_at_call 90; refine (low7_u64 _ _).mono ?_; rintro e w' ⟨rfl, rfl⟩)
        | (at_builtin; refine append_byte _ rfl _ _ rfl w.heap.size _ xs rfl hown ((u : Int) % 128 + 128) rfl (by omega) hbel.size ?_; intro v2 w2 hown2 hbel2))
      go_roundw
      case rel => exact ⟨u / 128, xs ++ [(u : Int) % 128 + 128], by go_num, by omega, by rw [← hxs, HU.out]; simp, hown2, hbel.trans hbel2⟩
      case measure => simp [intOf]; omega

theorem inGroups_i64 (n : Int) (w : World) (hn : -9223372036854775808 ≤ n ∧ n ≤ 9223372036854775807) :
    Calls Tryd.prog 73 #[.int .i64 n] w fun e w' => ∃ v, e = .returned v ∧ Own w' w.heap.size v (sl n) ∧ Below w.heap.size w w' := by
  have hlen := sl_len10 n hn
  go_enter Tryd.func73, Tryd.ntmps73
  go_wp2
  go_loopw [0, 3] (fun i v wr => ∃ (u : Int) (xs : List Int), i = .int .i64 u ∧ (-9223372036854775808 ≤ u ∧ u ≤ 9223372036854775807) ∧ xs ++ sl u = sl n ∧ Own wr w.heap.size v xs ∧ Below w.heap.size w wr) (fun i _ _ => (intOf i).natAbs)
  case atStart => exact ⟨n, [], rfl, hn, rfl, Own.nil _ _, Below.refl _ _⟩
  case round =>
    obtain ⟨u, xs, rfl, hu, hxs, hown, hbel⟩ := hrel
    have hl2 : xs.length + (sl u).length ≤ 10 := by rw [← List.length_append, hxs]; exact hlen
    have hl3 := sl_len_pos u
    by_cases hlt : -64 ≤ u ∧ u ≤ 63
    · have ht : ((u + 64) % 128 - 64 != u) = false := by simp; omega
      have hb : bits .and .u8 (u % 256) 127 = u % 128 := by rw [u8_and127 _ (by omega) (by omega)]; omega
      have HU : Hid _ := sl_in hlt
      go_wp2_with (first
        | (go_at_call 89; refine (low7_i64 _ _).mono ?_; rintro e w' ⟨rfl, rfl⟩)
        | (at_builtin; refine append_byte _ rfl _ _ rfl w.heap.size _ xs rfl hown (u % 128) rfl (by omega) hbel.size ?_; intro v2 w2 hown2 hbel2))
      go_ret
      exact ⟨_, rfl, by rw [← hxs, HU.out]; exact hown2, hbel.trans hbel2⟩
    · have ht : ((u + 64) % 128 - 64 != u) = true := by simp; omega
      have hb : bits .or .u8 (u % 256) 128 = u % 128 + 128 := by rw [or128_u8 _ (by omega) (by omega)]; omega
      have HU : Hid _ := sl_out hlt
      have HM : Hid (¬ (-64 ≤ u ∧ u ≤ 63)) := hlt
      clear hlt
      go_wp2_with (first
        | (go_at_call 89; refine (low7_i64 _ _).mono ?_; rintro e w' ⟨rfl, rfl⟩)
        | (at_builtin; refine append_byte _ rfl _ _ rfl w.heap.size _ xs rfl hown (u % 128 + 128) rfl (by omega) hbel.size ?_; intro v2 w2 hown2 hbel2))
      go_roundw
      case rel => exact ⟨u / 128, xs ++ [u % 128 + 128], rfl, by omega, by rw [← hxs, HU.out]; simp, hown2, hbel.trans hbel2⟩
      case measure => have := HM.out; simp [intOf]; omega

theorem uleb_any (n : Int) (w : World) :
    Calls Tryd.prog 55 #[.int .i64 n] w fun e w' => ∃ v, e = .returned v ∧ Own w' w.heap.size v (ul (n % 18446744073709551616).toNat) ∧ Below w.heap.size w w' := by
  obtain ⟨m, hm⟩ := Int.eq_ofNat_of_zero_le (show 0 ≤ n % 18446744073709551616 by omega)
  have G := inGroups_u64 m w (by omega)
  rw [← hm] at G
  rw [show (n % 18446744073709551616).toNat = m from by omega]
  clear hm
  go_enter Tryd.func55, Tryd.ntmps55
  go_wp2_with (go_at_call 74; refine G.mono ?_; rintro e w1 ⟨v, rfl, hown, hbel⟩)
  go_ret
  exact ⟨_, rfl, hown, hbel⟩

theorem sleb_any (n : Int) (w : World) (hn : -9223372036854775808 ≤ n ∧ n ≤ 9223372036854775807) :
    Calls Tryd.prog 54 #[.int .i64 n] w fun e w' => ∃ v, e = .returned v ∧ Own w' w.heap.size v (sl n) ∧ Below w.heap.size w w' := by
  have G := inGroups_i64 n w hn
  clear hn
  go_enter Tryd.func54, Tryd.ntmps54
  go_wp2_with (go_at_call 73; refine G.mono ?_; rintro e w1 ⟨v, rfl, hown, hbel⟩)
  go_ret
  exact ⟨_, rfl, hown, hbel⟩

theorem ul_lti {u : Int} (h0 : 0 ≤ u) (h : u < 128) : ul u.toNat = [u] := by rw [ul_lt (by omega)]; congr 1; omega
theorem ul_gei {u : Int} (h0 : 0 ≤ u) (h : ¬ u < 128) : ul u.toNat = (u % 128 + 128) :: ul (u / 128).toNat := by
  rw [ul_ge (by omega)]
  congr 1
  · omega
  · congr 1; omega

theorem ruleb_any (n : Int) (w : World) :
    Calls Tryd.prog 28 #[.int .i64 n] w fun e w' => ∃ v, e = .returned v ∧ Own w' w.heap.size v (ul (n % 18446744073709551616).toNat) ∧ Below w.heap.size w w' := by
  obtain ⟨m, hm⟩ : ∃ m : Int, m = n % 18446744073709551616 := ⟨_, rfl⟩
  have hmn : 0 ≤ m ∧ m ≤ 18446744073709551615 := by omega
  rw [← hm]
  have hlen := ul_len10 m.toNat (by omega)
  have hm' : IntKind.u64.wrap n = m := by rw [IntKind.wrap_u64]; exact hm.symm
  clear hm
  go_enter Tryd.func28, Tryd.ntmps28
  go_wp2
  go_loopw [3, 4] (fun i v wr => ∃ (u : Int) (xs : List Int), i = .int .u64 u ∧ (0 ≤ u ∧ u ≤ 18446744073709551615) ∧ xs ++ ul u.toNat = ul m.toNat ∧ Own wr w.heap.size v xs ∧ Below w.heap.size w wr) (fun i _ _ => (intOf i).toNat)
  case atStart => exact ⟨m, [], rfl, hmn, rfl, Own.nil _ _, Below.refl _ _⟩
  case round =>
    obtain ⟨u, xs, rfl, hu, hxs, hown, hbel⟩ := hrel
    have hl2 : xs.length + (ul u.toNat).length ≤ 10 := by rw [← List.length_append, hxs]; exact hlen
    have hl3 := ul_len_pos u.toNat
    clear hm' hmn hlen
    by_cases hlt : u < 128
    · have HU : Hid _ := ul_lti hu.1 hlt
      go_wp2_with (first
        | (at_builtin; refine append_byte _ rfl _ _ rfl w.heap.size _ xs rfl hown u rfl (by omega) hbel.size ?_; intro v2 w2 hown2 hbel2))
      go_ret
      exact ⟨_, rfl, by rw [← hxs, HU.out]; exact hown2, hbel.trans hbel2⟩
    · have HU : Hid _ := ul_gei hu.1 hlt
      go_wp2_with (first
        | (at_builtin; refine append_byte _ rfl _ _ rfl w.heap.size _ xs rfl hown (u % 128 + 128) rfl (by omega) hbel.size ?_; intro v2 w2 hown2 hbel2))
      go_roundw
      case rel => exact ⟨u / 128, xs ++ [u % 128 + 128], rfl, by omega, by rw [← hxs, HU.out]; simp, hown2, hbel.trans hbel2⟩
      case measure => simp [intOf]; omega

theorem rsleb_any (n : Int) (w : World) (hn : -9223372036854775808 ≤ n ∧ n ≤ 9223372036854775807) :
    Calls Tryd.prog 29 #[.int .i64 n] w fun e w' => ∃ v, e = .returned v ∧ Own w' w.heap.size v (sl n) ∧ Below w.heap.size w w' := by
  have hlen := sl_len10 n hn
  go_enter Tryd.func29, Tryd.ntmps29
  go_wp2
  go_loopw [0, 3] (fun i v wr => ∃ (u : Int) (xs : List Int), i = .int .i64 u ∧ (-9223372036854775808 ≤ u ∧ u ≤ 9223372036854775807) ∧ xs ++ sl u = sl n ∧ Own wr w.heap.size v xs ∧ Below w.heap.size w wr) (fun i _ _ => (intOf i).natAbs)
  case atStart => exact ⟨n, [], rfl, hn, rfl, Own.nil _ _, Below.refl _ _⟩
  case round =>
    obtain ⟨u, xs, rfl, hu, hxs, hown, hbel⟩ := hrel
    have hl2 : xs.length + (sl u).length ≤ 10 := by rw [← List.length_append, hxs]; exact hlen
    have hl3 := sl_len_pos u
    have hb : bits .and .i64 u 127 = u % 128 := i64_and127 u
    by_cases hlt : -64 ≤ u ∧ u ≤ 63
    · have HU : Hid _ := sl_in hlt
      obtain ⟨hlo, hhi⟩ := hlt
      go_wp2_with (first
        | (at_builtin; refine append_byte _ rfl _ _ rfl w.heap.size _ xs rfl hown (u % 128) rfl (by omega) hbel.size ?_; intro v2 w2 hown2 hbel2))
      go_ret
      exact ⟨_, rfl, by rw [← hxs, HU.out]; exact hown2, hbel.trans hbel2⟩
    · have HU : Hid _ := sl_out hlt
      have HM : Hid (¬ (-64 ≤ u ∧ u ≤ 63)) := hlt
      clear hlt
      by_cases hlo : u < -64
      · go_wp2_with (first
          | (at_builtin; refine append_byte _ rfl _ _ rfl w.heap.size _ xs rfl hown (u % 128 + 128) rfl (by omega) hbel.size ?_; intro v2 w2 hown2 hbel2))
        go_roundw
        case rel => exact ⟨u / 128, xs ++ [u % 128 + 128], rfl, by omega, by rw [← hxs, HU.out]; simp, hown2, hbel.trans hbel2⟩
        case measure => have := HM.out; simp [intOf]; omega
      · have hhi : 63 < u := by have := HM.out; omega
        go_wp2_with (first
          | (at_builtin; refine append_byte _ rfl _ _ rfl w.heap.size _ xs rfl hown (u % 128 + 128) rfl (by omega) hbel.size ?_; intro v2 w2 hown2 hbel2))
        go_roundw
        case rel => exact ⟨u / 128, xs ++ [u % 128 + 128], rfl, by omega, by rw [← hxs, HU.out]; simp, hown2, hbel.trans hbel2⟩
        case measure => have := HM.out; simp [intOf]; omega

theorem i64_bounds {a : Int} (h : (Lit.int .i64 a).wf = true) : -9223372036854775808 ≤ a ∧ a ≤ 9223372036854775807 := by
  simpa [Lit.wf, IntKind.min, IntKind.max, IntKind.signed, IntKind.bits] using h
theorem u8_bounds {a : Int} (h : (Lit.int .u8 a).wf = true) : 0 ≤ a ∧ a < 256 := by
  have : 0 ≤ a ∧ a ≤ 255 := by simpa [Lit.wf, IntKind.min, IntKind.max, IntKind.signed, IntKind.bits] using h
  omega

/-- A slice of bytes that came in: its bytes lie in memory, each is a byte. -/
structure IsRow (w : World) (ao : Option Addr) (len cap : Nat) (bs : Nat → Int) : Prop where
  row : Row w ao len bs
  byte : ∀ i, 0 ≤ bs i ∧ bs i < 256
  fit : len ≤ cap
  top : cap ≤ 9223372036854775807
  nil : ao = none → len = 0 ∧ cap = 0

theorem IsRow.none (w : World) : IsRow w Option.none 0 0 (fun _ => 0) := ⟨.inl rfl, fun _ => by omega, by omega, by omega, fun _ => ⟨rfl, rfl⟩⟩

theorem IsRow.some {w : World} {x : Addr} {len cap : Nat} {zs : List Int} {s : Bool} (hl : len ≤ cap) (hm : cap ≤ maxLen) (hz : zs.length = (if s = true then cap else len))
    (hcell : ∀ i, i < zs.length → w.cell? (x.add i) = Option.some (.int .u8 (zs.getD i 0))) (hwz : ∀ n ∈ zs, (Lit.int .u8 n).wf = true) : IsRow w (Option.some x) len cap (fun i => zs.getD i 0) := by
  have hlen : len ≤ zs.length := by rw [hz]; split <;> omega
  refine ⟨?_, fun i => getD_byte (fun n hn => u8_bounds (hwz n hn)) i, hl, by unfold maxLen at hm; omega, fun e => by cases e⟩
  by_cases h0 : len = 0
  · exact .inl h0
  · right
    obtain ⟨b, off, spot⟩ := x
    have hc := hcell 0 (by omega)
    have hspot : spot = Option.none := by simpa [Addr.add] using World.cell?_spot hc
    subst hspot
    refine ⟨b, off, rfl, fun i hi => ?_⟩
    have h1 := hcell i (by omega)
    have h2 : (⟨b, off, Option.none⟩ : Addr).add i = ⟨b, off + i, Option.none⟩ := by unfold Addr.add; split <;> simp_all
    rw [h2] at h1
    exact h1

/-- ReadUleb of any bytes at any place: what comes, named ahead of the walk. -/
theorem readU_is (ao : Option Addr) (len cap : Nat) (bs : Nat → Int) (t : Int) (hbs : ∀ i, 0 ≤ bs i ∧ bs i < 256) (hl : len ≤ 140737488355328) (ht : t ≤ 9223372036854775807) :
    ∃ x i g : Int, (∀ w, Row w ao len bs → Calls Tryd.prog 59 #[.slice ao len cap, .int .i64 t] w fun e w' => e = .returned (.tuple #[.int .i64 x, .int .i64 i, .int .i64 g]) ∧ Below w.heap.size w w') ∧
      ((x = 0 ∧ i = 0 ∧ g = 20 ∧ Fin len bs t) ∨ (x = 0 ∧ i = 0 ∧ g = 21 ∧ (Long len bs t ∨ ∃ a : Nat, t = a ∧ Num len bs a 10 ∧ ¬ bs (a + 9) ≤ 1)) ∨
        ∃ a c : Nat, t = a ∧ Num len bs a c ∧ (c = 10 → bs (a + 9) ≤ 1) ∧ x = wrap64 (uacc bs a c) ∧ i = a + c ∧ g = 0) := by
  rcases sorts len bs t with h | h | ⟨a, c, rfl, h⟩
  · exact ⟨0, 0, 20, fun w hr => readU_fin ao len cap bs t w hr hl ht h, .inl ⟨rfl, rfl, rfl, h⟩⟩
  · exact ⟨0, 0, 21, fun w hr => readU_lng ao len cap bs t w hr hl h, .inr (.inl ⟨rfl, rfl, rfl, .inl h⟩)⟩
  · by_cases hb : c = 10 ∧ ¬ bs (a + 9) ≤ 1
    · obtain ⟨rfl, hb⟩ := hb
      exact ⟨0, 0, 21, fun w hr => readU_bad ao len cap a bs w hr hbs hl h hb, .inr (.inl ⟨rfl, rfl, rfl, .inr ⟨a, rfl, h, hb⟩⟩)⟩
    · have hb' : c = 10 → bs (a + 9) ≤ 1 := fun e => Classical.byContradiction fun hn => hb ⟨e, hn⟩
      exact ⟨_, _, 0, fun w hr => readU_num ao len cap a c bs w hr hbs hl h hb', .inr (.inr ⟨a, c, rfl, h, hb', rfl, rfl, rfl⟩)⟩

theorem readS_is (ao : Option Addr) (len cap : Nat) (bs : Nat → Int) (t : Int) (hbs : ∀ i, 0 ≤ bs i ∧ bs i < 256) (hl : len ≤ 140737488355328) (ht : t ≤ 9223372036854775807) :
    ∃ x i g : Int, (∀ w, Row w ao len bs → Calls Tryd.prog 58 #[.slice ao len cap, .int .i64 t] w fun e w' => e = .returned (.tuple #[.int .i64 x, .int .i64 i, .int .i64 g]) ∧ Below w.heap.size w w') ∧
      ((x = 0 ∧ i = 0 ∧ g = 20 ∧ Fin len bs t) ∨ (x = 0 ∧ i = 0 ∧ g = 21 ∧ (Long len bs t ∨ ∃ a : Nat, t = a ∧ Num len bs a 10 ∧ ¬ (bs (a + 9) = 0 ∨ bs (a + 9) = 127))) ∨
        ∃ a c : Nat, t = a ∧ Num len bs a c ∧ (c = 10 → bs (a + 9) = 0 ∨ bs (a + 9) = 127) ∧ x = sval bs a c ∧ i = a + c ∧ g = 0) := by
  rcases sorts len bs t with h | h | ⟨a, c, rfl, h⟩
  · exact ⟨0, 0, 20, fun w hr => readS_fin ao len cap bs t w hr hl ht h, .inl ⟨rfl, rfl, rfl, h⟩⟩
  · exact ⟨0, 0, 21, fun w hr => readS_lng ao len cap bs t w hr hl h, .inr (.inl ⟨rfl, rfl, rfl, .inl h⟩)⟩
  · by_cases hb : c = 10 ∧ ¬ (bs (a + 9) = 0 ∨ bs (a + 9) = 127)
    · obtain ⟨rfl, hb⟩ := hb
      exact ⟨0, 0, 21, fun w hr => readS_bad ao len cap a bs w hr hbs hl h hb, .inr (.inl ⟨rfl, rfl, rfl, .inr ⟨a, rfl, h, hb⟩⟩)⟩
    · have hb' : c = 10 → bs (a + 9) = 0 ∨ bs (a + 9) = 127 := fun e => Classical.byContradiction fun hn => hb ⟨e, hn⟩
      exact ⟨_, _, 0, fun w hr => readS_num ao len cap a c bs w hr hbs hl h hb', .inr (.inr ⟨a, c, rfl, h, hb', rfl, rfl, rfl⟩)⟩

/-- A written row: where it lies, in every later world. -/
theorem Own.row {w : World} {base : Nat} {v : Value} {xs : List Int} (h : Own w base v xs) (hne : 1 ≤ xs.length) :
    ∃ g cap, v = .slice (some ⟨g, 0, none⟩) xs.length cap ∧ xs.length ≤ cap ∧ cap ≤ 9223372036854775807 ∧ ∀ W, Below w.heap.size w W → Row W (some ⟨g, 0, none⟩) xs.length (fun i => xs.getD i 0) := by
  obtain ⟨g, cap, hv, _, hg, hc⟩ := h.lies hne
  have hcap : xs.length ≤ cap ∧ cap ≤ maxLen := by
    rcases h.2 with ⟨_, hn⟩ | ⟨g', cap', cur, hv', _, _, h1, h2, _⟩
    · omega
    · rw [hv] at hv'; cases hv'; exact ⟨h1, h2⟩
  refine ⟨g, cap, hv, hcap.1, by have := hcap.2; unfold maxLen at this; omega, fun W hb => .inr ⟨g, 0, rfl, fun i hi => ?_⟩⟩
  rw [Nat.zero_add, hb.cell (p := ⟨g, i, none⟩) hg]
  exact hc i hi

theorem Row.front {w : World} {ao : Option Addr} {len : Nat} {bs : Nat → Int} (h : Row w ao len bs) {m : Nat} (hm : m ≤ len) : Row w ao m bs := by
  rcases h with h | ⟨b, off, e, h⟩
  · exact .inl (by omega)
  · exact .inr ⟨b, off, e, fun i hi => h i (by omega)⟩

theorem uleb_row (n : Int) (w : World) (L : Nat) (hL : (ul (n % 18446744073709551616).toNat).length = L) :
    Calls Tryd.prog 55 #[.int .i64 n] w fun e w' => ∃ g cap, e = .returned (.slice (some ⟨g, 0, none⟩) L cap) ∧ L ≤ cap ∧ cap ≤ 9223372036854775807 ∧ (∀ W, Below w'.heap.size w' W → Row W (some ⟨g, 0, none⟩) L (fun i => (ul (n % 18446744073709551616).toNat).getD i 0)) ∧ Below w.heap.size w w' := by
  refine (uleb_any n w).mono ?_
  rintro e w' ⟨v, rfl, hown, hb⟩
  obtain ⟨g, cap, rfl, h1, h2, F⟩ := hown.row (ul_len_pos _)
  rw [hL] at h1 F
  exact ⟨g, cap, by rw [hL], h1, h2, F, hb⟩

theorem sleb_row (n : Int) (w : World) (hn : -9223372036854775808 ≤ n ∧ n ≤ 9223372036854775807) (L : Nat) (hL : (sl n).length = L) :
    Calls Tryd.prog 54 #[.int .i64 n] w fun e w' => ∃ g cap, e = .returned (.slice (some ⟨g, 0, none⟩) L cap) ∧ L ≤ cap ∧ cap ≤ 9223372036854775807 ∧ (∀ W, Below w'.heap.size w' W → Row W (some ⟨g, 0, none⟩) L (fun i => (sl n).getD i 0)) ∧ Below w.heap.size w w' := by
  refine (sleb_any n w hn).mono ?_
  rintro e w' ⟨v, rfl, hown, hb⟩
  obtain ⟨g, cap, rfl, h1, h2, F⟩ := hown.row (sl_len_pos _)
  rw [hL] at h1 F
  exact ⟨g, cap, by rw [hL], h1, h2, F, hb⟩

theorem fixed_u64 (b off len cap a s : Nat) (bs : Nat → Int) (w : World) (hl : len ≤ 140737488355328)
    (hcell : ∀ i, i < len → w.cell? ⟨b, off + i, none⟩ = some (.int .u8 (bs i))) (hbs : ∀ i, 0 ≤ bs i ∧ bs i < 256) (hs : 1 ≤ s) (hs8 : s ≤ 8) (hin : a + s ≤ len) :
    Calls Tryd.prog 76 #[.agg #[.slice (some ⟨b, off, none⟩) len cap, .int .i64 a], .int .i64 s] w fun e w' => e = .returned (.int .u64 (bacc bs a s)) ∧ Below w.heap.size w w' := by
  have HC : Hid (∀ i, i < len → w.cell? ⟨b, off + i, none⟩ = some (.int .u8 (bs i))) := hcell
  have hbw : b < w.heap.size := cell_lt (hcell 0 (by omega))
  have HB : Hid (∀ i, 0 ≤ bs i ∧ bs i < 256) := hbs
  clear hcell hbs
  go_enter Tryd.func76, Tryd.ntmps76
  go_wp2
  go_loop [5, 8] (fun n i => ∃ k : Nat, k ≤ s ∧ i = .int .i64 k ∧ n = .int .u64 (bacc bs a k % 18446744073709551616)) (fun _ i => 10 - (intOf i).toNat)
  case atStart => exact ⟨0, by omega, rfl, by first | rfl | (simp only [bacc]; unfold wrap64; rfl)⟩
  case round =>
    obtain ⟨k, hk, rfl, rfl⟩ := hrel
    by_cases hlt : k < s
    · have hcx := HC.out (a + k) (by omega)
      go_wp2
      go_round
      case rel => exact ⟨k + 1, by omega, by go_num, by rw [bacc_step_u64 bs HB.out a k (by omega)]⟩
      case measure => simp [intOf]; omega
    · obtain rfl : k = s := by omega
      go_wp2_with (go_at_call 90; refine (low_u64 _ _ _ (by omega) (by omega)).mono ?_; rintro e w' ⟨rfl, rfl⟩)
      go_ret
      exact ⟨ret_int (bfin_u64 bs HB.out a k hs8), (Below.refl _ _).alloc (Nat.le_refl _) _⟩
theorem fixed_i64 (b off len cap a s : Nat) (bs : Nat → Int) (w : World) (hl : len ≤ 140737488355328)
    (hcell : ∀ i, i < len → w.cell? ⟨b, off + i, none⟩ = some (.int .u8 (bs i))) (hbs : ∀ i, 0 ≤ bs i ∧ bs i < 256) (hs : 1 ≤ s) (hs8 : s ≤ 8) (hin : a + s ≤ len) :
    Calls Tryd.prog 75 #[.agg #[.slice (some ⟨b, off, none⟩) len cap, .int .i64 a], .int .i64 s] w fun e w' => e = .returned (.int .i64 (sx (8 * s) (bacc bs a s))) ∧ Below w.heap.size w w' := by
  have HC : Hid (∀ i, i < len → w.cell? ⟨b, off + i, none⟩ = some (.int .u8 (bs i))) := hcell
  have hbw : b < w.heap.size := cell_lt (hcell 0 (by omega))
  have HB : Hid (∀ i, 0 ≤ bs i ∧ bs i < 256) := hbs
  clear hcell hbs
  go_enter Tryd.func75, Tryd.ntmps75
  go_wp2
  go_loop [5, 8] (fun n i => ∃ k : Nat, k ≤ s ∧ i = .int .i64 k ∧ n = .int .i64 (wrap64 (bacc bs a k))) (fun _ i => 10 - (intOf i).toNat)
  case atStart => exact ⟨0, by omega, rfl, by first | rfl | (simp only [bacc]; unfold wrap64; rfl)⟩
  case round =>
    obtain ⟨k, hk, rfl, rfl⟩ := hrel
    by_cases hlt : k < s
    · have hcx := HC.out (a + k) (by omega)
      go_wp2
      go_round
      case rel => exact ⟨k + 1, by omega, by go_num, by rw [bacc_step_i64 bs HB.out a k (by omega)]⟩
      case measure => simp [intOf]; omega
    · obtain rfl : k = s := by omega
      go_wp2_with (go_at_call 89; refine (low_i64 _ _ _ (by omega) (by omega)).mono ?_; rintro e w' ⟨rfl, rfl⟩)
      go_ret
      exact ⟨ret_int (bfin_i64 bs HB.out a k hs8), (Below.refl _ _).alloc (Nat.le_refl _) _⟩

theorem get_arg (ao : Option Addr) (len cap : Nat) (t s : Int) (sg : Bool) (w : World) (h : ¬ (s = 1 ∨ s = 2 ∨ s = 4 ∨ s = 8)) :
    Calls Tryd.prog 57 #[.slice ao len cap, .int .i64 t, .int .i64 s, .bool sg] w fun e w' => e = .returned (.tuple #[.int .i64 0, .int .i64 1]) ∧ Below w.heap.size w w' := by
  have H : Hid (¬ (s = 1 ∨ s = 2 ∨ s = 4 ∨ s = 8)) := h
  clear h
  go_enter Tryd.func57, Tryd.ntmps57
  go_wp2_with (go_at_call 68; refine (isSize_no _ _ H.out).mono ?_; rintro e w' ⟨rfl, rfl⟩)
  go_ret2
  exact ⟨rfl, Below.refl _ _⟩

theorem get_end (ao : Option Addr) (len cap : Nat) (t s : Int) (sg : Bool) (w : World) (hl : len ≤ 140737488355328) (ht : t ≤ 9223372036854775807) (hs : s = 1 ∨ s = 2 ∨ s = 4 ∨ s = 8) (h : t < 0 ∨ (len : Int) - t < s) :
    Calls Tryd.prog 57 #[.slice ao len cap, .int .i64 t, .int .i64 s, .bool sg] w fun e w' => e = .returned (.tuple #[.int .i64 0, .int .i64 20]) ∧ Below w.heap.size w w' := by
  have H : Hid (s = 1 ∨ s = 2 ∨ s = 4 ∨ s = 8) := hs
  have hs0 : 1 ≤ s := by omega
  have hs1 : s ≤ 8 := by omega
  clear hs
  by_cases h0 : t < 0
  · clear h
    go_enter Tryd.func57, Tryd.ntmps57
    go_wp2_with (go_at_call 68; refine (isSize_yes _ _ H.out).mono ?_; rintro e w' ⟨rfl, rfl⟩)
    go_ret2
    exact ⟨rfl, Below.refl _ _⟩
  · have h1 : (len : Int) - t < s := by omega
    clear h
    go_enter Tryd.func57, Tryd.ntmps57
    go_wp2_with (go_at_call 68; refine (isSize_yes _ _ H.out).mono ?_; rintro e w' ⟨rfl, rfl⟩)
    go_ret2
    exact ⟨rfl, Below.refl _ _⟩

theorem get_ok (ao : Option Addr) (len cap a s : Nat) (sg : Bool) (bs : Nat → Int) (w : World) (hr : Row w ao len bs) (hbs : ∀ i, 0 ≤ bs i ∧ bs i < 256) (hl : len ≤ 140737488355328) (hs : s = 1 ∨ s = 2 ∨ s = 4 ∨ s = 8) (hin : a + s ≤ len) :
    Calls Tryd.prog 57 #[.slice ao len cap, .int .i64 a, .int .i64 s, .bool sg] w fun e w' => e = .returned (.tuple #[.int .i64 (gval bs a s sg), .int .i64 0]) ∧ Below w.heap.size w w' := by
  rcases hr with hr | ⟨b, off, rfl, hc⟩
  · omega
  · have U := fixed_u64 b off len cap a s bs w hl hc hbs (by omega) (by omega) hin
    have S := fixed_i64 b off len cap a s bs w hl hc hbs (by omega) (by omega) hin
    have H : Hid ((s : Int) = 1 ∨ (s : Int) = 2 ∨ (s : Int) = 4 ∨ (s : Int) = 8) := by show _ ∨ _; omega
    have hs0 : 1 ≤ s := by omega
    have hs1 : s ≤ 8 := by omega
    clear hc hbs hs
    cases sg
    · go_enter Tryd.func57, Tryd.ntmps57
      go_wp2_with (first
        | (go_at_call 68; refine (isSize_yes _ _ H.out).mono ?_; rintro e w' ⟨rfl, rfl⟩)
        | (go_at_call 76; refine U.mono ?_; rintro e w1 ⟨rfl, hb⟩))
      go_ret2
      exact ⟨rfl, hb⟩
    · go_enter Tryd.func57, Tryd.ntmps57
      go_wp2_with (first
        | (go_at_call 68; refine (isSize_yes _ _ H.out).mono ?_; rintro e w' ⟨rfl, rfl⟩)
        | (go_at_call 75; refine S.mono ?_; rintro e w1 ⟨rfl, hb⟩))
      go_ret2
      exact ⟨rfl, hb⟩

/-- The first m bytes, as a list. -/
def lst (bs : Nat → Int) (m : Nat) : List Int := (List.range m).map bs

theorem lst_len (bs : Nat → Int) (m : Nat) : (lst bs m).length = m := by simp [lst]
theorem lst_at (bs : Nat → Int) (m i : Nat) (h : i < m) : (lst bs m).getD i 0 = bs i := by simp [lst, h]
theorem lst_at? (bs : Nat → Int) (m i : Nat) (h : i < m) : (lst bs m)[i]? = some (bs i) := by simp [lst, h]

theorem addr_add (b off i : Nat) : (⟨b, off, none⟩ : Addr).add i = ⟨b, off + i, none⟩ := by unfold Addr.add; split <;> simp_all

theorem append_row {ops : Array Oper} {rest : List Oper} {o : Oper} {a : Act} {Q : Exit → Act → World → Prop} (w : World) (hgd : o.guard = none) (s x : Operand)
    (ho : o.op = .call { callee := .builtin .append, args := #[s, x], argTypes := #[24, 24] })
    (base g0 n0 cap0 : Nat) (xs : List Int) (hs : a.eval s = .slice (some ⟨g0, 0, none⟩) n0 cap0) (hown : Own w base (.slice (some ⟨g0, 0, none⟩) n0 cap0) xs)
    (ao : Option Addr) (m c : Nat) (bs : Nat → Int) (hx : a.eval x = .slice ao m c) (hr : Row w ao m bs) (hnil : ao = none → m = 0 ∧ c = 0)
    (k : Nat) (hk : k = n0 + m) (hn : xs.length + m ≤ 140737488355328) (hbase : base ≤ w.heap.size)
    (h : ∀ g cap w', Own w' base (.slice (some ⟨g, 0, none⟩) k cap) (xs ++ lst bs m) → k ≤ cap → cap ≤ 9223372036854775807 → Below base w w' → wpList Tryd.prog ops Q rest (a.put o.dst (.slice (some ⟨g, 0, none⟩) k cap)) w') :
    wpList Tryd.prog ops Q (o :: rest) a w := by
  obtain ⟨i0, hi, hz0, hz1, hz2⟩ := info_parts info5
  have hn0 : n0 = xs.length ∧ n0 ≤ cap0 ∧ cap0 ≤ maxLen := by
    rcases hown.2 with ⟨hv, _⟩ | ⟨g, cap, cur, hv, _, _, h1, h2, _⟩
    · cases hv
    · cases hv; exact ⟨rfl, h1, h2⟩
  cases ao with
  | none =>
    obtain ⟨rfl, rfl⟩ := hnil rfl
    refine wpList_append_own_none hgd s x 24 ho base 5 i0 1 Tryd.underlying24 hi _ _ _ hs hown hx ?_
    have := hn0.2.2
    unfold maxLen at this
    have hk' : k = n0 := by omega
    subst hk'
    exact h g0 cap0 w (by simpa [lst] using hown) (by omega) (by omega) (Below.refl _ _)
  | some ad =>
    refine wpList_append_own _ hgd s x 24 ho base 5 i0 (.int .u8 0) 1 1 Tryd.underlying24 hi hz0 hz1 hz2 rfl (by decide) _ xs.length _ hs hown ad m c ((lst bs m).map (Value.int .u8)) hx (by simp [lst]) ?_ ?_ (by unfold maxLen; omega) (by omega) hbase ?_
    · intro j u hj
      by_cases hjm : j < m
      · rcases hr with hr | ⟨b, off, e, hc⟩
        · omega
        · cases e
          rw [addr_add, hc j hjm]
          simp [lst_at? bs m j hjm] at hj
          rw [hj]
      · simp [lst, hjm] at hj
    · intro u hu
      simp at hu
      obtain ⟨z, _, rfl⟩ := hu
      rfl
    · intro v' w' hown' hgrow hnn
      have hown2 : Own w' base v' (xs ++ lst bs m) := by
        unfold Own
        simpa [lst_len] using hown'
      rcases hown2.2 with ⟨hv, _⟩ | ⟨g, cap, cur, hv, hb, hg, h1, h2, _⟩
      · have := hnn.1 hv; simp at this
      · rw [List.length_append, lst_len] at hv h1
        have hk' : xs.length + m = k := by omega
        rw [hk'] at hv h1
        unfold maxLen at h2
        subst hv
        exact h g cap w' hown2 h1 (by omega) ((Below.refl base w).grown hgrow hbase hown.block)

theorem Own.empty (w : World) (base : Nat) (hb : base ≤ w.heap.size) : Own (w.alloc (.cells #[] 5)) base (.slice (some ⟨w.heap.size, 0, none⟩) 0 0) [] := by
  refine ⟨rfl, .inr ⟨w.heap.size, 0, #[], rfl, hb, ?_, Nat.le_refl _, by unfold maxLen; omega, rfl, rfl⟩⟩
  show (w.heap.push _)[w.heap.size]? = _
  simp

/-- A row, turned into a string. -/
theorem conv_row (w : World) (ao : Option Addr) (m c : Nat) (bs : Nat → Int) (hr : Row w ao m bs) (hnil : ao = none → m = 0) :
    Sem.run Tryd.prog (convert 24 9 (.slice ao m c)) w = .ok (.string (strOfNums (lst bs m))) w := by
  cases ao with
  | none =>
    obtain rfl := hnil rfl
    exact run_convert_bytes_nil (P := Tryd.prog) w 24 5 Tryd.underlying24 Tryd.underlying5 0 c 9 Tryd.underlying9
  | some ad =>
    by_cases h0 : m = 0
    · subst h0
      rw [run_convert_bytes_string w _ 9 5 _ 0 c Tryd.underlying24 Tryd.underlying5 Tryd.underlying9,
        run_bytesToString w ad 0 c [] (run_loadCells_list (P := Tryd.prog) w ad [] (by intro j v hj; simp at hj))]
      rfl
    · rcases hr with hr | ⟨b, off, e, hc⟩
      · exact absurd hr h0
      · cases e
        exact run_convert_bytes_arg (P := Tryd.prog) w 24 5 Tryd.underlying24 Tryd.underlying5 b off m c (lst bs m) (lst_len bs m) (fun i hi => by rw [hc i hi, lst_at bs m i hi]) 9 Tryd.underlying9

/-- Lent bytes: as they were, and the two marks behind them. -/
def LentRow (w : World) (g len : Nat) (bs : Nat → Int) : Prop :=
  (∀ i, i < len → w.cell? ⟨g, i, none⟩ = some (.int .u8 (bs i))) ∧ w.cell? ⟨g, len, none⟩ = some (.int .u8 201) ∧ w.cell? ⟨g, len + 1, none⟩ = some (.int .u8 202)

theorem LentRow.row {w : World} {g len : Nat} {bs : Nat → Int} (h : LentRow w g len bs) : Row w (some ⟨g, 0, none⟩) len bs :=
  .inr ⟨g, 0, rfl, fun i hi => by rw [Nat.zero_add]; exact h.1 i hi⟩

/-- The two marks. -/
def marks (i : Nat) : Int := if i = 0 then 201 else 202

theorem marks_row (w : World) : Row (w.alloc (.cells #[.int .u8 201, .int .u8 202] 5)) (some ⟨w.heap.size, 0, none⟩) 2 marks := by
  refine .inr ⟨w.heap.size, 0, rfl, fun i hi => ?_⟩
  have : i = 0 ∨ i = 1 := by omega
  rcases this with rfl | rfl <;> simp [marks]

theorem lent_of {w : World} {base g len cap : Nat} {bs : Nat → Int} (h : Own w base (.slice (some ⟨g, 0, none⟩) (len + 2) cap) (lst bs len ++ lst marks 2)) :
    ∀ W, Below w.heap.size w W → LentRow W g len bs := by
  obtain ⟨g', cap', hv, _, hg, hc⟩ := h.lies (by simp [lst])
  obtain rfl : g = g' := by
    simp only [Value.slice.injEq, Option.some.injEq, Addr.mk.injEq] at hv
    exact hv.1.1
  have hlen : (lst bs len ++ lst marks 2).length = len + 2 := by simp [lst]
  rw [hlen] at hc
  intro W hb
  have hcell : ∀ i, i < len + 2 → W.cell? ⟨g, i, none⟩ = some (.int .u8 ((lst bs len ++ lst marks 2).getD i 0)) := by
    intro i hi
    rw [hb.cell (p := ⟨g, i, none⟩) hg]; exact hc i hi
  refine ⟨fun i hi => ?_, ?_, ?_⟩
  · rw [hcell i (by omega)]
    congr 2
    rw [List.getD_eq_getElem?_getD, List.getElem?_append_left (by rw [lst_len]; exact hi), lst_at? bs len i hi]; rfl
  · rw [hcell len (by omega)]
    congr 2
    rw [List.getD_eq_getElem?_getD, List.getElem?_append_right (by rw [lst_len]; omega), lst_len, Nat.sub_self]; rfl
  · rw [hcell (len + 1) (by omega)]
    congr 2
    rw [List.getD_eq_getElem?_getD, List.getElem?_append_right (by rw [lst_len]; omega), lst_len, show len + 1 - len = 1 from by omega]; rfl

end Go.Proofs.YtomboebfbipaaaaDoor
