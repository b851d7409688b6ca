/- The contracts of leb's isSize, Fits, lowFirst and Put. -/
import Derived.Test.YtjbepojopfbajaaVBytes
import Derived.Test.YtjbepojopfbajaaVLPlain
import Derived.Outline
import Derived.OwnWalk
namespace Go.Proofs.Ytjbepojopfbajaa
open Go.ChangeShapes Go.WideShapes Go.ChangeAt Go.RowKit
set_option linter.unusedVariables false
set_option linter.unusedSimpArgs false

/-- A fact that the walk does not look into. -/
structure Hid (p : Prop) : Prop where
  out : p
theorem ret_bool {a b : Bool} (h : a = b) : Ending.returned (.bool a) = .returned (.bool b) := by rw [h]
theorem ret_int {k : IntKind} {a b : Int} (h : a = b) : Ending.returned (.int k a) = .returned (.int k b) := by rw [h]

theorem isSize_yes (n : Int) (w : World) (h : n = 1 ∨ n = 2 ∨ n = 4 ∨ n = 8) :
    Calls Try.prog 36 #[.int .i64 n] w fun e w' => e = .returned (.bool true) ∧ w' = w := by
  rcases h with rfl | rfl | rfl | rfl
  all_goals
    go_enter Try.func36, Try.ntmps36
    go_wp2
    go_ret
    exact ⟨rfl, rfl⟩

theorem isSize_no (n : Int) (w : World) (h : ¬ (n = 1 ∨ n = 2 ∨ n = 4 ∨ n = 8)) :
    Calls Try.prog 36 #[.int .i64 n] w fun e w' => e = .returned (.bool false) ∧ w' = w := by
  have h1 : (n == 1) = false := by simp; omega
  have h2 : (n == 2) = false := by simp; omega
  have h4 : (n == 4) = false := by simp; omega
  have h8 : (n == 8) = false := by simp; omega
  clear h
  go_enter Try.func36, Try.ntmps36
  go_wp2
  go_ret
  exact ⟨rfl, rfl⟩


/-- A shift to the right by k leaves 0 or -1 just where the number lies within k bits and a sign. -/
theorem sar_in (n : Int) (k : Nat) : (n / 2 ^ k = 0 ∨ n / 2 ^ k = -1) ↔ (-(2 ^ k) ≤ n ∧ n < 2 ^ k) := by
  have hp := pow_pos_i k
  constructor
  · rintro (h | h)
    · have := Int.emod_add_mul_ediv n (2 ^ k); rw [h] at this
      have a := Int.emod_nonneg n (Int.ne_of_gt hp); have b := Int.emod_lt_of_pos n hp
      omega
    · have := Int.emod_add_mul_ediv n (2 ^ k); rw [h] at this
      have a := Int.emod_nonneg n (Int.ne_of_gt hp); have b := Int.emod_lt_of_pos n hp
      omega
  · rintro ⟨h1, h2⟩
    by_cases h : 0 ≤ n
    · exact .inl (Int.ediv_eq_zero_of_lt h h2)
    · right
      have a := Int.emod_nonneg n (Int.ne_of_gt hp); have b := Int.emod_lt_of_pos n hp
      have e := Int.emod_add_mul_ediv n (2 ^ k)
      have lo : -1 ≤ n / 2 ^ k := by
        apply Int.le_ediv_of_mul_le hp; omega
      have hi : n / 2 ^ k < 0 := Int.ediv_neg_of_neg_of_pos (by omega) hp
      omega

def fitsB (n b : Int) (s : Bool) : Bool :=
  decide (1 ≤ b) && decide (b ≤ 64) && (if s then decide (-(2 ^ (b.toNat - 1)) ≤ n) && decide (n < 2 ^ (b.toNat - 1)) else decide (0 ≤ n) && decide (n < 2 ^ b.toNat))

theorem fits_any (n b : Int) (s : Bool) (w : World) :
    Calls Try.prog 42 #[.int .i64 n, .int .i64 b, .bool s] w fun e w' => e = .returned (.bool (fitsB n b s)) ∧ w' = w := by
  by_cases h0 : 1 ≤ b
  · by_cases h1 : b ≤ 64
    · have S := sar_in n (b.toNat - 1)
      have U := sar_in n b.toNat
      have p1 := pow_pos_i (b.toNat - 1)
      have p2 := pow_pos_i b.toNat
      cases s
      · have F : fitsB n b false = (decide (0 ≤ n) && (n / 2 ^ b.toNat == 0)) := by
          unfold fitsB
          rw [Bool.eq_iff_iff]; simp [h0, h1]
          intro hn
          constructor
          · intro hlt; exact Int.ediv_eq_zero_of_lt hn hlt
          · intro h; exact (U.1 (.inl h)).2
        rw [F]; clear S U p1 p2 F
        go_enter Try.func42, Try.ntmps42
        go_wp2
        all_goals
          go_ret
          exact ⟨ret_bool (by first | (simp [*]; done) | (simp [*]; omega)), rfl⟩
      · have F : fitsB n b true = (n / 2 ^ (b.toNat - 1) == 0 || n / 2 ^ (b.toNat - 1) == -1) := by
          unfold fitsB
          rw [Bool.eq_iff_iff]; simp [h0, h1]
          exact S.symm
        rw [F]; clear S U p1 p2 F
        go_enter Try.func42, Try.ntmps42
        go_wp2
        all_goals
          go_ret
          exact ⟨ret_bool (by first | (simp [*]; done) | (simp [*]; omega)), rfl⟩
    · have F : fitsB n b s = false := by simp [fitsB, h1]
      rw [F]; clear F
      go_enter Try.func42, Try.ntmps42
      go_wp2
      go_ret
      exact ⟨rfl, rfl⟩
  · have F : fitsB n b s = false := by simp [fitsB, h0]
    rw [F]; clear F
    go_enter Try.func42, Try.ntmps42
    go_wp2
    go_ret
    exact ⟨rfl, rfl⟩
/-- m bytes, of which the first k are those of n, the low one first. -/
def part (n : Int) (m k : Nat) : List Value := (List.range m).map fun j => .int .u8 (if j < k then n / 2 ^ (8 * j) % 256 else 0)

theorem part_len (n : Int) (m k : Nat) : (part n m k).length = m := by simp [part]

theorem part_set (n : Int) (m k : Nat) (v : Value) (hv : v = .int .u8 (n / 2 ^ (8 * k) % 256)) : (part n m k).set k v = part n m (k + 1) := by
  subst hv
  apply List.ext_getElem
  · simp [part]
  · intro i h1 h2
    simp only [part, List.getElem_set, List.getElem_map, List.getElem_range]
    by_cases h : k = i
    · subst h; simp
    · rw [if_neg h]
      by_cases h3 : i < k
      · rw [if_pos h3, if_pos (by omega)]
      · rw [if_neg h3, if_neg (by omega)]

theorem part_at (n : Int) (m k : Nat) (h : k < m) : (part n m k)[k]? = some (.int .u8 0) := by
  simp [part, h]

theorem small8 (n : Int) (h0 : 0 ≤ n) (h1 : n < 256) (k : Nat) : n / 2 ^ (8 * k) % 256 = n / 2 ^ (8 * k) := by
  have hp := pow_pos_i (8 * k)
  refine Int.emod_eq_of_lt (Int.ediv_nonneg h0 (Int.le_of_lt hp)) ?_
  have := Int.ediv_le_self (2 ^ (8 * k)) h0
  omega

theorem made_part (n : Int) (m : Nat) : (madeCells (Value.int .u8 0).cells (m * 1)).toList = part n m 0 := by
  apply List.ext_getElem
  · simp [part, madeCells, Value.cells]
  · intro i h1 h2
    simp [part, madeCells, Value.cells, Nat.mod_one]

theorem mod_div_mod (n A C : Int) (hA : A ≠ 0) : n % (A * (256 * C)) / A % 256 = n / A % 256 := by
  have e : n % (A * (256 * C)) = n + A * (256 * (-(C * (n / (A * (256 * C)))))) := by
    have h := Int.emod_add_mul_ediv n (A * (256 * C))
    have h2 : A * (256 * C) * (n / (A * (256 * C))) = -(A * (256 * (-(C * (n / (A * (256 * C))))))) := by
      simp only [Int.mul_assoc, Int.mul_neg, Int.neg_neg]
    rw [h2] at h; omega
  rw [e, Int.add_mul_ediv_left _ _ hA, Int.add_mul_emod_self_left]

theorem part_mod (n : Int) (m k : Nat) (h : k ≤ m) (X : Int) (hX : X = 2 ^ (8 * m)) : part (n % X) m k = part n m k := by
  subst hX
  apply List.ext_getElem
  · simp [part]
  · intro i h1 h2
    simp only [part, List.getElem_map, List.getElem_range]
    by_cases hi : i < k
    · rw [if_pos hi, if_pos hi]
      congr 1
      obtain ⟨d, hd⟩ : ∃ d, m = i + 1 + d := ⟨m - i - 1, by omega⟩
      have e : (2 : Int) ^ (8 * m) = 2 ^ (8 * i) * (256 * 2 ^ (8 * d)) := by
        rw [hd, show 8 * (i + 1 + d) = 8 * i + (8 + 8 * d) from by omega, Int.pow_add, Int.pow_add]; rfl
      rw [e]
      exact mod_div_mod _ _ _ (Int.ne_of_gt (pow_pos_i _))
    · rw [if_neg hi, if_neg hi]

set_option maxRecDepth 100000 in
theorem len64_8 (w : World) :
    Calls Try.prog 64 #[.int .u64 255] w fun e w' => e = .returned (.int .i64 8) ∧ w' = w := by
  go_enter Try.func64, Try.ntmps64
  go_wp2
  go_ret
  exact ⟨ret_int (by kernel_rfl), rfl⟩
set_option maxRecDepth 100000 in
theorem len64_16 (w : World) :
    Calls Try.prog 64 #[.int .u64 65535] w fun e w' => e = .returned (.int .i64 16) ∧ w' = w := by
  go_enter Try.func64, Try.ntmps64
  go_wp2
  go_ret
  exact ⟨ret_int (by kernel_rfl), rfl⟩
set_option maxRecDepth 100000 in
theorem len64_32 (w : World) :
    Calls Try.prog 64 #[.int .u64 4294967295] w fun e w' => e = .returned (.int .i64 32) ∧ w' = w := by
  go_enter Try.func64, Try.ntmps64
  go_wp2
  go_ret
  exact ⟨ret_int (by kernel_rfl), rfl⟩
set_option maxRecDepth 100000 in
theorem len64_64 (w : World) :
    Calls Try.prog 64 #[.int .u64 18446744073709551615] w fun e w' => e = .returned (.int .i64 64) ∧ w' = w := by
  go_enter Try.func64, Try.ntmps64
  go_wp2
  go_ret
  exact ⟨ret_int (by kernel_rfl), rfl⟩

set_option maxRecDepth 100000 in
theorem lowFirst_u8 (n : Int) (w : World) (h0 : 0 ≤ n) (h1 : n < 256) :
    Calls Try.prog 43 #[.int .u8 n] w fun e w' => e = .returned (.slice (some ⟨w.heap.size, 0, none⟩) 1 1) ∧ w'.ownsRow w.heap.size 5 1 (.slice (some ⟨w.heap.size, 0, none⟩) 1 1) 1 (part n 1 1) ∧ Below w.heap.size w w' := by
  obtain ⟨i0, hi, hz0, hz1, hz2⟩ := info_parts info5
  go_enter Try.func43, Try.ntmps43
  go_wp2_with (first
    | (go_at_call 64; refine (len64_8 _).mono ?_; rintro e w' ⟨rfl, rfl⟩)
    | (at_make; refine wpList_make_full w' rfl _ _ 44 rfl w'.heap.size 5 i0 (.int .u8 0) 1 Try.underlying44 hi hz0 hz1 .i64 .i64 1 1 1 rfl rfl rfl rfl (by rw [hz2]; decide) (by decide) (Nat.le_refl _) ?_; intro w1 hown hgrow))
  have hb1 : Below w'.heap.size w' w1 := (Below.refl _ _).grown hgrow (Nat.le_refl _) (fun k e => by cases e)
  have hown : w1.ownsRow w'.heap.size 5 1 (.slice (some ⟨w'.heap.size, 0, none⟩) 1 1) 1 (part n 1 0) := by rw [made_part n 1] at hown; exact hown
  clear hgrow
  go_loopw [13] (fun i wr => ∃ k : Nat, k ≤ 1 ∧ i = .int .i64 k ∧ wr.ownsRow w'.heap.size 5 1 (.slice (some ⟨w'.heap.size, 0, none⟩) 1 1) 1 (part n 1 k) ∧ Below w'.heap.size w' wr) (fun i _ => 1 - (intOf i).toNat)
  case atStart => exact ⟨0, by omega, rfl, hown, hb1⟩
  case round =>
    obtain ⟨k, hk, rfl, hownr, hbr⟩ := hrel
    clear hown hb1
    by_cases hlt : k < 1
    · have hst := hownr.stored k (.int .u8 (n / 2 ^ (8 * k) % 256))
      rw [part_set n 1 k _ rfl] at hst
      have hfz := hownr.frozenAt k
      have hcell := (hownr.cellAt k (by omega)).trans (part_at n 1 k hlt)
      have hb2 := hbr.grown hst.2 hbr.size (fun j e => by cases e; exact Nat.le_refl _)
      have HS := hst.1
      clear hst hownr hbr
      simp only [small8 n h0 h1] at HS hb2
      go_wp2
      go_roundw
      case rel => exact ⟨k + 1, by omega, by go_num, HS, hb2⟩
      case measure => simp [intOf]; omega
    · have e : k = 1 := by omega
      subst e
      go_wp2
      go_ret
      exact ⟨rfl, hownr, hbr⟩
set_option maxRecDepth 100000 in
theorem lowFirst_u16 (n : Int) (w : World) (h0 : 0 ≤ n) (h1 : n < 65536) :
    Calls Try.prog 44 #[.int .u16 n] w fun e w' => e = .returned (.slice (some ⟨w.heap.size, 0, none⟩) 2 2) ∧ w'.ownsRow w.heap.size 5 1 (.slice (some ⟨w.heap.size, 0, none⟩) 2 2) 2 (part n 2 2) ∧ Below w.heap.size w w' := by
  obtain ⟨i0, hi, hz0, hz1, hz2⟩ := info_parts info5
  go_enter Try.func44, Try.ntmps44
  go_wp2_with (first
    | (go_at_call 64; refine (len64_16 _).mono ?_; rintro e w' ⟨rfl, rfl⟩)
    | (at_make; refine wpList_make_full w' rfl _ _ 44 rfl w'.heap.size 5 i0 (.int .u8 0) 1 Try.underlying44 hi hz0 hz1 .i64 .i64 2 2 2 rfl rfl rfl rfl (by rw [hz2]; decide) (by decide) (Nat.le_refl _) ?_; intro w1 hown hgrow))
  have hb1 : Below w'.heap.size w' w1 := (Below.refl _ _).grown hgrow (Nat.le_refl _) (fun k e => by cases e)
  have hown : w1.ownsRow w'.heap.size 5 1 (.slice (some ⟨w'.heap.size, 0, none⟩) 2 2) 2 (part n 2 0) := by rw [made_part n 2] at hown; exact hown
  clear hgrow
  go_loopw [13] (fun i wr => ∃ k : Nat, k ≤ 2 ∧ i = .int .i64 k ∧ wr.ownsRow w'.heap.size 5 1 (.slice (some ⟨w'.heap.size, 0, none⟩) 2 2) 2 (part n 2 k) ∧ Below w'.heap.size w' wr) (fun i _ => 2 - (intOf i).toNat)
  case atStart => exact ⟨0, by omega, rfl, hown, hb1⟩
  case round =>
    obtain ⟨k, hk, rfl, hownr, hbr⟩ := hrel
    clear hown hb1
    by_cases hlt : k < 2
    · have hst := hownr.stored k (.int .u8 (n / 2 ^ (8 * k) % 256))
      rw [part_set n 2 k _ rfl] at hst
      have hfz := hownr.frozenAt k
      have hcell := (hownr.cellAt k (by omega)).trans (part_at n 2 k hlt)
      have hb2 := hbr.grown hst.2 hbr.size (fun j e => by cases e; exact Nat.le_refl _)
      have HS := hst.1
      clear hst hownr hbr
      skip
      go_wp2
      go_roundw
      case rel => exact ⟨k + 1, by omega, by go_num, HS, hb2⟩
      case measure => simp [intOf]; omega
    · have e : k = 2 := by omega
      subst e
      go_wp2
      go_ret
      exact ⟨rfl, hownr, hbr⟩
set_option maxRecDepth 100000 in
theorem lowFirst_u32 (n : Int) (w : World) (h0 : 0 ≤ n) (h1 : n < 4294967296) :
    Calls Try.prog 45 #[.int .u32 n] w fun e w' => e = .returned (.slice (some ⟨w.heap.size, 0, none⟩) 4 4) ∧ w'.ownsRow w.heap.size 5 1 (.slice (some ⟨w.heap.size, 0, none⟩) 4 4) 4 (part n 4 4) ∧ Below w.heap.size w w' := by
  obtain ⟨i0, hi, hz0, hz1, hz2⟩ := info_parts info5
  go_enter Try.func45, Try.ntmps45
  go_wp2_with (first
    | (go_at_call 64; refine (len64_32 _).mono ?_; rintro e w' ⟨rfl, rfl⟩)
    | (at_make; refine wpList_make_full w' rfl _ _ 44 rfl w'.heap.size 5 i0 (.int .u8 0) 1 Try.underlying44 hi hz0 hz1 .i64 .i64 4 4 4 rfl rfl rfl rfl (by rw [hz2]; decide) (by decide) (Nat.le_refl _) ?_; intro w1 hown hgrow))
  have hb1 : Below w'.heap.size w' w1 := (Below.refl _ _).grown hgrow (Nat.le_refl _) (fun k e => by cases e)
  have hown : w1.ownsRow w'.heap.size 5 1 (.slice (some ⟨w'.heap.size, 0, none⟩) 4 4) 4 (part n 4 0) := by rw [made_part n 4] at hown; exact hown
  clear hgrow
  go_loopw [13] (fun i wr => ∃ k : Nat, k ≤ 4 ∧ i = .int .i64 k ∧ wr.ownsRow w'.heap.size 5 1 (.slice (some ⟨w'.heap.size, 0, none⟩) 4 4) 4 (part n 4 k) ∧ Below w'.heap.size w' wr) (fun i _ => 4 - (intOf i).toNat)
  case atStart => exact ⟨0, by omega, rfl, hown, hb1⟩
  case round =>
    obtain ⟨k, hk, rfl, hownr, hbr⟩ := hrel
    clear hown hb1
    by_cases hlt : k < 4
    · have hst := hownr.stored k (.int .u8 (n / 2 ^ (8 * k) % 256))
      rw [part_set n 4 k _ rfl] at hst
      have hfz := hownr.frozenAt k
      have hcell := (hownr.cellAt k (by omega)).trans (part_at n 4 k hlt)
      have hb2 := hbr.grown hst.2 hbr.size (fun j e => by cases e; exact Nat.le_refl _)
      have HS := hst.1
      clear hst hownr hbr
      skip
      go_wp2
      go_roundw
      case rel => exact ⟨k + 1, by omega, by go_num, HS, hb2⟩
      case measure => simp [intOf]; omega
    · have e : k = 4 := by omega
      subst e
      go_wp2
      go_ret
      exact ⟨rfl, hownr, hbr⟩
set_option maxRecDepth 100000 in
theorem lowFirst_u64 (n : Int) (w : World) (h0 : 0 ≤ n) (h1 : n < 18446744073709551616) :
    Calls Try.prog 46 #[.int .u64 n] w fun e w' => e = .returned (.slice (some ⟨w.heap.size, 0, none⟩) 8 8) ∧ w'.ownsRow w.heap.size 5 1 (.slice (some ⟨w.heap.size, 0, none⟩) 8 8) 8 (part n 8 8) ∧ Below w.heap.size w w' := by
  obtain ⟨i0, hi, hz0, hz1, hz2⟩ := info_parts info5
  go_enter Try.func46, Try.ntmps46
  go_wp2_with (first
    | (go_at_call 64; refine (len64_64 _).mono ?_; rintro e w' ⟨rfl, rfl⟩)
    | (at_make; refine wpList_make_full w' rfl _ _ 44 rfl w'.heap.size 5 i0 (.int .u8 0) 1 Try.underlying44 hi hz0 hz1 .i64 .i64 8 8 8 rfl rfl rfl rfl (by rw [hz2]; decide) (by decide) (Nat.le_refl _) ?_; intro w1 hown hgrow))
  have hb1 : Below w'.heap.size w' w1 := (Below.refl _ _).grown hgrow (Nat.le_refl _) (fun k e => by cases e)
  have hown : w1.ownsRow w'.heap.size 5 1 (.slice (some ⟨w'.heap.size, 0, none⟩) 8 8) 8 (part n 8 0) := by rw [made_part n 8] at hown; exact hown
  clear hgrow
  go_loopw [12] (fun i wr => ∃ k : Nat, k ≤ 8 ∧ i = .int .i64 k ∧ wr.ownsRow w'.heap.size 5 1 (.slice (some ⟨w'.heap.size, 0, none⟩) 8 8) 8 (part n 8 k) ∧ Below w'.heap.size w' wr) (fun i _ => 8 - (intOf i).toNat)
  case atStart => exact ⟨0, by omega, rfl, hown, hb1⟩
  case round =>
    obtain ⟨k, hk, rfl, hownr, hbr⟩ := hrel
    clear hown hb1
    by_cases hlt : k < 8
    · have hst := hownr.stored k (.int .u8 (n / 2 ^ (8 * k) % 256))
      rw [part_set n 8 k _ rfl] at hst
      have hfz := hownr.frozenAt k
      have hcell := (hownr.cellAt k (by omega)).trans (part_at n 8 k hlt)
      have hb2 := hbr.grown hst.2 hbr.size (fun j e => by cases e; exact Nat.le_refl _)
      have HS := hst.1
      clear hst hownr hbr
      skip
      go_wp2
      go_roundw
      case rel => exact ⟨k + 1, by omega, by go_num, HS, hb2⟩
      case measure => simp [intOf]; omega
    · have e : k = 8 := by omega
      subst e
      go_wp2
      go_ret
      exact ⟨rfl, hownr, hbr⟩


theorem put_arg (n s : Int) (w : World) (h : ¬ (s = 1 ∨ s = 2 ∨ s = 4 ∨ s = 8)) :
    Calls Try.prog 33 #[.int .i64 n, .int .i64 s] w fun e w' => e = .returned (.tuple #[.slice none 0 0, .int .i64 1]) ∧ w' = w := by
  have H : Hid (¬ (s = 1 ∨ s = 2 ∨ s = 4 ∨ s = 8)) := ⟨h⟩
  clear h
  go_enter Try.func33, Try.ntmps33
  go_wp2_with (go_at_call 36; refine (isSize_no _ _ H.out).mono ?_; rintro e w' ⟨rfl, rfl⟩)
  go_ret2
  exact ⟨rfl, rfl⟩

theorem put_range (n s : Int) (w : World) (h : s = 1 ∨ s = 2 ∨ s = 4 ∨ s = 8) (h1 : fitsB n (8 * s) true = false) (h2 : fitsB n (8 * s) false = false) :
    Calls Try.prog 33 #[.int .i64 n, .int .i64 s] w fun e w' => e = .returned (.tuple #[.slice none 0 0, .int .i64 11]) ∧ w' = w := by
  have H : Hid (s = 1 ∨ s = 2 ∨ s = 4 ∨ s = 8) := ⟨h⟩
  have hs0 : 1 ≤ s := by omega
  have hs1 : s ≤ 8 := by omega
  clear h
  go_enter Try.func33, Try.ntmps33
  go_wp2_with (first
    | (go_at_call 36; refine (isSize_yes _ _ H.out).mono ?_; rintro e w' ⟨rfl, rfl⟩)
    | (go_at_call 42; refine (fits_any _ _ _ _).mono ?_; rintro e w' ⟨rfl, rfl⟩))
  go_ret2
  exact ⟨rfl, rfl⟩

theorem put_1 (n : Int) (w : World) (h : fitsB n 8 true = true ∨ fitsB n 8 false = true) :
    Calls Try.prog 33 #[.int .i64 n, .int .i64 1] w fun e w' => e = .returned (.tuple #[.slice (some ⟨w.heap.size, 0, none⟩) 1 1, .int .i64 0]) ∧ w'.ownsRow w.heap.size 5 1 (.slice (some ⟨w.heap.size, 0, none⟩) 1 1) 1 (part n 1 1) ∧ Below w.heap.size w w' := by
  have R := (lowFirst_u8 (n % 256) w (by omega) (by omega))
  rw [part_mod n 1 1 (Nat.le_refl _) 256 (by decide)] at R
  by_cases h1 : fitsB n 8 true = true
  · clear h
    go_enter Try.func33, Try.ntmps33
    go_wp2_with (first
      | (go_at_call 36; refine (isSize_yes _ _ (by decide)).mono ?_; rintro e w' ⟨rfl, rfl⟩)
      | (go_at_call 42; refine (fits_any _ _ _ _).mono ?_; rintro e w' ⟨rfl, rfl⟩)
      | (go_at_call 43; refine R.mono ?_; rintro e w' ⟨rfl, hown, hbel⟩))
    go_ret2
    exact ⟨rfl, hown, hbel⟩
  · have h2 := h.resolve_left h1
    have h1 : fitsB n 8 true = false := by simpa using h1
    clear h
    go_enter Try.func33, Try.ntmps33
    go_wp2_with (first
      | (go_at_call 36; refine (isSize_yes _ _ (by decide)).mono ?_; rintro e w' ⟨rfl, rfl⟩)
      | (go_at_call 42; refine (fits_any _ _ _ _).mono ?_; rintro e w' ⟨rfl, rfl⟩)
      | (go_at_call 43; refine R.mono ?_; rintro e w' ⟨rfl, hown, hbel⟩))
    go_ret2
    exact ⟨rfl, hown, hbel⟩
theorem put_2 (n : Int) (w : World) (h : fitsB n 16 true = true ∨ fitsB n 16 false = true) :
    Calls Try.prog 33 #[.int .i64 n, .int .i64 2] w fun e w' => e = .returned (.tuple #[.slice (some ⟨w.heap.size, 0, none⟩) 2 2, .int .i64 0]) ∧ w'.ownsRow w.heap.size 5 1 (.slice (some ⟨w.heap.size, 0, none⟩) 2 2) 2 (part n 2 2) ∧ Below w.heap.size w w' := by
  have R := (lowFirst_u16 (n % 65536) w (by omega) (by omega))
  rw [part_mod n 2 2 (Nat.le_refl _) 65536 (by decide)] at R
  by_cases h1 : fitsB n 16 true = true
  · clear h
    go_enter Try.func33, Try.ntmps33
    go_wp2_with (first
      | (go_at_call 36; refine (isSize_yes _ _ (by decide)).mono ?_; rintro e w' ⟨rfl, rfl⟩)
      | (go_at_call 42; refine (fits_any _ _ _ _).mono ?_; rintro e w' ⟨rfl, rfl⟩)
      | (go_at_call 44; refine R.mono ?_; rintro e w' ⟨rfl, hown, hbel⟩))
    go_ret2
    exact ⟨rfl, hown, hbel⟩
  · have h2 := h.resolve_left h1
    have h1 : fitsB n 16 true = false := by simpa using h1
    clear h
    go_enter Try.func33, Try.ntmps33
    go_wp2_with (first
      | (go_at_call 36; refine (isSize_yes _ _ (by decide)).mono ?_; rintro e w' ⟨rfl, rfl⟩)
      | (go_at_call 42; refine (fits_any _ _ _ _).mono ?_; rintro e w' ⟨rfl, rfl⟩)
      | (go_at_call 44; refine R.mono ?_; rintro e w' ⟨rfl, hown, hbel⟩))
    go_ret2
    exact ⟨rfl, hown, hbel⟩
theorem put_4 (n : Int) (w : World) (h : fitsB n 32 true = true ∨ fitsB n 32 false = true) :
    Calls Try.prog 33 #[.int .i64 n, .int .i64 4] w fun e w' => e = .returned (.tuple #[.slice (some ⟨w.heap.size, 0, none⟩) 4 4, .int .i64 0]) ∧ w'.ownsRow w.heap.size 5 1 (.slice (some ⟨w.heap.size, 0, none⟩) 4 4) 4 (part n 4 4) ∧ Below w.heap.size w w' := by
  have R := (lowFirst_u32 (n % 4294967296) w (by omega) (by omega))
  rw [part_mod n 4 4 (Nat.le_refl _) 4294967296 (by decide)] at R
  by_cases h1 : fitsB n 32 true = true
  · clear h
    go_enter Try.func33, Try.ntmps33
    go_wp2_with (first
      | (go_at_call 36; refine (isSize_yes _ _ (by decide)).mono ?_; rintro e w' ⟨rfl, rfl⟩)
      | (go_at_call 42; refine (fits_any _ _ _ _).mono ?_; rintro e w' ⟨rfl, rfl⟩)
      | (go_at_call 45; refine R.mono ?_; rintro e w' ⟨rfl, hown, hbel⟩))
    go_ret2
    exact ⟨rfl, hown, hbel⟩
  · have h2 := h.resolve_left h1
    have h1 : fitsB n 32 true = false := by simpa using h1
    clear h
    go_enter Try.func33, Try.ntmps33
    go_wp2_with (first
      | (go_at_call 36; refine (isSize_yes _ _ (by decide)).mono ?_; rintro e w' ⟨rfl, rfl⟩)
      | (go_at_call 42; refine (fits_any _ _ _ _).mono ?_; rintro e w' ⟨rfl, rfl⟩)
      | (go_at_call 45; refine R.mono ?_; rintro e w' ⟨rfl, hown, hbel⟩))
    go_ret2
    exact ⟨rfl, hown, hbel⟩
theorem put_8 (n : Int) (w : World) (h : fitsB n 64 true = true ∨ fitsB n 64 false = true) :
    Calls Try.prog 33 #[.int .i64 n, .int .i64 8] w fun e w' => e = .returned (.tuple #[.slice (some ⟨w.heap.size, 0, none⟩) 8 8, .int .i64 0]) ∧ w'.ownsRow w.heap.size 5 1 (.slice (some ⟨w.heap.size, 0, none⟩) 8 8) 8 (part n 8 8) ∧ Below w.heap.size w w' := by
  have R := (lowFirst_u64 (n % 18446744073709551616) w (by omega) (by omega))
  rw [part_mod n 8 8 (Nat.le_refl _) 18446744073709551616 (by decide)] at R
  by_cases h1 : fitsB n 64 true = true
  · clear h
    go_enter Try.func33, Try.ntmps33
    go_wp2_with (first
      | (go_at_call 36; refine (isSize_yes _ _ (by decide)).mono ?_; rintro e w' ⟨rfl, rfl⟩)
      | (go_at_call 42; refine (fits_any _ _ _ _).mono ?_; rintro e w' ⟨rfl, rfl⟩)
      | (go_at_call 46; refine R.mono ?_; rintro e w' ⟨rfl, hown, hbel⟩))
    go_ret2
    exact ⟨rfl, hown, hbel⟩
  · have h2 := h.resolve_left h1
    have h1 : fitsB n 64 true = false := by simpa using h1
    clear h
    go_enter Try.func33, Try.ntmps33
    go_wp2_with (first
      | (go_at_call 36; refine (isSize_yes _ _ (by decide)).mono ?_; rintro e w' ⟨rfl, rfl⟩)
      | (go_at_call 42; refine (fits_any _ _ _ _).mono ?_; rintro e w' ⟨rfl, rfl⟩)
      | (go_at_call 46; refine R.mono ?_; rintro e w' ⟨rfl, hown, hbel⟩))
    go_ret2
    exact ⟨rfl, hown, hbel⟩
end Go.Proofs.Ytjbepojopfbajaa
