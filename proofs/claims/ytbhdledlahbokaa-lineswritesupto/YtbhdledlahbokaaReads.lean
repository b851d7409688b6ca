/- The contracts of ReadUleb and ReadSleb over any row of bytes, and of knows. -/
import Derived.Test.YtbhdledlahbokaaGrouped
import Derived.Test.YtbhdledlahbokaaPut
namespace Go.Proofs.Ytbhdledlahbokaa
open Go.ChangeShapes Go.WideShapes Go.ChangeAt Go.RowKit
set_option linter.unusedVariables false

/-- A slice's bytes in memory: it is empty, or they lie one behind the other. -/
def Row (w : World) (ao : Option Addr) (len : Nat) (bs : Nat → Int) : Prop :=
  len = 0 ∨ ∃ b off, ao = some ⟨b, off, none⟩ ∧ ∀ i, i < len → w.cell? ⟨b, off + i, none⟩ = some (.int .u8 (bs i))

theorem Row.below {w w' : World} {ao : Option Addr} {len : Nat} {bs : Nat → Int} (h : Row w ao len bs) {B : Nat} (hb : Below B w w') (hB : w.heap.size ≤ B) : Row w' ao len bs := by
  rcases h with h | ⟨b, off, e, h⟩
  · exact .inl h
  · refine .inr ⟨b, off, e, fun i hi => ?_⟩
    have h1 := h i hi
    rw [hb.cell (p := ⟨b, off + i, none⟩) (Nat.lt_of_lt_of_le (cell_lt h1) hB)]
    exact h1

theorem Row.alloc {w : World} {ao : Option Addr} {len : Nat} {bs : Nat → Int} (h : Row w ao len bs) (o : Obj) : Row (w.alloc o) ao len bs :=
  h.below ((Below.refl _ _).alloc (Nat.le_refl _) o) (Nat.le_refl _)

/-- The bytes end within the number. -/
def Fin (len : Nat) (bs : Nat → Int) (t : Int) : Prop := t < 0 ∨ ∃ a : Nat, t = a ∧ len ≤ a + 10 ∧ ∀ j, a + j < len → 128 ≤ bs (a + j)
/-- Ten bytes with 128, and an eleventh one is there. -/
def Long (len : Nat) (bs : Nat → Int) (t : Int) : Prop := ∃ a : Nat, t = a ∧ a + 11 ≤ len ∧ ∀ j, j < 10 → 128 ≤ bs (a + j)
/-- A number of c bytes. -/
def Num (len : Nat) (bs : Nat → Int) (a c : Nat) : Prop := 1 ≤ c ∧ c ≤ 10 ∧ a + c ≤ len ∧ (∀ j, j + 1 < c → 128 ≤ bs (a + j)) ∧ bs (a + (c - 1)) < 128

theorem run_or (bs : Nat → Int) (a : Nat) : ∀ n, (∀ j, j < n → 128 ≤ bs (a + j)) ∨ ∃ c, 1 ≤ c ∧ c ≤ n ∧ (∀ j, j + 1 < c → 128 ≤ bs (a + j)) ∧ bs (a + (c - 1)) < 128 := by
  intro n
  induction n with
  | zero => exact .inl (by intro j h; omega)
  | succ n ih =>
    rcases ih with h | ⟨c, h1, h2, h3, h4⟩
    · by_cases hn : 128 ≤ bs (a + n)
      · left; intro j hj
        by_cases e : j = n
        · subst e; exact hn
        · exact h j (by omega)
      · exact .inr ⟨n + 1, by omega, by omega, fun j hj => h j (by omega), by simpa using hn⟩
    · exact .inr ⟨c, h1, by omega, h3, h4⟩

theorem sorts (len : Nat) (bs : Nat → Int) (t : Int) : Fin len bs t ∨ Long len bs t ∨ ∃ a c : Nat, t = a ∧ Num len bs a c := by
  by_cases h : t < 0
  · exact .inl (.inl h)
  · obtain ⟨a, rfl⟩ := Int.eq_ofNat_of_zero_le (show 0 ≤ t by omega)
    rcases run_or bs a (min 10 (len - a)) with h1 | ⟨c, h1, h2, h3, h4⟩
    · by_cases hl : a + 11 ≤ len
      · exact .inr (.inl ⟨a, rfl, hl, fun j hj => h1 j (by omega)⟩)
      · exact .inl (.inr ⟨a, rfl, by omega, fun j hj => h1 j (by omega)⟩)
    · exact .inr (.inr ⟨a, c, rfl, h1, by omega, by omega, h3, h4⟩)

theorem rten_u (bs : Nat → Int) (a : Nat) : wrap64 (uacc bs a 10 % 18446744073709551616) = wrap64 (uacc bs a 10) := wrap64_of_mod _
theorem rten_s (bs : Nat → Int) (a : Nat) : wrap64 (uacc bs a 10) = sval bs a 10 := (sx64 _).symm
theorem rconv_u (bs : Nat → Int) (a c : Nat) (hc : c ≤ 9) : wrap64 (uacc bs a c) = wrap64 (uacc bs a c) := rfl
theorem rconv_s (bs : Nat → Int) (a c : Nat) (hc : c ≤ 9) : sx (7 * c) (uacc bs a c) = sval bs a c := by unfold sval; rw [show min (7 * c) 64 = 7 * c from by omega]

theorem ne20 : ((20 : Int) != 0) = true := by decide
theorem ne21 : ((21 : Int) != 0) = true := by decide

theorem groups_fin_u64 (ao : Option Addr) (len cap : Nat) (bs : Nat → Int) (t : Int) (w : World) (hr : Row w ao len bs) (hl : len ≤ 140737488355328) (ht : t ≤ 9223372036854775807) (h : Fin len bs t) :
    Calls Try.prog 77 #[.agg #[.slice ao len cap, .int .i64 t]] w fun e w' => e = .returned (.tuple #[.int .i64 0, .int .i64 20]) ∧ Below w.heap.size w w' := by
  rcases h with h | ⟨a, rfl, h1, h2⟩
  · exact groups_neg_u64 ao len cap t w h
  · by_cases h0 : len = 0
    · subst h0; exact groups_none_u64 ao cap a w (by omega)
    · rcases hr with hr | ⟨b, off, rfl, hc⟩
      · exact absurd hr h0
      · exact groups_end_u64 b off len cap a bs w hl (by omega) (by omega) hc h1 h2

theorem groups_lng_u64 (ao : Option Addr) (len cap : Nat) (bs : Nat → Int) (t : Int) (w : World) (hr : Row w ao len bs) (hl : len ≤ 140737488355328) (h : Long len bs t) :
    Calls Try.prog 77 #[.agg #[.slice ao len cap, .int .i64 t]] w fun e w' => e = .returned (.tuple #[.int .i64 0, .int .i64 21]) ∧ Below w.heap.size w w' := by
  obtain ⟨a, rfl, h1, h2⟩ := h
  rcases hr with hr | ⟨b, off, rfl, hc⟩
  · omega
  · exact groups_long_u64 b off len cap a bs w hl hc h1 h2

theorem readU_err (ao : Option Addr) (len cap : Nat) (t E : Int) (w : World)
    (G : Calls Try.prog 66 #[.agg #[.slice ao len cap, .int .i64 t]] w fun e w' => e = .returned (.tuple #[.int .u64 0, .int .i64 0, .int .i64 E]) ∧ Below w.heap.size w w') :
    Calls Try.prog 48 #[.slice ao len cap, .int .i64 t] w fun e w' => e = .returned (.tuple #[.int .i64 0, .int .i64 0, .int .i64 E]) ∧ Below w.heap.size w w' := by
  go_enter Try.func48, Try.ntmps48
  go_wp2_with (go_at_call 66; refine G.mono ?_; rintro e w1 ⟨rfl, hb1⟩)
  go_ret3
  exact ⟨rfl, hb1⟩

/-- The bytes end within the number: ErrEnd. -/
theorem readU_fin (ao : Option Addr) (len cap : Nat) (bs : Nat → Int) (t : Int) (w : World) (hr : Row w ao len bs) (hl : len ≤ 140737488355328) (ht : t ≤ 9223372036854775807) (h : Fin len bs t) :
    Calls Try.prog 48 #[.slice ao len cap, .int .i64 t] w fun e w' => e = .returned (.tuple #[.int .i64 0, .int .i64 0, .int .i64 20]) ∧ Below w.heap.size w w' :=
  readU_err ao len cap t 20 w (grouped_err_u64 ao len cap t 20 w ne20 (fun o => groups_fin_u64 ao len cap bs t _ (hr.alloc o) hl ht h))

/-- It is too long: ErrLeb. -/
theorem readU_lng (ao : Option Addr) (len cap : Nat) (bs : Nat → Int) (t : Int) (w : World) (hr : Row w ao len bs) (hl : len ≤ 140737488355328) (h : Long len bs t) :
    Calls Try.prog 48 #[.slice ao len cap, .int .i64 t] w fun e w' => e = .returned (.tuple #[.int .i64 0, .int .i64 0, .int .i64 21]) ∧ Below w.heap.size w w' :=
  readU_err ao len cap t 21 w (grouped_err_u64 ao len cap t 21 w ne21 (fun o => groups_lng_u64 ao len cap bs t _ (hr.alloc o) hl h))

/-- Its tenth byte does not fit: ErrLeb. -/
theorem readU_bad (ao : Option Addr) (len cap a : Nat) (bs : Nat → Int) (w : World) (hr : Row w ao len bs) (hbs : ∀ i, 0 ≤ bs i ∧ bs i < 256) (hl : len ≤ 140737488355328) (h : Num len bs a 10) (ht : ¬ (bs (a + 9) ≤ 1)) :
    Calls Try.prog 48 #[.slice ao len cap, .int .i64 a] w fun e w' => e = .returned (.tuple #[.int .i64 0, .int .i64 0, .int .i64 21]) ∧ Below w.heap.size w w' := by
  obtain ⟨h1, h2, h3, h4, h5⟩ := h
  rcases hr with hr | ⟨b, off, rfl, hc⟩
  · omega
  · exact readU_err _ len cap a 21 w (grouped_bad_u64 b off len cap a bs w hl hc hbs h3 h4 h5 ht)

/-- It is read. -/
theorem readU_num (ao : Option Addr) (len cap a c : Nat) (bs : Nat → Int) (w : World) (hr : Row w ao len bs) (hbs : ∀ i, 0 ≤ bs i ∧ bs i < 256) (hl : len ≤ 140737488355328) (h : Num len bs a c) (ht : c = 10 → bs (a + 9) ≤ 1) :
    Calls Try.prog 48 #[.slice ao len cap, .int .i64 a] w fun e w' => e = .returned (.tuple #[.int .i64 (wrap64 (uacc bs a c)), .int .i64 (a + c), .int .i64 0]) ∧ Below w.heap.size w w' := by
  obtain ⟨h1, h2, h3, h4, h5⟩ := h
  rcases hr with hr | ⟨b, off, rfl, hc⟩
  · omega
  · by_cases h10 : c = 10
    · subst h10
      have G := grouped_ten_u64 b off len cap a bs w hl hc hbs h3 h4 h5 (ht rfl)
      clear h1 h2 h3 h4 h5 ht hc hbs
      go_enter Try.func48, Try.ntmps48
      go_wp2_with (go_at_call 66; refine G.mono ?_; rintro e w1 ⟨rfl, hb1⟩)
      go_ret3
      exact ⟨ret_3i (rten_u bs a) rfl rfl, hb1⟩
    · have G := grouped_num_u64 b off len cap a c bs w hl hc hbs h1 (by omega) h3 h4 h5
      have F := rconv_u bs a c (by omega)
      have HF : Hid _ := F
      clear h3 h4 h5 ht hc hbs F
      go_enter Try.func48, Try.ntmps48
      go_wp2_with (go_at_call 66; refine G.mono ?_; rintro e w1 ⟨rfl, hb1⟩)
      go_ret3
      exact ⟨ret_3i (by first | exact HF.out | rfl) rfl rfl, hb1⟩
theorem groups_fin_i64 (ao : Option Addr) (len cap : Nat) (bs : Nat → Int) (t : Int) (w : World) (hr : Row w ao len bs) (hl : len ≤ 140737488355328) (ht : t ≤ 9223372036854775807) (h : Fin len bs t) :
    Calls Try.prog 98 #[.agg #[.slice ao len cap, .int .i64 t]] w fun e w' => e = .returned (.tuple #[.int .i64 0, .int .i64 20]) ∧ Below w.heap.size w w' := by
  rcases h with h | ⟨a, rfl, h1, h2⟩
  · exact groups_neg_i64 ao len cap t w h
  · by_cases h0 : len = 0
    · subst h0; exact groups_none_i64 ao cap a w (by omega)
    · rcases hr with hr | ⟨b, off, rfl, hc⟩
      · exact absurd hr h0
      · exact groups_end_i64 b off len cap a bs w hl (by omega) (by omega) hc h1 h2

theorem groups_lng_i64 (ao : Option Addr) (len cap : Nat) (bs : Nat → Int) (t : Int) (w : World) (hr : Row w ao len bs) (hl : len ≤ 140737488355328) (h : Long len bs t) :
    Calls Try.prog 98 #[.agg #[.slice ao len cap, .int .i64 t]] w fun e w' => e = .returned (.tuple #[.int .i64 0, .int .i64 21]) ∧ Below w.heap.size w w' := by
  obtain ⟨a, rfl, h1, h2⟩ := h
  rcases hr with hr | ⟨b, off, rfl, hc⟩
  · omega
  · exact groups_long_i64 b off len cap a bs w hl hc h1 h2

theorem readS_err (ao : Option Addr) (len cap : Nat) (t E : Int) (w : World)
    (G : Calls Try.prog 96 #[.agg #[.slice ao len cap, .int .i64 t]] w fun e w' => e = .returned (.tuple #[.int .i64 0, .int .i64 0, .int .i64 E]) ∧ Below w.heap.size w w') :
    Calls Try.prog 94 #[.slice ao len cap, .int .i64 t] w fun e w' => e = .returned (.tuple #[.int .i64 0, .int .i64 0, .int .i64 E]) ∧ Below w.heap.size w w' := by
  go_enter Try.func94, Try.ntmps94
  go_wp2_with (go_at_call 96; refine G.mono ?_; rintro e w1 ⟨rfl, hb1⟩)
  go_ret3
  exact ⟨rfl, hb1⟩

/-- The bytes end within the number: ErrEnd. -/
theorem readS_fin (ao : Option Addr) (len cap : Nat) (bs : Nat → Int) (t : Int) (w : World) (hr : Row w ao len bs) (hl : len ≤ 140737488355328) (ht : t ≤ 9223372036854775807) (h : Fin len bs t) :
    Calls Try.prog 94 #[.slice ao len cap, .int .i64 t] w fun e w' => e = .returned (.tuple #[.int .i64 0, .int .i64 0, .int .i64 20]) ∧ Below w.heap.size w w' :=
  readS_err ao len cap t 20 w (grouped_err_i64 ao len cap t 20 w ne20 (fun o => groups_fin_i64 ao len cap bs t _ (hr.alloc o) hl ht h))

/-- It is too long: ErrLeb. -/
theorem readS_lng (ao : Option Addr) (len cap : Nat) (bs : Nat → Int) (t : Int) (w : World) (hr : Row w ao len bs) (hl : len ≤ 140737488355328) (h : Long len bs t) :
    Calls Try.prog 94 #[.slice ao len cap, .int .i64 t] w fun e w' => e = .returned (.tuple #[.int .i64 0, .int .i64 0, .int .i64 21]) ∧ Below w.heap.size w w' :=
  readS_err ao len cap t 21 w (grouped_err_i64 ao len cap t 21 w ne21 (fun o => groups_lng_i64 ao len cap bs t _ (hr.alloc o) hl h))

/-- Its tenth byte does not fit: ErrLeb. -/
theorem readS_bad (ao : Option Addr) (len cap a : Nat) (bs : Nat → Int) (w : World) (hr : Row w ao len bs) (hbs : ∀ i, 0 ≤ bs i ∧ bs i < 256) (hl : len ≤ 140737488355328) (h : Num len bs a 10) (ht : ¬ (bs (a + 9) = 0 ∨ bs (a + 9) = 127)) :
    Calls Try.prog 94 #[.slice ao len cap, .int .i64 a] w fun e w' => e = .returned (.tuple #[.int .i64 0, .int .i64 0, .int .i64 21]) ∧ Below w.heap.size w w' := by
  obtain ⟨h1, h2, h3, h4, h5⟩ := h
  rcases hr with hr | ⟨b, off, rfl, hc⟩
  · omega
  · exact readS_err _ len cap a 21 w (grouped_bad_i64 b off len cap a bs w hl hc hbs h3 h4 h5 ht)

/-- It is read. -/
theorem readS_num (ao : Option Addr) (len cap a c : Nat) (bs : Nat → Int) (w : World) (hr : Row w ao len bs) (hbs : ∀ i, 0 ≤ bs i ∧ bs i < 256) (hl : len ≤ 140737488355328) (h : Num len bs a c) (ht : c = 10 → bs (a + 9) = 0 ∨ bs (a + 9) = 127) :
    Calls Try.prog 94 #[.slice ao len cap, .int .i64 a] w fun e w' => e = .returned (.tuple #[.int .i64 (sval bs a c), .int .i64 (a + c), .int .i64 0]) ∧ Below w.heap.size w w' := by
  obtain ⟨h1, h2, h3, h4, h5⟩ := h
  rcases hr with hr | ⟨b, off, rfl, hc⟩
  · omega
  · by_cases h10 : c = 10
    · subst h10
      have G := grouped_ten_i64 b off len cap a bs w hl hc hbs h3 h4 h5 (ht rfl)
      clear h1 h2 h3 h4 h5 ht hc hbs
      go_enter Try.func94, Try.ntmps94
      go_wp2_with (go_at_call 96; refine G.mono ?_; rintro e w1 ⟨rfl, hb1⟩)
      go_ret3
      exact ⟨ret_3i (rten_s bs a) rfl rfl, hb1⟩
    · have G := grouped_num_i64 b off len cap a c bs w hl hc hbs h1 (by omega) h3 h4 h5
      have F := rconv_s bs a c (by omega)
      have HF : Hid _ := F
      clear h3 h4 h5 ht hc hbs F
      go_enter Try.func94, Try.ntmps94
      go_wp2_with (go_at_call 96; refine G.mono ?_; rintro e w1 ⟨rfl, hb1⟩)
      go_ret3
      exact ⟨ret_3i (by first | exact HF.out | rfl) rfl rfl, hb1⟩
end Go.Proofs.Ytbhdledlahbokaa
