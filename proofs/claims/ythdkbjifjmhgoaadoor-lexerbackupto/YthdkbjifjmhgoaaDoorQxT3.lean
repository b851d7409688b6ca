/- The program's tokens: numbers. -/
import Derived.Test.YthdkbjifjmhgoaaDoorQxU2
import Derived.Test.YthdkbjifjmhgoaaDoorQxN
namespace Go.Proofs.YthdkbjifjmhgoaaDoor
open Go.ChangeShapes Go.WideShapes Go.ChangeAt Go.RowKit
set_option linter.unusedVariables false
set_option linter.unusedSimpArgs false
section
variable {w w1 w2 : World} {rb : Nat} {s : ByteArray} {a : Nat} {ln : Int} {lv : Value}

theorem numberOf_yes (h : RD w rb s a ln lv) (n : Int) (hb : kB 22 (hdZ (Ln s a)) = false) : Calls Tryd.prog 67 #[.pointer (some ⟨rb, 0, none⟩), .int .i64 n] w fun e w' => e = .returned (.tuple #[.agg #[.int .i64 2, .int .i64 0, .int .i64 n, .string ⟨#[]⟩], .bool true]) ∧ RD w' rb s a ln lv ∧ TR rb w w' := by
  have := numberOf_any h n
  rw [hb, if_neg (by simp)] at this
  exact this
theorem numberOf_no (h : RD w rb s a ln lv) (n : Int) (hb : kB 22 (hdZ (Ln s a)) = true) : Calls Tryd.prog 67 #[.pointer (some ⟨rb, 0, none⟩), .int .i64 n] w fun e w' => ∃ (p q r : Int) (t : ByteArray) (a' : Nat), e = .returned (.tuple #[.agg #[.int .i64 p, .int .i64 q, .int .i64 r, .string t], .bool false]) ∧ RD w' rb s a' ln lv ∧ TR rb w w' := by
  have := numberOf_any h n
  rw [hb, if_pos rfl] at this
  exact this
theorem conv_u64 (v : Int) (W : World) : (convert 76 3 (.int .u64 v)).run Tryd.prog W = .ok (.int .i64 (wrap64 v)) W := by
  have : IntKind.i64.wrap v = wrap64 v := by rw [IntKind.wrap_i64]; unfold wrap64; omega
  simp [go_sem, this]

/-- How a number goes on behind its digits: from f to q, to the base B. -/
structure Tail (s : ByteArray) (ln : Int) (lv : Value) (rb f q : Nat) (B : Int) (T : ByteArray) (R : Option Int) (nx : Bool) : Prop where
  since : ∀ W, RD W rb s q ln lv → Calls Tryd.prog 65 #[.pointer (some ⟨rb, 0, none⟩), .int .i64 f] W fun e w' => e = .returned (.string T) ∧ RD w' rb s q ln lv ∧ TR rb W w'
  parse : ∀ W, RD W rb s q ln lv → Calls Tryd.prog 66 #[.string T, .int .i64 B, .int .i64 64] W fun e w' => (match R with | some v => e = .returned (.tuple #[.int .u64 v, .nilIface]) | none => Bad e) ∧ RD w' rb s q ln lv ∧ TR rb W w'
  yes : nx = false → ∀ W n, RD W rb s q ln lv → Calls Tryd.prog 67 #[.pointer (some ⟨rb, 0, none⟩), .int .i64 n] W fun e w' => e = .returned (.tuple #[.agg #[.int .i64 2, .int .i64 0, .int .i64 n, .string ⟨#[]⟩], .bool true]) ∧ RD w' rb s q ln lv ∧ TR rb W w'
  no : nx = true → ∀ W n, RD W rb s q ln lv → Calls Tryd.prog 67 #[.pointer (some ⟨rb, 0, none⟩), .int .i64 n] W fun e w' => ∃ (p q r : Int) (t : ByteArray) (a' : Nat), e = .returned (.tuple #[.agg #[.int .i64 p, .int .i64 q, .int .i64 r, .string t], .bool false]) ∧ RD w' rb s a' ln lv ∧ TR rb W w'

theorem tail_10 (s : ByteArray) (ln : Int) (lv : Value) (rb f n : Nat) (hl : s.size ≤ 8796093022208) (hf : f ≤ s.size) (hn : n ≤ (Ln s f).length) (hd : ∀ c ∈ (Ln s f).take n, isDig c = true) (h1 : 1 ≤ n) : Tail s ln lv rb f (f + n) 10 (St ((Ln s f).take n)) (puF 10 1844674407370955162 18446744073709551615 ((Ln s f).take n) 0) (kB 22 (hdZ ((Ln s f).drop n))) := by
  have htop := Ln_top s n f hn hf
  refine ⟨fun W hW => ?_, fun W hW => ?_, fun hb W m hW => ?_, fun hb W m hW => ?_⟩
  · have := since_t hW f (by omega) htop hl
    rw [Ln_sub hn] at this
    exact this
  · have := pu_10_64 (St ((Ln s f).take n)) (by rw [St_size, List.length_take]; omega) (fun c hc => by rw [lo_St] at hc; obtain ⟨a1, a2, a3⟩ := dig_hex (hd c hc); omega) W hW.er
    rw [lo_St, if_neg (fun e => by have := congrArg List.length e; rw [List.length_take, Nat.min_eq_left hn] at this; simp at this; omega)] at this
    refine this.mono ?_
    rintro e w' ⟨h1, h2⟩
    exact ⟨h1, hW.below h2, Turn.of_below h2 _⟩
  · exact numberOf_yes hW m (by rw [Ln_drop s n f hn]; exact hb)
  · exact numberOf_no hW m (by rw [Ln_drop s n f hn]; exact hb)
theorem tail_16 (s : ByteArray) (ln : Int) (lv : Value) (rb f n : Nat) (hl : s.size ≤ 8796093022208) (hf : f ≤ s.size) (hn : n ≤ (Ln s f).length) (hd : ∀ c ∈ (Ln s f).take n, 0 ≤ hexZ (zOf c)) : Tail s ln lv rb f (f + n) 16 (St ((Ln s f).take n)) (if n = 0 then none else puF 16 1152921504606846976 18446744073709551615 ((Ln s f).take n) 0) (kB 22 (hdZ ((Ln s f).drop n))) := by
  have htop := Ln_top s n f hn hf
  refine ⟨fun W hW => ?_, fun W hW => ?_, fun hb W m hW => ?_, fun hb W m hW => ?_⟩
  · have := since_t hW f (by omega) htop hl
    rw [Ln_sub hn] at this
    exact this
  · have := pu_16_64 (St ((Ln s f).take n)) (by rw [St_size, List.length_take]; omega) (fun c hc => by rw [lo_St] at hc; exact ⟨hd c hc, hex_lt _⟩) W hW.er
    rw [lo_St] at this
    have e : (if (Ln s f).take n = [] then none else puF 16 1152921504606846976 18446744073709551615 ((Ln s f).take n) 0) = (if n = 0 then none else puF 16 1152921504606846976 18446744073709551615 ((Ln s f).take n) 0) := by
      by_cases h0 : n = 0
      · subst h0; rfl
      · rw [if_neg h0, if_neg (fun e => by have := congrArg List.length e; rw [List.length_take, Nat.min_eq_left hn] at this; simp at this; omega)]
    rw [e] at this
    refine this.mono ?_
    rintro e w' ⟨h1, h2⟩
    exact ⟨h1, hW.below h2, Turn.of_below h2 _⟩
  · exact numberOf_yes hW m (by rw [Ln_drop s n f hn]; exact hb)
  · exact numberOf_no hW m (by rw [Ln_drop s n f hn]; exact hb)
end
end Go.Proofs.YthdkbjifjmhgoaaDoor
