/- The walk of the law on readings of any bytes. -/
import Derived.Test.YtlecnehahmdlaaaText
import Derived.Test.YtlecnehahmdlaaaRefReads
namespace Go.Proofs.Ytlecnehahmdlaaa
open Go.ChangeShapes Go.WideShapes Go.ChangeAt Go.RowKit
set_option linter.unusedVariables false

/-- Both readings of any bytes at any place. -/
theorem bothU (len : Nat) (bs : Nat → Int) (t : Int) (hbs : ∀ i, 0 ≤ bs i ∧ bs i < 256) (hl : len ≤ 140737488355328) (ht : t ≤ 9223372036854775807) :
    ∃ x i g : Int, (∀ ao cap w, Row w ao len bs → Calls Try.prog 21 #[.slice ao len cap, .int .i64 t] w fun e w' => e = .returned (.tuple #[.int .i64 x, .int .i64 i, .int .i64 g]) ∧ Below w.heap.size w w') ∧
      (∀ ao cap w, Row w ao len bs → Calls Try.prog 24 #[.slice ao len cap, .int .i64 t] w fun e w' => e = .returned (.tuple #[.int .i64 x, .int .i64 i, .int .i64 g]) ∧ w' = w) := by
  rcases sorts len bs t with h | h | ⟨a, c, rfl, h⟩
  · exact ⟨0, 0, 20, fun ao cap w hr => readU_fin ao len cap bs t w hr hl ht h, fun ao cap w hr => rreadU_fin ao len cap bs t w hr hl h⟩
  · exact ⟨0, 0, 21, fun ao cap w hr => readU_lng ao len cap bs t w hr hl h, fun ao cap w hr => rreadU_lng ao len cap bs t w hr hl h⟩
  · by_cases hb : c = 10 ∧ ¬ (bs (a + 9) ≤ 1)
    · obtain ⟨rfl, hb⟩ := hb
      exact ⟨0, 0, 21, fun ao cap w hr => readU_bad ao len cap a bs w hr hbs hl h hb, fun ao cap w hr => rreadU_bad ao len cap a bs w hr hl h hb⟩
    · have hb' : c = 10 → bs (a + 9) ≤ 1 := fun e => Classical.byContradiction fun hn => hb ⟨e, hn⟩
      refine ⟨_, _, 0, fun ao cap w hr => readU_num ao len cap a c bs w hr hbs hl h hb', fun ao cap w hr => ?_⟩
      rcases hr with hr | ⟨b, off, rfl, hc⟩
      · have := h.2.2.1; have := h.1; omega
      · exact rreadU_num b off len cap a c bs w hl hc hbs h hb'
/-- Both readings of any bytes at any place. -/
theorem bothS (len : Nat) (bs : Nat → Int) (t : Int) (hbs : ∀ i, 0 ≤ bs i ∧ bs i < 256) (hl : len ≤ 140737488355328) (ht : t ≤ 9223372036854775807) :
    ∃ x i g : Int, (∀ ao cap w, Row w ao len bs → Calls Try.prog 22 #[.slice ao len cap, .int .i64 t] w fun e w' => e = .returned (.tuple #[.int .i64 x, .int .i64 i, .int .i64 g]) ∧ Below w.heap.size w w') ∧
      (∀ ao cap w, Row w ao len bs → Calls Try.prog 25 #[.slice ao len cap, .int .i64 t] w fun e w' => e = .returned (.tuple #[.int .i64 x, .int .i64 i, .int .i64 g]) ∧ w' = w) := by
  rcases sorts len bs t with h | h | ⟨a, c, rfl, h⟩
  · exact ⟨0, 0, 20, fun ao cap w hr => readS_fin ao len cap bs t w hr hl ht h, fun ao cap w hr => rreadS_fin ao len cap bs t w hr hl h⟩
  · exact ⟨0, 0, 21, fun ao cap w hr => readS_lng ao len cap bs t w hr hl h, fun ao cap w hr => rreadS_lng ao len cap bs t w hr hl h⟩
  · by_cases hb : c = 10 ∧ ¬ (bs (a + 9) = 0 ∨ bs (a + 9) = 127)
    · obtain ⟨rfl, hb⟩ := hb
      exact ⟨0, 0, 21, fun ao cap w hr => readS_bad ao len cap a bs w hr hbs hl h hb, fun ao cap w hr => rreadS_bad ao len cap a bs w hr hl h hb⟩
    · have hb' : c = 10 → bs (a + 9) = 0 ∨ bs (a + 9) = 127 := fun e => Classical.byContradiction fun hn => hb ⟨e, hn⟩
      refine ⟨_, _, 0, fun ao cap w hr => readS_num ao len cap a c bs w hr hbs hl h hb', fun ao cap w hr => ?_⟩
      rcases hr with hr | ⟨b, off, rfl, hc⟩
      · have := h.2.2.1; have := h.1; omega
      · exact rreadS_num b off len cap a c bs w hl hc hbs h hb'

set_option maxHeartbeats 1600000 in
theorem lebReads_walk (ao : Option Addr) (len cap : Nat) (bs : Nat → Int) (t : Int) (w : World) (hr : IsRow w ao len cap bs) (hl : len ≤ 140737488351232) (ht : (Lit.int .i64 t).wf = true) :
    Calls Try.prog 5 #[.slice ao len cap, .int .i64 t] w fun e w' => e = .returned (.bool true) ∧ Below w.heap.size w w' := by
  have bt := i64_bounds ht
  obtain ⟨x, i, g, UL, UR⟩ := bothU len bs t hr.byte (by omega) bt.2
  obtain ⟨y, k, f, SL, SR⟩ := bothS len bs t hr.byte (by omega) bt.2
  obtain ⟨s, m, q, TL, TR⟩ := text_is len bs t hr.byte hl
  have LE := lent_any ao len cap bs w hr.row hr.nil hl
  have HR := hr.row
  have HF := hr.fit
  have hcp := hr.top
  have HN : Hid (ao = none → len = 0) := fun h => (hr.nil h).1
  clear ht bt hr
  go_enter Try.func5, Try.ntmps5
  go_wp2_with (first
    | (go_at_call 9; refine LE.mono ?_; rintro e w1 ⟨g1, cap1, rfl, p1, q1, F1, hb1⟩)
    | (go_at_call 21; refine (UL _ _ _ (F1 _ (Below.refl _ _)).row).mono ?_; rintro e w2 ⟨rfl, hb2⟩)
    | (go_at_call 22; refine (SL _ _ _ (F1 _ hb2).row).mono ?_; rintro e w3 ⟨rfl, hb3⟩; have d3 := hb2.trans (hb3.mono hb2.size); have c3 := hb1.trans (d3.mono hb1.size))
    | (go_at_call 23; refine (TL _ _ _ (F1 _ d3) p1 q1).mono ?_; rintro e w4 ⟨rfl, hw4⟩; subst hw4)
    | (go_at_call 24; refine (UR _ _ _ (HR.below c3 (Nat.le_refl _))).mono ?_; rintro e w5 ⟨rfl, hw5⟩; subst hw5)
    | (go_at_call 25; refine (SR _ _ _ (HR.below c3 (Nat.le_refl _))).mono ?_; rintro e w6 ⟨rfl, hw6⟩; subst hw6)
    | (go_at_call 26; refine (TR _ _ _ (HR.below c3 (Nat.le_refl _)) HF hcp).mono ?_; rintro e w7 ⟨rfl, hw7⟩; subst hw7)
    | (go_at_call 14; refine (num_any _ _).mono ?_; rintro e' w' ⟨rfl, hw'⟩; subst hw')
    | (go_at_call 15; refine (stays_any _ _ _ _ _ bs _ (F1 _ d3) (HR.below c3 (Nat.le_refl _)) HN.out hl p1 q1).mono ?_; rintro e w8 ⟨rfl, hb8⟩; have c8 := c3.trans (hb8.mono c3.size))
    | (go_at_call 16; refine (knows_any _).mono ?_; rintro e w9 ⟨rfl, hb9⟩; have c9 := c8.trans (hb9.mono c8.size)))
  go_ret
  exact ⟨rfl, c9⟩
end Go.Proofs.Ytlecnehahmdlaaa
