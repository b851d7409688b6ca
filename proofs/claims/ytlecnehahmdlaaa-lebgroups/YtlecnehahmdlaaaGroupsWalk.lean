/- The walk of the law on numbers that are written in groups. -/
import Derived.Test.YtlecnehahmdlaaaKnows
import Derived.Test.YtlecnehahmdlaaaGroups
import Derived.Deep.RegionWith

namespace Go.Proofs.Ytlecnehahmdlaaa
open Go.ChangeShapes Go.WideShapes Go.ChangeAt Go.RowKit
set_option linter.unusedVariables false

theorem i64_bounds {a : Int} (h : (Lit.int .i64 a).wf = true) : -9223372036854775808 ≤ a ∧ a ≤ 9223372036854775807 := by
  simpa [Lit.wf, IntKind.min, IntKind.max, IntKind.signed, IntKind.bits] using h

/-- A row of the call's own, turned into a string, in every later world. -/
theorem Own.str {w : World} {base : Nat} {v : Value} {xs : List Int} (h : Own w base v xs) (hne : 1 ≤ xs.length) :
    ∃ g cap, v = .slice (some ⟨g, 0, none⟩) xs.length cap ∧ ∀ W, Below w.heap.size w W → Sem.run Try.prog (convert 22 9 (.slice (some ⟨g, 0, none⟩) xs.length cap)) W = .ok (.string (strOfNums xs)) W := by
  obtain ⟨g, cap, hv, _, hg, hc⟩ := h.lies hne
  refine ⟨g, cap, hv, fun W hb => ?_⟩
  exact run_convert_bytes_arg (P := Try.prog) W 22 5 Try.underlying22 Try.underlying5 g 0 xs.length cap xs rfl
    (by intro i hi; rw [Nat.zero_add, hb.cell (p := ⟨g, i, none⟩) hg]; exact hc i hi) 9 Try.underlying9

theorem uleb_str (n : Int) (w : World) :
    Calls Try.prog 17 #[.int .i64 n] w fun e w' => ∃ g cap, e = .returned (.slice (some ⟨g, 0, none⟩) (ul (n % 18446744073709551616).toNat).length cap) ∧ (∀ W, Below w'.heap.size w' W → Sem.run Try.prog (convert 22 9 (.slice (some ⟨g, 0, none⟩) (ul (n % 18446744073709551616).toNat).length cap)) W = .ok (.string (strOfNums (ul (n % 18446744073709551616).toNat))) W) ∧ Below w.heap.size w w' := by
  refine (uleb_any n w).mono ?_
  rintro e w' ⟨v, rfl, hown, hb⟩
  obtain ⟨g, cap, rfl, F⟩ := hown.str (ul_len_pos _)
  exact ⟨g, cap, rfl, F, hb⟩
theorem ruleb_str (n : Int) (w : World) :
    Calls Try.prog 18 #[.int .i64 n] w fun e w' => ∃ g cap, e = .returned (.slice (some ⟨g, 0, none⟩) (ul (n % 18446744073709551616).toNat).length cap) ∧ (∀ W, Below w'.heap.size w' W → Sem.run Try.prog (convert 22 9 (.slice (some ⟨g, 0, none⟩) (ul (n % 18446744073709551616).toNat).length cap)) W = .ok (.string (strOfNums (ul (n % 18446744073709551616).toNat))) W) ∧ Below w.heap.size w w' := by
  refine (ruleb_any n w).mono ?_
  rintro e w' ⟨v, rfl, hown, hb⟩
  obtain ⟨g, cap, rfl, F⟩ := hown.str (ul_len_pos _)
  exact ⟨g, cap, rfl, F, hb⟩
theorem sleb_str (n : Int) (w : World) (hn : -9223372036854775808 ≤ n ∧ n ≤ 9223372036854775807) :
    Calls Try.prog 19 #[.int .i64 n] w fun e w' => ∃ g cap, e = .returned (.slice (some ⟨g, 0, none⟩) (sl n).length cap) ∧ (∀ W, Below w'.heap.size w' W → Sem.run Try.prog (convert 22 9 (.slice (some ⟨g, 0, none⟩) (sl n).length cap)) W = .ok (.string (strOfNums (sl n))) W) ∧ Below w.heap.size w w' := by
  refine (sleb_any n w hn).mono ?_
  rintro e w' ⟨v, rfl, hown, hb⟩
  obtain ⟨g, cap, rfl, F⟩ := hown.str (sl_len_pos _)
  exact ⟨g, cap, rfl, F, hb⟩
theorem rsleb_str (n : Int) (w : World) (hn : -9223372036854775808 ≤ n ∧ n ≤ 9223372036854775807) :
    Calls Try.prog 20 #[.int .i64 n] w fun e w' => ∃ g cap, e = .returned (.slice (some ⟨g, 0, none⟩) (sl n).length cap) ∧ (∀ W, Below w'.heap.size w' W → Sem.run Try.prog (convert 22 9 (.slice (some ⟨g, 0, none⟩) (sl n).length cap)) W = .ok (.string (strOfNums (sl n))) W) ∧ Below w.heap.size w w' := by
  refine (rsleb_any n w hn).mono ?_
  rintro e w' ⟨v, rfl, hown, hb⟩
  obtain ⟨g, cap, rfl, F⟩ := hown.str (sl_len_pos _)
  exact ⟨g, cap, rfl, F, hb⟩

set_option maxHeartbeats 1600000 in
theorem lebGroups_walk (n : Int) (w : World) (hn : (Lit.int .i64 n).wf = true) :
    Calls Try.prog 4 #[.int .i64 n] w fun e w' => e = .returned (.bool true) ∧ Below w.heap.size w w' := by
  have HN : Hid _ := i64_bounds hn
  clear hn
  go_enter Try.func4, Try.ntmps4
  go_wp2
  go_region_with (first
    | (go_at_call 17; refine (uleb_str _ _).mono ?_; rintro e w1 ⟨g1, cap1, rfl, F1, hb1⟩; have k1 := F1 _ (Below.refl _ _))
    | (go_at_call 18; refine (ruleb_str _ _).mono ?_; rintro e w2 ⟨g2, cap2, rfl, F2, hb2⟩; have k2 := F2 _ (Below.refl _ _); have k12 := F1 _ hb2)
    | (go_at_call 19; refine (sleb_str _ _ HN.out).mono ?_; rintro e w3 ⟨g3, cap3, rfl, F3, hb3⟩; have k3 := F3 _ (Below.refl _ _))
    | (go_at_call 20; refine (rsleb_str _ _ HN.out).mono ?_; rintro e w4 ⟨g4, cap4, rfl, F4, hb4⟩; have k4 := F4 _ (Below.refl _ _); have k34 := F3 _ hb4)
    | (go_at_call 16; refine (knows_any _).mono ?_; rintro e w5 ⟨rfl, hb5⟩))
  all_goals go_wp2
  all_goals go_ret
  all_goals
    have b1 : Below w.heap.size w w1 := (Below.refl w.heap.size w).drew.trans hb1
    have b2 := b1.trans (hb2.mono b1.size)
    have b3 := b2.trans (hb3.mono b2.size)
    have b4 := b3.trans (hb4.mono b3.size)
    exact ⟨rfl, b4.trans (hb5.mono b4.size)⟩
end Go.Proofs.Ytlecnehahmdlaaa
