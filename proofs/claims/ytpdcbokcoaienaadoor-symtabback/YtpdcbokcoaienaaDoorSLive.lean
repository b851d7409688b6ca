/- The contract of the law's own live. -/
import Derived.Test.YtpdcbokcoaienaaDoorSStr
import Derived.Test.YtpdcbokcoaienaaDoorSHashB
namespace Go.Proofs.YtpdcbokcoaienaaDoor
open Go.ChangeShapes Go.WideShapes Go.ChangeAt Go.RowKit Go.Maps
set_option linter.unusedVariables false
set_option linter.unusedSimpArgs false

theorem num_any (n : Int) (w : World) :
    Calls Tryd.prog 8 #[.int .i64 n] w fun e w' => e = .returned (.int .i64 n) ∧ w' = w := by
  go_enter Tryd.func8, Tryd.ntmps8
  go_wp2
  go_ret
  exact ⟨rfl, rfl⟩

theorem live_str : strM [⟨#[97]⟩, ⟨#[]⟩, ⟨#[98]⟩, ⟨#[97]⟩] = .ok ([0, 97, 0, 98, 0], [1, 0, 3, 1]) := by kernel_rfl
theorem live_hash : hashB ⟨#[112, 114, 105, 110, 116, 102]⟩ = 125371814 := by kernel_rfl
theorem live_gnu : gnuB ⟨#[112, 114, 105, 110, 116, 102]⟩ = 359345080 := by kernel_rfl

theorem OwnI.lies {w : World} {base : Nat} {v : Value} {xs : List Int} (h : OwnI w base v xs) (hne : 1 ≤ xs.length) :
    ∃ g cap, v = .slice (some ⟨g, 0, none⟩) xs.length cap ∧ base ≤ g ∧ g < w.heap.size ∧ ∀ i, i < xs.length → w.cell? ⟨g, i, none⟩ = some (.int .i64 (xs.getD i 0)) := by
  rcases h.2 with ⟨_, hn⟩ | ⟨g, cap, cur, hv, hb, hg, _⟩
  · omega
  · refine ⟨g, cap, hv, hb, ?_, ?_⟩
    · apply Classical.byContradiction
      intro hn
      rw [Array.getElem?_eq_none (by omega)] at hg
      cases hg
    · intro i hi
      subst hv
      have := h.cellAt i (by omega)
      rw [this]
      simp [hi]

theorem live_any (w : World) : Calls Tryd.prog 12 #[] w fun e w' => e = .returned (.bool true) ∧ Below w.heap.size w w' := by
  have B0 : Below w.heap.size w (w.alloc (.cells #[.string ⟨#[97]⟩, .string ⟨#[]⟩, .string ⟨#[98]⟩, .string ⟨#[97]⟩] 9)) := (Below.refl _ _).alloc (Nat.le_refl _) _
  have S0 : Strs (w.alloc (.cells #[.string ⟨#[97]⟩, .string ⟨#[]⟩, .string ⟨#[98]⟩, .string ⟨#[97]⟩] 9)) (some ⟨w.heap.size, 0, none⟩) [⟨#[97]⟩, ⟨#[]⟩, ⟨#[98]⟩, ⟨#[97]⟩] := by
    refine .inr ⟨w.heap.size, 0, rfl, fun i hi => ?_⟩
    have : i = 0 ∨ i = 1 ∨ i = 2 ∨ i = 3 := by simp at hi; omega
    rcases this with rfl | rfl | rfl | rfl <;> simp
  have C := strings_any (some ⟨w.heap.size, 0, none⟩) 4 [⟨#[97]⟩, ⟨#[]⟩, ⟨#[98]⟩, ⟨#[97]⟩] (w.alloc (.cells #[.string ⟨#[97]⟩, .string ⟨#[]⟩, .string ⟨#[98]⟩, .string ⟨#[97]⟩] 9)) (by decide) S0
  rw [live_str] at C
  have C' : Calls Tryd.prog 17 #[.slice (some ⟨w.heap.size, 0, none⟩) 4 4] (w.alloc (.cells #[.string ⟨#[97]⟩, .string ⟨#[]⟩, .string ⟨#[98]⟩, .string ⟨#[97]⟩] 9)) fun e w' => ∃ g cap g2 cap2, e = .returned (.tuple #[.slice (some ⟨g, 0, none⟩) 5 cap, .slice (some ⟨g2, 0, none⟩) 4 cap2, .int .i64 0]) ∧ Sem.run Tryd.prog (convert 24 9 (.slice (some ⟨g, 0, none⟩) 5 cap)) w' = .ok (.string ⟨#[0, 97, 0, 98, 0]⟩) w' ∧ w'.cell? ⟨g2, 2, none⟩ = some (.int .i64 3) ∧ Below w.heap.size w w' := by
    refine C.mono ?_
    rintro e w' ⟨vb, va, rfl, o1, o2, hb⟩
    obtain ⟨g, cap, rfl, _, _, hc⟩ := o1.lies (by simp)
    obtain ⟨g2, cap2, rfl, _, _, hc2⟩ := o2.lies (by simp)
    refine ⟨g, cap, g2, cap2, rfl, ?_, hc2 2 (by simp), B0.trans (hb.mono B0.size)⟩
    exact conv_row w' (some ⟨g, 0, none⟩) 5 cap (fun i => [0, 97, 0, 98, 0].getD i 0) (.inr ⟨g, 0, rfl, fun i hi => by rw [Nat.zero_add]; exact hc i hi⟩) (by intro h; cases h)
  have HC : Hid _ := ⟨C'⟩
  have hh := live_hash
  have hg := live_gnu
  clear B0 S0 C C'
  go_enter Tryd.func12, Tryd.ntmps12
  go_wp2_with (first
    | (go_at_call 17; refine HC.out.mono ?_; rintro e w1 ⟨g, cap, g2, cap2, rfl, hcv, hcx, hb⟩)
    | (go_at_call 8; refine (num_any _ _).mono ?_; rintro e w2 ⟨rfl, hw2⟩; subst w2)
    | (go_at_call 29; refine (hash_any _ _ (by decide)).mono ?_; rintro e w2 ⟨rfl, hw2⟩; subst w2)
    | (go_at_call 30; refine (gnu_any _ _ (by decide)).mono ?_; rintro e w2 ⟨rfl, hw2⟩; subst w2))
  go_ret
  exact ⟨rfl, hb⟩
end Go.Proofs.YtpdcbokcoaienaaDoor
