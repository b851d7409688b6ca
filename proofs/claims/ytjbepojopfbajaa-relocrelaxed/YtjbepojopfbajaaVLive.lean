/- num, place, live. -/
import Derived.Test.YtjbepojopfbajaaVRelax
namespace Go.Proofs.Ytjbepojopfbajaa
open Go.ChangeShapes Go.WideShapes Go.ChangeAt Go.RowKit
set_option linter.unusedVariables false
set_option linter.unusedSimpArgs false

theorem numV_any (n : Int) (w : World) : Calls Try.prog 17 #[.int .i64 n] w fun e w' => e = .returned (.int .i64 n) ∧ w' = w := by
  go_enter Try.func17, Try.ntmps17
  go_wp2
  go_ret
  exact ⟨rfl, rfl⟩
def mov7 : List Int := [72, 139, 5, 0, 0, 0, 0]
theorem mov7_row (w : World) : IsRow (w.alloc (.cells #[.int .u8 72, .int .u8 139, .int .u8 5, .int .u8 0, .int .u8 0, .int .u8 0, .int .u8 0] 5)) (some ⟨w.heap.size, 0, none⟩) 7 7 (fun i => mov7.getD i 0) := by
  refine ⟨.inr ⟨w.heap.size, 0, rfl, fun i hi => ?_⟩, fun i => getD_byte (by decide) i, by omega, by omega, fun e => by cases e⟩
  have h := VB.new w #[.int .u8 72, .int .u8 139, .int .u8 5, .int .u8 0, .int .u8 0, .int .u8 0, .int .u8 0] 5
  rw [Nat.zero_add]
  refine h.cell i ?_
  have : i = 0 ∨ i = 1 ∨ i = 2 ∨ i = 3 ∨ i = 4 ∨ i = 5 ∨ i = 6 := by omega
  rcases this with rfl | rfl | rfl | rfl | rfl | rfl | rfl <;> rfl
set_option maxHeartbeats 400000 in
set_option maxRecDepth 20000 in
theorem liveV_any (w : World) : Calls Try.prog 22 #[] w fun e w' => e = .returned (.bool true) ∧ Below w.heap.size w w' := by
  have HV : Hd (∀ W, Calls Try.prog 10 #[.int .i64 2, .agg #[.int .i64 4200, .int .i64 (-4), .int .i64 4101, .int .i64 0, .int .i64 0]] W fun e w' => e = .returned (.tuple #[.int .i64 95, .int .i64 0]) ∧ Below W.heap.size W w') := ⟨fun W => value_any 2 ⟨4200, -4, 4101, 0, 0⟩ W⟩
  have HR : Hd (∀ W : World, Calls Try.prog 25 #[.slice (some ⟨W.heap.size, 0, none⟩) 7 7, .int .i64 3] (W.alloc (.cells #[.int .u8 72, .int .u8 139, .int .u8 5, .int .u8 0, .int .u8 0, .int .u8 0, .int .u8 0] 5)) fun e w' => ∃ g c, e = .returned (.tuple #[.int .u8 141, .slice (some ⟨g, 0, none⟩) 7 c, .bool true]) ∧ w'.cell? ⟨g, 1, none⟩ = some (.int .u8 141) ∧ Below W.heap.size (W.alloc (.cells #[.int .u8 72, .int .u8 139, .int .u8 5, .int .u8 0, .int .u8 0, .int .u8 0, .int .u8 0] 5)) w') := ⟨fun W => by
    refine (relax_yes (some ⟨W.heap.size, 0, none⟩) 7 7 (fun i => mov7.getD i 0) 0 _ (mov7_row W) (by omega) (by omega) (by decide +kernel)).mono ?_
    rintro e w' ⟨g, c, rfl, ho, hb⟩
    obtain ⟨g2, c2, e2, _, _, hc⟩ := ho.lies (by decide +kernel)
    injection e2 with e2 e3 e4
    injection e2 with e2
    injection e2 with e2
    subst e2
    refine ⟨g, c, rfl, hc 1 (by decide +kernel), hb.mono (by simp)⟩⟩
  have HN : Hd (∀ n W, _) := ⟨fun n W => numV_any n W⟩
  go_enter Try.func22, Try.ntmps22
  go_upto_region 3 with (first
    | (go_at_call 10; refine (HV.out _).mono ?_; rintro e w1 ⟨rfl, hb1⟩; have HB1 : Hd _ := ⟨hb1⟩; clear hb1)
    | (go_at_call 25; refine (HR.out _).mono ?_; rintro e w2 ⟨g, c, rfl, hc2, hb2⟩; have HB2 : Hd _ := ⟨hb2⟩; clear hb2))
  go_wp2_with (go_at_call 17; refine (HN.out _ _).mono ?_; rintro e w3 ⟨rfl, rfl⟩)
  go_ret
  exact ⟨rfl, (HB1.out.alloc HB1.out.size _).trans (HB2.out.mono HB1.out.size)⟩
end Go.Proofs.Ytjbepojopfbajaa
