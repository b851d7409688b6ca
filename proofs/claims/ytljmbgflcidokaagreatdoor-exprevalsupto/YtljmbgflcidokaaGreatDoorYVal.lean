/- Law ExprTwos: a value as the program has it; what lies in memory. -/
import Derived.Test.YtljmbgflcidokaaGreatDoorYSum
import Derived.Test.YtljmbgflcidokaaGreatDoorXKn
namespace Go.Proofs.YtljmbgflcidokaaGreatDoor
open Go.ChangeShapes Go.WideShapes Go.ChangeAt Go.RowKit
set_option linter.unusedVariables false
set_option linter.unusedSimpArgs false

theorem resY_Value (tmps : Array Value) (W : World) (g : Nat) (p m : ByteArray) (n : Int) (hp : tmps.getD 2 undef = .pointer (some ⟨g, 0, none⟩)) (h : VB W g p m n) :
    (results Tryz.f12 tmps).run Tryz.prog W = .ok (.agg #[.string p, .string m, .int .i64 n]) W := by
  have hp' : tmps[2]?.getD undef = .pointer (some ⟨g, 0, none⟩) := by simpa using hp
  simp [results, Tryz.results12, hp', asAddr, loadVar, isAgg, run_underlying Tryz.underlying27, go_sem, h.c0, h.c1, h.c2]
theorem valY_any (p m : ByteArray) (n : Int) (w : World) : Calls Tryz.prog 12 #[.agg #[.string p, .string m, .int .i64 n]] w fun e w' => e = .returned (.agg #[.string p, .string m, .int .i64 n]) ∧ Below w.heap.size w w' := by
  have V1 := (VB.newY w p m n).alloc zV
  have V2 := VB.at (w.alloc (.cells #[.string p, .string m, .int .i64 n] 33)) ⟨#[]⟩ ⟨#[]⟩ 0 (w.heap.size + 1) (by simp)
  have B0 : Below w.heap.size w ((w.alloc (.cells #[.string p, .string m, .int .i64 n] 33)).alloc zV) := bel_alloc (bel_alloc (Below.refl _ _) _) _
  go_enter Tryz.func12, Tryz.ntmps12
  go_upto_region 1 with (fail)
  generalize hG : (w.alloc (.cells #[.string p, .string m, .int .i64 n] 33)).alloc zV = v at *
  clear hG
  obtain ⟨d0, d1, d2, d3⟩ := id V1
  obtain ⟨f0, f1, f2, f3⟩ := id V2
  have HV : Hid _ := ⟨V2⟩
  have HB : Hid _ := ⟨B0⟩
  clear V1 V2 B0
  go_wp2
  refine bodyPost_ret (resY_Value _ _ (w.heap.size + 1) _ _ _ rfl (HV.out.set _ _ _)) rfl ⟨rfl, ?_⟩
  exact ((HB.out.setCell (by dsimp only; omega) _).setCell (by dsimp only; omega) _).setCell (by dsimp only; omega) _

theorem vE_ex (M : Option Vx) : ∃ p m n r, vE M = .tuple #[.agg #[.string p, .string m, .int .i64 n], .int .i64 r] := by
  cases M with
  | none => exact ⟨_, _, _, _, vE_none⟩
  | some x => obtain ⟨x1, x2, x3⟩ := x; exact ⟨_, _, _, _, vE_some _ _ _⟩
/-- The two values that are handed in. -/
abbrev S2 (w v : World) (p m : ByteArray) (n : Int) (q k : ByteArray) (i : Int) : Prop := VB v w.heap.size p m n ∧ VB v (w.heap.size + 1) q k i ∧ Below w.heap.size w v
theorem S2.bel {w v u : World} {p m q k : ByteArray} {n i : Int} (h : S2 w v p m n q k i) (hb : Below v.heap.size v u) : S2 w u p m n q k i :=
  ⟨h.1.bel hb h.1.lt, h.2.1.bel hb h.2.1.lt, bel_trans h.2.2 hb⟩
theorem S2.drew {w v : World} {p m q k : ByteArray} {n i : Int} (h : S2 w v p m n q k i) : S2 w v.drew p m n q k i := h.bel (Below.refl _ _).drew
theorem S2.lt {w v : World} {p m q k : ByteArray} {n i : Int} (h : S2 w v p m n q k i) : w.heap.size + 1 < v.heap.size := h.2.1.lt
end Go.Proofs.YtljmbgflcidokaaGreatDoor
