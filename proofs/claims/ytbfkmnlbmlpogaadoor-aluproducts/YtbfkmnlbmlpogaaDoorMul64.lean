/- The contract of math/bits.Mul64 in this program: the product of 128 bits, in two words. -/
import Derived.Test.YtbfkmnlbmlpogaaDoorPlain2
import Derived.Test.YtbfkmnlbmlpogaaDoorWidth
import Derived.Shelf.Bits.Mul64
namespace Go.Proofs.YtbfkmnlbmlpogaaDoor
open Go.RowKit Go.Shelf
set_option linter.unusedVariables false

theorem lays264 : Lays.n264 Tryd.prog { f := fun k => if k = 264 then 66 else 0, t := fun k => if k = 46 then 73 else 22, g := fun _ => 0 } :=
  { mixed := by kernel_rfl
    f264 := Tryd.func66.trans (congrArg some (by kernel_rfl))
    t46 := by kernel_rfl
    a46 := fun _ => by kernel_rfl
    z46 := fun _ => by kernel_rfl
    v46 := fun _ => by kernel_rfl
    t53 := by kernel_rfl
    a53 := fun _ => by kernel_rfl
    z53 := fun _ => by kernel_rfl
    v53 := fun _ => by kernel_rfl }

theorem mul64_any (x y : Int) (w : World) (h0 : 0 ≤ x) (h1 : x < 18446744073709551616) (g0 : 0 ≤ y) (g1 : y < 18446744073709551616) :
    Calls Tryd.prog 66 #[.int .u64 x, .int .u64 y] w fun e w' => e = .returned (.tuple #[.int .u64 (x * y / 18446744073709551616), .int .u64 (x * y % 18446744073709551616)]) ∧ w' = w := by
  have c := Any.bits_Mul64 lays264 x.toNat y.toNat (by omega) (by omega) w
  rw [Int.toNat_of_nonneg h0, Int.toNat_of_nonneg g0] at c
  have e1 : ((x.toNat * y.toNat / 18446744073709551616 : Nat) : Int) = x * y / 18446744073709551616 := by
    rw [Int.natCast_ediv, Int.natCast_mul, Int.toNat_of_nonneg h0, Int.toNat_of_nonneg g0]; rfl
  have e2 : ((x.toNat * y.toNat % 18446744073709551616 : Nat) : Int) = x * y % 18446744073709551616 := by
    rw [Int.natCast_emod, Int.natCast_mul, Int.toNat_of_nonneg h0, Int.toNat_of_nonneg g0]; rfl
  rw [e1, e2] at c
  exact c
end Go.Proofs.YtbfkmnlbmlpogaaDoor
