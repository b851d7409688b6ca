/- A value that is handed in. -/
import Derived.Test.YtljmbgflcidokaaGreatDoorLxLaid
import Derived.Test.YtljmbgflcidokaaGreatDoorYVal
import Derived.OpenShut
import Derived.Lib.SmallJoins
import Derived.SizedLaws
namespace Go.Proofs.YtljmbgflcidokaaGreatDoor
open Go.ChangeShapes Go.WideShapes Go.ChangeAt Go.RowKit
set_option linter.unusedVariables false

theorem sized_value {H : Type} {ts : List TypeId} {ds : List (DataW H)} (h : (DataW.weightsEach Tryz.prog ts ds).all (· ≤ reachBytes) = true) {j : Nat} {a b : List UInt8} {x : DataW H} (ht : ts[j]? = some 33) (hd : ds[j]? = some (.agg [.lit (.string a), .lit (.string b), x])) : a.length ≤ reachBytes ∧ b.length ≤ reachBytes := by
  have h1 := List.all_eq_true.1 h _ (DataW.weights_mem_each ht hd a.length (by simp [DataW.weights, DataW.weightsEach, Tryz.underlying33]))
  have h2 := List.all_eq_true.1 h _ (DataW.weights_mem_each ht hd b.length (by simp [DataW.weights, DataW.weightsEach, Tryz.underlying33]))
  exact ⟨by simpa using h1, by simpa using h2⟩
set_option maxRecDepth 20000 in
theorem open_value {H : Type} {enc : TypeId × Value → H} {w : World} {base b0 : Nat} {r : Reach} {spare : Nat → Bool} {held : Bool} {v : Value} {d : DataW H} {ps : List MemPlace}
    (hv : Value.okWide Tryz.prog w r b0 33 v) (h : DataW.Trod enc Tryz.prog w base spare held 33 v d ps) :
    ∃ (p m : ByteArray) (n : Int), v = .agg #[.string p, .string m, .int .i64 n] ∧ d = .agg [.lit (.string p.data.toList), .lit (.string m.data.toList), .lit (.int .i64 n)] ∧ (Lit.int .i64 n).wf = true := by
  obtain ⟨v0, v1, v2, y0, y1, y2, f, rfl, rfl, rfl, h0, h1, h2⟩ := Go.Joins.open_agg3 Tryz.underlying33 (by kernel_rfl) (by kernel_rfl) hv h
  obtain ⟨s0, e0, x0, _⟩ := DataW.trod_string Tryz.underlying9 h0
  obtain ⟨s1, e1, x1, _⟩ := DataW.trod_string Tryz.underlying9 h1
  obtain ⟨n, e2, x2, hw⟩ := DataW.trod_int Tryz.underlying3 h2
  simp only [List.cons.injEq, and_true] at e0 e1 e2
  subst e0 e1 e2
  subst x0 x1 x2
  exact ⟨s0, s1, n, rfl, rfl, hw⟩
end Go.Proofs.YtljmbgflcidokaaGreatDoor
