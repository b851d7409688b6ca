/- Law ExprLaws: what comes in is small. -/
import Derived.Test.YtljmbgflcidokaaGreatDoorRows
import Derived.Test.YtljmbgflcidokaaGreatDoorZPre
import Derived.Test.YtljmbgflcidokaaGreatDoorYOpen
namespace Go.Proofs.YtljmbgflcidokaaGreatDoor
open Go.ChangeShapes Go.WideShapes Go.ChangeAt Go.RowKit
set_option linter.unusedVariables false
set_option linter.unusedSimpArgs false

theorem bk_part {H : Type} {d : DataW H} : ∀ {l : List (DataW H)}, d ∈ l → Rows.uptoBulk d ≤ Rows.uptoBulkAll l
  | x :: r, h => by
    simp only [Rows.uptoBulkAll]
    rcases List.mem_cons.1 h with e | e
    · subst e; omega
    · have := bk_part e; omega
theorem bk_val {H : Type} {ds : List (DataW H)} (hk : Rows.uptoSmall H ds = true) {d : DataW H} (hd : d ∈ ds) {p m : ByteArray} {n : Int} (e : d = .agg [.lit (.string p.data.toList), .lit (.string m.data.toList), .lit (.int .i64 n)]) : (⟨p, m, n⟩ : Vx).Ok := by
  have h1 : Rows.uptoBulkAll ds ≤ 1048576 := of_decide_eq_true hk
  have h2 := bk_part hd
  rw [e] at h2
  simp only [Rows.uptoBulk, Rows.uptoBulkAll, Array.length_toList] at h2
  have h3 : p.size = p.data.size := rfl
  have h4 : m.size = m.data.size := rfl
  exact ⟨by show p.size ≤ _; omega, by show m.size ≤ _; omega⟩
theorem bk_toks {H : Type} : ∀ (l : List TL), l.length ≤ Rows.uptoBulkAll (l.map (dTok H)) ∧ ∀ x ∈ l, x.1.t.length ≤ Rows.uptoBulkAll (l.map (dTok H))
  | [] => ⟨by simp, fun x hx => by cases hx⟩
  | p :: r => by
    obtain ⟨h1, h2⟩ := bk_toks (H := H) r
    simp only [List.map_cons, Rows.uptoBulkAll, List.length_cons, dTok, Rows.uptoBulk]
    refine ⟨by omega, fun x hx => ?_⟩
    rcases List.mem_cons.1 hx with rfl | hx
    · omega
    · have := h2 x hx
      omega
theorem bk_tk {H : Type} {ds : List (DataW H)} (hk : Rows.uptoSmall H ds = true) {d : DataW H} (hd : d ∈ ds) {l : List TL} (e : l = [] ∨ ∃ sp : List (DataW H), d = .slice (l.map (dTok H)) sp) : l.length ≤ 1048576 ∧ ∀ x ∈ l, x.1.t.length ≤ 1048576 := by
  have h1 : Rows.uptoBulkAll ds ≤ 1048576 := of_decide_eq_true hk
  have h2 := bk_part hd
  rcases e with rfl | ⟨sp, rfl⟩
  · exact ⟨by simp, fun p hp => (by cases hp)⟩
  · simp only [Rows.uptoBulk] at h2
    obtain ⟨h3, h4⟩ := bk_toks (H := H) l
    exact ⟨by omega, fun x hx => by have := h4 x hx; omega⟩
end Go.Proofs.YtljmbgflcidokaaGreatDoor
