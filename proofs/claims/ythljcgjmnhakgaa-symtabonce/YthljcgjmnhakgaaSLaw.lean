/- Names that came in: what is known of them. -/
import Derived.Test.YthljcgjmnhakgaaSLive
import Derived.OpenShut
import Derived.ChangeOld
import Derived.SizedLaws
import Derived.Deep.Strs
namespace Go.Proofs.Ythljcgjmnhakgaa
open Go.ChangeShapes Go.WideShapes Go.ChangeAt Go.RowKit Go.Maps
set_option linter.unusedVariables false
set_option linter.unusedSimpArgs false

/-- A slice of names that came in. -/
structure IsStrs (w : World) (ao : Option Addr) (c : Nat) (l : List ByteArray) : Prop where
  strs : Strs w ao l
  nil : ao = none → l = [] ∧ c = 0
  fit : l.length ≤ c
  top : c ≤ 9223372036854775807
  size : ∀ s ∈ l, s.size ≤ 9223372036854775807

theorem cells9 : Try.prog.cellsOf 9 = 1 := by kernel_rfl
theorem bytes9 : Try.prog.bytesOf 9 = 16 := by kernel_rfl

theorem open_names {H : Type} {enc : TypeId × Value → H} {W : World} {base : Nat} {v : Value} {d : DataW H} {p : List MemPlace} (hv : Value.okWide Try.prog W .any base 22 v) (h : DataW.Trod enc Try.prog W 0 (fun _ => true) true 22 v d p) :
    ∃ ao c l, v = .slice ao l.length c ∧ IsStrs W ao c l ∧ (l = [] ∨ ∃ sp : List (DataW H), d = .slice (l.map fun s => .lit (.string s.data.toList)) sp) := by
  obtain ⟨a0, len0, cap0, rfl⟩ := okWide_slice Try.underlying22 hv
  obtain ⟨fuel, hf⟩ := h
  rcases Deep.open_strs Try.underlying22 Try.underlying9 cells9 hf with ⟨hcs, _⟩ | ⟨a, len, cap, m, Sx, hcs, _, hl, hm, hmm, hx, hcell⟩
  · simp [Value.cells] at hcs
    obtain ⟨rfl, rfl, rfl⟩ := hcs
    exact ⟨none, 0, [], rfl, ⟨.inl rfl, fun _ => ⟨rfl, rfl⟩, Nat.le_refl _, by omega, fun s hs => by cases hs⟩, .inl rfl⟩
  · simp [Value.cells] at hcs
    obtain ⟨rfl, rfl, rfl⟩ := hcs
    obtain ⟨hx1, hx2⟩ := Prod.mk.inj hx
    have hlm : len0 ≤ m := by rw [hmm]; split <;> omega
    refine ⟨some a, cap0, (List.range len0).map Sx, by simp, ⟨?_, (fun e => by cases e), by simpa using hl, by unfold maxLen at hm; omega, fun s hs => ?_⟩, .inr ⟨_, by rw [hx1, List.map_map]; rfl⟩⟩
    · by_cases h0 : len0 = 0
      · left; subst h0; rfl
      · right
        obtain ⟨b, off, spot⟩ := a
        have hc := (hcell 0 (by omega)).1
        have hspot : spot = Option.none := by simpa [Addr.add] using World.cell?_spot hc
        subst hspot
        refine ⟨b, off, rfl, fun i hi => ?_⟩
        have hi' : i < len0 := by simpa using hi
        have h1 := (hcell i (by omega)).1
        rw [addr_add] at h1
        rw [h1]
        simp [hi']
    · simp only [List.mem_map, List.mem_range] at hs
      obtain ⟨i, hi, rfl⟩ := hs
      have := (hcell i (by omega)).2
      unfold maxLen at this
      omega
end Go.Proofs.Ythljcgjmnhakgaa
