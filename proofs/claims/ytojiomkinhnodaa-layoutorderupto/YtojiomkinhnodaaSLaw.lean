/- Names that came in: what is known of them. -/
import Derived.Test.YtojiomkinhnodaaSLive
import Derived.OpenShut
import Derived.ChangeOld
import Derived.SizedLaws
import Derived.Deep.Strs
namespace Go.Proofs.Ytojiomkinhnodaa
open Go.ChangeShapes Go.WideShapes Go.ChangeAt Go.RowKit Go.Maps
set_option linter.unusedVariables false
set_option linter.unusedSimpArgs false

/-- A slice of names that came in. -/
structure IsStrs (w : World) (ao : Option Addr) (c : Nat) (l : List ByteArray) : Prop where
  strs : Strs w ao l
  nil : ao = none → l = [] ∧ c = 0
  fit : l.length ≤ c
  top : c ≤ 9223372036854775807
  size : ∀ s ∈ l, s.size ≤ 9223372036854775807

theorem cells9 : Try.prog.cellsOf 9 = 1 := by kernel_rfl
theorem bytes9 : Try.prog.bytesOf 9 = 16 := by kernel_rfl

set_option maxRecDepth 10000 in
theorem open_names {H : Type} {enc : TypeId × Value → H} {W : World} {base : Nat} {v : Value} {d : DataW H} {p : List MemPlace} (hv : Value.okWide Try.prog W .any base 67 v) (h : DataW.Trod enc Try.prog W 0 (fun _ => true) true 67 v d p) :
    ∃ ao c l, v = .slice ao l.length c ∧ IsStrs W ao c l ∧ (l = [] ∨ ∃ sp : List (DataW H), d = .slice (l.map fun s => .lit (.string s.data.toList)) sp) := by
  obtain ⟨a0, len0, cap0, rfl⟩ := okWide_slice Try.underlying67 hv
  obtain ⟨fuel, hf⟩ := h
  rcases Deep.open_strs Try.underlying67 Try.underlying9 cells9 hf with ⟨hcs, _⟩ | ⟨a, len, cap, m, Sx, hcs, _, hl, hm, hmm, hx, hcell⟩
  · simp [Value.cells] at hcs
    obtain ⟨rfl, rfl, rfl⟩ := hcs
    exact ⟨none, 0, [], rfl, ⟨.inl rfl, fun _ => ⟨rfl, rfl⟩, Nat.le_refl _, by omega, fun s hs => by cases hs⟩, .inl rfl⟩
  · simp [Value.cells] at hcs
    obtain ⟨rfl, rfl, rfl⟩ := hcs
    obtain ⟨hx1, hx2⟩ := Prod.mk.inj hx
    have hlm : len0 ≤ m := by rw [hmm]; split <;> omega
    refine ⟨some a, cap0, (List.range len0).map Sx, by simp, ⟨?_, (fun e => by cases e), by simpa using hl, by unfold maxLen at hm; omega, fun s hs => ?_⟩, .inr ⟨_, by rw [hx1, List.map_map]; rfl⟩⟩
    · by_cases h0 : len0 = 0
      · left; subst h0; rfl
      · right
        obtain ⟨b, off, spot⟩ := a
        have hc := (hcell 0 (by omega)).1
        have hspot : spot = Option.none := by simpa [Addr.add] using World.cell?_spot hc
        subst hspot
        refine ⟨b, off, rfl, fun i hi => ?_⟩
        have hi' : i < len0 := by simpa using hi
        have h1 := (hcell i (by omega)).1
        rw [addr_add] at h1
        rw [h1]
        simp [hi']
    · simp only [List.mem_map, List.mem_range] at hs
      obtain ⟨i, hi, rfl⟩ := hs
      have := (hcell i (by omega)).2
      unfold maxLen at this
      omega

theorem strM_bad {l : List ByteArray} {x : Int} (h : strM l = .error x) : (x == 0) = false := by
  unfold strM at h
  split at h
  · cases h; rfl
  · split at h
    · cases h; rfl
    · split at h
      · cases h; rfl
      · cases h

theorem tl_beq (a b : ByteArray) : (a.toList == b.toList) = decide (a = b) := by
  rw [ByteArray.toList_eq, ByteArray.toList_eq]
  by_cases h : a = b
  · subst h; simp
  · rw [decide_eq_false h, beq_eq_false_iff_ne]
    intro e
    exact h (ByteArray.ext (Array.toList_inj.1 e))

/-- A row of ints, as a slice. -/
theorem OwnI.any {w : World} {base : Nat} {v : Value} {xs : List Int} (h : OwnI w base v xs) :
    ∃ ao cap, v = .slice ao xs.length cap ∧ ∀ i, i < xs.length → ∃ g, ao = some ⟨g, 0, none⟩ ∧ ∀ i, i < xs.length → w.cell? ⟨g, i, none⟩ = some (.int .i64 (xs.getD i 0)) := by
  by_cases h0 : 1 ≤ xs.length
  · obtain ⟨g, cap, hv, _, _, hc⟩ := h.lies h0
    exact ⟨_, cap, hv, fun i hi => ⟨g, rfl, hc⟩⟩
  · have h0' : xs.length = 0 := by omega
    rcases h.2 with ⟨hv, hn⟩ | ⟨g, cap, cur, hv, _⟩
    · exact ⟨none, 0, by rw [hv, h0'], fun i hi => by omega⟩
    · exact ⟨_, cap, hv, fun i hi => by omega⟩

/-- The world wr is w1 but for what was drawn. -/
structure RW (w w1 wr : World) : Prop where
  cell : ∀ p v, w1.cell? p = some v → wr.cell? p = some v
  bel : Below w.heap.size w wr
theorem RW.drew {w w1 wr : World} (h : RW w w1 wr) (n : Nat) : RW w w1 (wr.drewN n) :=
  ⟨fun p v hp => by
    have h1 := h.cell p v hp
    have hb : Below wr.heap.size wr (wr.drewN n) := below_drewN (Below.refl _ _) n
    rw [hb.cell (World.block_lt_of_cell? wr p h1)]
    exact h1, below_drewN h.bel n⟩

end Go.Proofs.Ytojiomkinhnodaa
