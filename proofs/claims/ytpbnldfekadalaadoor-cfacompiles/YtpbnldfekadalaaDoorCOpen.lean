/- Programs that are handed in, opened. -/
import Derived.Test.YtpbnldfekadalaaDoorCIs
import Derived.OpenShut
import Derived.ChangeOld
import Derived.Deep.Slices
import Derived.SizedLaws
namespace Go.Proofs.YtpbnldfekadalaaDoor
open Go.ChangeShapes Go.WideShapes Go.ChangeAt Go.RowKit
set_option linter.unusedVariables false
set_option linter.unusedSimpArgs false

theorem cells3 : Tryd.prog.cellsOf 3 = 1 := by kernel_rfl
theorem cellsOq : Tryd.prog.cellsOf 52 = 3 := by kernel_rfl
theorem bytesOq : Tryd.prog.bytesOf 52 = 24 := by kernel_rfl

set_option maxRecDepth 20000 in
theorem open_oq {H : Type} {enc : TypeId × Value → H} {w : World} {base : Nat} {sp : Nat → Bool} {held : Bool} {fuel : Nat} {cs : List Value} {x : DataW H × List MemPlace}
    (h : DataW.trod enc Tryd.prog w base sp held fuel 52 cs = some x) : ∃ z : Oq, cs = z.cells := by
  obtain ⟨xs, n, _, hx, hl, hlen, hfs⟩ := DataW.trod_struct Tryd.underlying52 h
  rw [cellsOq] at hl
  match cs, hl, xs, hlen with
  | [c0, c1, c2], _, [y0, y1, y2], _ =>
    have h0 := hfs 0 _ rfl
    have h1 := hfs 1 _ rfl
    have h2 := hfs 2 _ rfl
    simp [cells3] at h0 h1 h2
    obtain ⟨x0, e0, _, z0⟩ := DataW.trod_int Tryd.underlying3 h0
    obtain ⟨x1, e1, _, z1⟩ := DataW.trod_int Tryd.underlying3 h1
    obtain ⟨x2, e2, _, z2⟩ := DataW.trod_int Tryd.underlying3 h2
    simp at e0 e1 e2
    subst e0 e1 e2
    exact ⟨⟨x0, x1, x2⟩, rfl⟩
instance : Inhabited Oq := ⟨Oq.none⟩
theorem addr_add2 (b o i j : Nat) : ((⟨b, o, none⟩ : Addr).add i).add j = ⟨b, o + i + j, none⟩ := by rw [caddr_add, caddr_add]
set_option maxRecDepth 20000 in
theorem open_oqs {H : Type} {enc : TypeId × Value → H} {W : World} {base : Nat} {v : Value} {d : DataW H} {p : List MemPlace} (hv : Value.okWide Tryd.prog W .any base 32 v) (h : DataW.Trod enc Tryd.prog W 0 (fun _ => true) true 32 v d p) :
    ∃ ao c l, v = .slice ao l.length c ∧ IsOq W ao c l ∧ (l = [] ∨ ∃ es sp : List (DataW H), d = .slice es sp ∧ es.length = l.length) := by
  obtain ⟨a0, len0, cap0, rfl⟩ := okWide_slice Tryd.underlying32 hv
  obtain ⟨fuel, hf⟩ := h
  rcases Deep.open_slice Tryd.underlying32 hf with ⟨hcs, _⟩ | ⟨a, len, cap, m, n, D, Pl, hcs, _, hl, hm, hmm, hx, hcell⟩
  · simp [Value.cells] at hcs
    obtain ⟨rfl, rfl, rfl⟩ := hcs
    exact ⟨none, 0, [], rfl, ⟨.inl rfl, fun _ => ⟨rfl, rfl⟩, by simp, by omega⟩, .inl rfl⟩
  · simp [Value.cells] at hcs
    obtain ⟨rfl, rfl, rfl⟩ := hcs
    obtain ⟨hx1, hx2⟩ := Prod.mk.inj hx
    have hlm : len0 ≤ m := by rw [hmm]; split <;> omega
    have each : ∀ i, i < m → ∃ z : Oq, W.cells? 0 (a.add (i * 3)) 3 = some z.cells := fun i hi => by
      obtain ⟨cs', h1, h2⟩ := hcell i hi
      rw [cellsOq] at h1
      obtain ⟨z, rfl⟩ := open_oq h2
      exact ⟨z, h1⟩
    obtain ⟨Sx, hS⟩ := Deep.choose_lt each
    refine ⟨some a, cap0, (List.range len0).map Sx, by simp, ⟨?_, (fun e => by cases e), by simpa using hl, by unfold maxLen at hm; omega⟩, .inr ⟨_, _, hx1, by simp⟩⟩
    by_cases h0 : len0 = 0
    · left; subst h0; rfl
    · right
      obtain ⟨b, off, spot⟩ := a
      have cellAt : ∀ i, i < m → ∀ j, j < 3 → W.cell? ((⟨b, off, spot⟩ : Addr).add (i * 3) |>.add j) = (Sx i).cells[j]? := fun i hi j hj => by
        have := (World.cells?_some (hS i hi))
        exact this.2.2 j hj
      have hc := cellAt 0 (by omega) 0 (by omega)
      have hspot : spot = Option.none := World.cell?_spot (v := .int .i64 (Sx 0).k) hc
      subst hspot
      refine ⟨b, off, rfl, fun i hi => ?_⟩
      have hi' : i < len0 := by simpa using hi
      have e : ((List.range len0).map Sx).getD i Oq.none = Sx i := by simp [hi']
      rw [e]
      have k := cellAt i (by omega)
      have k0 := k 0 (by omega); have k1 := k 1 (by omega); have k2 := k 2 (by omega)
      rw [addr_add2] at k0 k1 k2
      exact ⟨k0, k1, k2⟩
end Go.Proofs.YtpbnldfekadalaaDoor
