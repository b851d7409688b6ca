/- The names of an instruction that came in are no longer than an int. -/
import Derived.Test.YtdgejingoamfeaaDoorLaid
import Derived.Test.YtdgejingoamfeaaDoorRefOps
namespace Go.Proofs.YtdgejingoamfeaaDoor
open Go.ChangeShapes Go.WideShapes Go.ChangeAt Go.RowKit
set_option linter.unusedVariables false
set_option linter.unusedSimpArgs false

set_option maxRecDepth 20000 in
theorem opd_name {H : Type} {enc : TypeId × Value → H} {w : World} {base : Nat} {sp : Nat → Bool} {held : Bool} {fuel : Nat} {o : O} {x : DataW H × List MemPlace}
    (h : DataW.trod enc Tryd.prog w base sp held fuel 23 [.int .i64 o.k, .int .i64 o.r, .int .i64 o.b, .int .i64 o.x, .int .i64 o.s, .bool o.rip, .bool o.fs, .int .i64 o.n, .string o.nm, .int .i64 o.m] = some x) :
    o.nm.size ≤ 9223372036854775807 := by
  obtain ⟨xs, n, _, hx, hl, hlen, hfs⟩ := DataW.trod_struct Tryd.underlying23 h
  match xs, hlen with
  | [y0, y1, y2, y3, y4, y5, y6, y7, y8, y9], _ =>
    have h8 := hfs 8 _ rfl
    simp [cells3, cells4, cells9] at h8
    obtain ⟨x8, e8, _, z8⟩ := DataW.trod_string Tryd.underlying9 h8
    simp at e8
    subst e8
    exact z8

set_option maxRecDepth 20000 in
theorem names_in {H : Type} {enc : TypeId × Value → H} {w : World} {base : Nat} {sp : Nat → Bool} {held : Bool} {i : I} {d : DataW H} {p : List MemPlace}
    (hd : DataW.Trod enc Tryd.prog w base sp held 25 i.val d p) : NB i := by
  unfold I.val at hd
  obtain ⟨fuel, hf⟩ := hd
  obtain ⟨xs, n, _, hx, hl, hlen, hfs⟩ := DataW.trod_struct Tryd.underlying25 hf
  match xs, hlen with
  | [y0, y1, y2, y3, y4, y5], _ =>
    have h3 := hfs 3 _ rfl
    have h4 := hfs 4 _ rfl
    simp only [Value.cells, List.getElem_toArray, List.getElem_cons_zero, List.getElem_cons_succ, cells3, cells4, cellsOpd, List.getElem?_cons_zero, List.getElem?_cons_succ] at h3 h4
    exact ⟨opd_name h3, opd_name h4⟩
end Go.Proofs.YtdgejingoamfeaaDoor
