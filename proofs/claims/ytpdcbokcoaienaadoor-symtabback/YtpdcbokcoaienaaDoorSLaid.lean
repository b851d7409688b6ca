/- What the rows' list gives: the table of the sizes lies in memory. Symbols that came in. -/
import Derived.Test.YtpdcbokcoaienaaDoorRows
import Derived.Test.YtpdcbokcoaienaaDoorWritesWalk
import Derived.Lib.LaidTab
import Derived.LaidLaws
import Derived.Deep.Slices
namespace Go.Proofs.YtpdcbokcoaienaaDoor
open Go.ChangeShapes Go.WideShapes Go.ChangeAt Go.RowKit
set_option linter.unusedVariables false
set_option linter.unusedSimpArgs false

theorem own : ownKnob Tryd.prog.godebug = none := by kernel_rfl
theorem laidOut : laidOutB Tryd.prog = true := by kernel_rfl
theorem gTab : Tryd.prog.globalNamed "gangway/symtab.fieldSizes" = some 0 := by kernel_rfl
theorem gTabType : (Tryd.prog.globals[0]?).map (·.type) = some 78 := by kernel_rfl
theorem cellsTab : Tryd.prog.cellsOf 78 = 6 := by kernel_rfl
theorem cellsInt : Tryd.prog.cellsOf 3 = 1 := by kernel_rfl
theorem cellsSym : Tryd.prog.cellsOf 43 = 6 := by kernel_rfl
theorem bytes5 : Tryd.prog.bytesOf 5 = 1 := by kernel_rfl
theorem bytesSym : Tryd.prog.bytesOf 43 = 64 := by kernel_rfl

theorem fz_of_laid {W : World} (h : laidMetH Tryd.prog [("gangway/symtab.fieldSizes", Rows.laid_gangway_symtab_fieldSizes)] W) : Fz W := by
  have h' : laidMet Tryd.prog [("gangway/symtab.fieldSizes", Rows.laid_gangway_symtab_fieldSizes)] W := h
  obtain ⟨ps, ⟨g', t', cs, fuel, p, q, hg', ht', hvar, hd, _, _⟩, _⟩ := h'
  obtain rfl := Option.some.inj (gTab.symm.trans hg')
  obtain rfl := Option.some.inj (gTabType.symm.trans ht')
  have e := Lib.cells_of_tab (k := .i64) (zs := [4, 1, 1, 2, 8, 8]) Tryd.underlying78 Tryd.underlying3 cellsInt cellsTab hd
  have cell := fun i => World.var?_cell gTab hvar i
  obtain ⟨l⟩ := cs
  simp only at e
  subst e
  have c0 := cell 0; have c1 := cell 1; have c2 := cell 2; have c3 := cell 3; have c4 := cell 4; have c5 := cell 5
  simp at c0 c1 c2 c3 c4 c5
  exact ⟨World.block_lt_of_cell? W ⟨0, 0, none⟩ c0, c0, c1, c2, c3, c4, c5⟩

instance : Inhabited Sym := ⟨Sym.none⟩

set_option maxRecDepth 10000 in
/-- One symbol's cells. -/
theorem sym_cells {H : Type} {enc : TypeId × Value → H} {w : World} {base : Nat} {sp : Nat → Bool} {held : Bool} {fuel : Nat} {cs : List Value} {x : DataW H × List MemPlace}
    (h : DataW.trod enc Tryd.prog w base sp held fuel 43 cs = some x) : ∃ s : Sym, cs = s.cells ∧ s.nm.size ≤ maxLen ∧ s.sc.size ≤ maxLen := by
  obtain ⟨xs, n, _, hx, hl, hlen, hfs⟩ := DataW.trod_struct Tryd.underlying43 h
  rw [cellsSym] at hl
  match cs, hl, xs, hlen with
  | [x0, x1, x2, x3, x4, x5], _, [y0, y1, y2, y3, y4, y5], _ =>
    have h0 := hfs 0 _ rfl
    have h1 := hfs 1 _ rfl
    have h2 := hfs 2 _ rfl
    have h3 := hfs 3 _ rfl
    have h4 := hfs 4 _ rfl
    have h5 := hfs 5 _ rfl
    simp [cellsInt, cells9] at h0 h1 h2 h3 h4 h5
    obtain ⟨s0, e0, _, z0⟩ := DataW.trod_string Tryd.underlying9 h0
    obtain ⟨s1, e1, _, z1⟩ := DataW.trod_string Tryd.underlying9 h1
    obtain ⟨n2, e2, _, _⟩ := DataW.trod_int Tryd.underlying3 h2
    obtain ⟨n3, e3, _, _⟩ := DataW.trod_int Tryd.underlying3 h3
    obtain ⟨n4, e4, _, _⟩ := DataW.trod_int Tryd.underlying3 h4
    obtain ⟨n5, e5, _, _⟩ := DataW.trod_int Tryd.underlying3 h5
    simp at e0 e1 e2 e3 e4 e5
    exact ⟨⟨s0, s1, n2, n3, n4, n5⟩, by rw [e0, e1, e2, e3, e4, e5]; rfl, z0, z1⟩

set_option maxRecDepth 10000 in
theorem open_syms {H : Type} {enc : TypeId × Value → H} {W : World} {base : Nat} {v : Value} {d : DataW H} {p : List MemPlace} (hv : Value.okWide Tryd.prog W .any base 22 v) (h : DataW.Trod enc Tryd.prog W 0 (fun _ => true) true 22 v d p) :
    ∃ ao c l, v = .slice ao l.length c ∧ IsSyms W ao c l ∧ (l = [] ∨ ∃ es sp : List (DataW H), d = .slice es sp ∧ es.length = l.length) := by
  obtain ⟨a0, len0, cap0, rfl⟩ := okWide_slice Tryd.underlying22 hv
  obtain ⟨fuel, hf⟩ := h
  rcases Deep.open_slice Tryd.underlying22 hf with ⟨hcs, _⟩ | ⟨a, len, cap, m, n, D, Pl, hcs, _, hl, hm, hmm, hx, hcell⟩
  · simp [Value.cells] at hcs
    obtain ⟨rfl, rfl, rfl⟩ := hcs
    exact ⟨none, 0, [], rfl, ⟨.inl rfl, fun _ => ⟨rfl, rfl⟩, fun s hs => by cases hs⟩, .inl rfl⟩
  · simp [Value.cells] at hcs
    obtain ⟨rfl, rfl, rfl⟩ := hcs
    obtain ⟨hx1, hx2⟩ := Prod.mk.inj hx
    have hlm : len0 ≤ m := by rw [hmm]; split <;> omega
    have each : ∀ i, i < m → ∃ s : Sym, W.cells? 0 (a.add (i * 6)) 6 = some s.cells ∧ s.nm.size ≤ maxLen ∧ s.sc.size ≤ maxLen := fun i hi => by
      obtain ⟨cs', h1, h2⟩ := hcell i hi
      rw [cellsSym] at h1
      obtain ⟨s, rfl, h3, h4⟩ := sym_cells h2
      exact ⟨s, h1, h3, h4⟩
    obtain ⟨Sx, hS⟩ := Deep.choose_lt each
    refine ⟨some a, cap0, (List.range len0).map Sx, by simp, ⟨?_, (fun e => by cases e), fun s hs => ?_⟩, .inr ⟨_, _, hx1, by simp⟩⟩
    · by_cases h0 : len0 = 0
      · left; subst h0; rfl
      · right
        obtain ⟨b, off, spot⟩ := a
        have cellAt : ∀ i, i < m → ∀ j, j < 6 → W.cell? ((⟨b, off, spot⟩ : Addr).add (i * 6) |>.add j) = (Sx i).cells[j]? := fun i hi j hj => by
          have := (World.cells?_some (hS i hi).1)
          exact this.2.2 j hj
        have hc := cellAt 0 (by omega) 0 (by omega)
        have hspot : spot = Option.none := World.cell?_spot (v := .string (Sx 0).nm) hc
        subst hspot
        refine ⟨b, off, rfl, fun i hi => ?_⟩
        have hi' : i < len0 := by simpa using hi
        have e : ((List.range len0).map Sx).getD i Sym.none = Sx i := by simp [hi']
        rw [e]
        have k := cellAt i (by omega)
        have k0 := k 0 (by omega); have k1 := k 1 (by omega); have k2 := k 2 (by omega); have k3 := k 3 (by omega); have k4 := k 4 (by omega); have k5 := k 5 (by omega)
        rw [addr_add, addr_add] at k0 k1 k2 k3 k4 k5
        exact ⟨k0, k1, k2, k3, k4, k5⟩
    · simp only [List.mem_map, List.mem_range] at hs
      obtain ⟨i, hi, rfl⟩ := hs
      have := (hS i (by omega)).2
      unfold maxLen at this
      omega
end Go.Proofs.YtpdcbokcoaienaaDoor
