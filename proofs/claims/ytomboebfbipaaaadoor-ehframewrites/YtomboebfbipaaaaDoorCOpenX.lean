/- What the rows' list gives: the table of shapes lies in memory. Programs that are handed in, opened. -/
import Derived.Test.YtomboebfbipaaaaDoorRows
import Derived.Test.YtomboebfbipaaaaDoorCIs
import Derived.Lib.LaidTab
import Derived.LaidLaws
import Derived.Deep.Slices
import Derived.OpenShut
import Derived.ChangeOld
import Derived.SizedLaws
namespace Go.Proofs.YtomboebfbipaaaaDoor
open Go.ChangeShapes Go.WideShapes Go.ChangeAt Go.RowKit
set_option linter.unusedVariables false
set_option linter.unusedSimpArgs false

theorem own : ownKnob Tryd.prog.godebug = none := by kernel_rfl
theorem laidOut : laidOutB Tryd.prog = true := by kernel_rfl
theorem gTab : Tryd.prog.globalNamed "gangway/cfa.shapes" = some 0 := by kernel_rfl
theorem gTabType : (Tryd.prog.globals[0]?).map (·.type) = some 157 := by kernel_rfl
theorem cellsTab : Tryd.prog.cellsOf 157 = 44 := by kernel_rfl
theorem cellsBds : Tryd.prog.cellsOf 156 = 4 := by kernel_rfl
theorem cellsI : Tryd.prog.cellsOf 3 = 1 := by kernel_rfl
theorem sh_laid : (Rows.laid_gangway_cfa_shapes : DataW Unit) = .agg (shL.map fun q => .agg [.lit (.int .i64 q.1), .lit (.int .i64 q.2.1), .lit (.int .i64 q.2.2.1), .lit (.int .i64 q.2.2.2)]) := by kernel_rfl

theorem sh_flat : ∀ i : Fin 11, shC.getD (i.val * 4) 0 = (shL.getD i.val (0, 0, 0, 0)).1 ∧ shC.getD (i.val * 4 + 1) 0 = (shL.getD i.val (0, 0, 0, 0)).2.1 ∧ shC.getD (i.val * 4 + 2) 0 = (shL.getD i.val (0, 0, 0, 0)).2.2.1 ∧ shC.getD (i.val * 4 + 3) 0 = (shL.getD i.val (0, 0, 0, 0)).2.2.2 := by decide
theorem take_at {α : Type} (l : List α) (a n k : Nat) (h : k < n) : ((l.drop a).take n)[k]? = l[a + k]? := by
  rw [List.getElem?_take_of_lt h, List.getElem?_drop]
set_option maxRecDepth 20000 in
theorem bds_cells {w : World} {base : Nat} {sp : Nat → Bool} {held : Bool} {fuel : Nat} {cs : List Value} {a b c e : Int} {p : List MemPlace} {d : DataW Unit} {enc : TypeId × Value → Unit}
    (h : DataW.trod enc Tryd.prog w base sp held fuel 156 cs = some (d, p)) (hd : d = .agg [.lit (.int .i64 a), .lit (.int .i64 b), .lit (.int .i64 c), .lit (.int .i64 e)]) : cs = [.int .i64 a, .int .i64 b, .int .i64 c, .int .i64 e] := by
  obtain ⟨xs, n, _, hx, hl, hlen, hfs⟩ := DataW.trod_struct Tryd.underlying156 h
  rw [cellsBds] at hl
  match cs, hl, xs, hlen with
  | [c0, c1, c2, c3], _, [y0, y1, y2, y3], _ =>
    have h0 := hfs 0 _ rfl
    have h1 := hfs 1 _ rfl
    have h2 := hfs 2 _ rfl
    have h3 := hfs 3 _ rfl
    simp [cellsI] at h0 h1 h2 h3
    obtain ⟨x0, e0, f0, _⟩ := DataW.trod_int Tryd.underlying3 h0
    obtain ⟨x1, e1, f1, _⟩ := DataW.trod_int Tryd.underlying3 h1
    obtain ⟨x2, e2, f2, _⟩ := DataW.trod_int Tryd.underlying3 h2
    obtain ⟨x3, e3, f3, _⟩ := DataW.trod_int Tryd.underlying3 h3
    have hh := (congrArg Prod.fst hx).symm.trans hd
    rw [f0, f1, f2, f3] at hh
    simp at hh e0 e1 e2 e3
    obtain ⟨rfl, rfl, rfl, rfl⟩ := hh
    rw [e0, e1, e2, e3]

set_option maxRecDepth 4000 in
theorem fz_of_laid {W : World} (h : laidMetH Tryd.prog [("gangway/cfa.shapes", Rows.laid_gangway_cfa_shapes)] W) : Fz W := by
  have h' : laidMet Tryd.prog [("gangway/cfa.shapes", Rows.laid_gangway_cfa_shapes)] W := h
  obtain ⟨ps, ⟨g', t', cs, fuel, p, q, hg', ht', hvar, hd, _, _⟩, _⟩ := h'
  obtain rfl := Option.some.inj (gTab.symm.trans hg')
  obtain rfl := Option.some.inj (gTabType.symm.trans ht')
  have cell := fun i => World.var?_cell gTab hvar i
  rw [sh_laid] at hd
  obtain ⟨xs, m, _, hx, hl, hn, he⟩ := DataW.trod_array Tryd.underlying157 hd
  have hx1 := congrArg Prod.fst hx
  simp only [DataW.agg.injEq] at hx1
  have key : ∀ i, i < 11 → ∀ j, j < 4 → W.cell? ⟨0, i * 4 + j, none⟩ = some (.int .i64 (shC.getD (i * 4 + j) 0)) := fun i hi j hj => by
    have e := he i hi
    have hxs : xs[i]? = some xs[i] := List.getElem?_eq_getElem (by omega)
    rw [hxs, cellsBds] at e
    have hdi : xs[i].1 = .agg [.lit (.int .i64 (shL.getD i (0, 0, 0, 0)).1), .lit (.int .i64 (shL.getD i (0, 0, 0, 0)).2.1), .lit (.int .i64 (shL.getD i (0, 0, 0, 0)).2.2.1), .lit (.int .i64 (shL.getD i (0, 0, 0, 0)).2.2.2)] := by
      have h1 := congrArg (fun l => l[i]?) hx1
      simp only [List.getElem?_map, hxs, Option.map_some] at h1
      have hs : shL[i]? = some (shL.getD i (0, 0, 0, 0)) := by
        have hsl : i < shL.length := hi
        simp [List.getD, List.getElem?_eq_getElem hsl]
      rw [hs] at h1
      simpa using h1.symm
    have hcs := bds_cells (show _ = some (xs[i].1, xs[i].2) from e) hdi
    have hat := take_at cs.toList (i * 4) 4 j hj
    rw [hcs] at hat
    have hc : W.cell? ⟨0, i * 4 + j, none⟩ = cs.toList[i * 4 + j]? := by simpa using cell (i * 4 + j)
    rw [hc, ← hat]
    have ht := sh_flat ⟨i, hi⟩
    dsimp only at ht
    have hj4 : j = 0 ∨ j = 1 ∨ j = 2 ∨ j = 3 := by omega
    rcases hj4 with rfl | rfl | rfl | rfl
    · rw [Nat.add_zero, ht.1]; rfl
    · rw [ht.2.1]; rfl
    · rw [ht.2.2.1]; rfl
    · rw [ht.2.2.2]; rfl
  refine ⟨World.block_lt_of_cell? W ⟨0, 0, none⟩ (key 0 (by omega) 0 (by omega)), fun j hj => ?_⟩
  have := key (j / 4) (by omega) (j % 4) (by omega)
  rwa [show j / 4 * 4 + j % 4 = j by omega] at this

theorem cells3 : Tryd.prog.cellsOf 3 = 1 := by kernel_rfl
theorem cellsOq : Tryd.prog.cellsOf 103 = 3 := by kernel_rfl
theorem bytesOq : Tryd.prog.bytesOf 103 = 24 := by kernel_rfl

set_option maxRecDepth 20000 in
theorem open_oq {H : Type} {enc : TypeId × Value → H} {w : World} {base : Nat} {sp : Nat → Bool} {held : Bool} {fuel : Nat} {cs : List Value} {x : DataW H × List MemPlace}
    (h : DataW.trod enc Tryd.prog w base sp held fuel 103 cs = some x) : ∃ z : Oq, cs = z.cells := by
  obtain ⟨xs, n, _, hx, hl, hlen, hfs⟩ := DataW.trod_struct Tryd.underlying103 h
  rw [cellsOq] at hl
  match cs, hl, xs, hlen with
  | [c0, c1, c2], _, [y0, y1, y2], _ =>
    have h0 := hfs 0 _ rfl
    have h1 := hfs 1 _ rfl
    have h2 := hfs 2 _ rfl
    simp [cells3] at h0 h1 h2
    obtain ⟨x0, e0, _, z0⟩ := DataW.trod_int Tryd.underlying3 h0
    obtain ⟨x1, e1, _, z1⟩ := DataW.trod_int Tryd.underlying3 h1
    obtain ⟨x2, e2, _, z2⟩ := DataW.trod_int Tryd.underlying3 h2
    simp at e0 e1 e2
    subst e0 e1 e2
    exact ⟨⟨x0, x1, x2⟩, rfl⟩
instance : Inhabited Oq := ⟨Oq.none⟩
theorem addr_add2 (b o i j : Nat) : ((⟨b, o, none⟩ : Addr).add i).add j = ⟨b, o + i + j, none⟩ := by rw [caddr_add, caddr_add]
set_option maxRecDepth 20000 in
theorem open_oqs {H : Type} {enc : TypeId × Value → H} {W : World} {base : Nat} {v : Value} {d : DataW H} {p : List MemPlace} (hv : Value.okWide Tryd.prog W .any base 52 v) (h : DataW.Trod enc Tryd.prog W 0 (fun _ => true) true 52 v d p) :
    ∃ ao c l, v = .slice ao l.length c ∧ IsOq W ao c l ∧ (l = [] ∨ ∃ es sp : List (DataW H), d = .slice es sp ∧ es.length = l.length) := by
  obtain ⟨a0, len0, cap0, rfl⟩ := okWide_slice Tryd.underlying52 hv
  obtain ⟨fuel, hf⟩ := h
  rcases Deep.open_slice Tryd.underlying52 hf with ⟨hcs, _⟩ | ⟨a, len, cap, m, n, D, Pl, hcs, _, hl, hm, hmm, hx, hcell⟩
  · simp [Value.cells] at hcs
    obtain ⟨rfl, rfl, rfl⟩ := hcs
    exact ⟨none, 0, [], rfl, ⟨.inl rfl, fun _ => ⟨rfl, rfl⟩, by simp, by omega⟩, .inl rfl⟩
  · simp [Value.cells] at hcs
    obtain ⟨rfl, rfl, rfl⟩ := hcs
    obtain ⟨hx1, hx2⟩ := Prod.mk.inj hx
    have hlm : len0 ≤ m := by rw [hmm]; split <;> omega
    have each : ∀ i, i < m → ∃ z : Oq, W.cells? 0 (a.add (i * 3)) 3 = some z.cells := fun i hi => by
      obtain ⟨cs', h1, h2⟩ := hcell i hi
      rw [cellsOq] at h1
      obtain ⟨z, rfl⟩ := open_oq h2
      exact ⟨z, h1⟩
    obtain ⟨Sx, hS⟩ := Deep.choose_lt each
    refine ⟨some a, cap0, (List.range len0).map Sx, by simp, ⟨?_, (fun e => by cases e), by simpa using hl, by unfold maxLen at hm; omega⟩, .inr ⟨_, _, hx1, by simp⟩⟩
    by_cases h0 : len0 = 0
    · left; subst h0; rfl
    · right
      obtain ⟨b, off, spot⟩ := a
      have cellAt : ∀ i, i < m → ∀ j, j < 3 → W.cell? ((⟨b, off, spot⟩ : Addr).add (i * 3) |>.add j) = (Sx i).cells[j]? := fun i hi j hj => by
        have := (World.cells?_some (hS i hi))
        exact this.2.2 j hj
      have hc := cellAt 0 (by omega) 0 (by omega)
      have hspot : spot = Option.none := World.cell?_spot (v := .int .i64 (Sx 0).k) hc
      subst hspot
      refine ⟨b, off, rfl, fun i hi => ?_⟩
      have hi' : i < len0 := by simpa using hi
      have e : ((List.range len0).map Sx).getD i Oq.none = Sx i := by simp [hi']
      rw [e]
      have k := cellAt i (by omega)
      have k0 := k 0 (by omega); have k1 := k 1 (by omega); have k2 := k 2 (by omega)
      rw [addr_add2] at k0 k1 k2
      exact ⟨k0, k1, k2⟩
end Go.Proofs.YtomboebfbipaaaaDoor
