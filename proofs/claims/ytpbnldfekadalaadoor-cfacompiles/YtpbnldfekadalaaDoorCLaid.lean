/- What the rows' list gives: the table of shapes lies in memory. -/
import Derived.Test.YtpbnldfekadalaaDoorRows
import Derived.Test.YtpbnldfekadalaaDoorCIs
import Derived.Lib.LaidTab
import Derived.LaidLaws
import Derived.Deep.Slices
import Derived.OpenShut
namespace Go.Proofs.YtpbnldfekadalaaDoor
open Go.ChangeShapes Go.WideShapes Go.ChangeAt Go.RowKit
set_option linter.unusedVariables false
set_option linter.unusedSimpArgs false

theorem own : ownKnob Tryd.prog.godebug = none := by kernel_rfl
theorem laidOut : laidOutB Tryd.prog = true := by kernel_rfl
theorem gTab : Tryd.prog.globalNamed "gangway/cfa.shapes" = some 0 := by kernel_rfl
theorem gTabType : (Tryd.prog.globals[0]?).map (·.type) = some 91 := by kernel_rfl
theorem cellsTab : Tryd.prog.cellsOf 91 = 44 := by kernel_rfl
theorem cellsBds : Tryd.prog.cellsOf 90 = 4 := by kernel_rfl
theorem cellsI : Tryd.prog.cellsOf 3 = 1 := by kernel_rfl
theorem sh_laid : (Rows.laid_gangway_cfa_shapes : DataW Unit) = .agg (shL.map fun q => .agg [.lit (.int .i64 q.1), .lit (.int .i64 q.2.1), .lit (.int .i64 q.2.2.1), .lit (.int .i64 q.2.2.2)]) := by kernel_rfl

theorem sh_flat : ∀ i : Fin 11, shC.getD (i.val * 4) 0 = (shL.getD i.val (0, 0, 0, 0)).1 ∧ shC.getD (i.val * 4 + 1) 0 = (shL.getD i.val (0, 0, 0, 0)).2.1 ∧ shC.getD (i.val * 4 + 2) 0 = (shL.getD i.val (0, 0, 0, 0)).2.2.1 ∧ shC.getD (i.val * 4 + 3) 0 = (shL.getD i.val (0, 0, 0, 0)).2.2.2 := by decide
theorem take_at {α : Type} (l : List α) (a n k : Nat) (h : k < n) : ((l.drop a).take n)[k]? = l[a + k]? := by
  rw [List.getElem?_take_of_lt h, List.getElem?_drop]
set_option maxRecDepth 20000 in
theorem bds_cells {w : World} {base : Nat} {sp : Nat → Bool} {held : Bool} {fuel : Nat} {cs : List Value} {a b c e : Int} {p : List MemPlace} {d : DataW Unit} {enc : TypeId × Value → Unit}
    (h : DataW.trod enc Tryd.prog w base sp held fuel 90 cs = some (d, p)) (hd : d = .agg [.lit (.int .i64 a), .lit (.int .i64 b), .lit (.int .i64 c), .lit (.int .i64 e)]) : cs = [.int .i64 a, .int .i64 b, .int .i64 c, .int .i64 e] := by
  obtain ⟨xs, n, _, hx, hl, hlen, hfs⟩ := DataW.trod_struct Tryd.underlying90 h
  rw [cellsBds] at hl
  match cs, hl, xs, hlen with
  | [c0, c1, c2, c3], _, [y0, y1, y2, y3], _ =>
    have h0 := hfs 0 _ rfl
    have h1 := hfs 1 _ rfl
    have h2 := hfs 2 _ rfl
    have h3 := hfs 3 _ rfl
    simp [cellsI] at h0 h1 h2 h3
    obtain ⟨x0, e0, f0, _⟩ := DataW.trod_int Tryd.underlying3 h0
    obtain ⟨x1, e1, f1, _⟩ := DataW.trod_int Tryd.underlying3 h1
    obtain ⟨x2, e2, f2, _⟩ := DataW.trod_int Tryd.underlying3 h2
    obtain ⟨x3, e3, f3, _⟩ := DataW.trod_int Tryd.underlying3 h3
    have hh := (congrArg Prod.fst hx).symm.trans hd
    rw [f0, f1, f2, f3] at hh
    simp at hh e0 e1 e2 e3
    obtain ⟨rfl, rfl, rfl, rfl⟩ := hh
    rw [e0, e1, e2, e3]

set_option maxRecDepth 4000 in
theorem fz_of_laid {W : World} (h : laidMetH Tryd.prog [("gangway/cfa.shapes", Rows.laid_gangway_cfa_shapes)] W) : Fz W := by
  have h' : laidMet Tryd.prog [("gangway/cfa.shapes", Rows.laid_gangway_cfa_shapes)] W := h
  obtain ⟨ps, ⟨g', t', cs, fuel, p, q, hg', ht', hvar, hd, _, _⟩, _⟩ := h'
  obtain rfl := Option.some.inj (gTab.symm.trans hg')
  obtain rfl := Option.some.inj (gTabType.symm.trans ht')
  have cell := fun i => World.var?_cell gTab hvar i
  rw [sh_laid] at hd
  obtain ⟨xs, m, _, hx, hl, hn, he⟩ := DataW.trod_array Tryd.underlying91 hd
  have hx1 := congrArg Prod.fst hx
  simp only [DataW.agg.injEq] at hx1
  have key : ∀ i, i < 11 → ∀ j, j < 4 → W.cell? ⟨0, i * 4 + j, none⟩ = some (.int .i64 (shC.getD (i * 4 + j) 0)) := fun i hi j hj => by
    have e := he i hi
    have hxs : xs[i]? = some xs[i] := List.getElem?_eq_getElem (by omega)
    rw [hxs, cellsBds] at e
    have hdi : xs[i].1 = .agg [.lit (.int .i64 (shL.getD i (0, 0, 0, 0)).1), .lit (.int .i64 (shL.getD i (0, 0, 0, 0)).2.1), .lit (.int .i64 (shL.getD i (0, 0, 0, 0)).2.2.1), .lit (.int .i64 (shL.getD i (0, 0, 0, 0)).2.2.2)] := by
      have h1 := congrArg (fun l => l[i]?) hx1
      simp only [List.getElem?_map, hxs, Option.map_some] at h1
      have hs : shL[i]? = some (shL.getD i (0, 0, 0, 0)) := by
        have hsl : i < shL.length := hi
        simp [List.getD, List.getElem?_eq_getElem hsl]
      rw [hs] at h1
      simpa using h1.symm
    have hcs := bds_cells (show _ = some (xs[i].1, xs[i].2) from e) hdi
    have hat := take_at cs.toList (i * 4) 4 j hj
    rw [hcs] at hat
    have hc : W.cell? ⟨0, i * 4 + j, none⟩ = cs.toList[i * 4 + j]? := by simpa using cell (i * 4 + j)
    rw [hc, ← hat]
    have ht := sh_flat ⟨i, hi⟩
    dsimp only at ht
    have hj4 : j = 0 ∨ j = 1 ∨ j = 2 ∨ j = 3 := by omega
    rcases hj4 with rfl | rfl | rfl | rfl
    · rw [Nat.add_zero, ht.1]; rfl
    · rw [ht.2.1]; rfl
    · rw [ht.2.2.1]; rfl
    · rw [ht.2.2.2]; rfl
  refine ⟨World.block_lt_of_cell? W ⟨0, 0, none⟩ (key 0 (by omega) 0 (by omega)), fun j hj => ?_⟩
  have := key (j / 4) (by omega) (j % 4) (by omega)
  rwa [show j / 4 * 4 + j % 4 = j by omega] at this
end Go.Proofs.YtpbnldfekadalaaDoor
