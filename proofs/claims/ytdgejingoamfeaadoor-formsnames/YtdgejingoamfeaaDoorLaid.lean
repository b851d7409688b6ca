/- What the rows' list gives: the tables lie in memory; operands and instructions, opened and shut. -/
import Derived.Test.YtdgejingoamfeaaDoorRows
import Derived.Test.YtdgejingoamfeaaDoorItoa
import Derived.OpenShut
import Derived.Lib.LaidTab
import Derived.Lib.SmallJoins
import Derived.LaidLaws
namespace Go.Proofs.YtdgejingoamfeaaDoor
open Go.ChangeShapes Go.WideShapes Go.ChangeAt Go.RowKit
set_option linter.unusedVariables false

theorem own : ownKnob Tryd.prog.godebug = none := by kernel_rfl
theorem laidOut : laidOutB Tryd.prog = true := by kernel_rfl
theorem cells3 : Tryd.prog.cellsOf 3 = 1 := by kernel_rfl
theorem cells4 : Tryd.prog.cellsOf 4 = 1 := by kernel_rfl
theorem cells9 : Tryd.prog.cellsOf 9 = 1 := by kernel_rfl
theorem cellsOpd : Tryd.prog.cellsOf 23 = 10 := by kernel_rfl
theorem cellsInst : Tryd.prog.cellsOf 25 = 24 := by kernel_rfl

theorem take_at {α : Type} (l : List α) (a n k : Nat) (h : k < n) : ((l.drop a).take n)[k]? = l[a + k]? := by
  rw [List.getElem?_take_of_lt h, List.getElem?_drop]

/-- An array of strings, cell by cell. -/
theorem strs_cells {w : World} {base : Nat} {sp : Nat → Bool} {held : Bool} {fuel n : Nat} {t : TypeId} {cs : List Value} {ds : List (DataW Unit)} {p : List MemPlace} {enc : TypeId × Value → Unit}
    (ht : Tryd.prog.underlying t = some (.array n 9)) (h : DataW.trod enc Tryd.prog w base sp held fuel t cs = some (.agg ds, p)) (i : Nat) (hi : i < n) (bs : List UInt8) (hd : ds[i]? = some (.lit (.string bs))) :
    cs[i]? = some (.string ⟨bs.toArray⟩) := by
  obtain ⟨xs, m, _, hx, hl, hn, he⟩ := DataW.trod_array ht h
  have e := he i hi
  have hxs : xs[i]? = some xs[i] := List.getElem?_eq_getElem (by omega)
  rw [hxs, cells9, Nat.mul_one] at e
  obtain ⟨s, hc, hx2, _⟩ := DataW.trod_string Tryd.underlying9 e
  have hx1 := congrArg Prod.fst hx
  simp only [DataW.agg.injEq] at hx1
  rw [hx1, List.getElem?_map, hxs] at hd
  simp only [Option.map_some, Option.some.injEq] at hd
  rw [hx2] at hd
  simp only [DataW.lit.injEq, Lit.string.injEq] at hd
  have hc0 : ((cs.drop i).take 1)[0]? = some (.string s) := by rw [hc]; rfl
  rw [take_at _ _ _ _ (by omega), Nat.add_zero] at hc0
  rw [hc0, ← hd]

theorem width_cells {w : World} {base : Nat} {sp : Nat → Bool} {held : Bool} {fuel : Nat} {cs : List Value} {a : Int} {bs : List UInt8} {p : List MemPlace} {d : DataW Unit} {enc : TypeId × Value → Unit}
    (h : DataW.trod enc Tryd.prog w base sp held fuel 81 cs = some (d, p)) (hd : d = .agg [.lit (.int .i64 a), .lit (.string bs)]) : cs[0]? = some (.int .i64 a) ∧ cs[1]? = some (.string ⟨bs.toArray⟩) := by
  obtain ⟨xs, n, _, hx, hl, hlen, hfs⟩ := DataW.trod_struct Tryd.underlying81 h
  match xs, hlen with
  | [y0, y1], _ =>
    have h0 := hfs 0 _ rfl
    have h1 := hfs 1 _ rfl
    simp [cells3, cells9] at h0 h1
    obtain ⟨z0, e0, f0, _⟩ := DataW.trod_int Tryd.underlying3 h0
    obtain ⟨z1, e1, f1, _⟩ := DataW.trod_string Tryd.underlying9 h1
    have hh := (congrArg Prod.fst hx).symm.trans hd
    rw [f0, f1] at hh
    simp at hh
    obtain ⟨rfl, rfl⟩ := hh
    have c0 : (cs.take 1)[0]? = some (.int .i64 z0) := by rw [e0]; rfl
    have c1 : ((cs.drop 1).take 1)[0]? = some (.string z1) := by rw [List.drop_one, e1]; rfl
    rw [List.getElem?_take_of_lt (by omega)] at c0
    rw [take_at _ _ _ _ (by omega)] at c1
    exact ⟨c0, c1⟩

theorem pow_laid : (Rows.laid_internal_strconv_uint64pow10 : DataW Unit) = Lib.tabData .u64 Lib.pow10Tab := by kernel_rfl

def regD : List (List (List UInt8)) := [
  [[114, 97, 120], [101, 97, 120], [97, 108]], [[114, 99, 120], [101, 99, 120], [99, 108]], [[114, 100, 120], [101, 100, 120], [100, 108]], [[114, 98, 120], [101, 98, 120], [98, 108]],
  [[114, 115, 112], [101, 115, 112], [115, 112, 108]], [[114, 98, 112], [101, 98, 112], [98, 112, 108]], [[114, 115, 105], [101, 115, 105], [115, 105, 108]], [[114, 100, 105], [101, 100, 105], [100, 105, 108]],
  [[114, 56], [114, 56, 100], [114, 56, 98]], [[114, 57], [114, 57, 100], [114, 57, 98]], [[114, 49, 48], [114, 49, 48, 100], [114, 49, 48, 98]], [[114, 49, 49], [114, 49, 49, 100], [114, 49, 49, 98]],
  [[114, 49, 50], [114, 49, 50, 100], [114, 49, 50, 98]], [[114, 49, 51], [114, 49, 51, 100], [114, 49, 51, 98]], [[114, 49, 52], [114, 49, 52, 100], [114, 49, 52, 98]], [[114, 49, 53], [114, 49, 53, 100], [114, 49, 53, 98]]]
theorem reg_laid : (Rows.laid_gangway_forms_registers : DataW Unit) = .agg (regD.map fun l => .agg (l.map fun b => .lit (.string b))) := by kernel_rfl
theorem cond_laid : (Rows.laid_gangway_forms_conditions : DataW Unit) = .agg ((condL.map fun b => b.data.toList).map fun b => .lit (.string b)) := by kernel_rfl
theorem mod_laid : (Rows.laid_gangway_forms_modTexts : DataW Unit) = .agg ((modL.map fun b => b.data.toList).map fun b => .lit (.string b)) := by kernel_rfl
theorem reg_at : ∀ j : Fin 48, (regD[j.val / 3]?.getD [])[j.val % 3]? = some (regL.getD j.val ⟨#[]⟩).data.toList := by decide +kernel
theorem regD_len : ∀ i : Fin 16, (regD[i.val]?).isSome = true := by decide +kernel

set_option maxRecDepth 4000 in
theorem gp_of_laid {W : World} (h : laidMetH Tryd.prog Rows.formsStrictRow.laid W) : Gp W := by
  have h' : laidMet Tryd.prog Rows.formsStrictRow.laid W := h
  obtain ⟨ps, hv, _⟩ := h'
  obtain ⟨_, _, _, _, _, _, _, _, _, _, hv, _⟩ := hv
  obtain ⟨g1, _, c1, _, _, _, hg1, _, hv1, _, hv, _⟩ := hv
  obtain rfl := Option.some.inj ((show Tryd.prog.globalNamed "math/bits.deBruijn64tab" = some 7 by kernel_rfl).symm.trans hg1)
  obtain ⟨g2, t2, c2, f2, p2, _, hg2, ht2, hv2, hd2, hv, _⟩ := hv
  obtain ⟨g3, t3, c3, f3, p3, _, hg3, ht3, hv3, hd3, hv, _⟩ := hv
  obtain ⟨g4, t4, c4, f4, p4, _, hg4, ht4, hv4, hd4, hv, _⟩ := hv
  obtain ⟨g5, t5, c5, f5, p5, _, hg5, ht5, hv5, hd5, hv, _⟩ := hv
  obtain ⟨g6, t6, c6, f6, p6, _, hg6, ht6, hv6, hd6, hv, _⟩ := hv
  obtain rfl := Option.some.inj ((show Tryd.prog.globalNamed "internal/strconv.uint64pow10" = some 4 by kernel_rfl).symm.trans hg2)
  obtain rfl := Option.some.inj ((show Tryd.prog.globalNamed "gangway/forms.widths" = some 1 by kernel_rfl).symm.trans hg3)
  obtain rfl := Option.some.inj ((show Tryd.prog.globalNamed "gangway/forms.registers" = some 0 by kernel_rfl).symm.trans hg4)
  obtain rfl := Option.some.inj ((show Tryd.prog.globalNamed "gangway/forms.conditions" = some 2 by kernel_rfl).symm.trans hg5)
  obtain rfl := Option.some.inj ((show Tryd.prog.globalNamed "gangway/forms.modTexts" = some 3 by kernel_rfl).symm.trans hg6)
  obtain rfl := Option.some.inj ((show (Tryd.prog.globals[4]?).map (·.type) = some 102 by kernel_rfl).symm.trans ht2)
  obtain rfl := Option.some.inj ((show (Tryd.prog.globals[1]?).map (·.type) = some 82 by kernel_rfl).symm.trans ht3)
  obtain rfl := Option.some.inj ((show (Tryd.prog.globals[0]?).map (·.type) = some 70 by kernel_rfl).symm.trans ht4)
  obtain rfl := Option.some.inj ((show (Tryd.prog.globals[2]?).map (·.type) = some 83 by kernel_rfl).symm.trans ht5)
  obtain rfl := Option.some.inj ((show (Tryd.prog.globals[3]?).map (·.type) = some 89 by kernel_rfl).symm.trans ht6)
  rw [pow_laid] at hd2
  rw [reg_laid] at hd4
  rw [cond_laid] at hd5
  rw [mod_laid] at hd6
  have tab : Lib.TabIs Tryd.prog W "internal/strconv.uint64pow10" .u64 Lib.pow10Tab := by
    have := Lib.cells_of_tab Tryd.underlying102 Tryd.underlying96 (by kernel_rfl) (by kernel_rfl) hd2
    unfold Lib.TabIs
    rw [hv2, ← this]
  have cell0 := fun i => World.var?_cell hg4 hv4 i
  have cell1 := fun i => World.var?_cell hg3 hv3 i
  have cell2 := fun i => World.var?_cell hg5 hv5 i
  have cell3 := fun i => World.var?_cell hg6 hv6 i
  have cell4 := fun i => World.var?_cell hg2 hv2 i
  obtain ⟨xs, m, _, hx, hl, hn, he⟩ := DataW.trod_array Tryd.underlying82 hd3
  have hxs := congrArg Prod.fst hx
  match xs, hn with
  | [y0, y1, y2], _ =>
    simp [Rows.laid_gangway_forms_widths] at hxs
    have w0 := width_cells (he 0 (by omega)) hxs.1.symm
    have w1 := width_cells (he 1 (by omega)) hxs.2.1.symm
    have w2 := width_cells (he 2 (by omega)) hxs.2.2.symm
    have c2 : Tryd.prog.cellsOf 81 = 2 := by kernel_rfl
    rw [c2, take_at _ _ _ _ (by omega), take_at _ _ _ _ (by omega)] at w0 w1 w2
    have pows : ∀ j, j < 20 → W.cell? ⟨4, j, none⟩ = some (.int .u64 (10 ^ j)) := fun j hj => by
      have := tab.cell hg2 j (by rw [Lib.pow10Tab_length]; exact hj)
      rw [this, Lib.pow10Tab_at j hj]
      exact congrArg some (congrArg (Value.int .u64) (by rw [Int.natCast_pow]; rfl))
    refine ⟨⟨?_, ?_, ?_, ?_, ?_, ?_, ?_, ?_, ?_, ?_, pows⟩, tab⟩
    · simp only [World.var?, hg1, Option.bind_some] at hv1
      split at hv1
      · rename_i hq
        have := (Array.getElem?_eq_some_iff.1 hq).1
        omega
      · cases hv1
    · intro j hj
      rw [cell0 j]
      obtain ⟨ys, m', _, hy, hl', hn', he'⟩ := DataW.trod_array Tryd.underlying70 hd4
      have hyl : ys[j / 3]? = some (ys[j / 3]'(by omega)) := List.getElem?_eq_getElem (by omega)
      have ex := he' (j / 3) (by omega)
      rw [hyl] at ex
      have c3 : Tryd.prog.cellsOf 69 = 3 := by kernel_rfl
      rw [c3] at ex
      have hy1 := congrArg Prod.fst hy
      simp only [DataW.agg.injEq] at hy1
      have hr := reg_at ⟨j, hj⟩
      have hs := regD_len ⟨j / 3, by omega⟩
      obtain ⟨l, hl3⟩ := Option.isSome_iff_exists.1 hs
      simp only at hr hl3
      rw [hl3, Option.getD_some] at hr
      have hq : (ys[j / 3]'(by omega)).1 = .agg (l.map fun b => .lit (.string b)) := by
        have := congrArg (fun z => z[j / 3]?) hy1
        simp only [List.getElem?_map, hl3, hyl, Option.map_some, Option.some.injEq] at this
        exact this.symm
      have := strs_cells (p := (ys[j / 3]'(by omega)).2) Tryd.underlying69 (by rw [ex, ← hq]) (j % 3) (by omega) _ (by rw [List.getElem?_map, hr]; rfl)
      rw [take_at _ _ _ _ (by omega), show j / 3 * 3 + j % 3 = j by omega] at this
      rw [Array.getElem?_toList] at this
      exact this
    · rw [cell1 0, ← Array.getElem?_toList]; exact w0.1
    · rw [cell1 1, ← Array.getElem?_toList]; exact w0.2
    · rw [cell1 2, ← Array.getElem?_toList]; exact w1.1
    · rw [cell1 3, ← Array.getElem?_toList]; exact w1.2
    · rw [cell1 4, ← Array.getElem?_toList]; exact w2.1
    · rw [cell1 5, ← Array.getElem?_toList]; exact w2.2
    · intro j hj
      rw [cell2 j, ← Array.getElem?_toList]
      have hlen : condL.length = 16 := rfl
      have := strs_cells Tryd.underlying83 hd5 j hj (condL.getD j ⟨#[]⟩).data.toList (by simp [List.getD, List.getElem?_eq_getElem (show j < condL.length by omega)])
      simpa using this
    · intro j hj
      rw [cell3 j, ← Array.getElem?_toList]
      have hlen : modL.length = 6 := rfl
      have := strs_cells Tryd.underlying89 hd6 j hj (modL.getD j ⟨#[]⟩).data.toList (by simp [List.getD, List.getElem?_eq_getElem (show j < modL.length by omega)])
      simpa using this

theorem cut_at {α : Type} (l : List α) (a n : Nat) : l.drop a = (l.drop a).take n ++ l.drop (a + n) := by
  rw [← List.drop_drop, List.take_append_drop]

set_option maxRecDepth 20000 in
/-- An operand, opened. -/
theorem open_opd {H : Type} {enc : TypeId × Value → H} {w : World} {base : Nat} {sp : Nat → Bool} {held : Bool} {fuel : Nat} {cs : List Value} {x : DataW H × List MemPlace}
    (h : DataW.trod enc Tryd.prog w base sp held fuel 23 cs = some x) :
    ∃ o : O, cs = [.int .i64 o.k, .int .i64 o.r, .int .i64 o.b, .int .i64 o.x, .int .i64 o.s, .bool o.rip, .bool o.fs, .int .i64 o.n, .string o.nm, .int .i64 o.m] ∧ (Lit.int .i64 o.n).wf = true ∧ (Lit.int .i64 o.s).wf = true := by
  obtain ⟨xs, n, _, hx, hl, hlen, hfs⟩ := DataW.trod_struct Tryd.underlying23 h
  rw [cellsOpd] at hl
  match cs, hl, xs, hlen with
  | [c0, c1, c2, c3, c4, c5, c6, c7, c8, c9], _, [y0, y1, y2, y3, y4, y5, y6, y7, y8, y9], _ =>
    have h0 := hfs 0 _ rfl
    have h1 := hfs 1 _ rfl
    have h2 := hfs 2 _ rfl
    have h3 := hfs 3 _ rfl
    have h4 := hfs 4 _ rfl
    have h5 := hfs 5 _ rfl
    have h6 := hfs 6 _ rfl
    have h7 := hfs 7 _ rfl
    have h8 := hfs 8 _ rfl
    have h9 := hfs 9 _ rfl
    simp [cells3, cells4, cells9] at h0 h1 h2 h3 h4 h5 h6 h7 h8 h9
    obtain ⟨x0, e0, _, z0⟩ := DataW.trod_int Tryd.underlying3 h0
    obtain ⟨x1, e1, _, z1⟩ := DataW.trod_int Tryd.underlying3 h1
    obtain ⟨x2, e2, _, z2⟩ := DataW.trod_int Tryd.underlying3 h2
    obtain ⟨x3, e3, _, z3⟩ := DataW.trod_int Tryd.underlying3 h3
    obtain ⟨x4, e4, _, z4⟩ := DataW.trod_int Tryd.underlying3 h4
    obtain ⟨x5, e5, _⟩ := DataW.trod_bool Tryd.underlying4 h5
    obtain ⟨x6, e6, _⟩ := DataW.trod_bool Tryd.underlying4 h6
    obtain ⟨x7, e7, _, z7⟩ := DataW.trod_int Tryd.underlying3 h7
    obtain ⟨x8, e8, _, _⟩ := DataW.trod_string Tryd.underlying9 h8
    obtain ⟨x9, e9, _, z9⟩ := DataW.trod_int Tryd.underlying3 h9
    simp at e0 e1 e2 e3 e4 e5 e6 e7 e8 e9
    subst e0 e1 e2 e3 e4 e5 e6 e7 e8 e9
    exact ⟨⟨x0, x1, x2, x3, x4, x5, x6, x7, x8, x9⟩, rfl, z7, z4⟩

set_option maxRecDepth 20000 in
/-- An instruction, opened. -/
theorem open_inst {H : Type} {enc : TypeId × Value → H} {w : World} {base b0 : Nat} {sp : Nat → Bool} {held : Bool} {r : Reach} {v : Value} {d : DataW H} {p : List MemPlace}
    (hval : Value.okWide Tryd.prog w r b0 25 v) (hd : DataW.Trod enc Tryd.prog w base sp held 25 v d p) :
    ∃ i : I, v = i.val ∧ ((Lit.int .i64 i.to.n).wf = true ∧ (Lit.int .i64 i.to.s).wf = true) ∧ ((Lit.int .i64 i.fr.n).wf = true ∧ (Lit.int .i64 i.fr.s).wf = true) := by
  obtain ⟨cs, rfl, hsz⟩ := okWide_struct Tryd.underlying25 hval
  rw [cellsInst] at hsz
  obtain ⟨fuel, hf⟩ := hd
  obtain ⟨xs, n, _, hx, hl, hlen, hfs⟩ := DataW.trod_struct Tryd.underlying25 hf
  obtain ⟨l⟩ := cs
  have hl24 : l.length = 24 := by simpa using hsz
  match xs, hlen with
  | [y0, y1, y2, y3, y4, y5], _ =>
    have h0 := hfs 0 _ rfl
    have h1 := hfs 1 _ rfl
    have h2 := hfs 2 _ rfl
    have h3 := hfs 3 _ rfl
    have h4 := hfs 4 _ rfl
    have h5 := hfs 5 _ rfl
    simp only [Value.cells, List.getElem_toArray, List.getElem_cons_zero, List.getElem_cons_succ, cells3, cells4, cellsOpd, List.getElem?_cons_zero, List.getElem?_cons_succ] at h0 h1 h2 h3 h4 h5
    obtain ⟨x0, e0, _, _⟩ := DataW.trod_int Tryd.underlying3 h0
    obtain ⟨x1, e1, _, _⟩ := DataW.trod_int Tryd.underlying3 h1
    obtain ⟨x2, e2, _, _⟩ := DataW.trod_int Tryd.underlying3 h2
    obtain ⟨ot, e3, wt⟩ := open_opd h3
    obtain ⟨of, e4, wf⟩ := open_opd h4
    obtain ⟨x5, e5, _⟩ := DataW.trod_bool Tryd.underlying4 h5
    refine ⟨⟨x0, x1, x2, ot, of, x5⟩, ?_, wt, wf⟩
    have key : l = (l.drop 0).take 1 ++ (l.drop 1).take 1 ++ (l.drop 2).take 1 ++ (l.drop 3).take 10 ++ (l.drop 13).take 10 ++ (l.drop 23).take 1 := by
      have e6 : l.drop 24 = [] := List.drop_eq_nil_of_le (by omega)
      have := cut_at l 0 1
      rw [cut_at l (0 + 1) 1, cut_at l (0 + 1 + 1) 1, cut_at l (0 + 1 + 1 + 1) 10, cut_at l (0 + 1 + 1 + 1 + 10) 10, cut_at l (0 + 1 + 1 + 1 + 10 + 10) 1, show 0 + 1 + 1 + 1 + 10 + 10 + 1 = 24 from rfl, e6] at this
      simpa [List.append_assoc] using this
    rw [key, e0, e1, e2, e3, e4, e5]
    rfl

theorem i64_wf {n : Int} (h : (Lit.int .i64 n).wf = true) : -9223372036854775808 ≤ n ∧ n ≤ 9223372036854775807 := by
  simpa [Lit.wf, IntKind.min, IntKind.max, IntKind.signed, IntKind.bits] using h
end Go.Proofs.YtdgejingoamfeaaDoor
