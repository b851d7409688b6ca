/- What the rows' list gives: the table of the sizes lies in memory; a struct of five flags, opened and shut. -/
import Derived.Test.YtbfkmnlbmlpogaaDoorRows
import Derived.Test.YtbfkmnlbmlpogaaDoorWidth
import Derived.OpenShut
import Derived.Lib.LaidTab
import Derived.Lib.SmallJoins
import Derived.LaidLaws
namespace Go.Proofs.YtbfkmnlbmlpogaaDoor
open Go.ChangeShapes Go.WideShapes Go.ChangeAt Go.RowKit
set_option linter.unusedVariables false

theorem own : ownKnob Tryd.prog.godebug = none := by kernel_rfl
theorem gTab : Tryd.prog.globalNamed "gangway/alu.widths" = some 0 := by kernel_rfl
theorem gTabType : (Tryd.prog.globals[0]?).map (·.type) = some 90 := by kernel_rfl
theorem cellsTab : Tryd.prog.cellsOf 90 = 9 := by kernel_rfl
theorem cellsWidth : Tryd.prog.cellsOf 62 = 3 := by kernel_rfl
theorem cellsInt : Tryd.prog.cellsOf 3 = 1 := by kernel_rfl
theorem cellsBool : Tryd.prog.cellsOf 4 = 1 := by kernel_rfl
theorem cellsFlags : Tryd.prog.cellsOf 24 = 5 := by kernel_rfl

theorem width_cells {H : Type} {enc : TypeId × Value → H} {w : World} {base : Nat} {sp : Nat → Bool} {held : Bool} {fuel : Nat} {cs : List Value} {a b c : Int} {p : List MemPlace} {d : DataW H}
    (h : DataW.trod enc Tryd.prog w base sp held fuel 62 cs = some (d, p)) (hd : d = .agg [.lit (.int .i64 a), .lit (.int .i64 b), .lit (.int .i64 c)]) : cs = [.int .i64 a, .int .i64 b, .int .i64 c] := by
  obtain ⟨y0, y1, y2, n, hx, hl, h0, h1, h2⟩ := Deep.trod_struct3 Tryd.underlying62 h
  rw [cellsWidth] at hl
  match cs, hl with
  | [x0, x1, x2], _ =>
    simp only [cellsInt, List.drop_zero, List.drop_succ_cons, List.take_succ_cons, List.take_zero] at h0 h1 h2
    obtain ⟨z0, e0, rfl, _⟩ := DataW.trod_int Tryd.underlying3 h0
    obtain ⟨z1, e1, rfl, _⟩ := DataW.trod_int Tryd.underlying3 h1
    obtain ⟨z2, e2, rfl, _⟩ := DataW.trod_int Tryd.underlying3 h2
    have hh := (congrArg Prod.fst hx).symm.trans hd
    simp at hh e0 e1 e2
    obtain ⟨rfl, rfl, rfl⟩ := hh
    rw [e0, e1, e2]

theorem widths_cells {w : World} {base : Nat} {sp : Nat → Bool} {held : Bool} {fuel : Nat} {cs : List Value} {p : List MemPlace}
    (h : DataW.trod (fun _ => ()) Tryd.prog w base sp held fuel 90 cs = some (Rows.laid_gangway_alu_widths, p)) :
    cs = [.int .i64 1, .int .i64 8, .int .i64 31, .int .i64 4, .int .i64 32, .int .i64 31, .int .i64 8, .int .i64 64, .int .i64 63] := by
  cases fuel with
  | zero => simp [DataW.trod] at h
  | succ fuel =>
    simp only [DataW.trod, Tryd.underlying90, cellsTab, cellsWidth] at h
    split at h
    · rename_i hl
      obtain ⟨xs, hm, hx⟩ := Option.map_eq_some_iff.1 h
      have hxs : xs.map (·.1) = [.agg [.lit (.int .i64 1), .lit (.int .i64 8), .lit (.int .i64 31)], .agg [.lit (.int .i64 4), .lit (.int .i64 32), .lit (.int .i64 31)], .agg [.lit (.int .i64 8), .lit (.int .i64 64), .lit (.int .i64 63)]] := by
        have := congrArg Prod.fst hx
        simpa [Rows.laid_gangway_alu_widths] using this
      have hlen : xs.length = 3 := by
        have := congrArg List.length hxs
        simpa using this
      match xs, hlen, hxs with
      | [y0, y1, y2], _, hxs =>
        simp only [List.map_cons, List.map_nil, List.cons.injEq, and_true] at hxs
        obtain ⟨e0, e1, e2⟩ := hxs
        obtain ⟨b0, hb0, hf0⟩ := Lib.mapM_at hm 0 0 (by simp)
        obtain ⟨b1, hb1, hf1⟩ := Lib.mapM_at hm 1 1 (by simp)
        obtain ⟨b2, hb2, hf2⟩ := Lib.mapM_at hm 2 2 (by simp)
        simp at hb0 hb1 hb2
        subst hb0 hb1 hb2
        match cs, hl with
        | [x0, x1, x2, x3, x4, x5, x6, x7, x8], _ =>
          have k0 := width_cells (d := y0.1) (p := y0.2) hf0 e0
          have k1 := width_cells (d := y1.1) (p := y1.2) hf1 e1
          have k2 := width_cells (d := y2.1) (p := y2.2) hf2 e2
          simp at k0 k1 k2
          obtain ⟨rfl, rfl, rfl⟩ := k0
          obtain ⟨rfl, rfl, rfl⟩ := k1
          obtain ⟨rfl, rfl, rfl⟩ := k2
          rfl
    · cases h

theorem wd_of_laid {W : World} (h : laidMetH Tryd.prog [("gangway/alu.widths", Rows.laid_gangway_alu_widths)] W) : Wd W := by
  have h' : laidMet Tryd.prog [("gangway/alu.widths", Rows.laid_gangway_alu_widths)] W := h
  obtain ⟨ps, ⟨g', t', cs, fuel, p, q, hg', ht', hvar, hd, _, _⟩, _⟩ := h'
  obtain rfl := Option.some.inj (gTab.symm.trans hg')
  obtain rfl := Option.some.inj (gTabType.symm.trans ht')
  have e := widths_cells hd
  have cell := fun i => World.var?_cell gTab hvar i
  obtain ⟨l⟩ := cs
  simp only at e
  subst e
  have c0 := cell 0; have c1 := cell 1; have c2 := cell 2; have c3 := cell 3; have c4 := cell 4; have c5 := cell 5; have c6 := cell 6; have c7 := cell 7; have c8 := cell 8
  simp at c0 c1 c2 c3 c4 c5 c6 c7 c8
  exact ⟨World.block_lt_of_cell? W ⟨0, 0, none⟩ c0, c0, c1, c2, c3, c4, c5, c6, c7, c8⟩

/-- A struct of five flags, opened. -/
theorem open_flags {H : Type} {enc : TypeId × Value → H} {w : World} {base b0 : Nat} {sp : Nat → Bool} {held : Bool} {r : Reach} {v : Value} {d : DataW H} {p : List MemPlace}
    (hval : Value.okWide Tryd.prog w r b0 24 v) (hd : DataW.Trod enc Tryd.prog w base sp held 24 v d p) :
    ∃ C P Z S O : Bool, v = .agg #[.bool C, .bool P, .bool Z, .bool S, .bool O] ∧ d = .agg [.lit (.bool C), .lit (.bool P), .lit (.bool Z), .lit (.bool S), .lit (.bool O)] ∧ p = [] := by
  obtain ⟨cs, rfl, hsz⟩ := okWide_struct Tryd.underlying24 hval
  rw [cellsFlags] at hsz
  obtain ⟨fuel, hf⟩ := hd
  obtain ⟨xs, n, _, hx, hl, hlen, hfs⟩ := DataW.trod_struct Tryd.underlying24 hf
  obtain ⟨l⟩ := cs
  match l, hsz, xs, hlen with
  | [x0, x1, x2, x3, x4], _, [y0, y1, y2, y3, y4], _ =>
    have h0 := hfs 0 _ rfl
    have h1 := hfs 1 _ rfl
    have h2 := hfs 2 _ rfl
    have h3 := hfs 3 _ rfl
    have h4 := hfs 4 _ rfl
    simp [cellsBool, Value.cells] at h0 h1 h2 h3 h4
    obtain ⟨b0, e0, rfl⟩ := DataW.trod_bool Tryd.underlying4 h0
    obtain ⟨b1, e1, rfl⟩ := DataW.trod_bool Tryd.underlying4 h1
    obtain ⟨b2, e2, rfl⟩ := DataW.trod_bool Tryd.underlying4 h2
    obtain ⟨b3, e3, rfl⟩ := DataW.trod_bool Tryd.underlying4 h3
    obtain ⟨b4, e4, rfl⟩ := DataW.trod_bool Tryd.underlying4 h4
    simp at e0 e1 e2 e3 e4
    subst e0 e1 e2 e3 e4
    have hx1 := congrArg Prod.fst hx
    have hx2 := congrArg Prod.snd hx
    simp at hx1 hx2
    exact ⟨b0, b1, b2, b3, b4, rfl, hx1, hx2⟩

/-- A struct of five flags, shut. -/
theorem shut_flags {H : Type} {enc : TypeId × Value → H} {w : World} {base : Nat} {sp : Nat → Bool} {held : Bool} (C P Z S O : Bool) :
    DataW.Trod enc Tryd.prog w base sp held 24 (.agg #[.bool C, .bool P, .bool Z, .bool S, .bool O]) (.agg [.lit (.bool C), .lit (.bool P), .lit (.bool Z), .lit (.bool S), .lit (.bool O)]) [] :=
  ⟨2, by simp [DataW.trod, Tryd.underlying24, Tryd.underlying4, cellsFlags, cellsBool, Value.cells]⟩
end Go.Proofs.YtbfkmnlbmlpogaaDoor
