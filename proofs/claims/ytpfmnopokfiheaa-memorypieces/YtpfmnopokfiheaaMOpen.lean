/- A call that is handed in, opened. -/
import Derived.Test.YtpfmnopokfiheaaNilWalk
import Derived.OpenShut
import Derived.ChangeOld
import Derived.Deep.Slices
namespace Go.Proofs.Ytpfmnopokfiheaa
open Go.ChangeShapes Go.WideShapes Go.ChangeAt Go.RowKit Go.Maps
set_option linter.unusedVariables false
set_option linter.unusedSimpArgs false

theorem cells3 : Try.prog.cellsOf 3 = 1 := by kernel_rfl
theorem u64_nat {x : Int} (h : (Lit.int .u64 x).wf = true) : ∃ a : Nat, x = (a : Int) ∧ a < 18446744073709551616 := by
  have : 0 ≤ x ∧ x ≤ 18446744073709551615 := by simpa [Lit.wf, IntKind.min, IntKind.max, IntKind.signed, IntKind.bits] using h
  exact ⟨x.toNat, by omega, by omega⟩
theorem cells5 : Try.prog.cellsOf 5 = 1 := by kernel_rfl
theorem cells30 : Try.prog.cellsOf 30 = 1 := by kernel_rfl
theorem cells31 : Try.prog.cellsOf 31 = 1 := by kernel_rfl
theorem cellsOp : Try.prog.cellsOf 33 = 6 := by kernel_rfl

theorem open_row {H : Type} {enc : TypeId × Value → H} {w : World} {base : Nat} {sp : Nat → Bool} {held : Bool} {fuel : Nat} {cs : List Value} {x : DataW H × List MemPlace}
    (h : DataW.trod enc Try.prog w base sp held fuel 31 cs = some x) : ∃ ao len cap bs, cs = [.slice ao len cap] ∧ IsRow w ao len cap bs := by
  rcases Deep.open_slice1 Try.underlying31 cells5 h with ⟨rfl, _⟩ | ⟨a, len, cap, m, n, V, D, Pl, rfl, _, hl, hm, hmm, _, hc⟩
  · exact ⟨none, 0, 0, _, rfl, IsRow.none w⟩
  · have hV : ∀ i, i < m → ∃ y, V i = .int .u8 y ∧ (Lit.int .u8 y).wf = true := fun i hi => by
      obtain ⟨y, e, _, hw⟩ := DataW.trod_int (k := .u8) Try.underlying5 (hc i hi).2
      simp only [List.cons.injEq, and_true] at e
      exact ⟨y, e, hw⟩
    have hlen : ((List.range m).map (fun i => intOf (V i))).length = m := by simp
    have hat : ∀ i, i < m → ((List.range m).map (fun i => intOf (V i))).getD i 0 = intOf (V i) := fun i hi => by simp [hi]
    refine ⟨some a, len, cap, _, rfl, IsRow.some (zs := (List.range m).map (fun i => intOf (V i))) (s := sp a.block) hl hm (by rw [hlen, hmm]) (fun i hi => ?_) (fun y hy => ?_)⟩
    · rw [hlen] at hi
      rw [hat i hi, (hc i hi).1]
      obtain ⟨y, e, _⟩ := hV i hi
      rw [e]
      rfl
    · simp only [List.mem_map, List.mem_range] at hy
      obtain ⟨i, hi, rfl⟩ := hy
      obtain ⟨y, e, hw⟩ := hV i hi
      rw [e]
      exact hw

set_option maxRecDepth 20000 in
/-- What an Op holds. -/
theorem open_opc {H : Type} {enc : TypeId × Value → H} {w : World} {base : Nat} {sp : Nat → Bool} {held : Bool} {fuel : Nat} {cs : List Value} {x : DataW H × List MemPlace}
    (h : DataW.trod enc Try.prog w base sp held fuel 33 cs = some x) :
    ∃ (k : Int) (a : Nat) (n may v : Int) (ao : Option Addr) (len cap : Nat) (bs : Nat → Int), cs = [.int .i64 k, .int .u64 (a : Int), .int .i64 n, .int .i64 may, .int .u64 v, .slice ao len cap] ∧ a < 18446744073709551616 ∧ (Lit.int .i64 k).wf = true ∧ (Lit.int .i64 n).wf = true ∧ (Lit.int .i64 may).wf = true ∧ (Lit.int .u64 v).wf = true ∧ IsRow w ao len cap bs := by
  obtain ⟨xs, n, _, hx, hl, hlen, hfs⟩ := DataW.trod_struct Try.underlying33 h
  rw [cellsOp] at hl
  match cs, hl, xs, hlen with
  | [c0, c1, c2, c3, c4, c5], _, [y0, y1, y2, y3, y4, y5], _ =>
    have h0 := hfs 0 _ rfl
    have h1 := hfs 1 _ rfl
    have h2 := hfs 2 _ rfl
    have h3 := hfs 3 _ rfl
    have h4 := hfs 4 _ rfl
    have h5 := hfs 5 _ rfl
    simp [cells3, cells30, cells31] at h0 h1 h2 h3 h4 h5
    obtain ⟨x0, e0, _, z0⟩ := DataW.trod_int Try.underlying3 h0
    obtain ⟨x1, e1, _, z1⟩ := DataW.trod_int Try.underlying30 h1
    obtain ⟨x2, e2, _, z2⟩ := DataW.trod_int Try.underlying3 h2
    obtain ⟨x3, e3, _, z3⟩ := DataW.trod_int Try.underlying3 h3
    obtain ⟨x4, e4, _, z4⟩ := DataW.trod_int Try.underlying30 h4
    obtain ⟨ao, len, cap, bs, e5, hr⟩ := open_row h5
    simp at e0 e1 e2 e3 e4 e5
    subst e0 e1 e2 e3 e4 e5
    obtain ⟨a, rfl, ha⟩ := u64_nat z1
    exact ⟨x0, a, x2, x3, x4, ao, len, cap, bs, rfl, ha, z0, z2, z3, z4, hr⟩

set_option maxRecDepth 20000 in
theorem open_op {H : Type} {enc : TypeId × Value → H} {w : World} {base b0 : Nat} {sp : Nat → Bool} {held : Bool} {r : Reach} {v : Value} {d : DataW H} {p : List MemPlace}
    (hval : Value.okWide Try.prog w r b0 33 v) (hd : DataW.Trod enc Try.prog w base sp held 33 v d p) :
    ∃ (k : Int) (a : Nat) (n may x : Int) (ao : Option Addr) (len cap : Nat) (bs : Nat → Int), v = opV k a n may x (.slice ao len cap) ∧ a < 18446744073709551616 ∧ (Lit.int .i64 n).wf = true ∧ (Lit.int .i64 may).wf = true ∧ (Lit.int .u64 x).wf = true ∧ IsRow w ao len cap bs := by
  obtain ⟨cs, rfl, hsz⟩ := okWide_struct Try.underlying33 hval
  obtain ⟨fuel, hf⟩ := hd
  obtain ⟨k, a, n, may, x, ao, len, cap, bs, e, ha, _, h1, h2, h3, h4⟩ := open_opc hf
  refine ⟨k, a, n, may, x, ao, len, cap, bs, ?_, ha, h1, h2, h3, h4⟩
  obtain ⟨l⟩ := cs
  simp only [Value.cells] at e
  unfold opV
  rw [e]
end Go.Proofs.Ytpfmnopokfiheaa
