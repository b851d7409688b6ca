/- Whole structs out of blocks. -/
import Derived.Test.YtdgejingoamfeaaDoorSmall
import Derived.Deep.WholeRow
import Derived.Laws.Tables
import Derived.Laws.Rows
import Derived.BigFrame
namespace Go.Proofs.YtdgejingoamfeaaDoor
open Go.ChangeShapes Go.WideShapes Go.ChangeAt Go.RowKit
set_option linter.unusedVariables false

theorem load_list (w : World) (b f : Nat) (vs : List Value) (h : ∀ j : Nat, ∀ v, vs[j]? = some v → w.cell? ⟨b, f + j, none⟩ = some v) :
    (loadCellsFrom ⟨b, f, none⟩ 0 vs.length #[]).run Tryd.prog w = .ok vs.toArray w := by
  have := run_loadCells_list (P := Tryd.prog) w ⟨b, f, none⟩ vs (fun j v hv => by
    have hadd : (⟨b, f, none⟩ : Addr).add j = ⟨b, f + j, none⟩ := by unfold Addr.add; split <;> simp_all
    rw [hadd]; exact h j v hv)
  simpa [loadCells] using this

theorem IA.load {w : World} {b : Nat} {i : I} (h : IA w b i) : (loadCellsFrom ⟨b, 0, none⟩ 0 24 #[]).run Tryd.prog w = .ok #[.int .i64 i.op, .int .i64 i.sz, .int .i64 i.cd, .int .i64 i.to.k, .int .i64 i.to.r, .int .i64 i.to.b, .int .i64 i.to.x, .int .i64 i.to.s, .bool i.to.rip, .bool i.to.fs, .int .i64 i.to.n, .string i.to.nm, .int .i64 i.to.m, .int .i64 i.fr.k, .int .i64 i.fr.r, .int .i64 i.fr.b, .int .i64 i.fr.x, .int .i64 i.fr.s, .bool i.fr.rip, .bool i.fr.fs, .int .i64 i.fr.n, .string i.fr.nm, .int .i64 i.fr.m, .bool i.sh] w := by
  refine load_list w b 0 [.int .i64 i.op, .int .i64 i.sz, .int .i64 i.cd, .int .i64 i.to.k, .int .i64 i.to.r, .int .i64 i.to.b, .int .i64 i.to.x, .int .i64 i.to.s, .bool i.to.rip, .bool i.to.fs, .int .i64 i.to.n, .string i.to.nm, .int .i64 i.to.m, .int .i64 i.fr.k, .int .i64 i.fr.r, .int .i64 i.fr.b, .int .i64 i.fr.x, .int .i64 i.fr.s, .bool i.fr.rip, .bool i.fr.fs, .int .i64 i.fr.n, .string i.fr.nm, .int .i64 i.fr.m, .bool i.sh] fun j v hv => ?_
  match j, hv with
  | 0, hv => exact (Option.some.inj hv) ▸ h.c0
  | 1, hv => exact (Option.some.inj hv) ▸ h.c1
  | 2, hv => exact (Option.some.inj hv) ▸ h.c2
  | 3, hv => exact (Option.some.inj hv) ▸ h.c3
  | 4, hv => exact (Option.some.inj hv) ▸ h.c4
  | 5, hv => exact (Option.some.inj hv) ▸ h.c5
  | 6, hv => exact (Option.some.inj hv) ▸ h.c6
  | 7, hv => exact (Option.some.inj hv) ▸ h.c7
  | 8, hv => exact (Option.some.inj hv) ▸ h.c8
  | 9, hv => exact (Option.some.inj hv) ▸ h.c9
  | 10, hv => exact (Option.some.inj hv) ▸ h.c10
  | 11, hv => exact (Option.some.inj hv) ▸ h.c11
  | 12, hv => exact (Option.some.inj hv) ▸ h.c12
  | 13, hv => exact (Option.some.inj hv) ▸ h.c13
  | 14, hv => exact (Option.some.inj hv) ▸ h.c14
  | 15, hv => exact (Option.some.inj hv) ▸ h.c15
  | 16, hv => exact (Option.some.inj hv) ▸ h.c16
  | 17, hv => exact (Option.some.inj hv) ▸ h.c17
  | 18, hv => exact (Option.some.inj hv) ▸ h.c18
  | 19, hv => exact (Option.some.inj hv) ▸ h.c19
  | 20, hv => exact (Option.some.inj hv) ▸ h.c20
  | 21, hv => exact (Option.some.inj hv) ▸ h.c21
  | 22, hv => exact (Option.some.inj hv) ▸ h.c22
  | 23, hv => exact (Option.some.inj hv) ▸ h.c23
  | k + 24, hv => simp at hv

theorem IA.loadTo {w : World} {b : Nat} {i : I} (h : IA w b i) : (loadCellsFrom ⟨b, 3, none⟩ 0 10 #[]).run Tryd.prog w = .ok #[.int .i64 i.to.k, .int .i64 i.to.r, .int .i64 i.to.b, .int .i64 i.to.x, .int .i64 i.to.s, .bool i.to.rip, .bool i.to.fs, .int .i64 i.to.n, .string i.to.nm, .int .i64 i.to.m] w := by
  refine load_list w b 3 [.int .i64 i.to.k, .int .i64 i.to.r, .int .i64 i.to.b, .int .i64 i.to.x, .int .i64 i.to.s, .bool i.to.rip, .bool i.to.fs, .int .i64 i.to.n, .string i.to.nm, .int .i64 i.to.m] fun j v hv => ?_
  match j, hv with
  | 0, hv => exact (Option.some.inj hv) ▸ h.c3
  | 1, hv => exact (Option.some.inj hv) ▸ h.c4
  | 2, hv => exact (Option.some.inj hv) ▸ h.c5
  | 3, hv => exact (Option.some.inj hv) ▸ h.c6
  | 4, hv => exact (Option.some.inj hv) ▸ h.c7
  | 5, hv => exact (Option.some.inj hv) ▸ h.c8
  | 6, hv => exact (Option.some.inj hv) ▸ h.c9
  | 7, hv => exact (Option.some.inj hv) ▸ h.c10
  | 8, hv => exact (Option.some.inj hv) ▸ h.c11
  | 9, hv => exact (Option.some.inj hv) ▸ h.c12
  | k + 10, hv => simp at hv

theorem IA.loadFr {w : World} {b : Nat} {i : I} (h : IA w b i) : (loadCellsFrom ⟨b, 13, none⟩ 0 10 #[]).run Tryd.prog w = .ok #[.int .i64 i.fr.k, .int .i64 i.fr.r, .int .i64 i.fr.b, .int .i64 i.fr.x, .int .i64 i.fr.s, .bool i.fr.rip, .bool i.fr.fs, .int .i64 i.fr.n, .string i.fr.nm, .int .i64 i.fr.m] w := by
  refine load_list w b 13 [.int .i64 i.fr.k, .int .i64 i.fr.r, .int .i64 i.fr.b, .int .i64 i.fr.x, .int .i64 i.fr.s, .bool i.fr.rip, .bool i.fr.fs, .int .i64 i.fr.n, .string i.fr.nm, .int .i64 i.fr.m] fun j v hv => ?_
  match j, hv with
  | 0, hv => exact (Option.some.inj hv) ▸ h.c13
  | 1, hv => exact (Option.some.inj hv) ▸ h.c14
  | 2, hv => exact (Option.some.inj hv) ▸ h.c15
  | 3, hv => exact (Option.some.inj hv) ▸ h.c16
  | 4, hv => exact (Option.some.inj hv) ▸ h.c17
  | 5, hv => exact (Option.some.inj hv) ▸ h.c18
  | 6, hv => exact (Option.some.inj hv) ▸ h.c19
  | 7, hv => exact (Option.some.inj hv) ▸ h.c20
  | 8, hv => exact (Option.some.inj hv) ▸ h.c21
  | 9, hv => exact (Option.some.inj hv) ▸ h.c22
  | k + 10, hv => simp at hv

theorem OA.load {w : World} {b : Nat} {o : O} (h : OA w b o) : (loadCellsFrom ⟨b, 0, none⟩ 0 10 #[]).run Tryd.prog w = .ok #[.int .i64 o.k, .int .i64 o.r, .int .i64 o.b, .int .i64 o.x, .int .i64 o.s, .bool o.rip, .bool o.fs, .int .i64 o.n, .string o.nm, .int .i64 o.m] w := by
  refine load_list w b 0 [.int .i64 o.k, .int .i64 o.r, .int .i64 o.b, .int .i64 o.x, .int .i64 o.s, .bool o.rip, .bool o.fs, .int .i64 o.n, .string o.nm, .int .i64 o.m] fun j v hv => ?_
  match j, hv with
  | 0, hv => exact (Option.some.inj hv) ▸ h.c0
  | 1, hv => exact (Option.some.inj hv) ▸ h.c1
  | 2, hv => exact (Option.some.inj hv) ▸ h.c2
  | 3, hv => exact (Option.some.inj hv) ▸ h.c3
  | 4, hv => exact (Option.some.inj hv) ▸ h.c4
  | 5, hv => exact (Option.some.inj hv) ▸ h.c5
  | 6, hv => exact (Option.some.inj hv) ▸ h.c6
  | 7, hv => exact (Option.some.inj hv) ▸ h.c7
  | 8, hv => exact (Option.some.inj hv) ▸ h.c8
  | 9, hv => exact (Option.some.inj hv) ▸ h.c9
  | k + 10, hv => simp at hv

theorem RA.load {w : World} {b : Nat} {r : R} (h : RA w b r) : (loadCellsFrom ⟨b, 0, none⟩ 0 9 #[]).run Tryd.prog w = .ok #[.string r.stem, .int .i64 r.sizes, .bool r.lettered, .bool r.conditional, .bool r.short, .func (.func r.f) #[] #[], .int .i64 r.to, .int .i64 r.uses, .int .i64 r.sets] w := by
  refine load_list w b 0 [.string r.stem, .int .i64 r.sizes, .bool r.lettered, .bool r.conditional, .bool r.short, .func (.func r.f) #[] #[], .int .i64 r.to, .int .i64 r.uses, .int .i64 r.sets] fun j v hv => ?_
  match j, hv with
  | 0, hv => exact (Option.some.inj hv) ▸ h.c0
  | 1, hv => exact (Option.some.inj hv) ▸ h.c1
  | 2, hv => exact (Option.some.inj hv) ▸ h.c2
  | 3, hv => exact (Option.some.inj hv) ▸ h.c3
  | 4, hv => exact (Option.some.inj hv) ▸ h.c4
  | 5, hv => exact (Option.some.inj hv) ▸ h.c5
  | 6, hv => exact (Option.some.inj hv) ▸ h.c6
  | 7, hv => exact (Option.some.inj hv) ▸ h.c7
  | 8, hv => exact (Option.some.inj hv) ▸ h.c8
  | k + 9, hv => simp at hv

theorem size_inst : (Tryd.prog.info? 25).map (·.size) = some 24 := by kernel_rfl
theorem size_opd : (Tryd.prog.info? 23).map (·.size) = some 10 := by kernel_rfl
theorem under_inst : Tryd.prog.underlying 25 = some (.struct (Tryd.prog.fieldsOf 25)) := by kernel_rfl
theorem under_opd : Tryd.prog.underlying 23 = some (.struct (Tryd.prog.fieldsOf 23)) := by kernel_rfl

theorem loadVar_of {w : World} {t : TypeId} {f : Array Field} {a : Addr} {n : Nat} {cs : Array Value} (hu : Tryd.prog.underlying t = some (.struct f)) (hi : (Tryd.prog.info? t).map (·.size) = some n)
    (hl : (loadCellsFrom a 0 n #[]).run Tryd.prog w = .ok cs w) : (loadVar t a).run Tryd.prog w = .ok (.agg cs) w := by
  cases hq : Tryd.prog.info? t with
  | none => simp [hq] at hi
  | some i =>
    have hs : i.size = n := by simpa [hq] using hi
    simp [loadVar, isAgg, run_underlying hu, sizeOf, typeInfo, hq, hs, loadCells, hl]

/-- The law of a load whose value is known. -/
theorem wpList_load_of {ops : Array Oper} {rest : List Oper} {o : Oper} {a : Act} {w : World} {Q : Exit → Act → World → Prop} {t : TypeId} {x : Operand} {p : Addr} {v : Value} (ho : o.op = .load t x)
    (hw : Region.wanted o (yielded ops a.tmps) = true) (hx : a.eval x = .pointer (some p)) (hl : (loadVar t p).run Tryd.prog w = .ok v w)
    (h : wpList Tryd.prog ops Q rest (a.put o.dst v) w) : wpList Tryd.prog ops Q (o :: rest) a w := by
  refine BigFrame.wpList_want hw fun K hK => ?_
  unfold Oper.wp execOp
  simp only [ho, hx, Instr.loadAt, Instr.sureAddr, Sem.run_bind, Sem.run_pure, Result.andThen_ok, hl]
  exact hK _ _ h

theorem IA.whole {w : World} {b : Nat} {i : I} (h : IA w b i) : (loadVar 25 ⟨b, 0, none⟩).run Tryd.prog w = .ok i.val w := loadVar_of under_inst size_inst h.load
end Go.Proofs.YtdgejingoamfeaaDoor
