/- Structs in blocks; operations one by one. -/
import Derived.Test.YtojiomkinhnodaaRMap
import Derived.Laws.Tables
import Derived.Great.BuildSlice
import Derived.Deep.RegionHeld3
import Derived.Deep.MidRow
import Derived.Deep.CutRange
import Derived.BigQuiet
import Derived.Deep.QuietTactic
import Derived.Shelf.Abstract
namespace Go.Proofs.Ytojiomkinhnodaa
open Go.ChangeShapes Go.WideShapes Go.ChangeAt Go.RowKit Go.Maps
set_option linter.unusedVariables false
set_option linter.unusedSimpArgs false

/-- These cells lie in block b, and may be written. -/
structure Bk (w : World) (b t : Nat) (cs : Array Value) : Prop where
  hp : w.heap[b]? = some (.cells cs t (0, 0))
section
variable {w v : World} {b t : Nat} {cs : Array Value}
theorem Bk.lt (h : Bk w b t cs) : b < w.heap.size := (Array.getElem?_eq_some_iff.1 h.hp).1
theorem Bk.new (w : World) (cs : Array Value) (t : Nat) : Bk (w.alloc (.cells cs t)) w.heap.size t cs := ⟨heap_alloc_new w _⟩
theorem Bk.of (h : Bk w b t cs) (e : v.heap[b]? = w.heap[b]?) : Bk v b t cs := ⟨e.trans h.hp⟩
theorem Bk.bel (h : Bk w b t cs) {B : Nat} (g : Below B w v) (hB : b < B) : Bk v b t cs := h.of (g.block b hB)
theorem Bk.setO (h : Bk w b t cs) {c : Nat} (hc : b ≠ c) (V : Array Value) : Bk (w.setRow c V) b t cs := h.of (setRow_other _ _ _ _ hc)
theorem Bk.setR (h : Bk w b t cs) (V : Array Value) : Bk (w.setRow b V) b t V := ⟨setRow_heap w b _ V _ _ h.hp⟩
theorem Bk.cell (h : Bk w b t cs) (j : Nat) {x : Value} (hj : cs[j]? = some x) : w.cell? ⟨b, j, none⟩ = some x := by
  simp only [World.cell?, h.hp]; simpa using hj
theorem Bk.fro (h : Bk w b t cs) (j : Nat) : w.frozen? ⟨b, j, none⟩ = false := by simp [World.frozen?, h.hp]
theorem Bk.range (h : Bk w b t cs) (o : Nat) (M : List Value) (hM : ∀ j v, M[j]? = some v → cs[o + j]? = some v) : w.rangeAt b o M := fun j v hv => h.cell (o + j) (hM j v hv)
end

/-- Cells written over from a place on. -/
def putAt (cur : Array Value) : Nat → List Value → Array Value
  | _, [] => cur
  | k, v :: vs => putAt (cur.setIfInBounds k v) (k + 1) vs
theorem run_store_part (g off : Nat) (t : TypeId) : ∀ (vs : List Value) (i : Nat) (cur : Array Value) (w : World), w.heap[g]? = some (.cells cur t (0, 0)) → off + i + vs.length ≤ cur.size → (∀ v ∈ vs, v.oneCell' = true) →
    (storeCells ⟨g, off, none⟩ vs i).run Try.prog w = .ok () (w.setRow g (putAt cur (off + i) vs))
  | [], i, cur, w, hg, hl, _ => by
    have hlt : g < w.heap.size := (Array.getElem?_eq_some_iff.1 hg).1
    have hv : w.heap[g] = .cells cur t (0, 0) := (Array.getElem?_eq_some_iff.1 hg).2
    simp only [storeCells, putAt]
    show Result.ok () w = _
    congr 1
    unfold World.setRow
    cases w with
    | mk heap tape drawn os output =>
      congr 1
      apply Array.ext
      · simp
      · intro k h1 h2
        simp only [Array.getElem_modify]
        split
        · rename_i hk; subst hk; simp at hv; simp [hv]
        · rfl
  | v :: rest, i, cur, w, hg, hl, h1 => by
    have hi : off + i < cur.size := by simp at hl; omega
    have hadd : (⟨g, off, none⟩ : Addr).add i = ⟨g, off + i, none⟩ := by unfold Addr.add; split <;> simp_all
    have hcell : w.cell? ⟨g, off + i, none⟩ = some cur[off + i] := by simp [World.cell?, hg, hi]
    have hfro : w.frozen? ⟨g, off + i, none⟩ = false := by simp [World.frozen?, hg]
    have hst : (store ((⟨g, off, none⟩ : Addr).add i) v).run Try.prog w = .ok () (w.setRow g (cur.setIfInBounds (off + i) v)) := by
      rw [hadd, run_store Try.prog w _ v _ (h1 v (by simp)), hcell]
      simp [hfro, setCell_eq_setRow w g (off + i) cur t (0, 0) v hg]
    have ih := run_store_part g off t rest (i + 1) (cur.setIfInBounds (off + i) v) (w.setRow g (cur.setIfInBounds (off + i) v)) (setRow_heap w g cur _ t _ hg) (by simp at hl ⊢; omega) (fun x hx => h1 x (by simp [hx]))
    simp only [storeCells, Sem.run_bind, hst, Result.andThen_ok, ih, setRow_setRow]
    rfl
theorem putAt_mid : ∀ (M M' A B : List Value), M.length = M'.length → putAt (A ++ (M ++ B)).toArray A.length M' = (A ++ (M' ++ B)).toArray
  | [], [], A, B, _ => rfl
  | m :: M, m' :: M', A, B, h => by
    show putAt ((A ++ (m :: M ++ B)).toArray.setIfInBounds A.length m') (A.length + 1) M' = _
    have e : (A ++ (m :: M ++ B)).toArray.setIfInBounds A.length m' = ((A ++ [m']) ++ (M ++ B)).toArray := by
      simp [List.setIfInBounds_toArray]
    have ih := putAt_mid M M' (A ++ [m']) B (by simpa using h)
    rw [e, show A.length + 1 = (A ++ [m']).length by simp, ih]
    simp
  | [], _ :: _, _, _, h => by simp at h
  | _ :: _, [], _, _, h => by simp at h

/-- A store into a part of what lies in a block. -/
theorem wp_part {o : Oper} {a : Act} {w : World} {K : Act → World → Prop} {Q : Exit → Act → World → Prop} {ty : TypeId} {x y : Operand} {g off : Nat} {val : Value} {t : TypeId} {old new : Array Value} (ho : o.op = .store ty x y)
    (hx : a.eval x = .pointer (some ⟨g, off, none⟩)) (hy : a.eval y = val)
    (hg : Bk w g t old) (hi : (Try.prog.info? ty).map (·.size) = some val.cells.toList.length)
    (hle : off + val.cells.toList.length ≤ old.size) (h1 : ∀ u ∈ val.cells.toList, u.oneCell' = true) (hn : putAt old off val.cells.toList = new)
    (h : K (a.put o.dst undef) (w.setRow g new)) : o.wp Try.prog a w K Q := by
  have hs := run_store_part g off t val.cells.toList 0 old w hg.hp (by omega) h1
  rw [Nat.add_zero, hn] at hs
  have hv : (storeVar ty ⟨g, off, none⟩ val).run Try.prog w = .ok () (w.setRow g new) := by
    cases hq : Try.prog.info? ty with
    | none => simp [hq] at hi
    | some i =>
      have hz : val.cells.size = i.size := by simp [hq] at hi; omega
      simp [storeVar, sizeOf, typeInfo, hq, hz, hs]
  unfold Oper.wp execOp
  simp only [ho, hx, hy, Instr.storeAt, Instr.sureAddr, Sem.run_bind, Sem.run_pure, Result.andThen_ok, hv]
  exact h
theorem wpList_part {ops : Array Oper} {rest : List Oper} {o : Oper} {a : Act} {w : World} {Q : Exit → Act → World → Prop} {ty : TypeId} {x y : Operand} {g off : Nat} {val : Value} {t : TypeId} {old new : Array Value} (hgd : o.guard = none) (ho : o.op = .store ty x y)
    (hx : a.eval x = .pointer (some ⟨g, off, none⟩)) (hy : a.eval y = val)
    (hg : Bk w g t old) (hi : (Try.prog.info? ty).map (·.size) = some val.cells.toList.length)
    (hle : off + val.cells.toList.length ≤ old.size) (h1 : ∀ u ∈ val.cells.toList, u.oneCell' = true) (hn : putAt old off val.cells.toList = new)
    (h : wpList Try.prog ops Q rest (a.put o.dst undef) (w.setRow g new)) : wpList Try.prog ops Q (o :: rest) a w :=
  wpList_plain hgd fun _ hK => wp_part ho hx hy hg hi hle h1 hn (hK _ _ h)

theorem load_list (w : World) (b f : Nat) (vs : List Value) (h : ∀ j : Nat, ∀ v, vs[j]? = some v → w.cell? ⟨b, f + j, none⟩ = some v) :
    (loadCellsFrom ⟨b, f, none⟩ 0 vs.length #[]).run Try.prog w = .ok vs.toArray w := by
  have := run_loadCells_list (P := Try.prog) w ⟨b, f, none⟩ vs (fun j v hv => by
    have hadd : (⟨b, f, none⟩ : Addr).add j = ⟨b, f + j, none⟩ := by unfold Addr.add; split <;> simp_all
    rw [hadd]; exact h j v hv)
  simpa [loadCells] using this

theorem loadVar_of {w : World} {t : TypeId} {f : Array Field} {a : Addr} {n : Nat} {cs : Array Value} (hu : Try.prog.underlying t = some (.struct f)) (hi : (Try.prog.info? t).map (·.size) = some n)
    (hl : (loadCellsFrom a 0 n #[]).run Try.prog w = .ok cs w) : (loadVar t a).run Try.prog w = .ok (.agg cs) w := by
  cases hq : Try.prog.info? t with
  | none => simp [hq] at hi
  | some i =>
    have hs : i.size = n := by simpa [hq] using hi
    simp [loadVar, isAgg, run_underlying hu, sizeOf, typeInfo, hq, hs, loadCells, hl]


/-- The law of an operation whose value is known. -/
theorem wpList_val {ops : Array Oper} {rest : List Oper} {o : Oper} {a : Act} {w : World} {Q : Exit → Act → World → Prop} {v : Value} (hw : Region.wanted o (yielded ops a.tmps) = true)
    (hx : (execOp a.eval o).run Try.prog w = .ok (.value v) w) (h : wpList Try.prog ops Q rest (a.put o.dst v) w) : wpList Try.prog ops Q (o :: rest) a w := by
  refine BigFrame.wpList_want hw fun K hK => ?_
  unfold Oper.wp
  rw [hx, Oper.upon_value]
  exact hK _ _ h
theorem wpList_does {ops : Array Oper} {rest : List Oper} {o : Oper} {a : Act} {w w' : World} {Q : Exit → Act → World → Prop} {v : Value} (hw : Region.wanted o (yielded ops a.tmps) = true)
    (hx : (execOp a.eval o).run Try.prog w = .ok (.value v) w') (h : wpList Try.prog ops Q rest (a.put o.dst v) w') : wpList Try.prog ops Q (o :: rest) a w := by
  refine BigFrame.wpList_want hw fun K hK => ?_
  unfold Oper.wp
  rw [hx, Oper.upon_value]
  exact hK _ _ h
theorem wpList_call {ops : Array Oper} {rest : List Oper} {o : Oper} {a : Act} {w : World} {Q : Exit → Act → World → Prop} {f : FuncId} {args : Array Value} {v : Value} {T : World → Prop} (hw : Region.wanted o (yielded ops a.tmps) = true)
    (hx : (execOp a.eval o).run Try.prog w = .ok (.enter f args) w) (hc : Calls Try.prog f args w fun e w' => e = .returned v ∧ T w') (h : ∀ w', T w' → wpList Try.prog ops Q rest (a.put o.dst v) w') : wpList Try.prog ops Q (o :: rest) a w := by
  refine BigFrame.wpList_want hw fun K hK => ?_
  unfold Oper.wp
  rw [hx, Oper.upon_enter]
  refine hc.mono ?_
  rintro e w' ⟨rfl, ht⟩
  exact hK _ _ (h _ ht)
theorem wpList_load_of {ops : Array Oper} {rest : List Oper} {o : Oper} {a : Act} {w : World} {Q : Exit → Act → World → Prop} {t : TypeId} {x : Operand} {p : Addr} {v : Value} (ho : o.op = .load t x)
    (hw : Region.wanted o (yielded ops a.tmps) = true) (hx : a.eval x = .pointer (some p)) (hl : (loadVar t p).run Try.prog w = .ok v w)
    (h : wpList Try.prog ops Q rest (a.put o.dst v) w) : wpList Try.prog ops Q (o :: rest) a w := by
  refine BigFrame.wpList_want hw fun K hK => ?_
  unfold Oper.wp execOp
  simp only [ho, hx, Instr.loadAt, Instr.sureAddr, Sem.run_bind, Sem.run_pure, Result.andThen_ok, hl]
  exact hK _ _ h

theorem exec_loadV {w : World} {a : Act} {o : Oper} {t : TypeId} {x : Operand} {p : Addr} {v : Value} (ho : o.op = .load t x) (hx : a.eval x = .pointer (some p)) (hl : (loadVar t p).run Try.prog w = .ok v w) : (execOp a.eval o).run Try.prog w = .ok (.value v) w := by
  unfold execOp
  simp only [ho, hx, Instr.loadAt, Instr.sureAddr, Sem.run_bind, Sem.run_pure, Result.andThen_ok, hl]
theorem exec_ix {w : World} {a : Act} {o : Oper} {t : TypeId} {x y : Operand} {vx vy v : Value} (ho : o.op = .indexAddr t x y) (hx : a.eval x = vx) (hy : a.eval y = vy) (hl : (Instr.indexAt t vx vy).run Try.prog w = .ok v w) : (execOp a.eval o).run Try.prog w = .ok (.value v) w := by
  unfold execOp
  simp only [ho, hx, hy, Sem.run_bind, Sem.run_pure, Result.andThen_ok, hl]
theorem load_i64 {w : World} {p : Addr} {y : Int} (hc : w.cell? p = some (.int .i64 y)) : (loadVar 3 p).run Try.prog w = .ok (.int .i64 y) w := by
  simp [loadVar, isAgg, run_underlying Try.underlying3, go_sem, hc]
theorem load_bool {w : World} {p : Addr} {y : Bool} (hc : w.cell? p = some (.bool y)) : (loadVar 4 p).run Try.prog w = .ok (.bool y) w := by
  simp [loadVar, isAgg, run_underlying Try.underlying4, go_sem, hc]
theorem load_str {w : World} {p : Addr} {y : ByteArray} (hc : w.cell? p = some (.string y)) : (loadVar 9 p).run Try.prog w = .ok (.string y) w := by
  simp [loadVar, isAgg, run_underlying Try.underlying9, go_sem, hc]
theorem sizeInt : (Try.prog.info? 3).map (·.size) = some 1 := by kernel_rfl
theorem sizeBool : (Try.prog.info? 4).map (·.size) = some 1 := by kernel_rfl

/-- A struct that lies in a block, whole or as a part. -/
theorem Bk.loadA {w : World} {b tt t n : Nat} {f : Array Field} {cs : Array Value} (h : Bk w b tt cs) (off : Nat) (vs : List Value) (hu : Try.prog.underlying t = some (.struct f)) (hi : (Try.prog.info? t).map (·.size) = some n) (hn : vs.length = n) (hv : (cs.toList.drop off).take n = vs) : (loadVar t ⟨b, off, none⟩).run Try.prog w = .ok (.agg vs.toArray) w := by
  refine loadVar_of hu hi ?_
  subst hn
  refine load_list w b off vs fun j v hj => h.cell (off + j) ?_
  have hjl : j < vs.length := (List.getElem?_eq_some_iff.1 hj).1
  rw [← hv, List.getElem?_take_of_lt hjl, List.getElem?_drop] at hj
  simpa using hj
end Go.Proofs.Ytojiomkinhnodaa
