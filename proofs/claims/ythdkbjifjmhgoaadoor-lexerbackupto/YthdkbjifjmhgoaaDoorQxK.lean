/- The program's kinds of bytes: the table is what kz says. -/
import Derived.Test.YthdkbjifjmhgoaaDoorQxC3
import Derived.Laws.Rows
namespace Go.Proofs.YthdkbjifjmhgoaaDoor
open Go.ChangeShapes Go.WideShapes Go.ChangeAt Go.RowKit
set_option linter.unusedVariables false
set_option linter.unusedSimpArgs false

/-- The law of an operation whose value is known. -/
theorem wpList_val {ops : Array Oper} {rest : List Oper} {o : Oper} {a : Act} {w : World} {Q : Exit → Act → World → Prop} {v : Value} (hw : Region.wanted o (yielded ops a.tmps) = true)
    (hx : (execOp a.eval o).run Tryd.prog w = .ok (.value v) w) (h : wpList Tryd.prog ops Q rest (a.put o.dst v) w) : wpList Tryd.prog ops Q (o :: rest) a w := by
  refine BigFrame.wpList_want hw fun K hK => ?_
  unfold Oper.wp
  rw [hx, Oper.upon_value]
  exact hK _ _ h
theorem wpList_does {ops : Array Oper} {rest : List Oper} {o : Oper} {a : Act} {w w' : World} {Q : Exit → Act → World → Prop} {v : Value} (hw : Region.wanted o (yielded ops a.tmps) = true)
    (hx : (execOp a.eval o).run Tryd.prog w = .ok (.value v) w') (h : wpList Tryd.prog ops Q rest (a.put o.dst v) w') : wpList Tryd.prog ops Q (o :: rest) a w := by
  refine BigFrame.wpList_want hw fun K hK => ?_
  unfold Oper.wp
  rw [hx, Oper.upon_value]
  exact hK _ _ h
theorem wpList_call {ops : Array Oper} {rest : List Oper} {o : Oper} {a : Act} {w : World} {Q : Exit → Act → World → Prop} {f : FuncId} {args : Array Value} {v : Value} {T : World → Prop} (hw : Region.wanted o (yielded ops a.tmps) = true)
    (hx : (execOp a.eval o).run Tryd.prog w = .ok (.enter f args) w) (hc : Calls Tryd.prog f args w fun e w' => e = .returned v ∧ T w') (h : ∀ w', T w' → wpList Tryd.prog ops Q rest (a.put o.dst v) w') : wpList Tryd.prog ops Q (o :: rest) a w := by
  refine BigFrame.wpList_want hw fun K hK => ?_
  unfold Oper.wp
  rw [hx, Oper.upon_enter]
  refine hc.mono ?_
  rintro e w' ⟨rfl, ht⟩
  exact hK _ _ (h _ ht)
theorem wpList_load_of {ops : Array Oper} {rest : List Oper} {o : Oper} {a : Act} {w : World} {Q : Exit → Act → World → Prop} {t : TypeId} {x : Operand} {p : Addr} {v : Value} (ho : o.op = .load t x)
    (hw : Region.wanted o (yielded ops a.tmps) = true) (hx : a.eval x = .pointer (some p)) (hl : (loadVar t p).run Tryd.prog w = .ok v w)
    (h : wpList Tryd.prog ops Q rest (a.put o.dst v) w) : wpList Tryd.prog ops Q (o :: rest) a w := by
  refine BigFrame.wpList_want hw fun K hK => ?_
  unfold Oper.wp execOp
  simp only [ho, hx, Instr.loadAt, Instr.sureAddr, Sem.run_bind, Sem.run_pure, Result.andThen_ok, hl]
  exact hK _ _ h

/-- A table of numbers, as cells. -/
def karr (f : Nat → Int) : Array Value := ((List.range 256).map fun j => Value.int .u8 (f j)).toArray
theorem karr_size (f : Nat → Int) : (karr f).size = 256 := by simp [karr]
theorem karr_at (f : Nat → Int) (j : Nat) (h : j < 256) : (karr f)[j]? = some (.int .u8 (f j)) := by simp [karr, h]
def upd (f : Nat → Int) (c : Nat) (v : Int) (j : Nat) : Int := if j = c then v else f j
theorem karr_set (f : Nat → Int) (c : Nat) (v : Int) (h : c < 256) : (karr f).setIfInBounds c (.int .u8 v) = karr (upd f c v) := by
  apply Array.ext_getElem?
  intro i
  by_cases hi : i < 256
  · rw [karr_at _ i hi, Array.getElem?_setIfInBounds]
    unfold upd
    by_cases e : c = i
    · subst e; simp [karr_size, h]
    · rw [if_neg e, karr_at _ i hi, if_neg (fun e' => e e'.symm)]
  · rw [Array.getElem?_eq_none (by simp [karr_size]; omega), Array.getElem?_eq_none (by simp [karr_size]; omega)]
/-- A table lies in block b. -/
def KB (w : World) (b : Nat) (f : Nat → Int) : Prop := w.heap[b]? = some (.cells (karr f) 53 (0, 0))
theorem KB.cell {w : World} {b : Nat} {f : Nat → Int} (h : KB w b f) (j : Nat) (hj : j < 256) : w.cell? ⟨b, j, none⟩ = some (.int .u8 (f j)) ∧ w.frozen? ⟨b, j, none⟩ = false := by
  unfold KB at h
  constructor
  · simp only [World.cell?, h]; simpa using karr_at f j hj
  · simp [World.frozen?, h]
theorem KB.set {w : World} {b : Nat} {f : Nat → Int} (h : KB w b f) (c : Nat) (hc : c < 256) (v : Int) : KB (w.setCell ⟨b, c, none⟩ (.int .u8 v)) b (upd f c v) := by
  unfold KB at h ⊢
  rw [setCell_eq_setRow w b c _ _ _ _ h, setRow_heap w b _ _ _ _ h, karr_set f c v hc]
theorem KB.turn {w w' : World} {b : Nat} {f : Nat → Int} (h : KB w b f) {S : Nat → Prop} (ht : Turn S w w') (hb : ¬ S b) : KB w' b f := by
  have h' : w.heap[b]? = _ := h
  exact (ht.block b (Array.getElem?_eq_some_iff.1 h').1 hb).trans h
def orAll (K : Int) : List UInt8 → (Nat → Int) → Nat → Int
  | [], f => f
  | c :: r, f => orAll K r (upd f c.toNat (bits .or .u8 (f c.toNat) K))
theorem orAll_snoc (K : Int) : ∀ (l : List UInt8) (c : UInt8) (f : Nat → Int), orAll K (l ++ [c]) f = upd (orAll K l f) c.toNat (bits .or .u8 (orAll K l f c.toNat) K)
  | [], c, f => rfl
  | d :: l, c, f => orAll_snoc K l c _
end Go.Proofs.YthdkbjifjmhgoaaDoor
