/- The contract of instruction. -/
import Derived.Test.YtjbepojopfbajaaDFn
import Derived.Test.YtjbepojopfbajaaDSet
namespace Go.Proofs.Ytjbepojopfbajaa
open Go.ChangeShapes Go.WideShapes Go.ChangeAt Go.RowKit
set_option linter.unusedVariables false
set_option linter.unusedSimpArgs false

abbrev setI (w : World) (b : Nat) (i : I) : World := (((((((((((((((((((((((w.setCell ⟨b, 0, none⟩ (.int .i64 i.op)).setCell ⟨b, 1, none⟩ (.int .i64 i.sz)).setCell ⟨b, 2, none⟩ (.int .i64 i.cd)).setCell ⟨b, 3, none⟩ (.int .i64 i.to.k)).setCell ⟨b, 4, none⟩ (.int .i64 i.to.r)).setCell ⟨b, 5, none⟩ (.int .i64 i.to.b)).setCell ⟨b, 6, none⟩ (.int .i64 i.to.x)).setCell ⟨b, 7, none⟩ (.int .i64 i.to.s)).setCell ⟨b, 8, none⟩ (.bool i.to.rip)).setCell ⟨b, 9, none⟩ (.bool i.to.fs)).setCell ⟨b, 10, none⟩ (.int .i64 i.to.n)).setCell ⟨b, 11, none⟩ (.string i.to.nm)).setCell ⟨b, 12, none⟩ (.int .i64 i.to.m)).setCell ⟨b, 13, none⟩ (.int .i64 i.fr.k)).setCell ⟨b, 14, none⟩ (.int .i64 i.fr.r)).setCell ⟨b, 15, none⟩ (.int .i64 i.fr.b)).setCell ⟨b, 16, none⟩ (.int .i64 i.fr.x)).setCell ⟨b, 17, none⟩ (.int .i64 i.fr.s)).setCell ⟨b, 18, none⟩ (.bool i.fr.rip)).setCell ⟨b, 19, none⟩ (.bool i.fr.fs)).setCell ⟨b, 20, none⟩ (.int .i64 i.fr.n)).setCell ⟨b, 21, none⟩ (.string i.fr.nm)).setCell ⟨b, 22, none⟩ (.int .i64 i.fr.m)).setCell ⟨b, 23, none⟩ (.bool i.sh)
theorem IA.put {w : World} {b : Nat} {i0 : I} (h : IA w b i0) (i : I) : IA (setI w b i) b i := by
  obtain ⟨c0, c1, c2, c3, c4, c5, c6, c7, c8, c9, c10, c11, c12, c13, c14, c15, c16, c17, c18, c19, c20, c21, c22, c23⟩ := h
  constructor <;> simp [go_sem, c0, c1, c2, c3, c4, c5, c6, c7, c8, c9, c10, c11, c12, c13, c14, c15, c16, c17, c18, c19, c20, c21, c22, c23]
theorem Fr.putI {a b c : Nat} {u v : World} (h : Fr a b u v) (hc : c = a ∨ c = b ∨ u.heap.size ≤ c) (i : I) : Fr a b u (setI v c i) :=
  (((((((((((((((((((((((h.set (p := ⟨c, 0, none⟩) hc _).set (p := ⟨c, 1, none⟩) hc _).set (p := ⟨c, 2, none⟩) hc _).set (p := ⟨c, 3, none⟩) hc _).set (p := ⟨c, 4, none⟩) hc _).set (p := ⟨c, 5, none⟩) hc _).set (p := ⟨c, 6, none⟩) hc _).set (p := ⟨c, 7, none⟩) hc _).set (p := ⟨c, 8, none⟩) hc _).set (p := ⟨c, 9, none⟩) hc _).set (p := ⟨c, 10, none⟩) hc _).set (p := ⟨c, 11, none⟩) hc _).set (p := ⟨c, 12, none⟩) hc _).set (p := ⟨c, 13, none⟩) hc _).set (p := ⟨c, 14, none⟩) hc _).set (p := ⟨c, 15, none⟩) hc _).set (p := ⟨c, 16, none⟩) hc _).set (p := ⟨c, 17, none⟩) hc _).set (p := ⟨c, 18, none⟩) hc _).set (p := ⟨c, 19, none⟩) hc _).set (p := ⟨c, 20, none⟩) hc _).set (p := ⟨c, 21, none⟩) hc _).set (p := ⟨c, 22, none⟩) hc _).set (p := ⟨c, 23, none⟩) hc _
theorem size_inst : (Try.prog.info? 56).map (·.size) = some 24 := by kernel_rfl
theorem under_inst : Try.prog.underlying 56 = some (.struct (Try.prog.fieldsOf 56)) := by kernel_rfl
theorem IA.whole {w : World} {b : Nat} {i : I} (h : IA w b i) : (loadVar 56 ⟨b, 0, none⟩).run Try.prog w = .ok i.val w := by
  refine loadVar_of under_inst size_inst (load_list w b 0 [.int .i64 i.op, .int .i64 i.sz, .int .i64 i.cd, .int .i64 i.to.k, .int .i64 i.to.r, .int .i64 i.to.b, .int .i64 i.to.x, .int .i64 i.to.s, .bool i.to.rip, .bool i.to.fs, .int .i64 i.to.n, .string i.to.nm, .int .i64 i.to.m, .int .i64 i.fr.k, .int .i64 i.fr.r, .int .i64 i.fr.b, .int .i64 i.fr.x, .int .i64 i.fr.s, .bool i.fr.rip, .bool i.fr.fs, .int .i64 i.fr.n, .string i.fr.nm, .int .i64 i.fr.m, .bool i.sh] fun j v hv => ?_)
  match j, hv with
  | 0, hv => exact (Option.some.inj hv) ▸ h.c0
  | 1, hv => exact (Option.some.inj hv) ▸ h.c1
  | 2, hv => exact (Option.some.inj hv) ▸ h.c2
  | 3, hv => exact (Option.some.inj hv) ▸ h.c3
  | 4, hv => exact (Option.some.inj hv) ▸ h.c4
  | 5, hv => exact (Option.some.inj hv) ▸ h.c5
  | 6, hv => exact (Option.some.inj hv) ▸ h.c6
  | 7, hv => exact (Option.some.inj hv) ▸ h.c7
  | 8, hv => exact (Option.some.inj hv) ▸ h.c8
  | 9, hv => exact (Option.some.inj hv) ▸ h.c9
  | 10, hv => exact (Option.some.inj hv) ▸ h.c10
  | 11, hv => exact (Option.some.inj hv) ▸ h.c11
  | 12, hv => exact (Option.some.inj hv) ▸ h.c12
  | 13, hv => exact (Option.some.inj hv) ▸ h.c13
  | 14, hv => exact (Option.some.inj hv) ▸ h.c14
  | 15, hv => exact (Option.some.inj hv) ▸ h.c15
  | 16, hv => exact (Option.some.inj hv) ▸ h.c16
  | 17, hv => exact (Option.some.inj hv) ▸ h.c17
  | 18, hv => exact (Option.some.inj hv) ▸ h.c18
  | 19, hv => exact (Option.some.inj hv) ▸ h.c19
  | 20, hv => exact (Option.some.inj hv) ▸ h.c20
  | 21, hv => exact (Option.some.inj hv) ▸ h.c21
  | 22, hv => exact (Option.some.inj hv) ▸ h.c22
  | 23, hv => exact (Option.some.inj hv) ▸ h.c23
  | k + 24, hv => simp at hv
theorem res_inst {fn : Func} {p : Tmp} (h : fn.results = #[.cell p 56]) (tmps : Array Value) (w : World) (b : Nat) (i : I) (hp : tmps.getD p undef = .pointer (some ⟨b, 0, none⟩)) (hI : IA w b i) :
    (results fn tmps).run Try.prog w = .ok i.val w := by
  have hp' : tmps[p]?.getD undef = .pointer (some ⟨b, 0, none⟩) := by simpa using hp
  simp [results, h, hp', asAddr, hI.whole]
theorem QA.whole {w : World} {b : Nat} {q : Q} (h : QA w b q) : (loadVar 95 ⟨b, 0, none⟩).run Try.prog w = .ok q.val w := by
  refine loadVar_of under_row size_row (load_list w b 0 q.cells fun j v hv => ?_)
  match j, hv with
  | 0, hv => exact (Option.some.inj hv) ▸ h.c0
  | 1, hv => exact (Option.some.inj hv) ▸ h.c1
  | 2, hv => exact (Option.some.inj hv) ▸ h.c2
  | 3, hv => exact (Option.some.inj hv) ▸ h.c3
  | 4, hv => exact (Option.some.inj hv) ▸ h.c4
  | 5, hv => exact (Option.some.inj hv) ▸ h.c5
  | 6, hv => exact (Option.some.inj hv) ▸ h.c6
  | 7, hv => exact (Option.some.inj hv) ▸ h.c7
  | 8, hv => exact (Option.some.inj hv) ▸ h.c8
  | 9, hv => exact (Option.some.inj hv) ▸ h.c9
  | 10, hv => exact (Option.some.inj hv) ▸ h.c10
  | 11, hv => exact (Option.some.inj hv) ▸ h.c11
  | 12, hv => exact (Option.some.inj hv) ▸ h.c12
  | k + 13, hv => simp [Q.cells] at hv
theorem exec_loadV {o : Oper} {a : Act} {w : World} {t : TypeId} {x : Operand} {p : Addr} {v : Value} (ho : o.op = .load t x) (hx : a.eval x = .pointer (some p)) (hl : (loadVar t p).run Try.prog w = .ok v w) :
    (execOp a.eval o).run Try.prog w = .ok (.value v) w := by
  unfold execOp
  simp only [ho, hx, Instr.loadAt, Instr.sureAddr, Sem.run_bind, Sem.run_pure, Result.andThen_ok, hl]
theorem wp_of_value {o : Oper} {a : Act} {w w' : World} {K : Act → World → Prop} {Q : Exit → Act → World → Prop} {v : Value}
    (hx : (execOp a.eval o).run Try.prog w = .ok (.value v) w') (h : K (a.put o.dst v) w') : o.wp Try.prog a w K Q := by
  unfold Oper.wp
  rw [hx, Oper.upon_value]
  exact h
theorem wp_enter_bad {o : Oper} {a : Act} {w : World} {K : Act → World → Prop} {Q : Exit → Act → World → Prop} {f : FuncId} {args : Array Value} {R : Ending → World → Prop} {ch : List PanicEntry}
    (hx : (execOp a.eval o).run Try.prog w = .ok (.enter f args) w) (hc : Calls Try.prog f args w R) (h : ∀ e w', R e w' → e = .panicked ch ∧ Q (.panic ch) a w') : o.wp Try.prog a w K Q := by
  unfold Oper.wp
  rw [hx, Oper.upon_enter]
  refine hc.mono ?_
  intro e w' hr
  obtain ⟨rfl, hk⟩ := h e w' hr
  exact hk

abbrev zI : I := ⟨0, 0, 0, ⟨0, 0, 0, 0, 0, false, false, 0, ⟨#[]⟩, 0⟩, ⟨0, 0, 0, 0, 0, false, false, 0, ⟨#[]⟩, 0⟩, false⟩

/-- What stays while an instruction is put together. -/
structure SI (w u : World) (rb pb qb : Nat) (L : Ln) (a : Nat) (fs : Bool) (rex opc sz md rg rm : Int) (q : Q) : Prop where
  rs : RS u rb L a fs rex opc sz md rg rm
  qa : QA u qb q
  iw : IW u pb zeroI
  fr : Fr rb rb w u
  gr : Fr rb rb (w.alloc zI.box) u
theorem SI.bel {w u v : World} {rb pb qb : Nat} {L : Ln} {a : Nat} {fs : Bool} {rex opc sz md rg rm : Int} {q : Q} (h : SI w u rb pb qb L a fs rex opc sz md rg rm q) (g : Below u.heap.size u v) : SI w v rb pb qb L a fs rex opc sz md rg rm q :=
  ⟨h.rs.bel g, h.qa.bel g, h.iw.bel g, h.fr.bel g, h.gr.bel g⟩
theorem IW.row {u : World} {g : Nat} {old : Array Value} {t : TypeId} (hg : u.heap[g]? = some (.cells old t (0, 0))) (i : I) : IW (u.setRow g #[.int .i64 i.op, .int .i64 i.sz, .int .i64 i.cd, .int .i64 i.to.k, .int .i64 i.to.r, .int .i64 i.to.b, .int .i64 i.to.x, .int .i64 i.to.s, .bool i.to.rip, .bool i.to.fs, .int .i64 i.to.n, .string i.to.nm, .int .i64 i.to.m, .int .i64 i.fr.k, .int .i64 i.fr.r, .int .i64 i.fr.b, .int .i64 i.fr.x, .int .i64 i.fr.s, .bool i.fr.rip, .bool i.fr.fs, .int .i64 i.fr.n, .string i.fr.nm, .int .i64 i.fr.m, .bool i.sh]) g i := by
  have h := setRow_heap u g old #[.int .i64 i.op, .int .i64 i.sz, .int .i64 i.cd, .int .i64 i.to.k, .int .i64 i.to.r, .int .i64 i.to.b, .int .i64 i.to.x, .int .i64 i.to.s, .bool i.to.rip, .bool i.to.fs, .int .i64 i.to.n, .string i.to.nm, .int .i64 i.to.m, .int .i64 i.fr.k, .int .i64 i.fr.r, .int .i64 i.fr.b, .int .i64 i.fr.x, .int .i64 i.fr.s, .bool i.fr.rip, .bool i.fr.fs, .int .i64 i.fr.n, .string i.fr.nm, .int .i64 i.fr.m, .bool i.sh] t (0, 0) hg
  refine ⟨?_, fun j => ?_⟩
  · constructor <;> (simp only [World.cell?]; rw [h]; rfl)
  · simp only [World.frozen?]; rw [h]; simp

end Go.Proofs.Ytjbepojopfbajaa
