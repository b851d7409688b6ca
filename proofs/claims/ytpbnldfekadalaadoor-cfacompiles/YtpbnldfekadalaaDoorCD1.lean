/- The document's table of rows, in memory. -/
import Derived.Test.YtpbnldfekadalaaDoorCTabP
import Derived.Test.YtpbnldfekadalaaDoorCMay
import Derived.Test.YtpbnldfekadalaaDoorCBuiltX
namespace Go.Proofs.YtpbnldfekadalaaDoor
open Go.ChangeShapes Go.WideShapes Go.ChangeAt Go.RowKit
set_option linter.unusedVariables false
set_option linter.unusedSimpArgs false
variable {X : Nat → Option Obj}

section
variable {base : Nat} {w w' : World}
theorem OwnV.grown {v : Value} {l : List Rw} {row : Option Nat} (h : OwnV w base v l) (hg : w.grownBy w' row) (hn : v.ownBlock = none ∨ v.ownBlock ≠ row) : OwnV w' base v l := ⟨h.1, h.2.kept hg hn⟩
theorem ownV_lt {v : Value} {l : List Rw} (h : OwnV w base v l) {k : Nat} (hk : v.ownBlock = some k) : k < w.heap.size := (h.2.lt k hk).2
end
theorem load_rowsD {w : World} {p : Addr} {ao : Option Addr} {n c : Nat} (hc : w.cell? p = some (.slice ao n c)) : (loadVar 61 p).run Tryd.prog w = .ok (.slice ao n c) w := by
  simp [loadVar, isAgg, run_underlying Tryd.underlying61, go_sem, hc]
theorem sizeRowD : (Tryd.prog.info? 60).map (·.size) = some 37 := by kernel_rfl
theorem sizeRuleD : (Tryd.prog.info? 57).map (·.size) = some 2 := by kernel_rfl
theorem sizeOpD : (Tryd.prog.info? 52).map (·.size) = some 3 := by kernel_rfl
theorem sizeRwsD : (Tryd.prog.info? 61).map (·.size) = some 1 := by kernel_rfl
theorem load_rowD {w : World} {b o : Nat} {x : Rw} (hx : Wf x) (h : w.rangeAt b o x.cells) : (loadVar 60 ⟨b, o, none⟩).run Tryd.prog w = .ok (.agg x.cells.toArray) w :=
  run_loadVar_mid w b o _ _ _ h Tryd.underlying60 rfl (by rw [sizeRowD, Rw.cells_len hx])

theorem ix_ruleD (tb o : Nat) (r : Nat) (hr : r < 17) (W : World) : (Instr.indexAt 58 (.pointer (some ⟨tb, o, none⟩)) (.int .i64 (r : Int))).run Tryd.prog W = .ok (.pointer (some ⟨tb, o + r * 2, none⟩)) W := by
  have hs := sizeRuleD
  cases hq : Tryd.prog.info? 57 with
  | none => rw [hq] at hs; cases hs
  | some i =>
    have hi1 : i.size = 2 := by rw [hq] at hs; simpa using hs
    simp [Instr.indexAt, run_underlying Tryd.underlying58, asIntOf, sizeOf, typeInfo, hq, hi1, caddr_add, Instr.sureAddr, hr]
theorem load_ruleD {w : World} {b : Nat} {k n : Int} (h : Bk w b 57 #[.int .i64 k, .int .i64 n]) : (loadVar 57 ⟨b, 0, none⟩).run Tryd.prog w = .ok (.agg #[.int .i64 k, .int .i64 n]) w :=
  run_loadVar_row w b _ _ _ _ _ h.hp Tryd.underlying57 rfl (by rw [sizeRuleD]; rfl)
theorem load_opD {w : World} {b : Nat} {o : Oq} (h : Bk w b 52 #[.int .i64 o.k, .int .i64 o.r, .int .i64 o.n]) : (loadVar 52 ⟨b, 0, none⟩).run Tryd.prog w = .ok o.val w :=
  run_loadVar_row w b _ _ _ _ _ h.hp Tryd.underlying52 rfl (by rw [sizeOpD]; rfl)

theorem load_rmidD {w : World} {b o : Nat} {k n : Int} (h : w.rangeAt b o [.int .i64 k, .int .i64 n]) : (loadVar 57 ⟨b, o, none⟩).run Tryd.prog w = .ok (.agg #[.int .i64 k, .int .i64 n]) w :=
  run_loadVar_mid w b o _ _ _ h Tryd.underlying57 rfl (by rw [sizeRuleD]; rfl)
theorem info_rowD : (Tryd.prog.info? 60).map (fun i => (i.zero, i.size, i.bytes)) = some (some (.agg (List.replicate 37 (Value.int .i64 0)).toArray), 37, 296) := by kernel_rfl
theorem exec_build_rowD {o : Oper} {a : Act} {x : Operand} (w : World) (y : Rw) (hy : Wf y) (ho : o.op = .buildSlice 61 1 #[(0, x)]) (hx : a.eval x = .agg y.cells.toArray) :
    (execOp a.eval o).run Tryd.prog w = .ok (.value (.slice (some ⟨w.heap.size, 0, none⟩) 1 1)) (w.alloc (.cells y.cells.toArray 60)) := by
  obtain ⟨i0, hi, hz0, hz1, hz2⟩ := info_parts info_rowD
  have hr := run_buildSlice (P := Tryd.prog) w 61 60 1 #[(0, .agg y.cells.toArray)] y.cells.toArray i0 _ Tryd.underlying61 hi hz0 (by rw [hz1]; decide) (by rw [hz1]; decide) (by
    rw [hz1]
    exact fill_one _ _ 37 (Rw.cells_len hy) (by simp))
  unfold execOp
  simp only [ho, List.map_toArray, List.map_cons, List.map_nil, hx, Sem.run_bind]
  rw [hr]
  rfl
theorem wp_append_rowD {o : Oper} {a : Act} {w : World} {K : Act → World → Prop} {Q : Exit → Act → World → Prop} {s x : Operand} (ho : o.op = .call { callee := .builtin .append, args := #[s, x], argTypes := #[61, 61] })
    {base : Nat} {v : Value} {l : List Rw} {y : Rw} {q : Nat} (hown : OwnV w base v l) (hs : a.eval s = v) (hx : a.eval x = .slice (some ⟨q, 0, none⟩) 1 1) (hq : Bk w q 60 y.cells.toArray) (hy : Wf y) (hn : l.length ≤ 100000) (hbase : base ≤ w.heap.size)
    (h : ∀ v' w', OwnV w' base v' (l ++ [y]) → w.grownBy w' v.ownBlock → (v'.ownBlock = v.ownBlock ∨ v'.ownBlock = some w.heap.size) → K (a.put o.dst v') w') : o.wp Tryd.prog a w K Q := by
  obtain ⟨i0, hi, hz0, hz1, hz2⟩ := info_parts info_rowD
  obtain ⟨v', w', hr, h2, h3, h4, h5⟩ := run_append_own_at (P := Tryd.prog) w base 61 o.type 60 i0 _ 37 296 Tryd.underlying61 hi hz0 hz1 hz2 (by simp [Value.cells]) (by decide) v l.length _ hown.2 ⟨q, 0, none⟩ 1 1 y.cells (by rw [Rw.cells_len hy]) (fun j u hj => by rw [caddr_add]; exact hq.cell _ (by simpa using hj)) (rw_one y) (by unfold maxLen; omega) (by omega) hbase
  unfold Oper.wp execOp
  simp only [ho, resolve, invoke, builtin, Sem.run_bind, Sem.run_pure, Result.andThen_ok, List.map_toArray, List.map_cons, List.map_nil, hs, hx, hr]
  refine h v' w' ⟨fun z hz => ?_, ?_⟩ h3 h5
  · rcases List.mem_append.1 hz with hz | hz
    · exact hown.1 z hz
    · simp at hz; subst hz; exact hy
  · rw [rwCells_append, List.length_append]
    simpa [rwCells] using h2
theorem ix_rowD (g n c k : Nat) (hk : k < n) (W : World) : (Instr.indexAt 61 (.slice (some ⟨g, 0, none⟩) n c) (.int .i64 (k : Int))).run Tryd.prog W = .ok (.pointer (some ⟨g, k * 37, none⟩)) W := by
  have hs := sizeRowD
  cases hq : Tryd.prog.info? 60 with
  | none => rw [hq] at hs; cases hs
  | some i =>
    have hi1 : i.size = 37 := by rw [hq] at hs; simpa using hs
    simp [Instr.indexAt, run_underlying Tryd.underlying61, asIntOf, sizeOf, typeInfo, hq, hi1, caddr_add]
    omega
theorem exec_cutD {w : World} {a : Act} {o : Oper} {x y : Operand} (g n c k : Nat) (hk : k ≤ n) (hc : n ≤ c) (ho : o.op = .slice 61 x none (some y) none) (hx : a.eval x = .slice (some ⟨g, 0, none⟩) n c) (hy : a.eval y = .int .i64 (k : Int)) :
    (execOp a.eval o).run Tryd.prog w = .ok (.value (.slice (some ⟨g, 0, none⟩) k c)) w := by
  have hs := sizeRowD
  cases hq : Tryd.prog.info? 60 with
  | none => rw [hq] at hs; cases hs
  | some i =>
    have hi1 : i.size = 37 := by rw [hq] at hs; simpa using hs
    have h1 : (k : Int) ≤ (c : Int) := by omega
    have h2 : k ≤ c := by omega
    unfold execOp
    simp only [ho, hx, hy, Option.map_none, Option.map_some]
    simp [Instr.sliceAt, Instr.slice, Instr.sliceBounds, Instr.sliceBound, run_underlying Tryd.underlying61, asIntOf, sizeOf, typeInfo, hq, hi1, caddr_add, h1, h2]
theorem OwnV.cut {w : World} {base g c : Nat} {l : List Rw} {q : Rw} (h : OwnV w base (.slice (some ⟨g, 0, none⟩) (l ++ [q]).length c) (l ++ [q])) : OwnV w base (.slice (some ⟨g, 0, none⟩) l.length c) l := by
  have hw : ∀ x ∈ l, Wf x := fun x hx => h.1 x (by simp [hx])
  refine ⟨hw, rwCells_len l hw, .inr ?_⟩
  rcases h.2.2 with ⟨hv, _⟩ | ⟨g', c', cur, hv, h1, h2, h3, h4, h5, h6⟩
  · cases hv
  · simp only [Value.slice.injEq, Option.some.injEq, Addr.mk.injEq, and_true, true_and] at hv
    obtain ⟨rfl, rfl⟩ := hv
    refine ⟨g, c, cur, rfl, h1, h2, by simp at h3; omega, h4, h5, ?_⟩
    have e := congrArg (List.take (l.length * 37)) h6
    rw [List.take_take, rwCells_append] at e
    have hl := rwCells_len l hw
    rw [show min (l.length * 37) ((l ++ [q]).length * 37) = l.length * 37 by rw [List.length_append]; omega] at e
    rw [e, List.take_append_of_le_length (by omega), List.take_of_length_le (by omega)]
theorem OwnV.last {w : World} {base g c : Nat} {l : List Rw} {q : Rw} (h : OwnV w base (.slice (some ⟨g, 0, none⟩) (l ++ [q]).length c) (l ++ [q])) : w.rangeAt g (l.length * 37) q.cells := by
  obtain ⟨ao, cap, hv, _, _, hr, _⟩ := h.any
  simp only [Value.slice.injEq] at hv
  obtain ⟨rfl, _, rfl⟩ := hv
  have hq : Wf q := h.1 q (by simp)
  rcases hr with hr | ⟨b, off, e, hr⟩
  · simp at hr
  · simp only [Option.some.injEq, Addr.mk.injEq, and_true] at e
    obtain ⟨rfl, rfl⟩ := e
    intro j v hv
    have hj : j < 37 := by have := (List.getElem?_eq_some_iff.1 hv).1; rw [Rw.cells_len hq] at this; exact this
    have := hr l.length (by simp) j hj
    rw [Nat.zero_add] at this
    rw [this]
    simpa using hv

/-! Its cells. -/
def dC (t : Tb) (vL vK : Value) : List Value := [vL] ++ (t.now.cells ++ (t.first.cells ++ [vK, .int .i64 t.size]))
section
variable {t : Tb} {vL vK : Value}
theorem dC_len (h : Tw t) : (dC t vL vK).length = 77 := by simp [dC, Rw.cells_len h.now, Rw.cells_len h.first]
theorem dC_L : (dC t vL vK)[0]? = some vL := rfl
theorem dC_now (h : Tw t) (j : Nat) (hj : j < 37) : (dC t vL vK)[1 + j]? = t.now.cells[j]? := by
  have h2 := Rw.cells_len h.now
  unfold dC
  rw [List.getElem?_append_right (by simp), List.getElem?_append_left (by simp; omega)]
  congr 1; simp
theorem dC_first (h : Tw t) (j : Nat) (hj : j < 37) : (dC t vL vK)[38 + j]? = t.first.cells[j]? := by
  have h1 := Rw.cells_len h.first
  have h2 := Rw.cells_len h.now
  unfold dC
  rw [List.getElem?_append_right (by simp; omega), List.getElem?_append_right (by simp; omega), List.getElem?_append_left (by simp; omega)]
  congr 1; simp; omega
theorem dC_K (h : Tw t) : (dC t vL vK)[75]? = some vK := by
  have h1 := Rw.cells_len h.first
  have h2 := Rw.cells_len h.now
  unfold dC
  rw [List.getElem?_append_right (by simp), List.getElem?_append_right (by simp; omega), List.getElem?_append_right (by simp; omega)]
  simp [h1, h2]
theorem dC_size (h : Tw t) : (dC t vL vK)[76]? = some (.int .i64 t.size) := by
  have h1 := Rw.cells_len h.first
  have h2 := Rw.cells_len h.now
  unfold dC
  rw [List.getElem?_append_right (by simp), List.getElem?_append_right (by simp; omega), List.getElem?_append_right (by simp; omega)]
  simp [h1, h2]
theorem dput_now (x : Rw) (A M M' B : List Value) (h1 : t.now.cells = A ++ (M ++ B)) (h2 : x.cells = A ++ (M' ++ B)) (hl : M.length = M'.length) (o : Nat) (ho : o = 1 + A.length) :
    putAt (dC t vL vK).toArray o M' = (dC ⟨t.L, x, t.first, t.kept, t.size⟩ vL vK).toArray := by
  have e := putAt_mid M M' ([vL] ++ A) (B ++ (t.first.cells ++ [vK, .int .i64 t.size])) hl
  have el : ([vL] ++ A).length = o := by simp; omega
  rw [el] at e
  have e1 : dC t vL vK = [vL] ++ A ++ (M ++ (B ++ (t.first.cells ++ [vK, .int .i64 t.size]))) := by simp [dC, h1]
  have e2 : dC ⟨t.L, x, t.first, t.kept, t.size⟩ vL vK = [vL] ++ A ++ (M' ++ (B ++ (t.first.cells ++ [vK, .int .i64 t.size]))) := by simp [dC, h2]
  rw [e1, e2]
  exact e
theorem dput_first (h : Tw t) (x : Rw) (hx : Wf x) : putAt (dC t vL vK).toArray 38 x.cells = (dC ⟨t.L, t.now, x, t.kept, t.size⟩ vL vK).toArray := by
  have e := putAt_mid t.first.cells x.cells ([vL] ++ t.now.cells) [vK, .int .i64 t.size] (by rw [Rw.cells_len h.first, Rw.cells_len hx])
  have el : ([vL] ++ t.now.cells).length = 38 := by have := Rw.cells_len h.now; simp; omega
  rw [el] at e
  have e1 : ∀ f : Rw, dC ⟨t.L, t.now, f, t.kept, t.size⟩ vL vK = [vL] ++ t.now.cells ++ (f.cells ++ [vK, .int .i64 t.size]) := fun f => by simp [dC]
  have e0 : dC t vL vK = [vL] ++ t.now.cells ++ (t.first.cells ++ [vK, .int .i64 t.size]) := by simp [dC]
  rw [e0, e1 x]
  exact e
theorem dput_L (v : Value) : putAt (dC t vL vK).toArray 0 [v] = (dC t v vK).toArray :=
  putAt_mid [vL] [v] [] (t.now.cells ++ (t.first.cells ++ [vK, .int .i64 t.size])) rfl
theorem dput_K (h : Tw t) (v : Value) : putAt (dC t vL vK).toArray 75 [v] = (dC t vL v).toArray := by
  have e := putAt_mid [vK] [v] ([vL] ++ (t.now.cells ++ t.first.cells)) [.int .i64 t.size] rfl
  have el : ([vL] ++ (t.now.cells ++ t.first.cells)).length = 75 := by
    have h1 := Rw.cells_len h.first
    have h2 := Rw.cells_len h.now
    simp; omega
  rw [el] at e
  have e1 : ∀ u, dC t vL u = [vL] ++ (t.now.cells ++ t.first.cells) ++ ([u] ++ [.int .i64 t.size]) := fun u => by simp [dC]
  rw [e1, e1]
  exact e
end
/-- The document's table lies in block tb. -/
structure TD (X : Nat → Option Obj) (base : Nat) (w : World) (tb : Nat) (t : Tb) (vL vK : Value) : Prop where
  bk : Bk w tb 63 (dC t vL vK).toArray
  lo : base ≤ tb
  L : OwnV w base vL t.L
  K : OwnV w base vK t.kept
  nr : vL.ownBlock ≠ some tb
  nk : vK.ownBlock ≠ some tb
  rk : ∀ b, vL.ownBlock = some b → vK.ownBlock ≠ some b
  wf : Tw t
  ff : Fx X w tb vL vK
section
variable {base : Nat} {w w' w1 w2 : World} {tb : Nat} {t : Tb} {vL vK v2 : Value}
theorem TD.bel (h : TD X base w tb t vL vK) (hb : Below w.heap.size w w') : TD X base w' tb t vL vK :=
  ⟨h.bk.bel hb h.bk.lt, h.lo, h.L.bel hb, h.K.bel hb, h.nr, h.nk, h.rk, h.wf, h.ff.bel hb⟩
theorem TD.put (h : TD X base w tb t vL vK) {t' : Tb} (hL : t'.L = t.L) (hK : t'.kept = t.kept) (hw : Tw t') {V : Array Value} (hV : V = (dC t' vL vK).toArray) : TD X base (w.setRow tb V) tb t' vL vK := by
  subst hV
  refine ⟨h.bk.setR _, h.lo, ?_, ?_, h.nr, h.nk, h.rk, hw, h.ff.set _⟩
  · rw [hL]; exact h.L.grown (grown_set w tb _) (.inr h.nr)
  · rw [hK]; exact h.K.grown (grown_set w tb _) (.inr h.nk)
theorem TD.cell (h : TD X base w tb t vL vK) (j : Nat) {x : Value} (hj : (dC t vL vK)[j]? = some x) : w.cell? ⟨tb, j, none⟩ = some x := h.bk.cell j (by simpa using hj)
theorem TD.rows (h : TD X base w tb t vL vK) : w.cell? ⟨tb, 0, none⟩ = some vL := h.cell 0 dC_L
theorem TD.keptc (h : TD X base w tb t vL vK) : w.cell? ⟨tb, 75, none⟩ = some vK := h.cell 75 (dC_K h.wf)
theorem TD.size (h : TD X base w tb t vL vK) : w.cell? ⟨tb, 76, none⟩ = some (.int .i64 t.size) := h.cell 76 (dC_size h.wf)
theorem TD.p (h : TD X base w tb t vL vK) : w.cell? ⟨tb, 1, none⟩ = some (.int .i64 t.now.p) := h.cell 1 (dC_now h.wf 0 (by omega))
theorem TD.r (h : TD X base w tb t vL vK) : w.cell? ⟨tb, 2, none⟩ = some (.int .i64 t.now.r) := h.cell 2 (dC_now h.wf 1 (by omega))
theorem TD.n (h : TD X base w tb t vL vK) : w.cell? ⟨tb, 3, none⟩ = some (.int .i64 t.now.n) := h.cell 3 (dC_now h.wf 2 (by omega))
theorem TD.rnow (h : TD X base w tb t vL vK) : w.rangeAt tb 1 t.now.cells := fun j v hv => by
  have hl := Rw.cells_len h.wf.now
  have hj : j < 37 := by have := (List.getElem?_eq_some_iff.1 hv).1; omega
  exact h.cell (1 + j) ((dC_now h.wf j hj).trans hv)
theorem TD.rfirst (h : TD X base w tb t vL vK) : w.rangeAt tb 38 t.first.cells := fun j v hv => by
  have hl := Rw.cells_len h.wf.first
  have hj : j < 37 := by have := (List.getElem?_eq_some_iff.1 hv).1; omega
  exact h.cell (38 + j) ((dC_first h.wf j hj).trans hv)
theorem TD.len (h : TD X base w tb t vL vK) : (dC t vL vK).toArray.size = 77 := by simpa using dC_len h.wf
theorem TD.rows1 (h : TD X base w tb t vL vK) {ar : Option Addr} {n c : Nat} (hv : vL = .slice ar n c) : w.cell? ⟨tb, 0, none⟩ = some (.slice ar n c) := hv ▸ h.rows
theorem TD.kept1 (h : TD X base w tb t vL vK) {ar : Option Addr} {n c : Nat} (hv : vK = .slice ar n c) : w.cell? ⟨tb, 75, none⟩ = some (.slice ar n c) := hv ▸ h.keptc
theorem TD.setP (h : TD X base w tb t vL vK) (p : Int) : TD X base (w.setRow tb (putAt (dC t vL vK).toArray 1 [.int .i64 p])) tb ⟨t.L, ⟨p, t.now.r, t.now.n, t.now.z⟩, t.first, t.kept, t.size⟩ vL vK :=
  h.put (t' := ⟨t.L, ⟨p, t.now.r, t.now.n, t.now.z⟩, t.first, t.kept, t.size⟩) rfl rfl ⟨h.wf.L, h.wf.now, h.wf.first, h.wf.kept⟩ (dput_now ⟨p, t.now.r, t.now.n, t.now.z⟩ [] [.int .i64 t.now.p] [.int .i64 p] (.int .i64 t.now.r :: .int .i64 t.now.n :: zc t.now.z) rfl rfl rfl 1 rfl)
theorem TD.setR (h : TD X base w tb t vL vK) (r : Int) : TD X base (w.setRow tb (putAt (dC t vL vK).toArray 2 [.int .i64 r])) tb ⟨t.L, ⟨t.now.p, r, t.now.n, t.now.z⟩, t.first, t.kept, t.size⟩ vL vK :=
  h.put (t' := ⟨t.L, ⟨t.now.p, r, t.now.n, t.now.z⟩, t.first, t.kept, t.size⟩) rfl rfl ⟨h.wf.L, h.wf.now, h.wf.first, h.wf.kept⟩ (dput_now ⟨t.now.p, r, t.now.n, t.now.z⟩ [.int .i64 t.now.p] [.int .i64 t.now.r] [.int .i64 r] (.int .i64 t.now.n :: zc t.now.z) rfl rfl rfl 2 rfl)
theorem TD.setN (h : TD X base w tb t vL vK) (n : Int) : TD X base (w.setRow tb (putAt (dC t vL vK).toArray 3 [.int .i64 n])) tb ⟨t.L, ⟨t.now.p, t.now.r, n, t.now.z⟩, t.first, t.kept, t.size⟩ vL vK :=
  h.put (t' := ⟨t.L, ⟨t.now.p, t.now.r, n, t.now.z⟩, t.first, t.kept, t.size⟩) rfl rfl ⟨h.wf.L, h.wf.now, h.wf.first, h.wf.kept⟩ (dput_now ⟨t.now.p, t.now.r, n, t.now.z⟩ [.int .i64 t.now.p, .int .i64 t.now.r] [.int .i64 t.now.n] [.int .i64 n] (zc t.now.z) rfl rfl rfl 3 rfl)
theorem TD.setRowW (h : TD X base w tb t vL vK) (x : Rw) (hx : Wf x) : TD X base (w.setRow tb (putAt (dC t vL vK).toArray 1 x.cells)) tb ⟨t.L, x, t.first, t.kept, t.size⟩ vL vK :=
  h.put (t' := ⟨t.L, x, t.first, t.kept, t.size⟩) rfl rfl ⟨h.wf.L, hx, h.wf.first, h.wf.kept⟩ (dput_now x [] t.now.cells x.cells [] (by simp) (by simp) (by rw [Rw.cells_len h.wf.now, Rw.cells_len hx]) 1 rfl)
theorem TD.rule (h : TD X base w tb t vL vK) (r : Nat) (hr : r < 17) (q : Int × Int) : TD X base (w.setRow tb (putAt (dC t vL vK).toArray (4 + r * 2) [.int .i64 q.1, .int .i64 q.2])) tb ⟨t.L, t.now.set (r : Int) q, t.first, t.kept, t.size⟩ vL vK := by
  obtain ⟨A, M, B, e1, e2, e3, e4⟩ := rule_split h.wf.now r hr q
  exact h.put (t' := ⟨t.L, t.now.set (r : Int) q, t.first, t.kept, t.size⟩) rfl rfl ⟨h.wf.L, wf_set h.wf.now _ _, h.wf.first, h.wf.kept⟩ (dput_now (t.now.set (r : Int) q) A M _ B e1 e2 e3 (4 + r * 2) (by omega))
theorem TD.frule (h : TD X base w tb t vL vK) (r : Nat) (hr : r < 17) : w.rangeAt tb (41 + r * 2) [.int .i64 (t.first.z.getD r (0, 0)).1, .int .i64 (t.first.z.getD r (0, 0)).2] := by
  have hz : t.first.z.length = 17 := h.wf.first
  have ha := zc_at t.first.z r (by omega)
  have hc : ∀ j, t.first.cells[3 + j]? = (zc t.first.z)[j]? := fun j => by show (_ :: _ :: _ :: zc t.first.z)[3 + j]? = _; rw [show 3 + j = j + 1 + 1 + 1 by omega]; simp
  intro j v hv
  have hj : j = 0 ∨ j = 1 := by have := (List.getElem?_eq_some_iff.1 hv).1; simp at this; omega
  rcases hj with rfl | rfl
  · have := h.rfirst (3 + r * 2) v ((hc _).trans (ha.1.trans hv))
    rwa [show 38 + (3 + r * 2) = 41 + r * 2 + 0 by omega] at this
  · have := h.rfirst (3 + (r * 2 + 1)) v ((hc _).trans (ha.2.trans hv))
    rwa [show 38 + (3 + (r * 2 + 1)) = 41 + r * 2 + 1 by omega] at this
theorem TD.grow {l2 : List Rw} (h : TD X base w tb t vL vK) (B : Below w.heap.size w w1) (hg : w1.grownBy w2 vL.ownBlock) (ho : OwnV w2 base v2 l2) (hb : v2.ownBlock = vL.ownBlock ∨ v2.ownBlock = some w1.heap.size) :
    TD X base (w2.setRow tb (putAt (dC t vL vK).toArray 0 [v2])) tb ⟨l2, t.now, t.first, t.kept, t.size⟩ v2 vK := by
  have h1 := h.bel B
  have bk2 : Bk w2 tb 63 (dC t vL vK).toArray := h1.bk.of (hg.block tb h1.bk.lt (Ne.symm h.nr))
  have nr2 : v2.ownBlock ≠ some tb := by
    rcases hb with e | e
    · rw [e]; exact h.nr
    · rw [e]; intro e2; simp at e2; have := h1.bk.lt; omega
  refine ⟨?_, h.lo, ho.grown (grown_set _ _ _) (.inr nr2), ?_, nr2, h.nk, fun b hb2 e => ?_, ⟨ho.1, h.wf.now, h.wf.first, h.wf.kept⟩, (h1.ff.grow hg hb).set _⟩
  · have := bk2.setR (putAt (dC t vL vK).toArray 0 [v2])
    rw [dput_L] at this ⊢
    exact this
  · refine (h1.K.grown hg ?_).grown (grown_set _ _ _) (.inr h.nk)
    cases hv : vL.ownBlock with
    | none => cases hv2 : vK.ownBlock with
      | none => exact .inl rfl
      | some c => exact .inr (by simp)
    | some b => exact .inr (h.rk b hv)
  · rcases hb with e1 | e1
    · exact h.rk b (e1 ▸ hb2) e
    · rw [e1] at hb2
      have := ownV_lt h1.K e
      simp at hb2
      omega
theorem TD.growK {l2 : List Rw} (h : TD X base w tb t vL vK) (B : Below w.heap.size w w1) (hg : w1.grownBy w2 vK.ownBlock) (ho : OwnV w2 base v2 l2) (hb : v2.ownBlock = vK.ownBlock ∨ v2.ownBlock = some w1.heap.size) :
    TD X base (w2.setRow tb (putAt (dC t vL vK).toArray 75 [v2])) tb ⟨t.L, t.now, t.first, l2, t.size⟩ vL v2 := by
  have h1 := h.bel B
  have bk2 : Bk w2 tb 63 (dC t vL vK).toArray := h1.bk.of (hg.block tb h1.bk.lt (Ne.symm h.nk))
  have nk2 : v2.ownBlock ≠ some tb := by
    rcases hb with e | e
    · rw [e]; exact h.nk
    · rw [e]; intro e2; simp at e2; have := h1.bk.lt; omega
  refine ⟨?_, h.lo, ?_, ho.grown (grown_set _ _ _) (.inr nk2), h.nr, nk2, fun b hb2 e => ?_, ⟨h.wf.L, h.wf.now, h.wf.first, ho.1⟩, (h1.ff.growK hg hb).set _⟩
  · have := bk2.setR (putAt (dC t vL vK).toArray 75 [v2])
    rw [dput_K h.wf] at this ⊢
    exact this
  · refine (h1.L.grown hg ?_).grown (grown_set _ _ _) (.inr h.nr)
    cases hv : vL.ownBlock with
    | none => exact .inl rfl
    | some b => exact .inr (fun e => h.rk b hv e.symm)
  · rcases hb with e1 | e1
    · exact h.rk b hb2 (e1 ▸ e)
    · rw [e1] at e
      have := ownV_lt h1.L hb2
      simp at e
      omega
theorem TD.setK {g c : Nat} {l : List Rw} {q : Rw} (h : TD X base w tb t vL (.slice (some ⟨g, 0, none⟩) (l ++ [q]).length c)) (hk : t.kept = l ++ [q]) :
    TD X base (w.setRow tb (putAt (dC t vL (.slice (some ⟨g, 0, none⟩) (l ++ [q]).length c)).toArray 75 [.slice (some ⟨g, 0, none⟩) l.length c])) tb ⟨t.L, t.now, t.first, l, t.size⟩ vL (.slice (some ⟨g, 0, none⟩) l.length c) := by
  have hK := h.K
  rw [hk] at hK
  have hK2 := hK.cut
  refine ⟨?_, h.lo, h.L.grown (grown_set _ _ _) (.inr h.nr), hK2.grown (grown_set _ _ _) (.inr h.nk), h.nr, h.nk, h.rk, ⟨h.wf.L, h.wf.now, h.wf.first, hK2.1⟩, (⟨h.ff.fx, h.ff.xt, h.ff.xr, h.ff.xk⟩ : Fx X w tb vL (.slice (some ⟨g, 0, none⟩) l.length c)).set _⟩
  have := h.bk.setR (putAt (dC t vL (.slice (some ⟨g, 0, none⟩) (l ++ [q]).length c)).toArray 75 [.slice (some ⟨g, 0, none⟩) l.length c])
  rw [dput_K h.wf] at this ⊢
  exact this
theorem rnow_grownD (h : TD X base w tb t vL vK) {row : Option Nat} (hg : w.grownBy w1 row) (hn : row ≠ some tb) : w1.rangeAt tb 1 t.now.cells := fun j v hv => (World.cell?_of_block (a := ⟨tb, 1 + j, none⟩) (hg.block tb h.bk.lt (Ne.symm hn))).trans (h.rnow j v hv)
end
/-- What a call that does an op leaves. -/
def DEnd (X : Nat → Option Obj) (base tb : Nat) (w w' : World) (o : Option Tb) : Prop := Below base w w' ∧ ∀ t', o = some t' → ∃ vL vK, TD X base w' tb t' vL vK

end Go.Proofs.YtpbnldfekadalaaDoor
