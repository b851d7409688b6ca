/- The program's table that is built, in memory: its cells, what a store makes of them, operations that read and write. -/
import Derived.Test.YtpbnldfekadalaaDoorCRow
import Derived.Laws.Tables
import Derived.Great.BuildSlice
import Derived.Maps.AppendAt
import Derived.Deep.RegionHeld
import Derived.Deep.MidRow
import Derived.Deep.CutRange
import Derived.BigQuiet
import Derived.Deep.QuietTactic
namespace Go.Proofs.YtpbnldfekadalaaDoor
open Go.ChangeShapes Go.WideShapes Go.ChangeAt Go.RowKit
set_option linter.unusedVariables false
set_option linter.unusedSimpArgs false
variable {X : Nat → Option Obj}

/-- These cells lie in block b, and may be written. -/
structure Bk (w : World) (b t : Nat) (cs : Array Value) : Prop where
  hp : w.heap[b]? = some (.cells cs t (0, 0))
section
variable {w v : World} {b t : Nat} {cs : Array Value}
theorem Bk.lt (h : Bk w b t cs) : b < w.heap.size := (Array.getElem?_eq_some_iff.1 h.hp).1
theorem Bk.new (w : World) (cs : Array Value) (t : Nat) : Bk (w.alloc (.cells cs t)) w.heap.size t cs := ⟨heap_alloc_new w _⟩
theorem Bk.of (h : Bk w b t cs) (e : v.heap[b]? = w.heap[b]?) : Bk v b t cs := ⟨e.trans h.hp⟩
theorem Bk.bel (h : Bk w b t cs) {B : Nat} (g : Below B w v) (hB : b < B) : Bk v b t cs := h.of (g.block b hB)
theorem Bk.setO (h : Bk w b t cs) {c : Nat} (hc : b ≠ c) (V : Array Value) : Bk (w.setRow c V) b t cs := h.of (setRow_other _ _ _ _ hc)
theorem Bk.setR (h : Bk w b t cs) (V : Array Value) : Bk (w.setRow b V) b t V := ⟨setRow_heap w b _ V _ _ h.hp⟩
theorem Bk.cell (h : Bk w b t cs) (j : Nat) {x : Value} (hj : cs[j]? = some x) : w.cell? ⟨b, j, none⟩ = some x := by
  simp only [World.cell?, h.hp]; simpa using hj
theorem Bk.fro (h : Bk w b t cs) (j : Nat) : w.frozen? ⟨b, j, none⟩ = false := by simp [World.frozen?, h.hp]
theorem Bk.range (h : Bk w b t cs) (o : Nat) (M : List Value) (hM : ∀ j v, M[j]? = some v → cs[o + j]? = some v) : w.rangeAt b o M := fun j v hv => h.cell (o + j) (hM j v hv)
end

/-- Cells written over from a place on. -/
def putAt (cur : Array Value) : Nat → List Value → Array Value
  | _, [] => cur
  | k, v :: vs => putAt (cur.setIfInBounds k v) (k + 1) vs
theorem run_store_part (g off : Nat) (t : TypeId) : ∀ (vs : List Value) (i : Nat) (cur : Array Value) (w : World), w.heap[g]? = some (.cells cur t (0, 0)) → off + i + vs.length ≤ cur.size → (∀ v ∈ vs, v.oneCell' = true) →
    (storeCells ⟨g, off, none⟩ vs i).run Tryd.prog w = .ok () (w.setRow g (putAt cur (off + i) vs))
  | [], i, cur, w, hg, hl, _ => by
    have hlt : g < w.heap.size := (Array.getElem?_eq_some_iff.1 hg).1
    have hv : w.heap[g] = .cells cur t (0, 0) := (Array.getElem?_eq_some_iff.1 hg).2
    simp only [storeCells, putAt]
    show Result.ok () w = _
    congr 1
    unfold World.setRow
    cases w with
    | mk heap tape drawn os output =>
      congr 1
      apply Array.ext
      · simp
      · intro k h1 h2
        simp only [Array.getElem_modify]
        split
        · rename_i hk; subst hk; simp at hv; simp [hv]
        · rfl
  | v :: rest, i, cur, w, hg, hl, h1 => by
    have hi : off + i < cur.size := by simp at hl; omega
    have hadd : (⟨g, off, none⟩ : Addr).add i = ⟨g, off + i, none⟩ := by unfold Addr.add; split <;> simp_all
    have hcell : w.cell? ⟨g, off + i, none⟩ = some cur[off + i] := by simp [World.cell?, hg, hi]
    have hfro : w.frozen? ⟨g, off + i, none⟩ = false := by simp [World.frozen?, hg]
    have hst : (store ((⟨g, off, none⟩ : Addr).add i) v).run Tryd.prog w = .ok () (w.setRow g (cur.setIfInBounds (off + i) v)) := by
      rw [hadd, run_store Tryd.prog w _ v _ (h1 v (by simp)), hcell]
      simp [hfro, setCell_eq_setRow w g (off + i) cur t (0, 0) v hg]
    have ih := run_store_part g off t rest (i + 1) (cur.setIfInBounds (off + i) v) (w.setRow g (cur.setIfInBounds (off + i) v)) (setRow_heap w g cur _ t _ hg) (by simp at hl ⊢; omega) (fun x hx => h1 x (by simp [hx]))
    simp only [storeCells, Sem.run_bind, hst, Result.andThen_ok, ih, setRow_setRow]
    rfl
theorem putAt_mid : ∀ (M M' A B : List Value), M.length = M'.length → putAt (A ++ (M ++ B)).toArray A.length M' = (A ++ (M' ++ B)).toArray
  | [], [], A, B, _ => rfl
  | m :: M, m' :: M', A, B, h => by
    show putAt ((A ++ (m :: M ++ B)).toArray.setIfInBounds A.length m') (A.length + 1) M' = _
    have e : (A ++ (m :: M ++ B)).toArray.setIfInBounds A.length m' = ((A ++ [m']) ++ (M ++ B)).toArray := by
      simp [List.setIfInBounds_toArray]
    have ih := putAt_mid M M' (A ++ [m']) B (by simpa using h)
    rw [e, show A.length + 1 = (A ++ [m']).length by simp, ih]
    simp
  | [], _ :: _, _, _, h => by simp at h
  | _ :: _, [], _, _, h => by simp at h

/-- A store into a part of what lies in a block. -/
theorem wp_part {o : Oper} {a : Act} {w : World} {K : Act → World → Prop} {Q : Exit → Act → World → Prop} {ty : TypeId} {x y : Operand} {g off : Nat} {val : Value} {t : TypeId} {old new : Array Value} (ho : o.op = .store ty x y)
    (hx : a.eval x = .pointer (some ⟨g, off, none⟩)) (hy : a.eval y = val)
    (hg : Bk w g t old) (hi : (Tryd.prog.info? ty).map (·.size) = some val.cells.toList.length)
    (hle : off + val.cells.toList.length ≤ old.size) (h1 : ∀ u ∈ val.cells.toList, u.oneCell' = true) (hn : putAt old off val.cells.toList = new)
    (h : K (a.put o.dst undef) (w.setRow g new)) : o.wp Tryd.prog a w K Q := by
  have hs := run_store_part g off t val.cells.toList 0 old w hg.hp (by omega) h1
  rw [Nat.add_zero, hn] at hs
  have hv : (storeVar ty ⟨g, off, none⟩ val).run Tryd.prog w = .ok () (w.setRow g new) := by
    cases hq : Tryd.prog.info? ty with
    | none => simp [hq] at hi
    | some i =>
      have hz : val.cells.size = i.size := by simp [hq] at hi; omega
      simp [storeVar, sizeOf, typeInfo, hq, hz, hs]
  unfold Oper.wp execOp
  simp only [ho, hx, hy, Instr.storeAt, Instr.sureAddr, Sem.run_bind, Sem.run_pure, Result.andThen_ok, hv]
  exact h
theorem wpList_part {ops : Array Oper} {rest : List Oper} {o : Oper} {a : Act} {w : World} {Q : Exit → Act → World → Prop} {ty : TypeId} {x y : Operand} {g off : Nat} {val : Value} {t : TypeId} {old new : Array Value} (hgd : o.guard = none) (ho : o.op = .store ty x y)
    (hx : a.eval x = .pointer (some ⟨g, off, none⟩)) (hy : a.eval y = val)
    (hg : Bk w g t old) (hi : (Tryd.prog.info? ty).map (·.size) = some val.cells.toList.length)
    (hle : off + val.cells.toList.length ≤ old.size) (h1 : ∀ u ∈ val.cells.toList, u.oneCell' = true) (hn : putAt old off val.cells.toList = new)
    (h : wpList Tryd.prog ops Q rest (a.put o.dst undef) (w.setRow g new)) : wpList Tryd.prog ops Q (o :: rest) a w :=
  wpList_plain hgd fun _ hK => wp_part ho hx hy hg hi hle h1 hn (hK _ _ h)
theorem wp_if {c : Prop} [Decidable c] {p q : Prop} (hc : c) (h : p) : if c then p else q := by rw [if_pos hc]; exact h
theorem exec_loadV {w : World} {a : Act} {o : Oper} {t : TypeId} {x : Operand} {p : Addr} {v : Value} (ho : o.op = .load t x) (hx : a.eval x = .pointer (some p)) (hl : (loadVar t p).run Tryd.prog w = .ok v w) : (execOp a.eval o).run Tryd.prog w = .ok (.value v) w := by
  unfold execOp
  simp only [ho, hx, Instr.loadAt, Instr.sureAddr, Sem.run_bind, Sem.run_pure, Result.andThen_ok, hl]
theorem exec_ix {w : World} {a : Act} {o : Oper} {t : TypeId} {x y : Operand} {vx vy v : Value} (ho : o.op = .indexAddr t x y) (hx : a.eval x = vx) (hy : a.eval y = vy) (hl : (Instr.indexAt t vx vy).run Tryd.prog w = .ok v w) : (execOp a.eval o).run Tryd.prog w = .ok (.value v) w := by
  unfold execOp
  simp only [ho, hx, hy, Sem.run_bind, Sem.run_pure, Result.andThen_ok, hl]
theorem load_i64 {w : World} {p : Addr} {y : Int} (hc : w.cell? p = some (.int .i64 y)) : (loadVar 3 p).run Tryd.prog w = .ok (.int .i64 y) w := by
  simp [loadVar, isAgg, run_underlying Tryd.underlying3, go_sem, hc]
theorem load_bool {w : World} {p : Addr} {y : Bool} (hc : w.cell? p = some (.bool y)) : (loadVar 4 p).run Tryd.prog w = .ok (.bool y) w := by
  simp [loadVar, isAgg, run_underlying Tryd.underlying4, go_sem, hc]
theorem load_rows {w : World} {p : Addr} {ao : Option Addr} {n c : Nat} (hc : w.cell? p = some (.slice ao n c)) : (loadVar 65 p).run Tryd.prog w = .ok (.slice ao n c) w := by
  simp [loadVar, isAgg, run_underlying Tryd.underlying65, go_sem, hc]
theorem sizeRow : (Tryd.prog.info? 71).map (·.size) = some 37 := by kernel_rfl
theorem sizeRule : (Tryd.prog.info? 68).map (·.size) = some 2 := by kernel_rfl
theorem sizeOp : (Tryd.prog.info? 64).map (·.size) = some 3 := by kernel_rfl
theorem sizeRws : (Tryd.prog.info? 65).map (·.size) = some 1 := by kernel_rfl
theorem sizeInt : (Tryd.prog.info? 3).map (·.size) = some 1 := by kernel_rfl
theorem sizeBool : (Tryd.prog.info? 4).map (·.size) = some 1 := by kernel_rfl
theorem load_row {w : World} {b o : Nat} {x : Rw} (hx : Wf x) (h : w.rangeAt b o x.cells) : (loadVar 71 ⟨b, o, none⟩).run Tryd.prog w = .ok (.agg x.cells.toArray) w :=
  run_loadVar_mid w b o _ _ _ h Tryd.underlying71 rfl (by rw [sizeRow, Rw.cells_len hx])

/-! The table's cells. -/
def tC (bg : Bool) (t : Tb) (vr vk : Value) : List Value := [Value.int .i64 t.size, .bool bg] ++ (t.first.cells ++ (t.now.cells ++ [vr, vk]))
section
variable {bg : Bool} {t : Tb} {vr vk : Value}
theorem tC_len (h : Tw t) : (tC bg t vr vk).length = 78 := by
  simp [tC, Rw.cells_len h.now, Rw.cells_len h.first]
theorem tC_size : (tC bg t vr vk)[0]? = some (.int .i64 t.size) := rfl
theorem tC_bg : (tC bg t vr vk)[1]? = some (.bool bg) := rfl
theorem tC_first (h : Tw t) (j : Nat) (hj : j < 37) : (tC bg t vr vk)[2 + j]? = t.first.cells[j]? := by
  have := Rw.cells_len h.first
  unfold tC
  rw [List.getElem?_append_right (by simp), List.getElem?_append_left (by simp; omega)]
  congr 1; simp
theorem tC_now (h : Tw t) (j : Nat) (hj : j < 37) : (tC bg t vr vk)[39 + j]? = t.now.cells[j]? := by
  have h1 := Rw.cells_len h.first
  have h2 := Rw.cells_len h.now
  unfold tC
  rw [List.getElem?_append_right (by simp; omega), List.getElem?_append_right (by simp; omega), List.getElem?_append_left (by simp; omega)]
  congr 1; simp; omega
theorem tC_r (h : Tw t) : (tC bg t vr vk)[76]? = some vr := by
  have h1 := Rw.cells_len h.first
  have h2 := Rw.cells_len h.now
  unfold tC
  rw [List.getElem?_append_right (by simp), List.getElem?_append_right (by simp; omega), List.getElem?_append_right (by simp; omega)]
  simp [h1, h2]
theorem tC_k (h : Tw t) : (tC bg t vr vk)[77]? = some vk := by
  have h1 := Rw.cells_len h.first
  have h2 := Rw.cells_len h.now
  unfold tC
  rw [List.getElem?_append_right (by simp), List.getElem?_append_right (by simp; omega), List.getElem?_append_right (by simp; omega)]
  simp [h1, h2]
theorem put_now (h : Tw t) (x : Rw) (A M M' B : List Value) (h1 : t.now.cells = A ++ (M ++ B)) (h2 : x.cells = A ++ (M' ++ B)) (hl : M.length = M'.length) (o : Nat) (ho : o = 39 + A.length) :
    putAt (tC bg t vr vk).toArray o M' = (tC bg ⟨t.L, x, t.first, t.kept, t.size⟩ vr vk).toArray := by
  have e := putAt_mid M M' ([Value.int .i64 t.size, .bool bg] ++ (t.first.cells ++ A)) (B ++ [vr, vk]) hl
  have el : ([Value.int .i64 t.size, .bool bg] ++ (t.first.cells ++ A)).length = o := by
    have := Rw.cells_len h.first
    simp; omega
  rw [el] at e
  have e1 : tC bg t vr vk = [Value.int .i64 t.size, .bool bg] ++ (t.first.cells ++ A) ++ (M ++ (B ++ [vr, vk])) := by simp [tC, h1]
  have e2 : tC bg ⟨t.L, x, t.first, t.kept, t.size⟩ vr vk = [Value.int .i64 t.size, .bool bg] ++ (t.first.cells ++ A) ++ (M' ++ (B ++ [vr, vk])) := by simp [tC, h2]
  rw [e1, e2]
  exact e
theorem put_first (h : Tw t) (x : Rw) (hx : Wf x) : putAt (tC bg t vr vk).toArray 2 x.cells = (tC bg ⟨t.L, t.now, x, t.kept, t.size⟩ vr vk).toArray := by
  have e := putAt_mid t.first.cells x.cells [.int .i64 t.size, .bool bg] (t.now.cells ++ [vr, vk]) (by rw [Rw.cells_len h.first, Rw.cells_len hx])
  exact e
theorem put_bg (b : Bool) : putAt (tC bg t vr vk).toArray 1 [.bool b] = (tC b t vr vk).toArray :=
  putAt_mid [.bool bg] [.bool b] [.int .i64 t.size] (t.first.cells ++ (t.now.cells ++ [vr, vk])) rfl
theorem put_r (h : Tw t) (v : Value) : putAt (tC bg t vr vk).toArray 76 [v] = (tC bg t v vk).toArray := by
  have e := putAt_mid [vr] [v] ([Value.int .i64 t.size, .bool bg] ++ (t.first.cells ++ t.now.cells)) [vk] rfl
  have el : ([Value.int .i64 t.size, .bool bg] ++ (t.first.cells ++ t.now.cells)).length = 76 := by
    have h1 := Rw.cells_len h.first
    have h2 := Rw.cells_len h.now
    simp; omega
  rw [el] at e
  have e1 : ∀ u, tC bg t u vk = [Value.int .i64 t.size, .bool bg] ++ (t.first.cells ++ t.now.cells) ++ ([u] ++ [vk]) := fun u => by simp [tC]
  rw [e1, e1]
  exact e
theorem put_k (h : Tw t) (v : Value) : putAt (tC bg t vr vk).toArray 77 [v] = (tC bg t vr v).toArray := by
  have e := putAt_mid [vk] [v] ([Value.int .i64 t.size, .bool bg] ++ (t.first.cells ++ (t.now.cells ++ [vr]))) [] rfl
  have el : ([Value.int .i64 t.size, .bool bg] ++ (t.first.cells ++ (t.now.cells ++ [vr]))).length = 77 := by
    have h1 := Rw.cells_len h.first
    have h2 := Rw.cells_len h.now
    simp; omega
  rw [el] at e
  have e1 : ∀ u, tC bg t vr u = [Value.int .i64 t.size, .bool bg] ++ (t.first.cells ++ (t.now.cells ++ [vr])) ++ ([u] ++ []) := fun u => by simp [tC]
  rw [e1, e1]
  exact e
end

/-- Blocks of others: what stands in them, and that they are not the table's. -/
structure Fx (X : Nat → Option Obj) (w : World) (tb : Nat) (vr vk : Value) : Prop where
  fx : ∀ k c, X k = some c → w.heap[k]? = some c
  xt : X tb = none
  xr : ∀ k, vr.ownBlock = some k → X k = none
  xk : ∀ k, vk.ownBlock = some k → X k = none
def nX : Nat → Option Obj := fun _ => none
theorem Fx.nil (w : World) (tb : Nat) (vr vk : Value) : Fx nX w tb vr vk := ⟨fun k c h => (by cases h), rfl, fun _ _ => rfl, fun _ _ => rfl⟩
theorem lt_of_heap {w : World} {k : Nat} {c : Obj} (h : w.heap[k]? = some c) : k < w.heap.size := by
  rcases Nat.lt_or_ge k w.heap.size with h1 | h1
  · exact h1
  · rw [Array.getElem?_eq_none h1] at h; cases h
theorem Fx.bel {w w' : World} {tb : Nat} {vr vk : Value} (h : Fx X w tb vr vk) (hb : Below w.heap.size w w') : Fx X w' tb vr vk :=
  ⟨fun k c e => (by have e1 := h.fx k c e; rw [hb.block k (lt_of_heap e1)]; exact e1), h.xt, h.xr, h.xk⟩
theorem Fx.set {w : World} {tb : Nat} {vr vk : Value} (h : Fx X w tb vr vk) (V : Array Value) : Fx X (w.setRow tb V) tb vr vk :=
  ⟨fun k c e => by
    have e1 := h.fx k c e
    rw [setRow_other _ _ _ _ (fun e2 => by rw [e2, h.xt] at e; cases e)]
    exact e1, h.xt, h.xr, h.xk⟩
theorem Fx.at_new {w : World} {tb : Nat} {vr vk : Value} (h : Fx X w tb vr vk) {k : Nat} (hk : w.heap.size ≤ k) : X k = none := by
  cases e : X k with
  | none => rfl
  | some c => have := lt_of_heap (h.fx k c e); omega
theorem Fx.grow {w w2 : World} {tb : Nat} {vr vk v2 : Value} (h : Fx X w tb vr vk) (hg : w.grownBy w2 vr.ownBlock) (hb : v2.ownBlock = vr.ownBlock ∨ v2.ownBlock = some w.heap.size) : Fx X w2 tb v2 vk :=
  ⟨fun k c e => by
    have e1 := h.fx k c e
    rw [hg.block k (lt_of_heap e1) (fun e2 => by rw [h.xr k e2.symm] at e; cases e)]
    exact e1, h.xt, fun k hk => by
    rcases hb with e | e
    · exact h.xr k (e ▸ hk)
    · rw [e] at hk; simp at hk; exact h.at_new (by omega), h.xk⟩
theorem Fx.growK {w w2 : World} {tb : Nat} {vr vk v2 : Value} (h : Fx X w tb vr vk) (hg : w.grownBy w2 vk.ownBlock) (hb : v2.ownBlock = vk.ownBlock ∨ v2.ownBlock = some w.heap.size) : Fx X w2 tb vr v2 :=
  ⟨fun k c e => by
    have e1 := h.fx k c e
    rw [hg.block k (lt_of_heap e1) (fun e2 => by rw [h.xk k e2.symm] at e; cases e)]
    exact e1, h.xt, h.xr, fun k hk => by
    rcases hb with e | e
    · exact h.xk k (e ▸ hk)
    · rw [e] at hk; simp at hk; exact h.at_new (by omega)⟩
/-- The table lies in block tb. -/
structure TA (X : Nat → Option Obj) (base : Nat) (w : World) (tb : Nat) (bg : Bool) (t : Tb) (vr vk : Value) : Prop where
  bk : Bk w tb 80 (tC bg t vr vk).toArray
  lo : base ≤ tb
  L : OwnW w base vr t.L
  K : OwnW w base vk t.kept
  nr : vr.ownBlock ≠ some tb
  nk : vk.ownBlock ≠ some tb
  rk : ∀ b, vr.ownBlock = some b → vk.ownBlock ≠ some b
  wf : Tw t
  ff : Fx X w tb vr vk
section
variable {base : Nat} {w w' : World} {tb : Nat} {bg : Bool} {t : Tb} {vr vk : Value}
theorem OwnW.grown {v : Value} {l : List Rw} {row : Option Nat} (h : OwnW w base v l) (hg : w.grownBy w' row) (hn : v.ownBlock = none ∨ v.ownBlock ≠ row) : OwnW w' base v l := ⟨h.1, h.2.kept hg hn⟩
theorem TA.bel (h : TA X base w tb bg t vr vk) (hb : Below w.heap.size w w') : TA X base w' tb bg t vr vk :=
  ⟨h.bk.bel hb h.bk.lt, h.lo, h.L.bel hb, h.K.bel hb, h.nr, h.nk, h.rk, h.wf, h.ff.bel hb⟩
theorem grown_set (w : World) (b : Nat) (V : Array Value) : w.grownBy (w.setRow b V) (some b) :=
  ⟨rfl, rfl, rfl, by simp [World.setRow], fun k _ hk => setRow_other _ _ _ _ (fun e => hk (by rw [e]))⟩
theorem below_set (w : World) (b : Nat) (V : Array Value) {base : Nat} (hb : base ≤ b) : Below base w (w.setRow b V) :=
  ⟨rfl, rfl, rfl, by simp [World.setRow], fun k hk => setRow_other _ _ _ _ (by omega)⟩
/-- The table's own block is written anew. -/
theorem TA.put (h : TA X base w tb bg t vr vk) {bg' : Bool} {t' : Tb} (hL : t'.L = t.L) (hK : t'.kept = t.kept) (hw : Tw t') {V : Array Value} (hV : V = (tC bg' t' vr vk).toArray) : TA X base (w.setRow tb V) tb bg' t' vr vk := by
  subst hV
  refine ⟨h.bk.setR _, h.lo, ?_, ?_, h.nr, h.nk, h.rk, hw, h.ff.set _⟩
  · rw [hL]; exact h.L.grown (grown_set w tb _) (.inr h.nr)
  · rw [hK]; exact h.K.grown (grown_set w tb _) (.inr h.nk)
theorem TA.cell (h : TA X base w tb bg t vr vk) (j : Nat) {x : Value} (hj : (tC bg t vr vk)[j]? = some x) : w.cell? ⟨tb, j, none⟩ = some x := h.bk.cell j (by simpa using hj)
theorem TA.rows (h : TA X base w tb bg t vr vk) : w.cell? ⟨tb, 76, none⟩ = some vr := h.cell 76 (tC_r h.wf)
theorem TA.kept (h : TA X base w tb bg t vr vk) : w.cell? ⟨tb, 77, none⟩ = some vk := h.cell 77 (tC_k h.wf)
theorem TA.size (h : TA X base w tb bg t vr vk) : w.cell? ⟨tb, 0, none⟩ = some (.int .i64 t.size) := h.cell 0 tC_size
theorem TA.begun (h : TA X base w tb bg t vr vk) : w.cell? ⟨tb, 1, none⟩ = some (.bool bg) := h.cell 1 tC_bg
theorem TA.p (h : TA X base w tb bg t vr vk) : w.cell? ⟨tb, 39, none⟩ = some (.int .i64 t.now.p) := h.cell 39 (tC_now h.wf 0 (by omega))
theorem TA.r (h : TA X base w tb bg t vr vk) : w.cell? ⟨tb, 40, none⟩ = some (.int .i64 t.now.r) := h.cell 40 (tC_now h.wf 1 (by omega))
theorem TA.n (h : TA X base w tb bg t vr vk) : w.cell? ⟨tb, 41, none⟩ = some (.int .i64 t.now.n) := h.cell 41 (tC_now h.wf 2 (by omega))
theorem TA.rnow (h : TA X base w tb bg t vr vk) : w.rangeAt tb 39 t.now.cells := fun j v hv => by
  have hl := Rw.cells_len h.wf.now
  have hj : j < 37 := by have := (List.getElem?_eq_some_iff.1 hv).1; omega
  exact h.cell (39 + j) ((tC_now h.wf j hj).trans hv)
theorem TA.rfirst (h : TA X base w tb bg t vr vk) : w.rangeAt tb 2 t.first.cells := fun j v hv => by
  have hl := Rw.cells_len h.wf.first
  have hj : j < 37 := by have := (List.getElem?_eq_some_iff.1 hv).1; omega
  exact h.cell (2 + j) ((tC_first h.wf j hj).trans hv)
theorem TA.len (h : TA X base w tb bg t vr vk) : (tC bg t vr vk).toArray.size = 78 := by simpa using tC_len h.wf
end
/-- What a call that does an op leaves. -/
def TEnd (X : Nat → Option Obj) (base tb : Nat) (bg : Bool) (w w' : World) (o : Option Tb) : Prop := Below base w w' ∧ ∀ t', o = some t' → ∃ vr vk, TA X base w' tb bg t' vr vk
abbrev Oq.val (o : Oq) : Value := .agg #[.int .i64 o.k, .int .i64 o.r, .int .i64 o.n]
end Go.Proofs.YtpbnldfekadalaaDoor
