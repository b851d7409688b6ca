/- The table's methods that keep rows. -/
import Derived.Test.YtpbnldfekadalaaDoorCTabMN
namespace Go.Proofs.YtpbnldfekadalaaDoor
open Go.ChangeShapes Go.WideShapes Go.ChangeAt Go.RowKit
set_option linter.unusedVariables false
set_option linter.unusedSimpArgs false
variable {X : Nat → Option Obj}

theorem fold_put : ∀ (vs : List Value) (k : Nat) (cur : Array Value), (vs.zipIdx k).foldl (fun cs (x : Value × Nat) => cs.setIfInBounds (0 + x.2) x.1) cur = putAt cur k vs
  | [], k, cur => rfl
  | v :: vs, k, cur => by
    show ((vs.zipIdx (k + 1)).foldl _ (cur.setIfInBounds (0 + k) v)) = putAt (cur.setIfInBounds k v) (k + 1) vs
    rw [Nat.zero_add]
    exact fold_put vs (k + 1) _
theorem fill_one (Z : Array Value) (C : List Value) (n : Nat) (hC : C.length = n) (hZ : Z.size = n) : Instr.fill (fun i => some (i * n, n)) Z [(0, .agg C.toArray)] = some C.toArray := by
  have e : (C.toArray.zipIdx.foldl (fun cs (x : Value × Nat) => cs.setIfInBounds (0 + x.2) x.1) Z) = C.toArray := by
    have h1 := fold_put C 0 Z
    have h2 := putAt_mid Z.toList C [] [] (by simp [hZ, hC])
    simp only [List.nil_append, List.append_nil, List.length_nil, Array.toArray_toList] at h2
    rw [h2] at h1
    have hz : C.toArray.zipIdx = C.zipIdx.toArray := by simp
    rw [hz]
    simpa using h1
  simp only [Instr.fill, Value.cells, Nat.zero_mul]
  rw [if_neg (by simp [hC, hZ])]
  rw [e]
theorem info_row : (Tryd.prog.info? 71).map (fun i => (i.zero, i.size, i.bytes)) = some (some (.agg (List.replicate 37 (Value.int .i64 0)).toArray), 37, 296) := by kernel_rfl
theorem exec_build_row {o : Oper} {a : Act} {x : Operand} (w : World) (y : Rw) (hy : Wf y) (ho : o.op = .buildSlice 65 1 #[(0, x)]) (hx : a.eval x = .agg y.cells.toArray) :
    (execOp a.eval o).run Tryd.prog w = .ok (.value (.slice (some ⟨w.heap.size, 0, none⟩) 1 1)) (w.alloc (.cells y.cells.toArray 71)) := by
  obtain ⟨i0, hi, hz0, hz1, hz2⟩ := info_parts info_row
  have hr := run_buildSlice (P := Tryd.prog) w 65 71 1 #[(0, .agg y.cells.toArray)] y.cells.toArray i0 _ Tryd.underlying65 hi hz0 (by rw [hz1]; decide) (by rw [hz1]; decide) (by
    rw [hz1]
    exact fill_one _ _ 37 (Rw.cells_len hy) (by simp))
  unfold execOp
  simp only [ho, List.map_toArray, List.map_cons, List.map_nil, hx, Sem.run_bind]
  rw [hr]
  rfl
theorem wp_append_row {o : Oper} {a : Act} {w : World} {K : Act → World → Prop} {Q : Exit → Act → World → Prop} {s x : Operand} (ho : o.op = .call { callee := .builtin .append, args := #[s, x], argTypes := #[65, 65] })
    {base : Nat} {v : Value} {l : List Rw} {y : Rw} {q : Nat} (hown : OwnW w base v l) (hs : a.eval s = v) (hx : a.eval x = .slice (some ⟨q, 0, none⟩) 1 1) (hq : Bk w q 71 y.cells.toArray) (hy : Wf y) (hn : l.length ≤ 100000) (hbase : base ≤ w.heap.size)
    (h : ∀ v' w', OwnW w' base v' (l ++ [y]) → w.grownBy w' v.ownBlock → (v'.ownBlock = v.ownBlock ∨ v'.ownBlock = some w.heap.size) → K (a.put o.dst v') w') : o.wp Tryd.prog a w K Q := by
  obtain ⟨i0, hi, hz0, hz1, hz2⟩ := info_parts info_row
  obtain ⟨v', w', hr, h2, h3, h4, h5⟩ := run_append_own_at (P := Tryd.prog) w base 65 o.type 71 i0 _ 37 296 Tryd.underlying65 hi hz0 hz1 hz2 (by simp [Value.cells]) (by decide) v l.length _ hown.2 ⟨q, 0, none⟩ 1 1 y.cells (by rw [Rw.cells_len hy]) (fun j u hj => by rw [caddr_add]; exact hq.cell _ (by simpa using hj)) (rw_one y) (by unfold maxLen; omega) (by omega) hbase
  unfold Oper.wp execOp
  simp only [ho, resolve, invoke, builtin, Sem.run_bind, Sem.run_pure, Result.andThen_ok, List.map_toArray, List.map_cons, List.map_nil, hs, hx, hr]
  refine h v' w' ⟨fun z hz => ?_, ?_⟩ h3 h5
  · rcases List.mem_append.1 hz with hz | hz
    · exact hown.1 z hz
    · simp at hz; subst hz; exact hy
  · rw [rwCells_append, List.length_append]
    simpa [rwCells] using h2
theorem wrap_in {x : Int} (h0 : -9223372036854775808 ≤ x) (h1 : x ≤ 9223372036854775807) : IntKind.i64.wrap x = x := by
  simp [IntKind.wrap, IntKind.signed, IntKind.bits]
  omega
theorem exec_add {w : World} {a : Act} {o : Oper} {x y : Operand} {p n : Int} (ho : o.op = .binOp .add 3 x y 3) (hx : a.eval x = .int .i64 p) (hy : a.eval y = .int .i64 n) (h0 : -9223372036854775808 ≤ p + n) (h1 : p + n ≤ 9223372036854775807) : (execOp a.eval o).run Tryd.prog w = .ok (.value (.int .i64 (p + n))) w := by
  unfold execOp
  simp only [ho, hx, hy]
  simp [go_sem, binOp, wrap_in h0 h1]
theorem exec_sub {w : World} {a : Act} {o : Oper} {x y : Operand} {p n : Int} (ho : o.op = .binOp .sub 3 x y 3) (hx : a.eval x = .int .i64 p) (hy : a.eval y = .int .i64 n) (h0 : -9223372036854775808 ≤ p - n) (h1 : p - n ≤ 9223372036854775807) : (execOp a.eval o).run Tryd.prog w = .ok (.value (.int .i64 (p - n))) w := by
  unfold execOp
  simp only [ho, hx, hy]
  simp [go_sem, binOp, wrap_in h0 h1]

section
variable {base : Nat} {w w1 w2 : World} {tb : Nat} {bg : Bool} {t : Tb} {vr vk v2 : Value}
theorem own_lt {v : Value} {l : List Rw} (h : OwnW w base v l) {k : Nat} (hk : v.ownBlock = some k) : k < w.heap.size := (h.2.lt k hk).2
theorem TA.grow {l2 : List Rw} (h : TA X base w tb bg t vr vk) (B : Below w.heap.size w w1) (hg : w1.grownBy w2 vr.ownBlock) (ho : OwnW w2 base v2 l2) (hb : v2.ownBlock = vr.ownBlock ∨ v2.ownBlock = some w1.heap.size) :
    TA X base (w2.setRow tb (putAt (tC bg t vr vk).toArray 76 [v2])) tb bg ⟨l2, t.now, t.first, t.kept, t.size⟩ v2 vk := by
  have h1 := h.bel B
  have bk2 : Bk w2 tb 80 (tC bg t vr vk).toArray := h1.bk.of (hg.block tb h1.bk.lt (Ne.symm h.nr))
  have nr2 : v2.ownBlock ≠ some tb := by
    rcases hb with e | e
    · rw [e]; exact h.nr
    · rw [e]; intro e2; simp at e2; have := h1.bk.lt; omega
  refine ⟨?_, h.lo, ho.grown (grown_set _ _ _) (.inr nr2), ?_, nr2, h.nk, fun b hb2 e => ?_, ⟨ho.1, h.wf.now, h.wf.first, h.wf.kept⟩, (h1.ff.grow hg hb).set _⟩
  · have := bk2.setR (putAt (tC bg t vr vk).toArray 76 [v2])
    rw [put_r h.wf] at this ⊢
    exact this
  · refine (h1.K.grown hg ?_).grown (grown_set _ _ _) (.inr h.nk)
    cases hv : vr.ownBlock with
    | none => cases hv2 : vk.ownBlock with
      | none => exact .inl rfl
      | some c => exact .inr (by simp)
    | some b => exact .inr (h.rk b hv)
  · rcases hb with e1 | e1
    · exact h.rk b (e1 ▸ hb2) e
    · rw [e1] at hb2
      have := own_lt h1.K e
      simp at hb2
      omega
theorem TA.growK {l2 : List Rw} (h : TA X base w tb bg t vr vk) (B : Below w.heap.size w w1) (hg : w1.grownBy w2 vk.ownBlock) (ho : OwnW w2 base v2 l2) (hb : v2.ownBlock = vk.ownBlock ∨ v2.ownBlock = some w1.heap.size) :
    TA X base (w2.setRow tb (putAt (tC bg t vr vk).toArray 77 [v2])) tb bg ⟨t.L, t.now, t.first, l2, t.size⟩ vr v2 := by
  have h1 := h.bel B
  have bk2 : Bk w2 tb 80 (tC bg t vr vk).toArray := h1.bk.of (hg.block tb h1.bk.lt (Ne.symm h.nk))
  have nk2 : v2.ownBlock ≠ some tb := by
    rcases hb with e | e
    · rw [e]; exact h.nk
    · rw [e]; intro e2; simp at e2; have := h1.bk.lt; omega
  refine ⟨?_, h.lo, ?_, ho.grown (grown_set _ _ _) (.inr nk2), h.nr, nk2, fun b hb2 e => ?_, ⟨h.wf.L, h.wf.now, h.wf.first, ho.1⟩, (h1.ff.growK hg hb).set _⟩
  · have := bk2.setR (putAt (tC bg t vr vk).toArray 77 [v2])
    rw [put_k h.wf] at this ⊢
    exact this
  · refine (h1.L.grown hg ?_).grown (grown_set _ _ _) (.inr h.nr)
    cases hv : vr.ownBlock with
    | none => exact .inl rfl
    | some b => exact .inr (fun e => h.rk b hv e.symm)
  · rcases hb with e1 | e1
    · exact h.rk b hb2 (e1 ▸ e)
    · rw [e1] at e
      have := own_lt h1.L hb2
      simp at e
      omega
theorem TA.rows1 (h : TA X base w tb bg t vr vk) {ar : Option Addr} {n c : Nat} (hvr : vr = .slice ar n c) : w.cell? ⟨tb, 76, none⟩ = some (.slice ar n c) := hvr ▸ h.rows
theorem TA.kept1 (h : TA X base w tb bg t vr vk) {ar : Option Addr} {n c : Nat} (hvr : vk = .slice ar n c) : w.cell? ⟨tb, 77, none⟩ = some (.slice ar n c) := hvr ▸ h.kept
theorem bel_grown {row : Option Nat} (hg : w.grownBy w1 row) (hr : ∀ k, row = some k → base ≤ k) (hb : base ≤ w.heap.size) : Below base w w1 :=
  ⟨hg.os, hg.tape, hg.output, hg.size, fun k hk => hg.block k (by omega) (fun e => by have := hr k e.symm; omega)⟩
theorem slice_one (ao : Option Addr) (n c : Nat) : ∀ u ∈ (Value.slice ao n c).cells.toList, u.oneCell' = true := fun u hu => by simp [Value.cells] at hu; subst hu; rfl
theorem rnow_grown (h : TA X base w tb bg t vr vk) {row : Option Nat} (hg : w.grownBy w1 row) (hn : row ≠ some tb) : w1.rangeAt tb 39 t.now.cells := fun j v hv => (World.cell?_of_block (a := ⟨tb, 39 + j, none⟩) (hg.block tb h.bk.lt (Ne.symm hn))).trans (h.rnow j v hv)
end

set_option maxRecDepth 10000 in
set_option maxHeartbeats 1000000 in
theorem advance_tb {base tb : Nat} {w : World} {bg : Bool} {t : Tb} {vr vk : Value} (h : TA X base w tb bg t vr vk) (o : Oq) (hn0 : 0 ≤ o.n) (hn1 : o.n < 2147483648) (hp0 : 0 ≤ t.now.p) (hp1 : t.now.p ≤ t.size) (hs : t.size ≤ 1048576) (hL : t.L.length ≤ 100000) :
    Calls Tryd.prog 37 #[.pointer (some ⟨tb, 0, none⟩), o.val] w fun e w' => e = .returned (.bool (bg && decide ((advM t o.n).now.p ≤ t.size))) ∧ TEnd X base tb bg w w' (if bg = true ∧ (advM t o.n).now.p ≤ t.size then some (advM t o.n) else none) := by
  have HB : Below w.heap.size w (w.alloc (.cells #[.int .i64 o.k, .int .i64 o.r, .int .i64 o.n] 64)) := (Below.refl _ _).alloc (Nat.le_refl _) _
  have HT := h.bel HB
  have HTd := h.bel HB.drew
  have HO : Bk (w.alloc (.cells #[.int .i64 o.k, .int .i64 o.r, .int .i64 o.n] 64)).drew w.heap.size 64 #[.int .i64 o.k, .int .i64 o.r, .int .i64 o.n] := (Bk.new w _ _).of rfl
  have hne : w.heap.size ≠ tb := by have := h.bk.lt; omega
  have hbs : base ≤ w.heap.size := Nat.le_trans h.lo (Nat.le_of_lt h.bk.lt)
  have HBb := HB.mono hbs
  have HBd := HB.drew.mono hbs
  have hor : vr.ownBlock ≠ some w.heap.size := fun e => by have := own_lt h.L e; omega
  obtain ⟨ar, cr, hvr, _⟩ := h.L.any
  generalize hb : (bg && decide ((advM t o.n).now.p ≤ t.size)) = b
  generalize hR : (if bg = true ∧ (advM t o.n).now.p ≤ t.size then some (advM t o.n) else none) = R
  cases bg with
  | false =>
    obtain rfl : b = false := hb.symm
    obtain rfl : R = none := by rw [← hR]; simp
    go_enter Tryd.func37, Tryd.ntmps37
    go_upto_region 1 with fail
    refine wp_region_held_drew (S := fun u => u.cell? ⟨tb, 1, none⟩ = some (.bool false)) (by kernel_rfl) HTd.begun (fun hS => ?_)
    refine wpAnyH_take (i := 0) (v := .pointer (some ⟨tb, 0, none⟩)) rfl (by kernel_rfl) (by kernel_rfl) (by kernel_rfl) (fun _ _ _ h => h) (Or.inl ⟨by kernel_rfl, fun u hu => by kernel_rfl⟩) hS ?_
    simp only [Act.put, List.getElem_toArray, List.getElem_cons_succ, List.getElem_cons_zero, List.setIfInBounds_toArray, List.set_cons_zero, List.set_cons_succ]
    refine wpAnyH_take (i := 1) (v := .pointer (some ⟨tb, 0, none⟩)) rfl (by kernel_rfl) (by kernel_rfl) (by kernel_rfl) (fun _ _ _ h => h) (Or.inl ⟨by kernel_rfl, fun u hu => by kernel_rfl⟩) hS ?_
    simp only [Act.put, List.getElem_toArray, List.getElem_cons_succ, List.getElem_cons_zero, List.setIfInBounds_toArray, List.set_cons_zero, List.set_cons_succ]
    refine wpAnyH_take (i := 2) (v := .pointer (some ⟨tb, 1, none⟩)) rfl (by kernel_rfl) (by kernel_rfl) (by kernel_rfl) (fun _ _ _ h => h) (Or.inl ⟨by kernel_rfl, fun u hu => by kernel_rfl⟩) hS ?_
    simp only [Act.put, List.getElem_toArray, List.getElem_cons_succ, List.getElem_cons_zero, List.setIfInBounds_toArray, List.set_cons_zero, List.set_cons_succ]
    refine wpAnyH_take (i := 3) (v := .bool false) rfl (by kernel_rfl) (by kernel_rfl) (by kernel_rfl) (fun _ _ _ h => h) (Or.inl ⟨by kernel_rfl, fun u hu => exec_loadV (t := 4) (p := ⟨tb, 1, none⟩) rfl (by kernel_rfl) (load_bool hu)⟩) hS ?_
    simp only [Act.put, List.getElem_toArray, List.getElem_cons_succ, List.getElem_cons_zero, List.setIfInBounds_toArray, List.set_cons_zero, List.set_cons_succ]
    refine wpAnyH_take (i := 4) (v := .bool true) rfl (by kernel_rfl) (by kernel_rfl) (by kernel_rfl) (fun _ _ _ h => h) (Or.inl ⟨by kernel_rfl, fun u hu => by kernel_rfl⟩) hS ?_
    simp only [Act.put, List.getElem_toArray, List.getElem_cons_succ, List.getElem_cons_zero, List.setIfInBounds_toArray, List.set_cons_zero, List.set_cons_succ]
    refine wpAnyH_take (i := 5) (v := .bool true) rfl (by kernel_rfl) (by kernel_rfl) (by kernel_rfl) (fun _ _ _ h => h) (Or.inl ⟨by kernel_rfl, fun u hu => by kernel_rfl⟩) hS ?_
    simp only [Act.put, List.getElem_toArray, List.getElem_cons_succ, List.getElem_cons_zero, List.setIfInBounds_toArray, List.set_cons_zero, List.set_cons_succ]
    refine wpAnyH_take (i := 6) (v := undef) rfl (by kernel_rfl) (by kernel_rfl) (by kernel_rfl) (fun _ _ _ h => h) (Or.inr ⟨by kernel_rfl, rfl⟩) hS ?_
    simp only [Act.put, List.getElem_toArray, List.getElem_cons_succ, List.getElem_cons_zero, List.setIfInBounds_toArray, List.set_cons_zero, List.set_cons_succ]
    refine wpAnyH_take (i := 7) (v := undef) rfl (by kernel_rfl) (by kernel_rfl) (by kernel_rfl) (fun _ _ _ h => h) (Or.inr ⟨by kernel_rfl, rfl⟩) hS ?_
    simp only [Act.put, List.getElem_toArray, List.getElem_cons_succ, List.getElem_cons_zero, List.setIfInBounds_toArray, List.set_cons_zero, List.set_cons_succ]
    refine wpAnyH_take (i := 8) (v := undef) rfl (by kernel_rfl) (by kernel_rfl) (by kernel_rfl) (fun _ _ _ h => h) (Or.inr ⟨by kernel_rfl, rfl⟩) hS ?_
    simp only [Act.put, List.getElem_toArray, List.getElem_cons_succ, List.getElem_cons_zero, List.setIfInBounds_toArray, List.set_cons_zero, List.set_cons_succ]
    refine wpAnyH_take (i := 9) (v := undef) rfl (by kernel_rfl) (by kernel_rfl) (by kernel_rfl) (fun _ _ _ h => h) (Or.inr ⟨by kernel_rfl, rfl⟩) hS ?_
    simp only [Act.put, List.getElem_toArray, List.getElem_cons_succ, List.getElem_cons_zero, List.setIfInBounds_toArray, List.set_cons_zero, List.set_cons_succ]
    refine wpAnyH_take (i := 10) (v := undef) rfl (by kernel_rfl) (by kernel_rfl) (by kernel_rfl) (fun _ _ _ h => h) (Or.inr ⟨by kernel_rfl, rfl⟩) hS ?_
    simp only [Act.put, List.getElem_toArray, List.getElem_cons_succ, List.getElem_cons_zero, List.setIfInBounds_toArray, List.set_cons_zero, List.set_cons_succ]
    refine wpAnyH_take (i := 11) (v := undef) rfl (by kernel_rfl) (by kernel_rfl) (by kernel_rfl) (fun _ _ _ h => h) (Or.inr ⟨by kernel_rfl, rfl⟩) hS ?_
    simp only [Act.put, List.getElem_toArray, List.getElem_cons_succ, List.getElem_cons_zero, List.setIfInBounds_toArray, List.set_cons_zero, List.set_cons_succ]
    refine wpAnyH_take (i := 12) (v := undef) rfl (by kernel_rfl) (by kernel_rfl) (by kernel_rfl) (fun _ _ _ h => h) (Or.inr ⟨by kernel_rfl, rfl⟩) hS ?_
    simp only [Act.put, List.getElem_toArray, List.getElem_cons_succ, List.getElem_cons_zero, List.setIfInBounds_toArray, List.set_cons_zero, List.set_cons_succ]
    refine wpAnyH_take (i := 13) (v := undef) rfl (by kernel_rfl) (by kernel_rfl) (by kernel_rfl) (fun _ _ _ h => h) (Or.inr ⟨by kernel_rfl, rfl⟩) hS ?_
    simp only [Act.put, List.getElem_toArray, List.getElem_cons_succ, List.getElem_cons_zero, List.setIfInBounds_toArray, List.set_cons_zero, List.set_cons_succ]
    refine wpAnyH_take (i := 14) (v := undef) rfl (by kernel_rfl) (by kernel_rfl) (by kernel_rfl) (fun _ _ _ h => h) (Or.inr ⟨by kernel_rfl, rfl⟩) hS ?_
    simp only [Act.put, List.getElem_toArray, List.getElem_cons_succ, List.getElem_cons_zero, List.setIfInBounds_toArray, List.set_cons_zero, List.set_cons_succ]
    refine wpAnyH_take (i := 15) (v := undef) rfl (by kernel_rfl) (by kernel_rfl) (by kernel_rfl) (fun _ _ _ h => h) (Or.inr ⟨by kernel_rfl, rfl⟩) hS ?_
    simp only [Act.put, List.getElem_toArray, List.getElem_cons_succ, List.getElem_cons_zero, List.setIfInBounds_toArray, List.set_cons_zero, List.set_cons_succ]
    refine wpAnyH_take (i := 16) (v := undef) rfl (by kernel_rfl) (by kernel_rfl) (by kernel_rfl) (fun _ _ _ h => h) (Or.inr ⟨by kernel_rfl, rfl⟩) hS ?_
    simp only [Act.put, List.getElem_toArray, List.getElem_cons_succ, List.getElem_cons_zero, List.setIfInBounds_toArray, List.set_cons_zero, List.set_cons_succ]
    refine wpAnyH_take (i := 17) (v := undef) rfl (by kernel_rfl) (by kernel_rfl) (by kernel_rfl) (fun _ _ _ h => h) (Or.inr ⟨by kernel_rfl, rfl⟩) hS ?_
    simp only [Act.put, List.getElem_toArray, List.getElem_cons_succ, List.getElem_cons_zero, List.setIfInBounds_toArray, List.set_cons_zero, List.set_cons_succ]
    refine wpAnyH_take (i := 18) (v := undef) rfl (by kernel_rfl) (by kernel_rfl) (by kernel_rfl) (fun _ _ _ h => h) (Or.inr ⟨by kernel_rfl, rfl⟩) hS ?_
    simp only [Act.put, List.getElem_toArray, List.getElem_cons_succ, List.getElem_cons_zero, List.setIfInBounds_toArray, List.set_cons_zero, List.set_cons_succ]
    refine wpAnyH_take (i := 19) (v := .bool true) rfl (by kernel_rfl) (by kernel_rfl) (by kernel_rfl) (fun _ _ _ h => h) (Or.inl ⟨by kernel_rfl, fun u hu => by kernel_rfl⟩) hS ?_
    simp only [Act.put, List.getElem_toArray, List.getElem_cons_succ, List.getElem_cons_zero, List.setIfInBounds_toArray, List.set_cons_zero, List.set_cons_succ]
    refine wpAnyH_done (by kernel_rfl) ?_ _
    go_wp2_with fail
    go_ret
    exact ⟨rfl, HBd, fun t' ht => by cases ht⟩
  | true =>
    go_enter Tryd.func37, Tryd.ntmps37
    go_upto_region 1 with fail
    refine wp_region_held_drew (S := fun u => Bk u w.heap.size 64 #[.int .i64 o.k, .int .i64 o.r, .int .i64 o.n] ∧ u.cell? ⟨tb, 0, none⟩ = some (.int .i64 t.size) ∧ u.cell? ⟨tb, 1, none⟩ = some (.bool true) ∧ u.cell? ⟨tb, 39, none⟩ = some (.int .i64 t.now.p)) (by kernel_rfl) ⟨HO, HTd.size, HTd.begun, HTd.p⟩ (fun hS => ?_)
    refine wpAnyH_take (i := 0) (v := .pointer (some ⟨tb, 0, none⟩)) rfl (by kernel_rfl) (by kernel_rfl) (by kernel_rfl) (fun _ _ _ h => h) (Or.inl ⟨by kernel_rfl, fun u hu => by kernel_rfl⟩) hS ?_
    simp only [Act.put, List.getElem_toArray, List.getElem_cons_succ, List.getElem_cons_zero, List.setIfInBounds_toArray, List.set_cons_zero, List.set_cons_succ]
    refine wpAnyH_take (i := 1) (v := .pointer (some ⟨tb, 0, none⟩)) rfl (by kernel_rfl) (by kernel_rfl) (by kernel_rfl) (fun _ _ _ h => h) (Or.inl ⟨by kernel_rfl, fun u hu => by kernel_rfl⟩) hS ?_
    simp only [Act.put, List.getElem_toArray, List.getElem_cons_succ, List.getElem_cons_zero, List.setIfInBounds_toArray, List.set_cons_zero, List.set_cons_succ]
    refine wpAnyH_take (i := 2) (v := .pointer (some ⟨tb, 1, none⟩)) rfl (by kernel_rfl) (by kernel_rfl) (by kernel_rfl) (fun _ _ _ h => h) (Or.inl ⟨by kernel_rfl, fun u hu => by kernel_rfl⟩) hS ?_
    simp only [Act.put, List.getElem_toArray, List.getElem_cons_succ, List.getElem_cons_zero, List.setIfInBounds_toArray, List.set_cons_zero, List.set_cons_succ]
    refine wpAnyH_take (i := 3) (v := .bool true) rfl (by kernel_rfl) (by kernel_rfl) (by kernel_rfl) (fun _ _ _ h => h) (Or.inl ⟨by kernel_rfl, fun u hu => exec_loadV (t := 4) (p := ⟨tb, 1, none⟩) rfl (by kernel_rfl) (load_bool hu.2.2.1)⟩) hS ?_
    simp only [Act.put, List.getElem_toArray, List.getElem_cons_succ, List.getElem_cons_zero, List.setIfInBounds_toArray, List.set_cons_zero, List.set_cons_succ]
    refine wpAnyH_take (i := 4) (v := .bool false) rfl (by kernel_rfl) (by kernel_rfl) (by kernel_rfl) (fun _ _ _ h => h) (Or.inl ⟨by kernel_rfl, fun u hu => by kernel_rfl⟩) hS ?_
    simp only [Act.put, List.getElem_toArray, List.getElem_cons_succ, List.getElem_cons_zero, List.setIfInBounds_toArray, List.set_cons_zero, List.set_cons_succ]
    refine wpAnyH_take (i := 5) (v := .bool false) rfl (by kernel_rfl) (by kernel_rfl) (by kernel_rfl) (fun _ _ _ h => h) (Or.inl ⟨by kernel_rfl, fun u hu => by kernel_rfl⟩) hS ?_
    simp only [Act.put, List.getElem_toArray, List.getElem_cons_succ, List.getElem_cons_zero, List.setIfInBounds_toArray, List.set_cons_zero, List.set_cons_succ]
    refine wpAnyH_take (i := 6) (v := .pointer (some ⟨w.heap.size, 2, none⟩)) rfl (by kernel_rfl) (by kernel_rfl) (by kernel_rfl) (fun _ _ _ h => h) (Or.inl ⟨by kernel_rfl, fun u hu => by kernel_rfl⟩) hS ?_
    simp only [Act.put, List.getElem_toArray, List.getElem_cons_succ, List.getElem_cons_zero, List.setIfInBounds_toArray, List.set_cons_zero, List.set_cons_succ]
    refine wpAnyH_take (i := 7) (v := .int .i64 o.n) rfl (by kernel_rfl) (by kernel_rfl) (by kernel_rfl) (fun _ _ _ h => h) (Or.inl ⟨by kernel_rfl, fun u hu => exec_loadV (t := 3) (p := ⟨w.heap.size, 2, none⟩) rfl (by kernel_rfl) (load_i64 (hu.1.cell 2 rfl))⟩) hS ?_
    simp only [Act.put, List.getElem_toArray, List.getElem_cons_succ, List.getElem_cons_zero, List.setIfInBounds_toArray, List.set_cons_zero, List.set_cons_succ]
    refine wpAnyH_take (i := 8) (v := .pointer (some ⟨tb, 0, none⟩)) rfl (by kernel_rfl) (by kernel_rfl) (by kernel_rfl) (fun _ _ _ h => h) (Or.inl ⟨by kernel_rfl, fun u hu => by kernel_rfl⟩) hS ?_
    simp only [Act.put, List.getElem_toArray, List.getElem_cons_succ, List.getElem_cons_zero, List.setIfInBounds_toArray, List.set_cons_zero, List.set_cons_succ]
    refine wpAnyH_take (i := 9) (v := .pointer (some ⟨tb, 0, none⟩)) rfl (by kernel_rfl) (by kernel_rfl) (by kernel_rfl) (fun _ _ _ h => h) (Or.inl ⟨by kernel_rfl, fun u hu => by kernel_rfl⟩) hS ?_
    simp only [Act.put, List.getElem_toArray, List.getElem_cons_succ, List.getElem_cons_zero, List.setIfInBounds_toArray, List.set_cons_zero, List.set_cons_succ]
    refine wpAnyH_take (i := 10) (v := .pointer (some ⟨tb, 0, none⟩)) rfl (by kernel_rfl) (by kernel_rfl) (by kernel_rfl) (fun _ _ _ h => h) (Or.inl ⟨by kernel_rfl, fun u hu => by kernel_rfl⟩) hS ?_
    simp only [Act.put, List.getElem_toArray, List.getElem_cons_succ, List.getElem_cons_zero, List.setIfInBounds_toArray, List.set_cons_zero, List.set_cons_succ]
    refine wpAnyH_take (i := 11) (v := .int .i64 t.size) rfl (by kernel_rfl) (by kernel_rfl) (by kernel_rfl) (fun _ _ _ h => h) (Or.inl ⟨by kernel_rfl, fun u hu => exec_loadV (t := 3) (p := ⟨tb, 0, none⟩) rfl (by kernel_rfl) (load_i64 hu.2.1)⟩) hS ?_
    simp only [Act.put, List.getElem_toArray, List.getElem_cons_succ, List.getElem_cons_zero, List.setIfInBounds_toArray, List.set_cons_zero, List.set_cons_succ]
    refine wpAnyH_take (i := 12) (v := .pointer (some ⟨tb, 0, none⟩)) rfl (by kernel_rfl) (by kernel_rfl) (by kernel_rfl) (fun _ _ _ h => h) (Or.inl ⟨by kernel_rfl, fun u hu => by kernel_rfl⟩) hS ?_
    simp only [Act.put, List.getElem_toArray, List.getElem_cons_succ, List.getElem_cons_zero, List.setIfInBounds_toArray, List.set_cons_zero, List.set_cons_succ]
    refine wpAnyH_take (i := 13) (v := .pointer (some ⟨tb, 0, none⟩)) rfl (by kernel_rfl) (by kernel_rfl) (by kernel_rfl) (fun _ _ _ h => h) (Or.inl ⟨by kernel_rfl, fun u hu => by kernel_rfl⟩) hS ?_
    simp only [Act.put, List.getElem_toArray, List.getElem_cons_succ, List.getElem_cons_zero, List.setIfInBounds_toArray, List.set_cons_zero, List.set_cons_succ]
    refine wpAnyH_take (i := 14) (v := .pointer (some ⟨tb, 39, none⟩)) rfl (by kernel_rfl) (by kernel_rfl) (by kernel_rfl) (fun _ _ _ h => h) (Or.inl ⟨by kernel_rfl, fun u hu => by kernel_rfl⟩) hS ?_
    simp only [Act.put, List.getElem_toArray, List.getElem_cons_succ, List.getElem_cons_zero, List.setIfInBounds_toArray, List.set_cons_zero, List.set_cons_succ]
    refine wpAnyH_take (i := 15) (v := .pointer (some ⟨tb, 39, none⟩)) rfl (by kernel_rfl) (by kernel_rfl) (by kernel_rfl) (fun _ _ _ h => h) (Or.inl ⟨by kernel_rfl, fun u hu => by kernel_rfl⟩) hS ?_
    simp only [Act.put, List.getElem_toArray, List.getElem_cons_succ, List.getElem_cons_zero, List.setIfInBounds_toArray, List.set_cons_zero, List.set_cons_succ]
    refine wpAnyH_take (i := 16) (v := .int .i64 t.now.p) rfl (by kernel_rfl) (by kernel_rfl) (by kernel_rfl) (fun _ _ _ h => h) (Or.inl ⟨by kernel_rfl, fun u hu => exec_loadV (t := 3) (p := ⟨tb, 39, none⟩) rfl (by kernel_rfl) (load_i64 hu.2.2.2)⟩) hS ?_
    simp only [Act.put, List.getElem_toArray, List.getElem_cons_succ, List.getElem_cons_zero, List.setIfInBounds_toArray, List.set_cons_zero, List.set_cons_succ]
    refine wpAnyH_take (i := 17) (v := .int .i64 (t.size - t.now.p)) rfl (by kernel_rfl) (by kernel_rfl) (by kernel_rfl) (fun _ _ _ h => h) (Or.inl ⟨by kernel_rfl, fun u hu => exec_sub rfl (by kernel_rfl) (by kernel_rfl) (by omega) (by omega)⟩) hS ?_
    simp only [Act.put, List.getElem_toArray, List.getElem_cons_succ, List.getElem_cons_zero, List.setIfInBounds_toArray, List.set_cons_zero, List.set_cons_succ]
    refine wpAnyH_take (i := 18) (v := .bool (decide (t.size - t.now.p < o.n))) rfl (by kernel_rfl) (by kernel_rfl) (by kernel_rfl) (fun _ _ _ h => h) (Or.inl ⟨by kernel_rfl, fun u hu => by kernel_rfl⟩) hS ?_
    simp only [Act.put, List.getElem_toArray, List.getElem_cons_succ, List.getElem_cons_zero, List.setIfInBounds_toArray, List.set_cons_zero, List.set_cons_succ]
    refine wpAnyH_take (i := 19) (v := .bool (decide (t.size - t.now.p < o.n))) rfl (by kernel_rfl) (by kernel_rfl) (by kernel_rfl) (fun _ _ _ h => h) (Or.inl ⟨by kernel_rfl, fun u hu => by kernel_rfl⟩) hS ?_
    simp only [Act.put, List.getElem_toArray, List.getElem_cons_succ, List.getElem_cons_zero, List.setIfInBounds_toArray, List.set_cons_zero, List.set_cons_succ]
    refine wpAnyH_done (by kernel_rfl) ?_ _
    have cn := HO.cell 2 rfl
    generalize (w.alloc (.cells #[.int .i64 o.k, .int .i64 o.r, .int .i64 o.n] 64)).drew = W at *
    clear hS HB HT HBb
    by_cases hgt : t.size - t.now.p < o.n
    · have hd : decide (t.size - t.now.p < o.n) = true := by simpa using hgt
      have hno : ¬ (advM t o.n).now.p ≤ t.size := by
        unfold advM
        rw [if_pos (by omega)]
        show ¬ t.now.p + o.n ≤ t.size
        omega
      obtain rfl : b = false := by rw [← hb]; simp [hno]
      obtain rfl : R = none := by rw [← hR]; simp [hno]
      rw [hd]
      go_wp2_with fail
      go_ret
      exact ⟨rfl, HBd, fun t' ht => by cases ht⟩
    have hd : decide (t.size - t.now.p < o.n) = false := by simpa using hgt
    rw [hd]
    by_cases hpos : 0 < o.n
    · have hyes : (advM t o.n).now.p ≤ t.size := by
        unfold advM
        rw [if_pos hpos]
        show t.now.p + o.n ≤ t.size
        omega
      have hadv : advM t o.n = ⟨t.L ++ [t.now], ⟨t.now.p + o.n, t.now.r, t.now.n, t.now.z⟩, t.first, t.kept, t.size⟩ := by unfold advM; rw [if_pos hpos]
      go_upto_region 4 with fail
      have H4 := HTd.bel ((Below.refl W.heap.size W).drew)
      have B4 := HBd.trans ((Below.refl base W).drew)
      have O4 : Bk W.drew w.heap.size 64 #[.int .i64 o.k, .int .i64 o.r, .int .i64 o.n] := HO.of rfl
      have hWs : w.heap.size < W.drew.heap.size := O4.lt
      have hb4 : base ≤ W.drew.heap.size := Nat.le_trans hbs (Nat.le_of_lt hWs)
      obtain rfl : b = true := by rw [← hb]; simp [hyes]
      obtain rfl : R = some ⟨t.L ++ [t.now], ⟨t.now.p + o.n, t.now.r, t.now.n, t.now.z⟩, t.first, t.kept, t.size⟩ := by rw [← hR, if_pos ⟨rfl, hyes⟩, hadv]
      refine wp_region_held_drew (S := fun u => u.rangeAt tb 39 t.now.cells) (by kernel_rfl) H4.rnow (fun hS => ?_)

      generalize W.drew = W4 at *
      have B5 : Below W4.heap.size W4 (W4.alloc (.cells t.now.cells.toArray 71)) := (Below.refl _ _).alloc (Nat.le_refl _) _
      have H5 := H4.bel B5
      have N5 : Bk (W4.alloc (.cells t.now.cells.toArray 71)) W4.heap.size 71 t.now.cells.toArray := Bk.new _ _ _
      have hb5 : base ≤ (W4.alloc (.cells t.now.cells.toArray 71)).heap.size := Nat.le_trans hb4 B5.size
      refine wpAnyH_take (i := 0) (v := .pointer (some ⟨tb, 0, none⟩)) rfl (by kernel_rfl) (by kernel_rfl) (by kernel_rfl) (fun _ _ _ h => h) (Or.inl ⟨by kernel_rfl, fun u hu => by kernel_rfl⟩) hS ?_
      simp only [Act.put, List.getElem_toArray, List.getElem_cons_succ, List.getElem_cons_zero, List.setIfInBounds_toArray, List.set_cons_zero, List.set_cons_succ]
      refine wpAnyH_take (i := 1) (v := .pointer (some ⟨tb, 0, none⟩)) rfl (by kernel_rfl) (by kernel_rfl) (by kernel_rfl) (fun _ _ _ h => h) (Or.inl ⟨by kernel_rfl, fun u hu => by kernel_rfl⟩) hS ?_
      simp only [Act.put, List.getElem_toArray, List.getElem_cons_succ, List.getElem_cons_zero, List.setIfInBounds_toArray, List.set_cons_zero, List.set_cons_succ]
      refine wpAnyH_take (i := 2) (v := .pointer (some ⟨tb, 0, none⟩)) rfl (by kernel_rfl) (by kernel_rfl) (by kernel_rfl) (fun _ _ _ h => h) (Or.inl ⟨by kernel_rfl, fun u hu => by kernel_rfl⟩) hS ?_
      simp only [Act.put, List.getElem_toArray, List.getElem_cons_succ, List.getElem_cons_zero, List.setIfInBounds_toArray, List.set_cons_zero, List.set_cons_succ]
      refine wpAnyH_take (i := 3) (v := .pointer (some ⟨tb, 76, none⟩)) rfl (by kernel_rfl) (by kernel_rfl) (by kernel_rfl) (fun _ _ _ h => h) (Or.inl ⟨by kernel_rfl, fun u hu => by kernel_rfl⟩) hS ?_
      simp only [Act.put, List.getElem_toArray, List.getElem_cons_succ, List.getElem_cons_zero, List.setIfInBounds_toArray, List.set_cons_zero, List.set_cons_succ]
      refine wpAnyH_take (i := 5) (v := .pointer (some ⟨tb, 0, none⟩)) rfl (by kernel_rfl) (by kernel_rfl) (by kernel_rfl) (fun _ _ _ h => h) (Or.inl ⟨by kernel_rfl, fun u hu => by kernel_rfl⟩) hS ?_
      simp only [Act.put, List.getElem_toArray, List.getElem_cons_succ, List.getElem_cons_zero, List.setIfInBounds_toArray, List.set_cons_zero, List.set_cons_succ]
      refine wpAnyH_take (i := 6) (v := .pointer (some ⟨tb, 0, none⟩)) rfl (by kernel_rfl) (by kernel_rfl) (by kernel_rfl) (fun _ _ _ h => h) (Or.inl ⟨by kernel_rfl, fun u hu => by kernel_rfl⟩) hS ?_
      simp only [Act.put, List.getElem_toArray, List.getElem_cons_succ, List.getElem_cons_zero, List.setIfInBounds_toArray, List.set_cons_zero, List.set_cons_succ]
      refine wpAnyH_take (i := 7) (v := .pointer (some ⟨tb, 39, none⟩)) rfl (by kernel_rfl) (by kernel_rfl) (by kernel_rfl) (fun _ _ _ h => h) (Or.inl ⟨by kernel_rfl, fun u hu => by kernel_rfl⟩) hS ?_
      simp only [Act.put, List.getElem_toArray, List.getElem_cons_succ, List.getElem_cons_zero, List.setIfInBounds_toArray, List.set_cons_zero, List.set_cons_succ]
      refine wpAnyH_take (i := 8) (v := .agg t.now.cells.toArray) rfl (by kernel_rfl) (by kernel_rfl) (by kernel_rfl) (fun _ _ _ h => h) (Or.inl ⟨by kernel_rfl, fun u hu => exec_loadV (t := 71) (p := ⟨tb, 39, none⟩) rfl (by kernel_rfl) (load_row h.wf.now hu)⟩) hS ?_
      simp only [Act.put, List.getElem_toArray, List.getElem_cons_succ, List.getElem_cons_zero, List.setIfInBounds_toArray, List.set_cons_zero, List.set_cons_succ]
      refine wpAnyH_ready (rs := [4, 9]) (by kernel_rfl) (by simp) ?_
      refine AllReadyH.cons rfl (fun K hK => ?_) (AllReadyH.cons rfl (fun K hK => ?_) AllReadyH.nil)
      · simp only [List.getElem_toArray, List.getElem_cons_succ, List.getElem_cons_zero]
        refine wp_if (by kernel_rfl) ?_
        refine wp_val (v := .slice ar t.L.length cr) (exec_loadV (t := 65) (p := ⟨tb, 76, none⟩) rfl (by kernel_rfl) (load_rows (H4.rows1 hvr))) ?_
        refine hK.out _ _ H4.rnow (fun hS => ?_)
        clear hK
        simp only [Act.put, List.getElem_toArray, List.getElem_cons_succ, List.getElem_cons_zero, List.setIfInBounds_toArray, List.set_cons_zero, List.set_cons_succ]
        refine wpAnyH_ready (rs := [9]) (by kernel_rfl) (by simp) ?_
        refine AllReadyH.cons rfl (fun K hK => ?_) AllReadyH.nil
        simp only [List.getElem_toArray, List.getElem_cons_succ, List.getElem_cons_zero]
        refine wp_if (by kernel_rfl) ?_
        refine wp_val (v := .slice (some ⟨W4.heap.size, 0, none⟩) 1 1) (exec_build_row W4 t.now h.wf.now rfl (by kernel_rfl)) ?_
        refine hK.out _ _ H5.rnow (fun hS => ?_)
        clear hK
        simp only [Act.put, List.getElem_toArray, List.getElem_cons_succ, List.getElem_cons_zero, List.setIfInBounds_toArray, List.set_cons_zero, List.set_cons_succ]
        refine wpAnyH_ready (rs := [10]) (by kernel_rfl) (by simp) ?_
        refine AllReadyH.cons rfl (fun K hK => ?_) AllReadyH.nil
        simp only [List.getElem_toArray, List.getElem_cons_succ, List.getElem_cons_zero]
        refine wp_if (by kernel_rfl) ?_
        refine wp_append_row rfl H5.L (by rw [hvr]; rfl) (by kernel_rfl) N5 h.wf.now hL hb5 (fun v6 w6 ho6 hg hbk => ?_)
        have hnr : vr.ownBlock ≠ some tb := h.nr
        have bk6 : Bk w6 tb 80 (tC true t vr vk).toArray := H5.bk.of (hg.block tb H5.bk.lt (Ne.symm hnr))
        have H7 := H4.grow B5 hg ho6 hbk
        have B7 : Below base w (w6.setRow tb (putAt (tC true t vr vk).toArray 76 [v6])) := (B4.trans (B5.mono hb4)).trans ((bel_grown hg (fun k hk => (h.L.2.lt k hk).1) hb5).trans (below_set _ tb _ h.lo))
        have O7 : Bk (w6.setRow tb (putAt (tC true t vr vk).toArray 76 [v6])) w.heap.size 64 #[.int .i64 o.k, .int .i64 o.r, .int .i64 o.n] := ((O4.bel B5 O4.lt).of (hg.block _ (by have := B5.size; omega) (Ne.symm hor))).setO hne _
        refine hK.out _ _ (rnow_grown H5 hg hnr) (fun hS => ?_)
        clear hK
        simp only [Act.put, List.getElem_toArray, List.getElem_cons_succ, List.getElem_cons_zero, List.setIfInBounds_toArray, List.set_cons_zero, List.set_cons_succ]
        refine wpAnyH_take (i := 11) (v := .pointer (some ⟨tb, 0, none⟩)) rfl (by kernel_rfl) (by kernel_rfl) (by kernel_rfl) (fun _ _ _ h => h) (Or.inl ⟨by kernel_rfl, fun u hu => by kernel_rfl⟩) hS ?_
        simp only [Act.put, List.getElem_toArray, List.getElem_cons_succ, List.getElem_cons_zero, List.setIfInBounds_toArray, List.set_cons_zero, List.set_cons_succ]
        refine wpAnyH_take (i := 12) (v := .pointer (some ⟨tb, 76, none⟩)) rfl (by kernel_rfl) (by kernel_rfl) (by kernel_rfl) (fun _ _ _ h => h) (Or.inl ⟨by kernel_rfl, fun u hu => by kernel_rfl⟩) hS ?_
        simp only [Act.put, List.getElem_toArray, List.getElem_cons_succ, List.getElem_cons_zero, List.setIfInBounds_toArray, List.set_cons_zero, List.set_cons_succ]
        refine wpAnyH_ready (rs := [13]) (by kernel_rfl) (by simp) ?_
        refine AllReadyH.cons rfl (fun K hK => ?_) AllReadyH.nil
        simp only [List.getElem_toArray, List.getElem_cons_succ, List.getElem_cons_zero]
        refine wp_if (by kernel_rfl) ?_
        obtain ⟨a6, c6, hv6, _⟩ := ho6.any
        refine wp_part (g := tb) (off := 76) (val := v6) rfl (by kernel_rfl) (by kernel_rfl) bk6 (by rw [hv6, sizeRws]; rfl) (by rw [H5.len, hv6]; show 76 + 1 ≤ 78; omega) (by rw [hv6]; exact slice_one _ _ _) rfl ?_
        have ev : v6.cells.toList = [v6] := by rw [hv6]; rfl
        rw [ev]
        clear ev hv6
        refine hK.out _ _ H7.rnow (fun _ => ?_)
        clear hK
        simp only [Act.put, List.getElem_toArray, List.getElem_cons_succ, List.getElem_cons_zero, List.setIfInBounds_toArray, List.set_cons_zero, List.set_cons_succ]
        refine wpAnyH_done (by kernel_rfl) ?_ _
        generalize w6.setRow tb (putAt (tC true t vr vk).toArray 76 [v6]) = W7 at *
        go_upto_region 5 with fail
        have H8 := H7.bel ((Below.refl W7.heap.size W7).drew)
        have B8 := B7.trans ((Below.refl base W7).drew)
        have O8 : Bk W7.drew w.heap.size 64 #[.int .i64 o.k, .int .i64 o.r, .int .i64 o.n] := O7.of rfl
        refine wp_region_held_drew (S := fun u => Bk u w.heap.size 64 #[.int .i64 o.k, .int .i64 o.r, .int .i64 o.n]) (by kernel_rfl) O8 (fun hS => ?_)
        generalize W7.drew = W8 at *
        refine wpAnyH_take (i := 0) (v := .pointer (some ⟨tb, 0, none⟩)) rfl (by kernel_rfl) (by kernel_rfl) (by kernel_rfl) (fun _ _ _ h => h) (Or.inl ⟨by kernel_rfl, fun u hu => by kernel_rfl⟩) hS ?_
        simp only [Act.put, List.getElem_toArray, List.getElem_cons_succ, List.getElem_cons_zero, List.setIfInBounds_toArray, List.set_cons_zero, List.set_cons_succ]
        refine wpAnyH_take (i := 1) (v := .pointer (some ⟨tb, 0, none⟩)) rfl (by kernel_rfl) (by kernel_rfl) (by kernel_rfl) (fun _ _ _ h => h) (Or.inl ⟨by kernel_rfl, fun u hu => by kernel_rfl⟩) hS ?_
        simp only [Act.put, List.getElem_toArray, List.getElem_cons_succ, List.getElem_cons_zero, List.setIfInBounds_toArray, List.set_cons_zero, List.set_cons_succ]
        refine wpAnyH_take (i := 2) (v := .pointer (some ⟨tb, 39, none⟩)) rfl (by kernel_rfl) (by kernel_rfl) (by kernel_rfl) (fun _ _ _ h => h) (Or.inl ⟨by kernel_rfl, fun u hu => by kernel_rfl⟩) hS ?_
        simp only [Act.put, List.getElem_toArray, List.getElem_cons_succ, List.getElem_cons_zero, List.setIfInBounds_toArray, List.set_cons_zero, List.set_cons_succ]
        refine wpAnyH_take (i := 3) (v := .pointer (some ⟨tb, 39, none⟩)) rfl (by kernel_rfl) (by kernel_rfl) (by kernel_rfl) (fun _ _ _ h => h) (Or.inl ⟨by kernel_rfl, fun u hu => by kernel_rfl⟩) hS ?_
        simp only [Act.put, List.getElem_toArray, List.getElem_cons_succ, List.getElem_cons_zero, List.setIfInBounds_toArray, List.set_cons_zero, List.set_cons_succ]
        refine wpAnyH_take (i := 5) (v := .pointer (some ⟨w.heap.size, 2, none⟩)) rfl (by kernel_rfl) (by kernel_rfl) (by kernel_rfl) (fun _ _ _ h => h) (Or.inl ⟨by kernel_rfl, fun u hu => by kernel_rfl⟩) hS ?_
        simp only [Act.put, List.getElem_toArray, List.getElem_cons_succ, List.getElem_cons_zero, List.setIfInBounds_toArray, List.set_cons_zero, List.set_cons_succ]
        refine wpAnyH_take (i := 6) (v := .int .i64 o.n) rfl (by kernel_rfl) (by kernel_rfl) (by kernel_rfl) (fun _ _ _ h => h) (Or.inl ⟨by kernel_rfl, fun u hu => exec_loadV (t := 3) (p := ⟨w.heap.size, 2, none⟩) rfl (by kernel_rfl) (load_i64 (hu.cell 2 rfl))⟩) hS ?_
        simp only [Act.put, List.getElem_toArray, List.getElem_cons_succ, List.getElem_cons_zero, List.setIfInBounds_toArray, List.set_cons_zero, List.set_cons_succ]
        refine wpAnyH_ready (rs := [4]) (by kernel_rfl) (by simp) ?_
        refine AllReadyH.cons rfl (fun K hK => ?_) AllReadyH.nil
        simp only [List.getElem_toArray, List.getElem_cons_succ, List.getElem_cons_zero]
        refine wp_if (by kernel_rfl) ?_
        refine wp_val (v := .int .i64 t.now.p) (exec_loadV (t := 3) (p := ⟨tb, 39, none⟩) rfl (by kernel_rfl) (load_i64 H8.p)) ?_
        refine hK.out _ _ O8 (fun hS => ?_)
        clear hK
        simp only [Act.put, List.getElem_toArray, List.getElem_cons_succ, List.getElem_cons_zero, List.setIfInBounds_toArray, List.set_cons_zero, List.set_cons_succ]
        refine wpAnyH_take (i := 7) (v := .int .i64 (t.now.p + o.n)) rfl (by kernel_rfl) (by kernel_rfl) (by kernel_rfl) (fun _ _ _ h => h) (Or.inl ⟨by kernel_rfl, fun u hu => exec_add rfl (by kernel_rfl) (by kernel_rfl) (by omega) (by omega)⟩) hS ?_
        simp only [Act.put, List.getElem_toArray, List.getElem_cons_succ, List.getElem_cons_zero, List.setIfInBounds_toArray, List.set_cons_zero, List.set_cons_succ]
        refine wpAnyH_take (i := 8) (v := .pointer (some ⟨tb, 0, none⟩)) rfl (by kernel_rfl) (by kernel_rfl) (by kernel_rfl) (fun _ _ _ h => h) (Or.inl ⟨by kernel_rfl, fun u hu => by kernel_rfl⟩) hS ?_
        simp only [Act.put, List.getElem_toArray, List.getElem_cons_succ, List.getElem_cons_zero, List.setIfInBounds_toArray, List.set_cons_zero, List.set_cons_succ]
        refine wpAnyH_take (i := 9) (v := .pointer (some ⟨tb, 39, none⟩)) rfl (by kernel_rfl) (by kernel_rfl) (by kernel_rfl) (fun _ _ _ h => h) (Or.inl ⟨by kernel_rfl, fun u hu => by kernel_rfl⟩) hS ?_
        simp only [Act.put, List.getElem_toArray, List.getElem_cons_succ, List.getElem_cons_zero, List.setIfInBounds_toArray, List.set_cons_zero, List.set_cons_succ]
        refine wpAnyH_take (i := 10) (v := .pointer (some ⟨tb, 39, none⟩)) rfl (by kernel_rfl) (by kernel_rfl) (by kernel_rfl) (fun _ _ _ h => h) (Or.inl ⟨by kernel_rfl, fun u hu => by kernel_rfl⟩) hS ?_
        simp only [Act.put, List.getElem_toArray, List.getElem_cons_succ, List.getElem_cons_zero, List.setIfInBounds_toArray, List.set_cons_zero, List.set_cons_succ]
        refine wpAnyH_ready (rs := [11]) (by kernel_rfl) (by simp) ?_
        refine AllReadyH.cons rfl (fun K hK => ?_) AllReadyH.nil
        simp only [List.getElem_toArray, List.getElem_cons_succ, List.getElem_cons_zero]
        refine wp_if (by kernel_rfl) ?_
        refine wp_part (g := tb) (off := 39) (val := .int .i64 (t.now.p + o.n)) rfl (by kernel_rfl) (by kernel_rfl) H8.bk (by rw [sizeInt]; rfl) (by rw [H8.len]; show 39 + 1 ≤ 78; omega) (one_cells _) rfl ?_
        have H9 := H8.setP (t.now.p + o.n)
        have B9 := B8.trans (below_set _ tb (putAt (tC true ⟨t.L ++ [t.now], t.now, t.first, t.kept, t.size⟩ v6 vk).toArray 39 [.int .i64 (t.now.p + o.n)]) h.lo)
        refine hK.out _ _ (O8.setO hne _) (fun _ => ?_)
        clear hK
        simp only [Act.put, List.getElem_toArray, List.getElem_cons_succ, List.getElem_cons_zero, List.setIfInBounds_toArray, List.set_cons_zero, List.set_cons_succ]
        refine wpAnyH_done (by kernel_rfl) ?_ _
        go_wp2_with fail
        go_ret
        refine ⟨rfl, B9, fun t' ht => ?_⟩
        cases ht
        exact ⟨v6, vk, H9⟩
      · simp only [List.getElem_toArray, List.getElem_cons_succ, List.getElem_cons_zero]
        refine wp_if (by kernel_rfl) ?_
        refine wp_val (v := .slice (some ⟨W4.heap.size, 0, none⟩) 1 1) (exec_build_row W4 t.now h.wf.now rfl (by kernel_rfl)) ?_
        refine hK.out _ _ H5.rnow (fun hS => ?_)
        clear hK
        simp only [Act.put, List.getElem_toArray, List.getElem_cons_succ, List.getElem_cons_zero, List.setIfInBounds_toArray, List.set_cons_zero, List.set_cons_succ]
        refine wpAnyH_ready (rs := [4]) (by kernel_rfl) (by simp) ?_
        refine AllReadyH.cons rfl (fun K hK => ?_) AllReadyH.nil
        simp only [List.getElem_toArray, List.getElem_cons_succ, List.getElem_cons_zero]
        refine wp_if (by kernel_rfl) ?_
        refine wp_val (v := .slice ar t.L.length cr) (exec_loadV (t := 65) (p := ⟨tb, 76, none⟩) rfl (by kernel_rfl) (load_rows (H5.rows1 hvr))) ?_
        refine hK.out _ _ H5.rnow (fun hS => ?_)
        clear hK
        simp only [Act.put, List.getElem_toArray, List.getElem_cons_succ, List.getElem_cons_zero, List.setIfInBounds_toArray, List.set_cons_zero, List.set_cons_succ]
        refine wpAnyH_ready (rs := [10]) (by kernel_rfl) (by simp) ?_
        refine AllReadyH.cons rfl (fun K hK => ?_) AllReadyH.nil
        simp only [List.getElem_toArray, List.getElem_cons_succ, List.getElem_cons_zero]
        refine wp_if (by kernel_rfl) ?_
        refine wp_append_row rfl H5.L (by rw [hvr]; rfl) (by kernel_rfl) N5 h.wf.now hL hb5 (fun v6 w6 ho6 hg hbk => ?_)
        have hnr : vr.ownBlock ≠ some tb := h.nr
        have bk6 : Bk w6 tb 80 (tC true t vr vk).toArray := H5.bk.of (hg.block tb H5.bk.lt (Ne.symm hnr))
        have H7 := H4.grow B5 hg ho6 hbk
        have B7 : Below base w (w6.setRow tb (putAt (tC true t vr vk).toArray 76 [v6])) := (B4.trans (B5.mono hb4)).trans ((bel_grown hg (fun k hk => (h.L.2.lt k hk).1) hb5).trans (below_set _ tb _ h.lo))
        have O7 : Bk (w6.setRow tb (putAt (tC true t vr vk).toArray 76 [v6])) w.heap.size 64 #[.int .i64 o.k, .int .i64 o.r, .int .i64 o.n] := ((O4.bel B5 O4.lt).of (hg.block _ (by have := B5.size; omega) (Ne.symm hor))).setO hne _
        refine hK.out _ _ (rnow_grown H5 hg hnr) (fun hS => ?_)
        clear hK
        simp only [Act.put, List.getElem_toArray, List.getElem_cons_succ, List.getElem_cons_zero, List.setIfInBounds_toArray, List.set_cons_zero, List.set_cons_succ]
        refine wpAnyH_take (i := 11) (v := .pointer (some ⟨tb, 0, none⟩)) rfl (by kernel_rfl) (by kernel_rfl) (by kernel_rfl) (fun _ _ _ h => h) (Or.inl ⟨by kernel_rfl, fun u hu => by kernel_rfl⟩) hS ?_
        simp only [Act.put, List.getElem_toArray, List.getElem_cons_succ, List.getElem_cons_zero, List.setIfInBounds_toArray, List.set_cons_zero, List.set_cons_succ]
        refine wpAnyH_take (i := 12) (v := .pointer (some ⟨tb, 76, none⟩)) rfl (by kernel_rfl) (by kernel_rfl) (by kernel_rfl) (fun _ _ _ h => h) (Or.inl ⟨by kernel_rfl, fun u hu => by kernel_rfl⟩) hS ?_
        simp only [Act.put, List.getElem_toArray, List.getElem_cons_succ, List.getElem_cons_zero, List.setIfInBounds_toArray, List.set_cons_zero, List.set_cons_succ]
        refine wpAnyH_ready (rs := [13]) (by kernel_rfl) (by simp) ?_
        refine AllReadyH.cons rfl (fun K hK => ?_) AllReadyH.nil
        simp only [List.getElem_toArray, List.getElem_cons_succ, List.getElem_cons_zero]
        refine wp_if (by kernel_rfl) ?_
        obtain ⟨a6, c6, hv6, _⟩ := ho6.any
        refine wp_part (g := tb) (off := 76) (val := v6) rfl (by kernel_rfl) (by kernel_rfl) bk6 (by rw [hv6, sizeRws]; rfl) (by rw [H5.len, hv6]; show 76 + 1 ≤ 78; omega) (by rw [hv6]; exact slice_one _ _ _) rfl ?_
        have ev : v6.cells.toList = [v6] := by rw [hv6]; rfl
        rw [ev]
        clear ev hv6
        refine hK.out _ _ H7.rnow (fun _ => ?_)
        clear hK
        simp only [Act.put, List.getElem_toArray, List.getElem_cons_succ, List.getElem_cons_zero, List.setIfInBounds_toArray, List.set_cons_zero, List.set_cons_succ]
        refine wpAnyH_done (by kernel_rfl) ?_ _
        generalize w6.setRow tb (putAt (tC true t vr vk).toArray 76 [v6]) = W7 at *
        go_upto_region 5 with fail
        have H8 := H7.bel ((Below.refl W7.heap.size W7).drew)
        have B8 := B7.trans ((Below.refl base W7).drew)
        have O8 : Bk W7.drew w.heap.size 64 #[.int .i64 o.k, .int .i64 o.r, .int .i64 o.n] := O7.of rfl
        refine wp_region_held_drew (S := fun u => Bk u w.heap.size 64 #[.int .i64 o.k, .int .i64 o.r, .int .i64 o.n]) (by kernel_rfl) O8 (fun hS => ?_)
        generalize W7.drew = W8 at *
        refine wpAnyH_take (i := 0) (v := .pointer (some ⟨tb, 0, none⟩)) rfl (by kernel_rfl) (by kernel_rfl) (by kernel_rfl) (fun _ _ _ h => h) (Or.inl ⟨by kernel_rfl, fun u hu => by kernel_rfl⟩) hS ?_
        simp only [Act.put, List.getElem_toArray, List.getElem_cons_succ, List.getElem_cons_zero, List.setIfInBounds_toArray, List.set_cons_zero, List.set_cons_succ]
        refine wpAnyH_take (i := 1) (v := .pointer (some ⟨tb, 0, none⟩)) rfl (by kernel_rfl) (by kernel_rfl) (by kernel_rfl) (fun _ _ _ h => h) (Or.inl ⟨by kernel_rfl, fun u hu => by kernel_rfl⟩) hS ?_
        simp only [Act.put, List.getElem_toArray, List.getElem_cons_succ, List.getElem_cons_zero, List.setIfInBounds_toArray, List.set_cons_zero, List.set_cons_succ]
        refine wpAnyH_take (i := 2) (v := .pointer (some ⟨tb, 39, none⟩)) rfl (by kernel_rfl) (by kernel_rfl) (by kernel_rfl) (fun _ _ _ h => h) (Or.inl ⟨by kernel_rfl, fun u hu => by kernel_rfl⟩) hS ?_
        simp only [Act.put, List.getElem_toArray, List.getElem_cons_succ, List.getElem_cons_zero, List.setIfInBounds_toArray, List.set_cons_zero, List.set_cons_succ]
        refine wpAnyH_take (i := 3) (v := .pointer (some ⟨tb, 39, none⟩)) rfl (by kernel_rfl) (by kernel_rfl) (by kernel_rfl) (fun _ _ _ h => h) (Or.inl ⟨by kernel_rfl, fun u hu => by kernel_rfl⟩) hS ?_
        simp only [Act.put, List.getElem_toArray, List.getElem_cons_succ, List.getElem_cons_zero, List.setIfInBounds_toArray, List.set_cons_zero, List.set_cons_succ]
        refine wpAnyH_take (i := 5) (v := .pointer (some ⟨w.heap.size, 2, none⟩)) rfl (by kernel_rfl) (by kernel_rfl) (by kernel_rfl) (fun _ _ _ h => h) (Or.inl ⟨by kernel_rfl, fun u hu => by kernel_rfl⟩) hS ?_
        simp only [Act.put, List.getElem_toArray, List.getElem_cons_succ, List.getElem_cons_zero, List.setIfInBounds_toArray, List.set_cons_zero, List.set_cons_succ]
        refine wpAnyH_take (i := 6) (v := .int .i64 o.n) rfl (by kernel_rfl) (by kernel_rfl) (by kernel_rfl) (fun _ _ _ h => h) (Or.inl ⟨by kernel_rfl, fun u hu => exec_loadV (t := 3) (p := ⟨w.heap.size, 2, none⟩) rfl (by kernel_rfl) (load_i64 (hu.cell 2 rfl))⟩) hS ?_
        simp only [Act.put, List.getElem_toArray, List.getElem_cons_succ, List.getElem_cons_zero, List.setIfInBounds_toArray, List.set_cons_zero, List.set_cons_succ]
        refine wpAnyH_ready (rs := [4]) (by kernel_rfl) (by simp) ?_
        refine AllReadyH.cons rfl (fun K hK => ?_) AllReadyH.nil
        simp only [List.getElem_toArray, List.getElem_cons_succ, List.getElem_cons_zero]
        refine wp_if (by kernel_rfl) ?_
        refine wp_val (v := .int .i64 t.now.p) (exec_loadV (t := 3) (p := ⟨tb, 39, none⟩) rfl (by kernel_rfl) (load_i64 H8.p)) ?_
        refine hK.out _ _ O8 (fun hS => ?_)
        clear hK
        simp only [Act.put, List.getElem_toArray, List.getElem_cons_succ, List.getElem_cons_zero, List.setIfInBounds_toArray, List.set_cons_zero, List.set_cons_succ]
        refine wpAnyH_take (i := 7) (v := .int .i64 (t.now.p + o.n)) rfl (by kernel_rfl) (by kernel_rfl) (by kernel_rfl) (fun _ _ _ h => h) (Or.inl ⟨by kernel_rfl, fun u hu => exec_add rfl (by kernel_rfl) (by kernel_rfl) (by omega) (by omega)⟩) hS ?_
        simp only [Act.put, List.getElem_toArray, List.getElem_cons_succ, List.getElem_cons_zero, List.setIfInBounds_toArray, List.set_cons_zero, List.set_cons_succ]
        refine wpAnyH_take (i := 8) (v := .pointer (some ⟨tb, 0, none⟩)) rfl (by kernel_rfl) (by kernel_rfl) (by kernel_rfl) (fun _ _ _ h => h) (Or.inl ⟨by kernel_rfl, fun u hu => by kernel_rfl⟩) hS ?_
        simp only [Act.put, List.getElem_toArray, List.getElem_cons_succ, List.getElem_cons_zero, List.setIfInBounds_toArray, List.set_cons_zero, List.set_cons_succ]
        refine wpAnyH_take (i := 9) (v := .pointer (some ⟨tb, 39, none⟩)) rfl (by kernel_rfl) (by kernel_rfl) (by kernel_rfl) (fun _ _ _ h => h) (Or.inl ⟨by kernel_rfl, fun u hu => by kernel_rfl⟩) hS ?_
        simp only [Act.put, List.getElem_toArray, List.getElem_cons_succ, List.getElem_cons_zero, List.setIfInBounds_toArray, List.set_cons_zero, List.set_cons_succ]
        refine wpAnyH_take (i := 10) (v := .pointer (some ⟨tb, 39, none⟩)) rfl (by kernel_rfl) (by kernel_rfl) (by kernel_rfl) (fun _ _ _ h => h) (Or.inl ⟨by kernel_rfl, fun u hu => by kernel_rfl⟩) hS ?_
        simp only [Act.put, List.getElem_toArray, List.getElem_cons_succ, List.getElem_cons_zero, List.setIfInBounds_toArray, List.set_cons_zero, List.set_cons_succ]
        refine wpAnyH_ready (rs := [11]) (by kernel_rfl) (by simp) ?_
        refine AllReadyH.cons rfl (fun K hK => ?_) AllReadyH.nil
        simp only [List.getElem_toArray, List.getElem_cons_succ, List.getElem_cons_zero]
        refine wp_if (by kernel_rfl) ?_
        refine wp_part (g := tb) (off := 39) (val := .int .i64 (t.now.p + o.n)) rfl (by kernel_rfl) (by kernel_rfl) H8.bk (by rw [sizeInt]; rfl) (by rw [H8.len]; show 39 + 1 ≤ 78; omega) (one_cells _) rfl ?_
        have H9 := H8.setP (t.now.p + o.n)
        have B9 := B8.trans (below_set _ tb (putAt (tC true ⟨t.L ++ [t.now], t.now, t.first, t.kept, t.size⟩ v6 vk).toArray 39 [.int .i64 (t.now.p + o.n)]) h.lo)
        refine hK.out _ _ (O8.setO hne _) (fun _ => ?_)
        clear hK
        simp only [Act.put, List.getElem_toArray, List.getElem_cons_succ, List.getElem_cons_zero, List.setIfInBounds_toArray, List.set_cons_zero, List.set_cons_succ]
        refine wpAnyH_done (by kernel_rfl) ?_ _
        go_wp2_with fail
        go_ret
        refine ⟨rfl, B9, fun t' ht => ?_⟩
        cases ht
        exact ⟨v6, vk, H9⟩
    · obtain ⟨on0⟩ : Nonempty (o.n = 0) := ⟨by omega⟩
      have hyes : (advM t o.n).now.p ≤ t.size := by
        unfold advM
        rw [if_neg hpos]
        exact hp1
      have hadv : advM t o.n = t := by unfold advM; rw [if_neg hpos]
      obtain rfl : b = true := by rw [← hb]; simp [hyes]
      obtain rfl : R = some t := by rw [← hR, if_pos ⟨rfl, hyes⟩, hadv]
      go_wp2_with fail
      go_ret
      refine ⟨rfl, HBd, fun t' ht => ?_⟩
      cases ht
      exact ⟨vr, vk, HTd⟩

set_option maxRecDepth 10000 in
set_option maxHeartbeats 1000000 in
theorem remember_tb {base tb : Nat} {w : World} {bg : Bool} {t : Tb} {vr vk : Value} (h : TA X base w tb bg t vr vk) (o : Oq) (hk64 : t.kept.length ≤ 64) :
    Calls Tryd.prog 45 #[.pointer (some ⟨tb, 0, none⟩), o.val] w fun e w' => e = .returned (.bool (bg && decide (t.kept.length + 1 ≤ 64))) ∧ TEnd X base tb bg w w' (if bg = true ∧ t.kept.length + 1 ≤ 64 then some ⟨t.L, t.now, t.first, t.kept ++ [t.now], t.size⟩ else none) := by
  have HB : Below w.heap.size w (w.alloc (.cells #[.int .i64 o.k, .int .i64 o.r, .int .i64 o.n] 64)) := (Below.refl _ _).alloc (Nat.le_refl _) _
  have HT := h.bel HB
  have HTd := h.bel HB.drew
  have HO : Bk (w.alloc (.cells #[.int .i64 o.k, .int .i64 o.r, .int .i64 o.n] 64)).drew w.heap.size 64 #[.int .i64 o.k, .int .i64 o.r, .int .i64 o.n] := (Bk.new w _ _).of rfl
  have hne : w.heap.size ≠ tb := by have := h.bk.lt; omega
  have hbs : base ≤ w.heap.size := Nat.le_trans h.lo (Nat.le_of_lt h.bk.lt)
  have HBb := HB.mono hbs
  have HBd := HB.drew.mono hbs
  have hor : vk.ownBlock ≠ some w.heap.size := fun e => by have := own_lt h.K e; omega
  obtain ⟨ar, cr, hvr, _⟩ := h.K.any
  have c1 := HT.begun
  have c2 := HT.kept1 hvr
  generalize hb : (bg && decide (t.kept.length + 1 ≤ 64)) = b
  generalize hR : (if bg = true ∧ t.kept.length + 1 ≤ 64 then some (⟨t.L, t.now, t.first, t.kept ++ [t.now], t.size⟩ : Tb) else none) = R
  cases bg with
  | false =>
    obtain rfl : b = false := hb.symm
    obtain rfl : R = none := by rw [← hR]; simp
    go_enter Tryd.func45, Tryd.ntmps45
    go_wp2_with fail
    go_ret
    exact ⟨rfl, HBb, fun t' ht => by cases ht⟩
  | true =>
    by_cases h64 : t.kept.length = 64
    · have e64 : ((t.kept.length : Int) == 64) = true := by simp; omega
      obtain rfl : b = false := by rw [← hb]; simp; omega
      obtain rfl : R = none := by rw [← hR, if_neg (by omega)]
      go_enter Tryd.func45, Tryd.ntmps45
      go_wp2_with fail
      go_ret
      exact ⟨rfl, HBb, fun t' ht => by cases ht⟩
    · have e64 : ((t.kept.length : Int) == 64) = false := by simp; omega
      obtain rfl : b = true := by rw [← hb]; simp; omega
      obtain rfl : R = some ⟨t.L, t.now, t.first, t.kept ++ [t.now], t.size⟩ := by rw [← hR, if_pos ⟨rfl, by omega⟩]
      go_enter Tryd.func45, Tryd.ntmps45
      go_upto_region 3 with fail
      clear c1 c2 e64
      generalize w.alloc (.cells #[.int .i64 o.k, .int .i64 o.r, .int .i64 o.n] 64) = W at *
      have H4 : TA X base W.drew tb true t vr vk := HTd
      have B4 : Below base w W.drew := HBd
      have hb4 : base ≤ W.drew.heap.size := Nat.le_trans h.lo (Nat.le_of_lt H4.bk.lt)
      have hL : t.kept.length ≤ 100000 := by omega
      refine wp_region_held_drew (S := fun u => u.rangeAt tb 39 t.now.cells) (by kernel_rfl) H4.rnow (fun hS => ?_)
      generalize W.drew = W4 at *
      have B5 : Below W4.heap.size W4 (W4.alloc (.cells t.now.cells.toArray 71)) := (Below.refl _ _).alloc (Nat.le_refl _) _
      have H5 := H4.bel B5
      have N5 : Bk (W4.alloc (.cells t.now.cells.toArray 71)) W4.heap.size 71 t.now.cells.toArray := Bk.new _ _ _
      have hb5 : base ≤ (W4.alloc (.cells t.now.cells.toArray 71)).heap.size := Nat.le_trans hb4 B5.size
      refine wpAnyH_take (i := 0) (v := .pointer (some ⟨tb, 0, none⟩)) rfl (by kernel_rfl) (by kernel_rfl) (by kernel_rfl) (fun _ _ _ h => h) (Or.inl ⟨by kernel_rfl, fun u hu => by kernel_rfl⟩) hS ?_
      simp only [Act.put, List.getElem_toArray, List.getElem_cons_succ, List.getElem_cons_zero, List.setIfInBounds_toArray, List.set_cons_zero, List.set_cons_succ]
      refine wpAnyH_take (i := 1) (v := .pointer (some ⟨tb, 0, none⟩)) rfl (by kernel_rfl) (by kernel_rfl) (by kernel_rfl) (fun _ _ _ h => h) (Or.inl ⟨by kernel_rfl, fun u hu => by kernel_rfl⟩) hS ?_
      simp only [Act.put, List.getElem_toArray, List.getElem_cons_succ, List.getElem_cons_zero, List.setIfInBounds_toArray, List.set_cons_zero, List.set_cons_succ]
      refine wpAnyH_take (i := 2) (v := .pointer (some ⟨tb, 0, none⟩)) rfl (by kernel_rfl) (by kernel_rfl) (by kernel_rfl) (fun _ _ _ h => h) (Or.inl ⟨by kernel_rfl, fun u hu => by kernel_rfl⟩) hS ?_
      simp only [Act.put, List.getElem_toArray, List.getElem_cons_succ, List.getElem_cons_zero, List.setIfInBounds_toArray, List.set_cons_zero, List.set_cons_succ]
      refine wpAnyH_take (i := 3) (v := .pointer (some ⟨tb, 77, none⟩)) rfl (by kernel_rfl) (by kernel_rfl) (by kernel_rfl) (fun _ _ _ h => h) (Or.inl ⟨by kernel_rfl, fun u hu => by kernel_rfl⟩) hS ?_
      simp only [Act.put, List.getElem_toArray, List.getElem_cons_succ, List.getElem_cons_zero, List.setIfInBounds_toArray, List.set_cons_zero, List.set_cons_succ]
      refine wpAnyH_take (i := 5) (v := .pointer (some ⟨tb, 0, none⟩)) rfl (by kernel_rfl) (by kernel_rfl) (by kernel_rfl) (fun _ _ _ h => h) (Or.inl ⟨by kernel_rfl, fun u hu => by kernel_rfl⟩) hS ?_
      simp only [Act.put, List.getElem_toArray, List.getElem_cons_succ, List.getElem_cons_zero, List.setIfInBounds_toArray, List.set_cons_zero, List.set_cons_succ]
      refine wpAnyH_take (i := 6) (v := .pointer (some ⟨tb, 0, none⟩)) rfl (by kernel_rfl) (by kernel_rfl) (by kernel_rfl) (fun _ _ _ h => h) (Or.inl ⟨by kernel_rfl, fun u hu => by kernel_rfl⟩) hS ?_
      simp only [Act.put, List.getElem_toArray, List.getElem_cons_succ, List.getElem_cons_zero, List.setIfInBounds_toArray, List.set_cons_zero, List.set_cons_succ]
      refine wpAnyH_take (i := 7) (v := .pointer (some ⟨tb, 39, none⟩)) rfl (by kernel_rfl) (by kernel_rfl) (by kernel_rfl) (fun _ _ _ h => h) (Or.inl ⟨by kernel_rfl, fun u hu => by kernel_rfl⟩) hS ?_
      simp only [Act.put, List.getElem_toArray, List.getElem_cons_succ, List.getElem_cons_zero, List.setIfInBounds_toArray, List.set_cons_zero, List.set_cons_succ]
      refine wpAnyH_take (i := 8) (v := .agg t.now.cells.toArray) rfl (by kernel_rfl) (by kernel_rfl) (by kernel_rfl) (fun _ _ _ h => h) (Or.inl ⟨by kernel_rfl, fun u hu => exec_loadV (t := 71) (p := ⟨tb, 39, none⟩) rfl (by kernel_rfl) (load_row h.wf.now hu)⟩) hS ?_
      simp only [Act.put, List.getElem_toArray, List.getElem_cons_succ, List.getElem_cons_zero, List.setIfInBounds_toArray, List.set_cons_zero, List.set_cons_succ]
      refine wpAnyH_ready (rs := [4, 9]) (by kernel_rfl) (by simp) ?_
      refine AllReadyH.cons rfl (fun K hK => ?_) (AllReadyH.cons rfl (fun K hK => ?_) AllReadyH.nil)
      · simp only [List.getElem_toArray, List.getElem_cons_succ, List.getElem_cons_zero]
        refine wp_if (by kernel_rfl) ?_
        refine wp_val (v := .slice ar t.kept.length cr) (exec_loadV (t := 65) (p := ⟨tb, 77, none⟩) rfl (by kernel_rfl) (load_rows (H4.kept1 hvr))) ?_
        refine hK.out _ _ H4.rnow (fun hS => ?_)
        clear hK
        simp only [Act.put, List.getElem_toArray, List.getElem_cons_succ, List.getElem_cons_zero, List.setIfInBounds_toArray, List.set_cons_zero, List.set_cons_succ]
        refine wpAnyH_ready (rs := [9]) (by kernel_rfl) (by simp) ?_
        refine AllReadyH.cons rfl (fun K hK => ?_) AllReadyH.nil
        simp only [List.getElem_toArray, List.getElem_cons_succ, List.getElem_cons_zero]
        refine wp_if (by kernel_rfl) ?_
        refine wp_val (v := .slice (some ⟨W4.heap.size, 0, none⟩) 1 1) (exec_build_row W4 t.now h.wf.now rfl (by kernel_rfl)) ?_
        refine hK.out _ _ H5.rnow (fun hS => ?_)
        clear hK
        simp only [Act.put, List.getElem_toArray, List.getElem_cons_succ, List.getElem_cons_zero, List.setIfInBounds_toArray, List.set_cons_zero, List.set_cons_succ]
        refine wpAnyH_ready (rs := [10]) (by kernel_rfl) (by simp) ?_
        refine AllReadyH.cons rfl (fun K hK => ?_) AllReadyH.nil
        simp only [List.getElem_toArray, List.getElem_cons_succ, List.getElem_cons_zero]
        refine wp_if (by kernel_rfl) ?_
        refine wp_append_row rfl H5.K (by rw [hvr]; rfl) (by kernel_rfl) N5 h.wf.now hL hb5 (fun v6 w6 ho6 hg hbk => ?_)
        have hnr : vk.ownBlock ≠ some tb := h.nk
        have bk6 : Bk w6 tb 80 (tC true t vr vk).toArray := H5.bk.of (hg.block tb H5.bk.lt (Ne.symm hnr))
        have H7 := H4.growK B5 hg ho6 hbk
        have B7 : Below base w (w6.setRow tb (putAt (tC true t vr vk).toArray 77 [v6])) := (B4.trans (B5.mono hb4)).trans ((bel_grown hg (fun k hk => (h.K.2.lt k hk).1) hb5).trans (below_set _ tb _ h.lo))
        refine hK.out _ _ (rnow_grown H5 hg hnr) (fun hS => ?_)
        clear hK
        simp only [Act.put, List.getElem_toArray, List.getElem_cons_succ, List.getElem_cons_zero, List.setIfInBounds_toArray, List.set_cons_zero, List.set_cons_succ]
        refine wpAnyH_take (i := 11) (v := .pointer (some ⟨tb, 0, none⟩)) rfl (by kernel_rfl) (by kernel_rfl) (by kernel_rfl) (fun _ _ _ h => h) (Or.inl ⟨by kernel_rfl, fun u hu => by kernel_rfl⟩) hS ?_
        simp only [Act.put, List.getElem_toArray, List.getElem_cons_succ, List.getElem_cons_zero, List.setIfInBounds_toArray, List.set_cons_zero, List.set_cons_succ]
        refine wpAnyH_take (i := 12) (v := .pointer (some ⟨tb, 77, none⟩)) rfl (by kernel_rfl) (by kernel_rfl) (by kernel_rfl) (fun _ _ _ h => h) (Or.inl ⟨by kernel_rfl, fun u hu => by kernel_rfl⟩) hS ?_
        simp only [Act.put, List.getElem_toArray, List.getElem_cons_succ, List.getElem_cons_zero, List.setIfInBounds_toArray, List.set_cons_zero, List.set_cons_succ]
        refine wpAnyH_ready (rs := [13]) (by kernel_rfl) (by simp) ?_
        refine AllReadyH.cons rfl (fun K hK => ?_) AllReadyH.nil
        simp only [List.getElem_toArray, List.getElem_cons_succ, List.getElem_cons_zero]
        refine wp_if (by kernel_rfl) ?_
        obtain ⟨a6, c6, hv6, _⟩ := ho6.any
        refine wp_part (g := tb) (off := 77) (val := v6) rfl (by kernel_rfl) (by kernel_rfl) bk6 (by rw [hv6, sizeRws]; rfl) (by rw [H5.len, hv6]; show 77 + 1 ≤ 78; omega) (by rw [hv6]; exact slice_one _ _ _) rfl ?_
        have ev : v6.cells.toList = [v6] := by rw [hv6]; rfl
        rw [ev]
        clear ev hv6
        refine hK.out _ _ H7.rnow (fun _ => ?_)
        clear hK
        simp only [Act.put, List.getElem_toArray, List.getElem_cons_succ, List.getElem_cons_zero, List.setIfInBounds_toArray, List.set_cons_zero, List.set_cons_succ]
        refine wpAnyH_done (by kernel_rfl) ?_ _
        generalize w6.setRow tb (putAt (tC true t vr vk).toArray 77 [v6]) = W7 at *
        go_wp2_with fail
        go_ret
        refine ⟨rfl, B7, fun t' ht => ?_⟩
        cases ht
        exact ⟨vr, v6, H7⟩
      · simp only [List.getElem_toArray, List.getElem_cons_succ, List.getElem_cons_zero]
        refine wp_if (by kernel_rfl) ?_
        refine wp_val (v := .slice (some ⟨W4.heap.size, 0, none⟩) 1 1) (exec_build_row W4 t.now h.wf.now rfl (by kernel_rfl)) ?_
        refine hK.out _ _ H5.rnow (fun hS => ?_)
        clear hK
        simp only [Act.put, List.getElem_toArray, List.getElem_cons_succ, List.getElem_cons_zero, List.setIfInBounds_toArray, List.set_cons_zero, List.set_cons_succ]
        refine wpAnyH_ready (rs := [4]) (by kernel_rfl) (by simp) ?_
        refine AllReadyH.cons rfl (fun K hK => ?_) AllReadyH.nil
        simp only [List.getElem_toArray, List.getElem_cons_succ, List.getElem_cons_zero]
        refine wp_if (by kernel_rfl) ?_
        refine wp_val (v := .slice ar t.kept.length cr) (exec_loadV (t := 65) (p := ⟨tb, 77, none⟩) rfl (by kernel_rfl) (load_rows (H5.kept1 hvr))) ?_
        refine hK.out _ _ H5.rnow (fun hS => ?_)
        clear hK
        simp only [Act.put, List.getElem_toArray, List.getElem_cons_succ, List.getElem_cons_zero, List.setIfInBounds_toArray, List.set_cons_zero, List.set_cons_succ]
        refine wpAnyH_ready (rs := [10]) (by kernel_rfl) (by simp) ?_
        refine AllReadyH.cons rfl (fun K hK => ?_) AllReadyH.nil
        simp only [List.getElem_toArray, List.getElem_cons_succ, List.getElem_cons_zero]
        refine wp_if (by kernel_rfl) ?_
        refine wp_append_row rfl H5.K (by rw [hvr]; rfl) (by kernel_rfl) N5 h.wf.now hL hb5 (fun v6 w6 ho6 hg hbk => ?_)
        have hnr : vk.ownBlock ≠ some tb := h.nk
        have bk6 : Bk w6 tb 80 (tC true t vr vk).toArray := H5.bk.of (hg.block tb H5.bk.lt (Ne.symm hnr))
        have H7 := H4.growK B5 hg ho6 hbk
        have B7 : Below base w (w6.setRow tb (putAt (tC true t vr vk).toArray 77 [v6])) := (B4.trans (B5.mono hb4)).trans ((bel_grown hg (fun k hk => (h.K.2.lt k hk).1) hb5).trans (below_set _ tb _ h.lo))
        refine hK.out _ _ (rnow_grown H5 hg hnr) (fun hS => ?_)
        clear hK
        simp only [Act.put, List.getElem_toArray, List.getElem_cons_succ, List.getElem_cons_zero, List.setIfInBounds_toArray, List.set_cons_zero, List.set_cons_succ]
        refine wpAnyH_take (i := 11) (v := .pointer (some ⟨tb, 0, none⟩)) rfl (by kernel_rfl) (by kernel_rfl) (by kernel_rfl) (fun _ _ _ h => h) (Or.inl ⟨by kernel_rfl, fun u hu => by kernel_rfl⟩) hS ?_
        simp only [Act.put, List.getElem_toArray, List.getElem_cons_succ, List.getElem_cons_zero, List.setIfInBounds_toArray, List.set_cons_zero, List.set_cons_succ]
        refine wpAnyH_take (i := 12) (v := .pointer (some ⟨tb, 77, none⟩)) rfl (by kernel_rfl) (by kernel_rfl) (by kernel_rfl) (fun _ _ _ h => h) (Or.inl ⟨by kernel_rfl, fun u hu => by kernel_rfl⟩) hS ?_
        simp only [Act.put, List.getElem_toArray, List.getElem_cons_succ, List.getElem_cons_zero, List.setIfInBounds_toArray, List.set_cons_zero, List.set_cons_succ]
        refine wpAnyH_ready (rs := [13]) (by kernel_rfl) (by simp) ?_
        refine AllReadyH.cons rfl (fun K hK => ?_) AllReadyH.nil
        simp only [List.getElem_toArray, List.getElem_cons_succ, List.getElem_cons_zero]
        refine wp_if (by kernel_rfl) ?_
        obtain ⟨a6, c6, hv6, _⟩ := ho6.any
        refine wp_part (g := tb) (off := 77) (val := v6) rfl (by kernel_rfl) (by kernel_rfl) bk6 (by rw [hv6, sizeRws]; rfl) (by rw [H5.len, hv6]; show 77 + 1 ≤ 78; omega) (by rw [hv6]; exact slice_one _ _ _) rfl ?_
        have ev : v6.cells.toList = [v6] := by rw [hv6]; rfl
        rw [ev]
        clear ev hv6
        refine hK.out _ _ H7.rnow (fun _ => ?_)
        clear hK
        simp only [Act.put, List.getElem_toArray, List.getElem_cons_succ, List.getElem_cons_zero, List.setIfInBounds_toArray, List.set_cons_zero, List.set_cons_succ]
        refine wpAnyH_done (by kernel_rfl) ?_ _
        generalize w6.setRow tb (putAt (tC true t vr vk).toArray 77 [v6]) = W7 at *
        go_wp2_with fail
        go_ret
        refine ⟨rfl, B7, fun t' ht => ?_⟩
        cases ht
        exact ⟨vr, v6, H7⟩
end Go.Proofs.YtpbnldfekadalaaDoor
