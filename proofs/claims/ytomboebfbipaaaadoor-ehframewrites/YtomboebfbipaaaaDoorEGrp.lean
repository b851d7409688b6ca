/- Which functions' entries each common entry has. -/
import Derived.Test.YtomboebfbipaaaaDoorEFde
namespace Go.Proofs.YtomboebfbipaaaaDoor
open Go.ChangeShapes Go.WideShapes Go.ChangeAt Go.RowKit Go.Maps
set_option linter.unusedVariables false
set_option linter.unusedSimpArgs false

/-- A row of ints of the call's own. -/
def OwnI (w : World) (base : Nat) (v : Value) (xs : List Int) : Prop := w.ownsRow base 3 1 v xs.length (xs.map (Value.int .i64))
theorem OwnI.nil (w : World) (base : Nat) : OwnI w base (.slice none 0 0) [] := World.ownsRow_nil _ _ _ _
theorem OwnI.lt' {w : World} {base : Nat} {v : Value} {xs : List Int} (h : OwnI w base v xs) : ∀ k, v.ownBlock = some k → base ≤ k ∧ k < w.heap.size ∧ ∃ cur, w.heap[k]? = some (.cells cur 3 (0, 0)) := by
  intro k hk
  rcases h.2 with ⟨rfl, _⟩ | ⟨g, cap, cur, rfl, h1, h2, _⟩
  · simp [Value.ownBlock] at hk
  · simp [Value.ownBlock] at hk
    subst hk
    exact ⟨h1, (Array.getElem?_eq_some_iff.1 h2).1, cur, h2⟩
theorem OwnI.low {w : World} {base : Nat} {v : Value} {xs : List Int} (h : OwnI w base v xs) : ∀ k, v.ownBlock = some k → base ≤ k := fun k hk => (h.lt' k hk).1
theorem OwnI.not_bk {w : World} {base : Nat} {v : Value} {xs : List Int} {k t : Nat} {cs : Array Value} (h : OwnI w base v xs) (hB : Bk w k t cs) (ht : t ≠ 3) : v.ownBlock ≠ some k := fun e => by
  obtain ⟨_, _, cur, hc⟩ := h.lt' k e
  have := hc.symm.trans hB.hp
  injection this with this
  injection this with _ e2 _
  exact ht e2.symm
theorem OwnI.bel {w w' : World} {base : Nat} {v : Value} {xs : List Int} (h : OwnI w base v xs) (hb : Below w.heap.size w w') : OwnI w' base v xs :=
  World.ownsRow.kept (row := none) h ⟨hb.os, hb.tape, hb.output, hb.size, fun j hj _ => hb.block j hj⟩ (by cases hv : v.ownBlock <;> simp)
theorem OwnI.far {w1 w2 : World} {b : Nat} {u : Value} {m : List Int} {row : Option Nat} (h : OwnI w1 b u m) (hg : w1.grownBy w2 row) (hn : row ≠ u.ownBlock ∨ u.ownBlock = none) : OwnI w2 b u m := World.ownsRow.kept h hg (by
  rcases hn with hn | hn
  · exact .inr (Ne.symm hn)
  · exact .inl hn)
theorem OwnI.sl {w : World} {base : Nat} {v : Value} {xs : List Int} (h : OwnI w base v xs) : ∃ ao c, v = .slice ao xs.length c := by
  rcases h.2 with ⟨rfl, e⟩ | ⟨g, cap, cur, rfl, _⟩
  · exact ⟨none, 0, by rw [e]⟩
  · exact ⟨_, cap, rfl⟩
theorem own_cells {w : World} {base : Nat} {v : Value} {xs : List Int} (h : OwnI w base v xs) : v.cells.toList = [v] := by
  obtain ⟨ao, c, rfl⟩ := h.sl
  rfl
theorem own_one {w : World} {base : Nat} {v : Value} {xs : List Int} (h : OwnI w base v xs) : v.oneCell' = true := by
  obtain ⟨ao, c, rfl⟩ := h.sl
  rfl
/-- The numbers of those of the first j entries that are common entry k's. -/
def grp (f : List Fe) (j k : Nat) : List Int := ((List.range j).filter (fun i => (f.getD i Fe.zero).cie == (k : Int))).map (fun (i : Nat) => (i : Int))
theorem grp_len (f : List Fe) (j k : Nat) : (grp f j k).length ≤ j := by
  unfold grp
  rw [List.length_map]
  exact Nat.le_trans (List.length_filter_le _ _) (by simp)
theorem grp_succ {f : List Fe} {j q : Nat} (hj : j < f.length) (hq : (f.getD j Fe.zero).cie = (q : Int)) (k : Nat) : (if k = q then grp f j q ++ [(j : Int)] else grp f j k) = grp f (j + 1) k := by
  unfold grp
  rw [List.range_succ, List.filter_append, List.map_append]
  by_cases e : k = q
  · subst e
    rw [if_pos rfl]
    have : ((f.getD j Fe.zero).cie == (k : Int)) = true := by rw [hq]; simp
    simp only [List.filter_cons, this, List.filter_nil, if_true, List.map_cons, List.map_nil]
  · rw [if_neg e]
    have : ((f.getD j Fe.zero).cie == (k : Int)) = false := by rw [hq]; simp; omega
    simp only [List.filter_cons, this, List.filter_nil, Bool.false_eq_true, if_false, List.map_nil, List.append_nil]
/-- The groups lie in block g. -/
structure GA (b0 : Nat) (w : World) (g n : Nat) (vs : List Value) (G : Nat → List Int) : Prop where
  bk : Bk w g 43 vs.toArray
  len : vs.length = n
  rows : ∀ k, k < n → OwnI w b0 (vs.getD k (.slice none 0 0)) (G k)
  apart : ∀ j k, j < n → k < n → j ≠ k → ∀ q, (vs.getD j (.slice none 0 0)).ownBlock = some q → (vs.getD k (.slice none 0 0)).ownBlock ≠ some q
theorem GA.bel {b0 : Nat} {w w' : World} {g n : Nat} {vs : List Value} {G : Nat → List Int} (h : GA b0 w g n vs G) (hb : Below w.heap.size w w') : GA b0 w' g n vs G :=
  ⟨h.bk.bel hb h.bk.lt, h.len, fun k hk => (h.rows k hk).bel hb, h.apart⟩
theorem GA.congr {b0 : Nat} {w : World} {g n : Nat} {vs : List Value} {G G' : Nat → List Int} (h : GA b0 w g n vs G) (e : ∀ k, k < n → G k = G' k) : GA b0 w g n vs G' :=
  ⟨h.bk, h.len, fun k hk => by rw [← e k hk]; exact h.rows k hk, h.apart⟩
theorem GA.cell {b0 : Nat} {w : World} {g n : Nat} {vs : List Value} {G : Nat → List Int} (h : GA b0 w g n vs G) (q : Nat) (hq : q < n) : w.cell? ⟨g, q, none⟩ = some (vs.getD q (.slice none 0 0)) := by
  have hv : q < vs.length := by rw [h.len]; exact hq
  refine h.bk.cell q ?_
  simp [hv]
theorem GA.put {b0 : Nat} {w w1 : World} {g n : Nat} {vs : List Value} {G : Nat → List Int} (h : GA b0 w g n vs G) {q : Nat} (hq : q < n) {v' : Value} {ys : List Int} (ho : OwnI w1 b0 v' ys) (hg : w.grownBy w1 (vs.getD q (.slice none 0 0)).ownBlock) (hk : v'.ownBlock = (vs.getD q (.slice none 0 0)).ownBlock ∨ v'.ownBlock = some w.heap.size) :
    GA b0 (w1.setRow g (vs.set q v').toArray) g n (vs.set q v') (fun k' => if k' = q then ys else G k') := by
  have hK1 : Bk w1 g 43 vs.toArray := h.bk.of (hg.block _ h.bk.lt (fun e => (h.rows q hq).not_bk h.bk (by decide) e.symm))
  have hgs := grown_set w1 g (vs.set q v').toArray
  have hv : q < vs.length := by rw [h.len]; exact hq
  have eq1 : (vs.set q v').getD q (.slice none 0 0) = v' := by simp [hv]
  have eq2 : ∀ k, k ≠ q → (vs.set q v').getD k (.slice none 0 0) = vs.getD k (.slice none 0 0) := fun k hk => by
    simp [Ne.symm hk]
  refine ⟨hK1.setR _, by simp [h.len], fun k hk2 => ?_, fun j k hj hk2 hjk p hp => ?_⟩
  · by_cases e : k = q
    · subst e
      rw [if_pos rfl, eq1]
      exact ho.far hgs (.inl (Ne.symm (ho.not_bk hK1 (by decide))))
    · rw [if_neg e, eq2 k e]
      have r1 : OwnI w1 b0 (vs.getD k (.slice none 0 0)) (G k) := (h.rows k hk2).far hg (by
        cases hb : (vs.getD k (.slice none 0 0)).ownBlock with
        | none => exact .inr rfl
        | some p => exact .inl fun e2 => h.apart k q hk2 hq e p hb e2)
      exact r1.far hgs (.inl (Ne.symm (r1.not_bk hK1 (by decide))))
  · by_cases ej : j = q
    · subst ej
      rw [eq1] at hp
      rw [eq2 k (Ne.symm hjk)]
      intro e2
      rcases hk with e3 | e3
      · exact h.apart k j hk2 hj (Ne.symm hjk) p e2 (e3 ▸ hp)
      · have := ((h.rows k hk2).lt' p e2).2.1
        rw [e3] at hp
        injection hp with hp
        omega
    · rw [eq2 j ej] at hp
      by_cases ek : k = q
      · subst ek
        rw [eq1]
        intro e2
        rcases hk with e3 | e3
        · exact h.apart j k hj hk2 hjk p hp (e3 ▸ e2)
        · have := ((h.rows j hj).lt' p hp).2.1
          rw [e3] at e2
          injection e2 with e2
          omega
      · rw [eq2 k ek]
        exact h.apart j k hj hk2 hjk p hp
theorem info43 : (Tryd.prog.info? 43).map (fun i => (i.zero, i.size, i.bytes)) = some (some (.slice none 0 0), 1, 24) := by kernel_rfl
theorem info3 : (Tryd.prog.info? 3).map (fun i => (i.zero, i.size, i.bytes)) = some (some (.int .i64 0), 1, 8) := by kernel_rfl
theorem make43 (n : Nat) (hn : n ≤ 4000) (w : World) : (Instr.makeSlice 82 (.int .i64 (n : Int)) (.int .i64 (n : Int))).run Tryd.prog w = .ok (.slice (some ⟨w.heap.size, 0, none⟩) n n) (w.alloc (.cells (Array.replicate n (Value.slice none 0 0)) 43)) := by
  rw [run_make_row' 82 43 (.slice none 0 0) 24 Tryd.underlying82 info43 rfl .i64 .i64 n (by omega) (by omega) w]
  congr 2
  congr 1
  apply Array.ext
  · simp [madeCells]
  · intro i h1 h2
    simp [madeCells, Nat.mod_one, Value.cells]
theorem ix_grp (b n c k : Nat) (hk : k < n) (W : World) : (Instr.indexAt 82 (.slice (some ⟨b, 0, none⟩) n c) (.int .i64 (k : Int))).run Tryd.prog W = .ok (.pointer (some ⟨b, k, none⟩)) W := by
  have hi : (Tryd.prog.info? 43).map (·.size) = some 1 := by kernel_rfl
  cases hq : Tryd.prog.info? 43 with
  | none => simp [hq] at hi
  | some i =>
    have hi1 : i.size = 1 := by simpa [hq] using hi
    simp [Instr.indexAt, run_underlying Tryd.underlying82, asIntOf, sizeOf, typeInfo, hq, hi1, caddr_add, hk]
theorem load_ints {w : World} {p : Addr} {v : Value} {n : Nat} (hv : ∃ ao c, v = .slice ao n c) (hc : w.cell? p = some v) : (loadVar 43 p).run Tryd.prog w = .ok v w := by
  obtain ⟨ao, c, rfl⟩ := hv
  simp [loadVar, isAgg, run_underlying Tryd.underlying43, go_sem, hc]
theorem build_i {o : Oper} {a : Act} {x : Operand} (w : World) (k : Int) (ho : o.op = .buildSlice 43 1 #[(0, x)]) (hx : a.eval x = .int .i64 k) :
    (execOp a.eval o).run Tryd.prog w = .ok (.value (.slice (some ⟨w.heap.size, 0, none⟩) 1 1)) (w.alloc (.cells #[.int .i64 k] 3)) := by
  unfold execOp
  simp only [ho, List.map_toArray, List.map_cons, List.map_nil, hx]
  kernel_rfl
theorem wp_appI {o : Oper} {a : Act} {w : World} {K : Act → World → Prop} {Q : Exit → Act → World → Prop} {s x : Operand} (ho : o.op = .call { callee := .builtin .append, args := #[s, x], argTypes := #[43, 43] })
    {base : Nat} {v : Value} {l : List Int} {q : Nat} {y : Int} (hs : a.eval s = v) (hx : a.eval x = .slice (some ⟨q, 0, none⟩) 1 1) (hown : OwnI w base v l) (hb : Bk w q 3 #[.int .i64 y]) (hn : l.length ≤ 100000) (hbase : base ≤ w.heap.size)
    (h : ∀ v' w', OwnI w' base v' (l ++ [y]) → w.grownBy w' v.ownBlock → (v'.ownBlock = v.ownBlock ∨ v'.ownBlock = some w.heap.size) → K (a.put o.dst v') w') : o.wp Tryd.prog a w K Q := by
  obtain ⟨i0, hi, hz0, hz1, hz2⟩ := info_parts info3
  obtain ⟨v', w', hrun, h2, h3, h4, h5⟩ := run_append_own_at (P := Tryd.prog) w base 43 o.type 3 i0 _ 1 8 Tryd.underlying43 hi hz0 hz1 hz2 rfl (by decide) v l.length _ hown ⟨q, 0, none⟩ 1 1 [.int .i64 y] (by simp) (by
    intro j u hj
    rw [caddr_add]
    exact hb.cell _ (by simpa using hj)) (by
    intro u hu
    simp at hu
    subst hu
    rfl) (by unfold maxLen; omega) (by omega) hbase
  unfold Oper.wp execOp
  simp only [ho, resolve, invoke, builtin, Sem.run_bind, Sem.run_pure, Result.andThen_ok, List.map_toArray, List.map_cons, List.map_nil, hs, hx, hrun]
  refine h v' w' ?_ h3 h5
  unfold OwnI
  simpa using h2

set_option maxHeartbeats 8000000 in
set_option maxRecDepth 10000 in
theorem byCie_any (af : Option Addr) (cf : Nat) (f : List Fe) (n : Nat) (w : World) (hF : Fs w af f) (hfl : f.length ≤ 4000) (hn : n ≤ 4000) (hnf : ∀ x ∈ f, feB n x = true) (g : Nat) (hgw : g = w.heap.size) :
    Calls Tryd.prog 39 #[.slice af f.length cf, .int .i64 (n : Int)] w fun e w' => e = .returned (.slice (some ⟨g, 0, none⟩) n n) ∧ (∃ vs, GA w.heap.size w' w.heap.size n vs (grp f f.length)) ∧ Below w.heap.size w w' := by
  subst hgw
  have hmk := make43 n hn
  have HF : Hid _ := ⟨hF⟩
  have HNF : Hid _ := ⟨hnf⟩
  clear hF hnf
  go_enter Tryd.func39, Tryd.ntmps39
  go_wp2
  go_loopw [12] (fun iv wr => ∃ k : Nat, k ≤ f.length ∧ iv = .int .i64 k ∧ Hid ((∃ vs, GA w.heap.size wr w.heap.size n vs (grp f k)) ∧ Below w.heap.size w wr)) (fun iv _ => f.length - (intOf iv).toNat)
  case atStart =>
    refine ⟨0, by omega, rfl, ⟨⟨List.replicate n (.slice none 0 0), ?_, by simp, fun k hk => ?_, fun j k hj hk hjk q hq => ?_⟩, (Below.refl _ _).alloc (Nat.le_refl _) _⟩⟩
    · have := Bk.new w (Array.replicate n (Value.slice none 0 0)) 43
      simpa using this
    · have e : (List.replicate n (Value.slice none 0 0)).getD k (.slice none 0 0) = .slice none 0 0 := by simp [List.getElem?_replicate]; split <;> rfl
      rw [e]; exact OwnI.nil _ _
    · have e : (List.replicate n (Value.slice none 0 0)).getD j (.slice none 0 0) = .slice none 0 0 := by simp [List.getElem?_replicate]; split <;> rfl
      rw [e] at hq
      simp [Value.ownBlock] at hq
  case round =>
    obtain ⟨k, hk, rfl, HV⟩ := hrel
    by_cases hlt : k < f.length
    · obtain ⟨⟨vs, hGA⟩, hbW⟩ := HV.out
      obtain ⟨b, off, rfl, hat⟩ : ∃ b off, af = some ⟨b, off, none⟩ ∧ ∀ j, j < f.length → FeAt wr b (off + j * 4) (f.getD j Fe.zero) := by
        rcases HF.out.bel hbW with h | h
        · omega
        · exact h
      have q1 : (k : Int) < (f.length : Int) := by omega
      have q0 : (0 : Int) ≤ (k : Int) := by omega
      obtain ⟨a, cp, c0, c1, c2, c3, hI⟩ := hat k hlt
      obtain ⟨q, hq⟩ := Int.eq_ofNat_of_zero_le (fe_in1 (HNF.out _ (fe_in hlt)))
      have hqn : q < n := by have := fe_in2 (HNF.out _ (fe_in hlt)); omega
      have HQ : Hid ((f.getD k Fe.zero).cie = (q : Int)) := ⟨hq⟩
      clear hat hI hq
      generalize hxx : (f.getD k Fe.zero) = x at *
      have HXX : Hid ((f.getD k Fe.zero) = x) := ⟨hxx⟩
      clear hxx
      have hb1 : Below wr.heap.size wr (wr.alloc (.cells #[.int .i64 x.cie, .int .i64 x.beg, .int .i64 x.size, .slice a x.ops.length cp] 57)) := (Below.refl _ _).alloc (Nat.le_refl _) _
      have K4 := Bk.new wr #[.int .i64 x.cie, .int .i64 x.beg, .int .i64 x.size, .slice a x.ops.length cp] 57
      have HG5 : Hid (GA w.heap.size (wr.alloc (.cells #[.int .i64 x.cie, .int .i64 x.beg, .int .i64 x.size, .slice a x.ops.length cp] 57)).drew w.heap.size n vs (grp f k)) := ⟨hGA.bel hb1.drew⟩
      have HX5 : Hid (Bk (wr.alloc (.cells #[.int .i64 x.cie, .int .i64 x.beg, .int .i64 x.size, .slice a x.ops.length cp] 57)).drew wr.heap.size 57 #[.int .i64 x.cie, .int .i64 x.beg, .int .i64 x.size, .slice a x.ops.length cp]) := ⟨⟨K4.hp⟩⟩
      have HB5 : Hid (Below w.heap.size w (wr.alloc (.cells #[.int .i64 x.cie, .int .i64 x.beg, .int .i64 x.size, .slice a x.ops.length cp] 57)).drew) := ⟨hbW.trans (hb1.drew.mono hbW.size)⟩
      have HB5s : Hid (w.heap.size < wr.heap.size) := ⟨hGA.bk.lt⟩
      clear hGA hbW hb1 HV
      go_upto_region 5 with (fail)
      refine wp_region_held_drew (S := fun u => Bk u wr.heap.size 57 #[.int .i64 x.cie, .int .i64 x.beg, .int .i64 x.size, .slice a x.ops.length cp]) (by kernel_rfl) ⟨K4.hp⟩ (fun hS => ?_)
      refine wpAnyH_take (i := 0) (v := .slice (some ⟨w.heap.size, 0, none⟩) n n) rfl (by kernel_rfl) (by kernel_rfl) (by kernel_rfl) (fun _ _ _ h => h) (Or.inl ⟨by kernel_rfl, fun u hu => by kernel_rfl⟩) hS ?_
      simp only [Act.put, List.getElem_toArray, List.getElem_cons_succ, List.getElem_cons_zero, List.setIfInBounds_toArray, List.set_cons_zero, List.set_cons_succ]
      refine wpAnyH_take (i := 1) (v := .pointer (some ⟨wr.heap.size, 0, none⟩)) rfl (by kernel_rfl) (by kernel_rfl) (by kernel_rfl) (fun _ _ _ h => h) (Or.inl ⟨by kernel_rfl, fun u hu => by kernel_rfl⟩) hS ?_
      simp only [Act.put, List.getElem_toArray, List.getElem_cons_succ, List.getElem_cons_zero, List.setIfInBounds_toArray, List.set_cons_zero, List.set_cons_succ]
      refine wpAnyH_take (i := 2) (v := .int .i64 (q : Int)) rfl (by kernel_rfl) (by kernel_rfl) (by kernel_rfl) (fun _ _ _ h => h) (Or.inl ⟨by kernel_rfl, fun u hu => exec_loadV (t := 3) (p := ⟨wr.heap.size, 0, none⟩) rfl (by kernel_rfl) (load_i64 (by rw [← HQ.out]; exact hu.cell 0 rfl))⟩) hS ?_
      simp only [Act.put, List.getElem_toArray, List.getElem_cons_succ, List.getElem_cons_zero, List.setIfInBounds_toArray, List.set_cons_zero, List.set_cons_succ]
      refine wpAnyH_take (i := 3) (v := .slice (some ⟨w.heap.size, 0, none⟩) n n) rfl (by kernel_rfl) (by kernel_rfl) (by kernel_rfl) (fun _ _ _ h => h) (Or.inl ⟨by kernel_rfl, fun u hu => by kernel_rfl⟩) hS ?_
      simp only [Act.put, List.getElem_toArray, List.getElem_cons_succ, List.getElem_cons_zero, List.setIfInBounds_toArray, List.set_cons_zero, List.set_cons_succ]
      refine wpAnyH_take (i := 4) (v := .pointer (some ⟨wr.heap.size, 0, none⟩)) rfl (by kernel_rfl) (by kernel_rfl) (by kernel_rfl) (fun _ _ _ h => h) (Or.inl ⟨by kernel_rfl, fun u hu => by kernel_rfl⟩) hS ?_
      simp only [Act.put, List.getElem_toArray, List.getElem_cons_succ, List.getElem_cons_zero, List.setIfInBounds_toArray, List.set_cons_zero, List.set_cons_succ]
      refine wpAnyH_take (i := 5) (v := .int .i64 (q : Int)) rfl (by kernel_rfl) (by kernel_rfl) (by kernel_rfl) (fun _ _ _ h => h) (Or.inl ⟨by kernel_rfl, fun u hu => exec_loadV (t := 3) (p := ⟨wr.heap.size, 0, none⟩) rfl (by kernel_rfl) (load_i64 (by rw [← HQ.out]; exact hu.cell 0 rfl))⟩) hS ?_
      simp only [Act.put, List.getElem_toArray, List.getElem_cons_succ, List.getElem_cons_zero, List.setIfInBounds_toArray, List.set_cons_zero, List.set_cons_succ]
      refine wpAnyH_take (i := 6) (v := .pointer (some ⟨w.heap.size, q, none⟩)) rfl (by kernel_rfl) (by kernel_rfl) (by kernel_rfl) (fun _ _ _ h => h) (Or.inl ⟨by kernel_rfl, fun u hu => exec_ix rfl (by kernel_rfl) (by kernel_rfl) (ix_grp _ n n q hqn u)⟩) hS ?_
      simp only [Act.put, List.getElem_toArray, List.getElem_cons_succ, List.getElem_cons_zero, List.setIfInBounds_toArray, List.set_cons_zero, List.set_cons_succ]
      refine wpAnyH_take (i := 8) (v := .int .i64 (k : Int)) rfl (by kernel_rfl) (by kernel_rfl) (by kernel_rfl) (fun _ _ _ h => h) (Or.inl ⟨by kernel_rfl, fun u hu => by kernel_rfl⟩) hS ?_
      simp only [Act.put, List.getElem_toArray, List.getElem_cons_succ, List.getElem_cons_zero, List.setIfInBounds_toArray, List.set_cons_zero, List.set_cons_succ]
      refine wpAnyH_ready (rs := [7, 9]) (by kernel_rfl) (by simp) ?_
      refine AllReadyH.cons rfl (fun K hK => ?_) (AllReadyH.cons rfl (fun K hK => ?_) AllReadyH.nil)
      · simp only [List.getElem_toArray, List.getElem_cons_succ, List.getElem_cons_zero]
        refine wp_if (by kernel_rfl) ?_
        refine wp_val (v := vs.getD q (.slice none 0 0)) (w' := (wr.alloc (.cells #[.int .i64 x.cie, .int .i64 x.beg, .int .i64 x.size, .slice a x.ops.length cp] 57)).drew) (exec_loadV (t := 43) (p := ⟨w.heap.size, q, none⟩) rfl (by kernel_rfl) (load_ints (OwnI.sl (HG5.out.rows q hqn)) (HG5.out.cell q hqn))) ?_
        refine hK.out _ _ HX5.out (fun hS => ?_)
        clear hK
        simp only [Act.put, List.getElem_toArray, List.getElem_cons_succ, List.getElem_cons_zero, List.setIfInBounds_toArray, List.set_cons_zero, List.set_cons_succ]
        refine wpAnyH_ready (rs := [9]) (by kernel_rfl) (by simp) ?_
        refine AllReadyH.cons rfl (fun K hK => ?_) AllReadyH.nil
        simp only [List.getElem_toArray, List.getElem_cons_succ, List.getElem_cons_zero]
        refine wp_if (by kernel_rfl) ?_
        refine wp_val (v := .slice (some ⟨(wr.alloc (.cells #[.int .i64 x.cie, .int .i64 x.beg, .int .i64 x.size, .slice a x.ops.length cp] 57)).drew.heap.size, 0, none⟩) 1 1) (w' := (wr.alloc (.cells #[.int .i64 x.cie, .int .i64 x.beg, .int .i64 x.size, .slice a x.ops.length cp] 57)).drew.alloc (.cells #[.int .i64 (k : Int)] 3)) (build_i (wr.alloc (.cells #[.int .i64 x.cie, .int .i64 x.beg, .int .i64 x.size, .slice a x.ops.length cp] 57)).drew (k : Int) rfl (by kernel_rfl)) ?_
        have HG9 : Hid (GA w.heap.size ((wr.alloc (.cells #[.int .i64 x.cie, .int .i64 x.beg, .int .i64 x.size, .slice a x.ops.length cp] 57)).drew.alloc (.cells #[.int .i64 (k : Int)] 3)) w.heap.size n vs (grp f k)) := ⟨HG5.out.bel ((Below.refl _ _).alloc (Nat.le_refl _) _)⟩
        have HX9 : Hid (Bk ((wr.alloc (.cells #[.int .i64 x.cie, .int .i64 x.beg, .int .i64 x.size, .slice a x.ops.length cp] 57)).drew.alloc (.cells #[.int .i64 (k : Int)] 3)) wr.heap.size 57 #[.int .i64 x.cie, .int .i64 x.beg, .int .i64 x.size, .slice a x.ops.length cp]) := ⟨HX5.out.bel ((Below.refl _ _).alloc (Nat.le_refl _) _) HX5.out.lt⟩
        have HN9 : Hid (Bk ((wr.alloc (.cells #[.int .i64 x.cie, .int .i64 x.beg, .int .i64 x.size, .slice a x.ops.length cp] 57)).drew.alloc (.cells #[.int .i64 (k : Int)] 3)) (wr.alloc (.cells #[.int .i64 x.cie, .int .i64 x.beg, .int .i64 x.size, .slice a x.ops.length cp] 57)).drew.heap.size 3 #[.int .i64 (k : Int)]) := ⟨Bk.new _ _ _⟩
        have HB9 : Hid (Below w.heap.size w ((wr.alloc (.cells #[.int .i64 x.cie, .int .i64 x.beg, .int .i64 x.size, .slice a x.ops.length cp] 57)).drew.alloc (.cells #[.int .i64 (k : Int)] 3))) := ⟨HB5.out.alloc HB5.out.size _⟩
        have HB9s : Hid (w.heap.size < wr.heap.size) := HB5s
        have HL9 : Hid ((grp f k q).length ≤ 4000) := ⟨by have := grp_len f k q; omega⟩
        refine hK.out _ _ HX9.out (fun hS => ?_)
        clear hK
        simp only [Act.put, List.getElem_toArray, List.getElem_cons_succ, List.getElem_cons_zero, List.setIfInBounds_toArray, List.set_cons_zero, List.set_cons_succ]
        refine wpAnyH_ready (rs := [10]) (by kernel_rfl) (by simp) ?_
        refine AllReadyH.cons rfl (fun K hK => ?_) AllReadyH.nil
        simp only [List.getElem_toArray, List.getElem_cons_succ, List.getElem_cons_zero]
        refine wp_if (by kernel_rfl) ?_
        refine wp_appI rfl (by kernel_rfl) (by kernel_rfl) (HG9.out.rows q hqn) HN9.out (by have := HL9.out; omega) HB9.out.size ?_
        intro v' w10 ho10 hg10 hk10
        have HX10 := HX9.out.of (hg10.block _ HX9.out.lt (fun e => OwnI.not_bk (HG9.out.rows q hqn) HX9.out (by decide) e.symm))
        have HK10 := HG9.out.bk.of (hg10.block _ HG9.out.bk.lt (fun e => OwnI.not_bk (HG9.out.rows q hqn) HG9.out.bk (by decide) e.symm))
        have HB10 : Hid (Below w.heap.size w w10) := ⟨(HB9.out).grown hg10 HB9.out.size (fun k hk => (OwnI.low (HG9.out.rows q hqn) k hk))⟩
        have HG10 : Hid (GA w.heap.size (w10.setRow w.heap.size (vs.set q v').toArray) w.heap.size n (vs.set q v') (fun k' => if k' = q then grp f k q ++ [(k : Int)] else grp f k k')) := ⟨HG9.out.put hqn ho10 hg10 hk10⟩
        refine hK.out _ _ HX10 (fun hS => ?_)
        clear hK
        simp only [Act.put, List.getElem_toArray, List.getElem_cons_succ, List.getElem_cons_zero, List.setIfInBounds_toArray, List.set_cons_zero, List.set_cons_succ]
        refine wpAnyH_take (i := 11) (v := .pointer (some ⟨w.heap.size, q, none⟩)) rfl (by kernel_rfl) (by kernel_rfl) (by kernel_rfl) (fun _ _ _ h => h) (Or.inl ⟨by kernel_rfl, fun u hu => exec_ix rfl (by kernel_rfl) (by kernel_rfl) (ix_grp _ n n q hqn u)⟩) hS ?_
        simp only [Act.put, List.getElem_toArray, List.getElem_cons_succ, List.getElem_cons_zero, List.setIfInBounds_toArray, List.set_cons_zero, List.set_cons_succ]
        refine wpAnyH_ready (rs := [12]) (by kernel_rfl) (by simp) ?_
        refine AllReadyH.cons rfl (fun K hK => ?_) AllReadyH.nil
        simp only [List.getElem_toArray, List.getElem_cons_succ, List.getElem_cons_zero]
        refine wp_if (by kernel_rfl) ?_
        refine wp_part (g := w.heap.size) (off := q) (t := 43) (val := v') (old := vs.toArray) (new := (vs.set q v').toArray) rfl (by kernel_rfl) (by kernel_rfl) HK10 (by rw [own_cells ho10]; kernel_rfl) (by rw [own_cells ho10, List.size_toArray, HG9.out.len]; exact hqn) (by rw [own_cells ho10]; intro u hu; simp at hu; subst hu; exact own_one ho10) (by rw [own_cells ho10]; simp [putAt]) ?_
        refine hK.out _ _ (HX10.setO (by have := HB9s.out; omega) _) (fun hS => ?_)
        clear hK
        simp only [Act.put, List.getElem_toArray, List.getElem_cons_succ, List.getElem_cons_zero, List.setIfInBounds_toArray, List.set_cons_zero, List.set_cons_succ]
        refine wpAnyH_done (by kernel_rfl) ?_ _
        go_wp2_with fail
        go_roundw
        case rel => exact ⟨k + 1, by omega, by go_num, ⟨⟨vs.set q v', HG10.out.congr (fun k' hk' => grp_succ hlt (by rw [HXX.out]; exact HQ.out) k')⟩, HB10.out.trans (below_set _ _ _ (Nat.le_refl _))⟩⟩
        case measure => simp [intOf]; omega
      · simp only [List.getElem_toArray, List.getElem_cons_succ, List.getElem_cons_zero]
        refine wp_if (by kernel_rfl) ?_
        refine wp_val (v := .slice (some ⟨(wr.alloc (.cells #[.int .i64 x.cie, .int .i64 x.beg, .int .i64 x.size, .slice a x.ops.length cp] 57)).drew.heap.size, 0, none⟩) 1 1) (w' := (wr.alloc (.cells #[.int .i64 x.cie, .int .i64 x.beg, .int .i64 x.size, .slice a x.ops.length cp] 57)).drew.alloc (.cells #[.int .i64 (k : Int)] 3)) (build_i (wr.alloc (.cells #[.int .i64 x.cie, .int .i64 x.beg, .int .i64 x.size, .slice a x.ops.length cp] 57)).drew (k : Int) rfl (by kernel_rfl)) ?_
        have HG9 : Hid (GA w.heap.size ((wr.alloc (.cells #[.int .i64 x.cie, .int .i64 x.beg, .int .i64 x.size, .slice a x.ops.length cp] 57)).drew.alloc (.cells #[.int .i64 (k : Int)] 3)) w.heap.size n vs (grp f k)) := ⟨HG5.out.bel ((Below.refl _ _).alloc (Nat.le_refl _) _)⟩
        have HX9 : Hid (Bk ((wr.alloc (.cells #[.int .i64 x.cie, .int .i64 x.beg, .int .i64 x.size, .slice a x.ops.length cp] 57)).drew.alloc (.cells #[.int .i64 (k : Int)] 3)) wr.heap.size 57 #[.int .i64 x.cie, .int .i64 x.beg, .int .i64 x.size, .slice a x.ops.length cp]) := ⟨HX5.out.bel ((Below.refl _ _).alloc (Nat.le_refl _) _) HX5.out.lt⟩
        have HN9 : Hid (Bk ((wr.alloc (.cells #[.int .i64 x.cie, .int .i64 x.beg, .int .i64 x.size, .slice a x.ops.length cp] 57)).drew.alloc (.cells #[.int .i64 (k : Int)] 3)) (wr.alloc (.cells #[.int .i64 x.cie, .int .i64 x.beg, .int .i64 x.size, .slice a x.ops.length cp] 57)).drew.heap.size 3 #[.int .i64 (k : Int)]) := ⟨Bk.new _ _ _⟩
        have HB9 : Hid (Below w.heap.size w ((wr.alloc (.cells #[.int .i64 x.cie, .int .i64 x.beg, .int .i64 x.size, .slice a x.ops.length cp] 57)).drew.alloc (.cells #[.int .i64 (k : Int)] 3))) := ⟨HB5.out.alloc HB5.out.size _⟩
        have HB9s : Hid (w.heap.size < wr.heap.size) := HB5s
        have HL9 : Hid ((grp f k q).length ≤ 4000) := ⟨by have := grp_len f k q; omega⟩
        refine hK.out _ _ HX9.out (fun hS => ?_)
        clear hK
        simp only [Act.put, List.getElem_toArray, List.getElem_cons_succ, List.getElem_cons_zero, List.setIfInBounds_toArray, List.set_cons_zero, List.set_cons_succ]
        refine wpAnyH_ready (rs := [7]) (by kernel_rfl) (by simp) ?_
        refine AllReadyH.cons rfl (fun K hK => ?_) AllReadyH.nil
        simp only [List.getElem_toArray, List.getElem_cons_succ, List.getElem_cons_zero]
        refine wp_if (by kernel_rfl) ?_
        refine wp_val (v := vs.getD q (.slice none 0 0)) (w' := ((wr.alloc (.cells #[.int .i64 x.cie, .int .i64 x.beg, .int .i64 x.size, .slice a x.ops.length cp] 57)).drew.alloc (.cells #[.int .i64 (k : Int)] 3))) (exec_loadV (t := 43) (p := ⟨w.heap.size, q, none⟩) rfl (by kernel_rfl) (load_ints (OwnI.sl (HG9.out.rows q hqn)) (HG9.out.cell q hqn))) ?_
        refine hK.out _ _ HX9.out (fun hS => ?_)
        clear hK
        simp only [Act.put, List.getElem_toArray, List.getElem_cons_succ, List.getElem_cons_zero, List.setIfInBounds_toArray, List.set_cons_zero, List.set_cons_succ]
        refine wpAnyH_ready (rs := [10]) (by kernel_rfl) (by simp) ?_
        refine AllReadyH.cons rfl (fun K hK => ?_) AllReadyH.nil
        simp only [List.getElem_toArray, List.getElem_cons_succ, List.getElem_cons_zero]
        refine wp_if (by kernel_rfl) ?_
        refine wp_appI rfl (by kernel_rfl) (by kernel_rfl) (HG9.out.rows q hqn) HN9.out (by have := HL9.out; omega) HB9.out.size ?_
        intro v' w10 ho10 hg10 hk10
        have HX10 := HX9.out.of (hg10.block _ HX9.out.lt (fun e => OwnI.not_bk (HG9.out.rows q hqn) HX9.out (by decide) e.symm))
        have HK10 := HG9.out.bk.of (hg10.block _ HG9.out.bk.lt (fun e => OwnI.not_bk (HG9.out.rows q hqn) HG9.out.bk (by decide) e.symm))
        have HB10 : Hid (Below w.heap.size w w10) := ⟨(HB9.out).grown hg10 HB9.out.size (fun k hk => (OwnI.low (HG9.out.rows q hqn) k hk))⟩
        have HG10 : Hid (GA w.heap.size (w10.setRow w.heap.size (vs.set q v').toArray) w.heap.size n (vs.set q v') (fun k' => if k' = q then grp f k q ++ [(k : Int)] else grp f k k')) := ⟨HG9.out.put hqn ho10 hg10 hk10⟩
        refine hK.out _ _ HX10 (fun hS => ?_)
        clear hK
        simp only [Act.put, List.getElem_toArray, List.getElem_cons_succ, List.getElem_cons_zero, List.setIfInBounds_toArray, List.set_cons_zero, List.set_cons_succ]
        refine wpAnyH_take (i := 11) (v := .pointer (some ⟨w.heap.size, q, none⟩)) rfl (by kernel_rfl) (by kernel_rfl) (by kernel_rfl) (fun _ _ _ h => h) (Or.inl ⟨by kernel_rfl, fun u hu => exec_ix rfl (by kernel_rfl) (by kernel_rfl) (ix_grp _ n n q hqn u)⟩) hS ?_
        simp only [Act.put, List.getElem_toArray, List.getElem_cons_succ, List.getElem_cons_zero, List.setIfInBounds_toArray, List.set_cons_zero, List.set_cons_succ]
        refine wpAnyH_ready (rs := [12]) (by kernel_rfl) (by simp) ?_
        refine AllReadyH.cons rfl (fun K hK => ?_) AllReadyH.nil
        simp only [List.getElem_toArray, List.getElem_cons_succ, List.getElem_cons_zero]
        refine wp_if (by kernel_rfl) ?_
        refine wp_part (g := w.heap.size) (off := q) (t := 43) (val := v') (old := vs.toArray) (new := (vs.set q v').toArray) rfl (by kernel_rfl) (by kernel_rfl) HK10 (by rw [own_cells ho10]; kernel_rfl) (by rw [own_cells ho10, List.size_toArray, HG9.out.len]; exact hqn) (by rw [own_cells ho10]; intro u hu; simp at hu; subst hu; exact own_one ho10) (by rw [own_cells ho10]; simp [putAt]) ?_
        refine hK.out _ _ (HX10.setO (by have := HB9s.out; omega) _) (fun hS => ?_)
        clear hK
        simp only [Act.put, List.getElem_toArray, List.getElem_cons_succ, List.getElem_cons_zero, List.setIfInBounds_toArray, List.set_cons_zero, List.set_cons_succ]
        refine wpAnyH_done (by kernel_rfl) ?_ _
        go_wp2_with fail
        go_roundw
        case rel => exact ⟨k + 1, by omega, by go_num, ⟨⟨vs.set q v', HG10.out.congr (fun k' hk' => grp_succ hlt (by rw [HXX.out]; exact HQ.out) k')⟩, HB10.out.trans (below_set _ _ _ (Nat.le_refl _))⟩⟩
        case measure => simp [intOf]; omega
    · obtain rfl : k = f.length := by omega
      have q2 : ¬ (f.length : Int) < (f.length : Int) := by omega
      go_wp2
      go_ret
      exact ⟨rfl, HV.out.1, HV.out.2⟩
end Go.Proofs.YtomboebfbipaaaaDoor
