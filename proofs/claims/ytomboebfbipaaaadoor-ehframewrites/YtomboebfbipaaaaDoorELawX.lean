/- The law's tables: what is handed in, as the program has it. The law's tables: what is handed in, as the program has it. The law's tables, walked. -/
import Derived.Test.YtomboebfbipaaaaDoorEWriX
namespace Go.Proofs.YtomboebfbipaaaaDoor
open Go.ChangeShapes Go.WideShapes Go.ChangeAt Go.RowKit Go.Maps
set_option linter.unusedVariables false
set_option linter.unusedSimpArgs false

set_option maxHeartbeats 2000000 in
set_option maxRecDepth 10000 in
/-- A program, as the program has it, in memory of its own. -/
theorem lops_any (ao : Option Addr) (c : Nat) (l : List Oq) (w : World) (hl : l.length ≤ 5864062014634) (hr : Oqs w ao l) :
    Calls Tryd.prog 37 #[.slice ao l.length c] w fun e w' => ∃ v, e = .returned v ∧ OwnP w' w.heap.size v l ∧ Below w.heap.size w w' := by
  have HR : Hid _ := ⟨hr⟩
  obtain ⟨i0, hi, hz0, hz1, hz2⟩ := info_parts infoP
  have HI : Hid (_ ∧ _ ∧ _ ∧ _) := ⟨hi, hz0, hz1, hz2⟩
  clear hr hi hz0 hz1 hz2
  go_enter Tryd.func37, Tryd.ntmps37
  go_wp2
  go_loopw [4, 3] (fun i v wr => ∃ k : Nat, k ≤ l.length ∧ i = .int .i64 k ∧ Hid (OwnP wr w.heap.size v (l.take k) ∧ Below w.heap.size w wr)) (fun i _ _ => l.length - (intOf i).toNat)
  case atStart => exact ⟨0, by omega, rfl, ⟨OwnP.nil _ _, Below.refl _ _⟩⟩
  case round =>
    obtain ⟨k, hk, rfl, HW⟩ := hrel
    by_cases hlt : k < l.length
    · obtain ⟨b, off, rfl, hat⟩ : ∃ b off, ao = some ⟨b, off, none⟩ ∧ ∀ i, i < l.length → OqAt wr b (off + i * 3) (l.getD i Oq.none) := by
        rcases HR.out.below HW.out.2 (Nat.le_refl _) with h | h
        · rw [h] at hlt; simp at hlt
        · exact h
      obtain ⟨c0, c1, c2⟩ := hat k hlt
      have hlti : (k : Int) < (l.length : Int) := by omega
      have hk0 : (0 : Int) ≤ (k : Int) := by omega
      have hget : l.getD k Oq.none = l[k] := by simp [hlt]
      have HT : Hid (l.take (k + 1) = l.take k ++ [l.getD k Oq.none]) := ⟨by rw [hget]; exact List.take_succ_eq_append_getElem hlt⟩
      have htl : (l.take k).length = k := by rw [List.length_take]; omega
      have hbl : b < wr.heap.size := World.block_lt_of_cell? wr _ c0
      have hbs := HW.out.2.size
      clear hat hget
      generalize l.getD k Oq.none = p at *
      obtain ⟨pk, pr, pn⟩ := p
      dsimp only at c0 c1 c2
      have hS : wr.drew.cell? ⟨b, off + k * 3, none⟩ = some (.int .i64 pk) ∧ wr.drew.cell? ⟨b, off + k * 3 + 1, none⟩ = some (.int .i64 pr) ∧ wr.drew.cell? ⟨b, off + k * 3 + 2, none⟩ = some (.int .i64 pn) := ⟨c0, c1, c2⟩
      have hne : ¬ wr.heap.size = b := by omega
      have hbw : b < w.heap.size := by
        rcases HR.out with h | ⟨b', off', e, h⟩
        · rw [h] at hlt; simp at hlt
        · simp only [Option.some.injEq, Addr.mk.injEq] at e
          obtain ⟨rfl, _⟩ := e
          exact World.block_lt_of_cell? w _ (h k hlt).k
      have A0 : (wr.alloc (.cells #[.int .i64 pk, .int .i64 pr, .int .i64 pn] 102)).cell? ⟨b, off + k * 3, none⟩ = some (.int .i64 pk) := ((Below.refl wr.heap.size wr).alloc (Nat.le_refl _) (.cells #[.int .i64 pk, .int .i64 pr, .int .i64 pn] 102) |>.cell (p := ⟨b, off + k * 3, none⟩) hbl).trans c0
      have A1 : (wr.alloc (.cells #[.int .i64 pk, .int .i64 pr, .int .i64 pn] 102)).cell? ⟨b, off + k * 3 + 1, none⟩ = some (.int .i64 pr) := ((Below.refl wr.heap.size wr).alloc (Nat.le_refl _) (.cells #[.int .i64 pk, .int .i64 pr, .int .i64 pn] 102) |>.cell (p := ⟨b, off + k * 3 + 1, none⟩) hbl).trans c1
      have A2 : (wr.alloc (.cells #[.int .i64 pk, .int .i64 pr, .int .i64 pn] 102)).cell? ⟨b, off + k * 3 + 2, none⟩ = some (.int .i64 pn) := ((Below.refl wr.heap.size wr).alloc (Nat.le_refl _) (.cells #[.int .i64 pk, .int .i64 pr, .int .i64 pn] 102) |>.cell (p := ⟨b, off + k * 3 + 2, none⟩) hbl).trans c2
      have hvb : u3.ownBlock ≠ some b := fun e => by have := own_block HW.out.1 b e; omega
      go_wp2
      go_region_held_law (fun v' => v'.cell? ⟨b, off + k * 3, none⟩ = some (.int .i64 pk) ∧ v'.cell? ⟨b, off + k * 3 + 1, none⟩ = some (.int .i64 pr) ∧ v'.cell? ⟨b, off + k * 3 + 2, none⟩ = some (.int .i64 pn))
        (first | go_keep | assumption | exact ⟨(hgrow.cell_far _ (by simp; omega) (Ne.symm hvb)).trans A0, (hgrow.cell_far _ (by simp; omega) (Ne.symm hvb)).trans A1, (hgrow.cell_far _ (by simp; omega) (Ne.symm hvb)).trans A2⟩)
        ((refine step_append_lies _ (by rfl) _ _ _ (by rfl) w.heap.size 102 i0 (.agg zeroO) 3 24 Tryd.underlying55 HI.out.1 HI.out.2.1 HI.out.2.2.1 HI.out.2.2.2 rfl (by decide) _ (l.take k).length (oqCells (l.take k)) (by rfl) (World.ownsRow.alloc HW.out.1 _) ⟨wr.heap.size, 0, none⟩ 1 1 (Oq.cells ⟨pk, pr, pn⟩) (by rfl) rfl (World.news_of_block (heap_alloc_new wr _)) (by have := oqCells_one [⟨pk, pr, pn⟩]; simpa [oqCells] using this) (by omega) (by unfold maxLen; omega) (by omega) (by simp; omega) (wr.heap.size + 1) (by simp) ?_; intro g cap w1 hown1 hgrow hat hlt2))
      have hO : OwnP w1 w.heap.size (.slice (some ⟨g, 0, none⟩) ((l.take k).length + 1) cap) (l.take (k + 1)) := by
        rw [HT.out]
        unfold OwnP
        rw [oqCells_append, List.length_append]
        simpa [oqCells] using hown1
      have hB : Below w.heap.size w w1 := HW.out.2.trans ((((Below.refl w.heap.size wr).alloc hbs _).drew).grown hgrow (by simp; omega) (own_block HW.out.1))
      have HO : Hid _ := ⟨hO⟩
      have HBB : Hid _ := ⟨hB⟩
      clear hO hB hown1 hgrow
      go_wp2
      go_roundw
      case rel => exact ⟨k + 1, hlt, by go_num, ⟨by have := HO.out; rwa [htl] at this, HBB.out⟩⟩
      case measure => simp [intOf]; omega
    · obtain rfl : k = l.length := by omega
      have hO : OwnP wr w.heap.size u3 l := by have := HW.out.1; rwa [List.take_of_length_le (Nat.le_refl _)] at this
      have HO : Hid _ := ⟨hO⟩
      clear hO
      go_wp2
      go_ret
      exact ⟨_, rfl, HO.out, HW.out.2⟩

theorem OwnP.lowP {w : World} {b b' : Nat} {v : Value} {l : List Oq} (h : OwnP w b v l) (hb : b' ≤ b) : OwnP w b' v l := by
  refine ⟨h.1, ?_⟩
  rcases h.2 with hv | ⟨g', c', cur, hv, h2, h3⟩
  · exact .inl hv
  · exact .inr ⟨g', c', cur, hv, by omega, h3⟩
theorem OwnP.ltP {w : World} {base : Nat} {v : Value} {l : List Oq} (h : OwnP w base v l) : ∀ k, v.ownBlock = some k → ∃ cur, w.heap[k]? = some (.cells cur 102 (0, 0)) := by
  intro k hk
  rcases h.2 with ⟨rfl, _⟩ | ⟨g, cap, cur, rfl, h1, h2, _⟩
  · simp [Value.ownBlock] at hk
  · simp [Value.ownBlock] at hk
    subst hk
    exact ⟨cur, h2⟩
theorem OwnP.farP {w1 w2 : World} {b : Nat} {u : Value} {m : List Oq} {row : Option Nat} (h : OwnP w1 b u m) (hg : w1.grownBy w2 row) (hn : ∀ k, u.ownBlock = some k → row ≠ some k) : OwnP w2 b u m := World.ownsRow.kept h hg (by
  cases hb : u.ownBlock with
  | none => exact .inl rfl
  | some k => exact .inr fun e => hn k hb e.symm)
/-- The cells of a table of the call's own. -/
def celC (ps : List (Ce × Value)) : List Value := ps.flatMap (fun p => [Value.int .i64 p.1.enc, p.2])
theorem celC_len (ps : List (Ce × Value)) : (celC ps).length = ps.length * 2 := by
  induction ps with
  | nil => rfl
  | cons p ps ih => simp only [celC, List.flatMap_cons, List.length_append, List.length_cons, List.length_nil] at ih ⊢; omega
/-- A table of the call's own. -/
structure TC (w : World) (b : Nat) (v : Value) (l : List Ce) : Prop where
  row : ∃ ps : List (Ce × Value), ps.map Prod.fst = l ∧ w.ownsRow b 76 2 v l.length (celC ps) ∧ ∀ p ∈ ps, OwnP w b p.2 p.1.ini
theorem TC.nil (w : World) (b : Nat) : TC w b (.slice none 0 0) [] := ⟨[], rfl, World.ownsRow_nil _ _ _ _, fun p hp => by cases hp⟩
theorem TC.bel {w w' : World} {b : Nat} {v : Value} {l : List Ce} (h : TC w b v l) (hb : Below w.heap.size w w') : TC w' b v l := by
  obtain ⟨ps, h1, h2, h3⟩ := h.row
  exact ⟨ps, h1, World.ownsRow.kept (row := none) h2 ⟨hb.os, hb.tape, hb.output, hb.size, fun j hj _ => hb.block j hj⟩ (by cases hv : v.ownBlock <;> simp), fun p hp => (h3 p hp).bel hb⟩
theorem TC.low {w : World} {b : Nat} {v : Value} {l : List Ce} (h : TC w b v l) : ∀ k, v.ownBlock = some k → b ≤ k := by
  obtain ⟨ps, h1, h2, h3⟩ := h.row
  exact own_block h2
theorem TC.ty {w : World} {b : Nat} {v : Value} {l : List Ce} (h : TC w b v l) : ∀ k, v.ownBlock = some k → ∃ cur, w.heap[k]? = some (.cells cur 76 (0, 0)) := by
  obtain ⟨ps, h1, h2, h3⟩ := h.row
  intro k hk
  rcases h2.2 with ⟨rfl, _⟩ | ⟨g, cap, cur, rfl, e1, e2, _⟩
  · simp [Value.ownBlock] at hk
  · simp [Value.ownBlock] at hk
    subst hk
    exact ⟨cur, e2⟩
theorem infoC : (Tryd.prog.info? 76).map (fun i => (i.zero, i.size, i.bytes)) = some (some (.agg #[.int .i64 0, .slice none 0 0]), 2, 32) := by kernel_rfl
/-- The cells of a table of the call's own. -/
def celF (ps : List (Fe × Value)) : List Value := ps.flatMap (fun p => [Value.int .i64 p.1.cie, Value.int .i64 p.1.beg, Value.int .i64 p.1.size, p.2])
theorem celF_len (ps : List (Fe × Value)) : (celF ps).length = ps.length * 4 := by
  induction ps with
  | nil => rfl
  | cons p ps ih => simp only [celF, List.flatMap_cons, List.length_append, List.length_cons, List.length_nil] at ih ⊢; omega
/-- A table of the call's own. -/
structure TF (w : World) (b : Nat) (v : Value) (l : List Fe) : Prop where
  row : ∃ ps : List (Fe × Value), ps.map Prod.fst = l ∧ w.ownsRow b 57 4 v l.length (celF ps) ∧ ∀ p ∈ ps, OwnP w b p.2 p.1.ops
theorem TF.nil (w : World) (b : Nat) : TF w b (.slice none 0 0) [] := ⟨[], rfl, World.ownsRow_nil _ _ _ _, fun p hp => by cases hp⟩
theorem TF.bel {w w' : World} {b : Nat} {v : Value} {l : List Fe} (h : TF w b v l) (hb : Below w.heap.size w w') : TF w' b v l := by
  obtain ⟨ps, h1, h2, h3⟩ := h.row
  exact ⟨ps, h1, World.ownsRow.kept (row := none) h2 ⟨hb.os, hb.tape, hb.output, hb.size, fun j hj _ => hb.block j hj⟩ (by cases hv : v.ownBlock <;> simp), fun p hp => (h3 p hp).bel hb⟩
theorem TF.low {w : World} {b : Nat} {v : Value} {l : List Fe} (h : TF w b v l) : ∀ k, v.ownBlock = some k → b ≤ k := by
  obtain ⟨ps, h1, h2, h3⟩ := h.row
  exact own_block h2
theorem TF.ty {w : World} {b : Nat} {v : Value} {l : List Fe} (h : TF w b v l) : ∀ k, v.ownBlock = some k → ∃ cur, w.heap[k]? = some (.cells cur 57 (0, 0)) := by
  obtain ⟨ps, h1, h2, h3⟩ := h.row
  intro k hk
  rcases h2.2 with ⟨rfl, _⟩ | ⟨g, cap, cur, rfl, e1, e2, _⟩
  · simp [Value.ownBlock] at hk
  · simp [Value.ownBlock] at hk
    subst hk
    exact ⟨cur, e2⟩
theorem infoF : (Tryd.prog.info? 57).map (fun i => (i.zero, i.size, i.bytes)) = some (some (.agg #[.int .i64 0, .int .i64 0, .int .i64 0, .slice none 0 0]), 4, 48) := by kernel_rfl
theorem ix_rcie (b off n c k : Nat) (hk : k < n) (W : World) : (Instr.indexAt 37 (.slice (some ⟨b, off, none⟩) n c) (.int .i64 (k : Int))).run Tryd.prog W = .ok (.pointer (some ⟨b, off + k * 2, none⟩)) W := by
  have hi : (Tryd.prog.info? 54).map (·.size) = some 2 := by kernel_rfl
  cases hq : Tryd.prog.info? 54 with
  | none => simp [hq] at hi
  | some i =>
    have hi1 : i.size = 2 := by simpa [hq] using hi
    simp [Instr.indexAt, run_underlying Tryd.underlying37, asIntOf, sizeOf, typeInfo, hq, hi1, caddr_add, hk]
theorem build_C {o : Oper} {a : Act} {x : Operand} {y : Ce} {ra : Option Addr} {n rc : Nat} (w : World) (ho : o.op = .buildSlice 39 1 #[(0, x)]) (hx : a.eval x = .agg #[.int .i64 y.enc, .slice ra n rc]) :
    (execOp a.eval o).run Tryd.prog w = .ok (.value (.slice (some ⟨w.heap.size, 0, none⟩) 1 1)) (w.alloc (.cells #[.int .i64 y.enc, .slice ra n rc] 76)) := by
  unfold execOp
  simp only [ho, List.map_toArray, List.map_cons, List.map_nil, hx]
  kernel_rfl
theorem wp_appC {o : Oper} {a : Act} {w : World} {K : Act → World → Prop} {Q : Exit → Act → World → Prop} {s x : Operand} (ho : o.op = .call { callee := .builtin .append, args := #[s, x], argTypes := #[39, 39] })
    {base : Nat} {v : Value} {l : List Ce} {q : Nat} {y : Ce} {ra : Option Addr} {rc : Nat} (hs : a.eval s = v) (hx : a.eval x = .slice (some ⟨q, 0, none⟩) 1 1) (hT : TC w base v l) (hb : Bk w q 76 #[.int .i64 y.enc, .slice ra y.ini.length rc]) (hO : OwnP w base (.slice ra y.ini.length rc) y.ini) (hn : l.length ≤ 4398046511000) (hbase : base ≤ w.heap.size)
    (h : ∀ v' w', TC w' base v' (l ++ [y]) → w.grownBy w' v.ownBlock → K (a.put o.dst v') w') : o.wp Tryd.prog a w K Q := by
  obtain ⟨ps, h1, h2, h3⟩ := hT.row
  have hty := hT.ty
  obtain ⟨i0, hi, hz0, hz1, hz2⟩ := info_parts infoC
  obtain ⟨v', w', hrun, r2, r3, r4, r5⟩ := run_append_own_at (P := Tryd.prog) w base 39 o.type 76 i0 _ 2 32 Tryd.underlying39 hi hz0 hz1 hz2 rfl (by decide) v l.length _ h2 ⟨q, 0, none⟩ 1 1 [.int .i64 y.enc, .slice ra y.ini.length rc] (by simp) (by
    intro j u hj
    rw [caddr_add]
    exact hb.cell _ (by simpa using hj)) (by
    intro u hu
    simp at hu
    rcases hu with rfl | rfl <;> rfl) (by unfold maxLen; omega) (by omega) hbase
  unfold Oper.wp execOp
  simp only [ho, resolve, invoke, builtin, Sem.run_bind, Sem.run_pure, Result.andThen_ok, List.map_toArray, List.map_cons, List.map_nil, hs, hx, hrun]
  refine h v' w' ⟨ps ++ [(y, .slice ra y.ini.length rc)], by simp [h1], ?_, fun p hp => ?_⟩ r3
  · have e : celC (ps ++ [(y, .slice ra y.ini.length rc)]) = celC ps ++ [.int .i64 y.enc, .slice ra y.ini.length rc] := by simp [celC]
    rw [e, List.length_append]
    exact r2
  · have hfar : ∀ (u : Value) (m : List Oq), OwnP w base u m → OwnP w' base u m := fun u m hu => hu.farP r3 (fun k hk e => by
      obtain ⟨c1, e1⟩ := hty k e
      obtain ⟨c2, e2⟩ := hu.ltP k hk
      have := e1.symm.trans e2
      injection this with this
      injection this with _ e3 _
      exact absurd e3 (by decide))
    rcases List.mem_append.1 hp with hp | hp
    · exact hfar _ _ (h3 p hp)
    · have : p = (y, .slice ra y.ini.length rc) := by simpa using hp
      subst this
      exact hfar _ _ hO
theorem ix_rfde (b off n c k : Nat) (hk : k < n) (W : World) : (Instr.indexAt 38 (.slice (some ⟨b, off, none⟩) n c) (.int .i64 (k : Int))).run Tryd.prog W = .ok (.pointer (some ⟨b, off + k * 4, none⟩)) W := by
  have hi : (Tryd.prog.info? 79).map (·.size) = some 4 := by kernel_rfl
  cases hq : Tryd.prog.info? 79 with
  | none => simp [hq] at hi
  | some i =>
    have hi1 : i.size = 4 := by simpa [hq] using hi
    simp [Instr.indexAt, run_underlying Tryd.underlying38, asIntOf, sizeOf, typeInfo, hq, hi1, caddr_add, hk]
theorem build_F {o : Oper} {a : Act} {x : Operand} {y : Fe} {ra : Option Addr} {n rc : Nat} (w : World) (ho : o.op = .buildSlice 40 1 #[(0, x)]) (hx : a.eval x = .agg #[.int .i64 y.cie, .int .i64 y.beg, .int .i64 y.size, .slice ra n rc]) :
    (execOp a.eval o).run Tryd.prog w = .ok (.value (.slice (some ⟨w.heap.size, 0, none⟩) 1 1)) (w.alloc (.cells #[.int .i64 y.cie, .int .i64 y.beg, .int .i64 y.size, .slice ra n rc] 57)) := by
  unfold execOp
  simp only [ho, List.map_toArray, List.map_cons, List.map_nil, hx]
  kernel_rfl
theorem wp_appF {o : Oper} {a : Act} {w : World} {K : Act → World → Prop} {Q : Exit → Act → World → Prop} {s x : Operand} (ho : o.op = .call { callee := .builtin .append, args := #[s, x], argTypes := #[40, 40] })
    {base : Nat} {v : Value} {l : List Fe} {q : Nat} {y : Fe} {ra : Option Addr} {rc : Nat} (hs : a.eval s = v) (hx : a.eval x = .slice (some ⟨q, 0, none⟩) 1 1) (hT : TF w base v l) (hb : Bk w q 57 #[.int .i64 y.cie, .int .i64 y.beg, .int .i64 y.size, .slice ra y.ops.length rc]) (hO : OwnP w base (.slice ra y.ops.length rc) y.ops) (hn : l.length ≤ 2932031007400) (hbase : base ≤ w.heap.size)
    (h : ∀ v' w', TF w' base v' (l ++ [y]) → w.grownBy w' v.ownBlock → K (a.put o.dst v') w') : o.wp Tryd.prog a w K Q := by
  obtain ⟨ps, h1, h2, h3⟩ := hT.row
  have hty := hT.ty
  obtain ⟨i0, hi, hz0, hz1, hz2⟩ := info_parts infoF
  obtain ⟨v', w', hrun, r2, r3, r4, r5⟩ := run_append_own_at (P := Tryd.prog) w base 40 o.type 57 i0 _ 4 48 Tryd.underlying40 hi hz0 hz1 hz2 rfl (by decide) v l.length _ h2 ⟨q, 0, none⟩ 1 1 [.int .i64 y.cie, .int .i64 y.beg, .int .i64 y.size, .slice ra y.ops.length rc] (by simp) (by
    intro j u hj
    rw [caddr_add]
    exact hb.cell _ (by simpa using hj)) (by
    intro u hu
    simp at hu
    rcases hu with rfl | rfl | rfl | rfl <;> rfl) (by unfold maxLen; omega) (by omega) hbase
  unfold Oper.wp execOp
  simp only [ho, resolve, invoke, builtin, Sem.run_bind, Sem.run_pure, Result.andThen_ok, List.map_toArray, List.map_cons, List.map_nil, hs, hx, hrun]
  refine h v' w' ⟨ps ++ [(y, .slice ra y.ops.length rc)], by simp [h1], ?_, fun p hp => ?_⟩ r3
  · have e : celF (ps ++ [(y, .slice ra y.ops.length rc)]) = celF ps ++ [.int .i64 y.cie, .int .i64 y.beg, .int .i64 y.size, .slice ra y.ops.length rc] := by simp [celF]
    rw [e, List.length_append]
    exact r2
  · have hfar : ∀ (u : Value) (m : List Oq), OwnP w base u m → OwnP w' base u m := fun u m hu => hu.farP r3 (fun k hk e => by
      obtain ⟨c1, e1⟩ := hty k e
      obtain ⟨c2, e2⟩ := hu.ltP k hk
      have := e1.symm.trans e2
      injection this with this
      injection this with _ e3 _
      exact absurd e3 (by decide))
    rcases List.mem_append.1 hp with hp | hp
    · exact hfar _ _ (h3 p hp)
    · have : p = (y, .slice ra y.ops.length rc) := by simpa using hp
      subst this
      exact hfar _ _ hO
theorem load_rops {w : World} {p : Addr} {ao : Option Addr} {n c : Nat} (hc : w.cell? p = some (.slice ao n c)) : (loadVar 52 p).run Tryd.prog w = .ok (.slice ao n c) w := by
  simp [loadVar, isAgg, run_underlying Tryd.underlying52, go_sem, hc]
theorem TC.far {w w' : World} {b b2 : Nat} {v v2 : Value} {l : List Ce} {m : List Fe} (h : TC w b v l) (hg : w.grownBy w' v2.ownBlock) (hF : TF w b2 v2 m) : TC w' b v l := by
  have hty := h.ty
  obtain ⟨ps, h1, h2, h3⟩ := h.row
  refine ⟨ps, h1, World.ownsRow.kept h2 hg ?_, fun p hp => (h3 p hp).farP hg (fun k hk e => ?_)⟩
  · cases hb : v.ownBlock with
    | none => exact .inl rfl
    | some k =>
      refine .inr fun e => ?_
      obtain ⟨c1, e1⟩ := hty k hb
      obtain ⟨c2, e2⟩ := hF.ty k e.symm
      have := e1.symm.trans e2
      injection this with this
      injection this with _ e3 _
      exact absurd e3 (by decide)
  · obtain ⟨c1, e1⟩ := (h3 p hp).ltP k hk
    obtain ⟨c2, e2⟩ := hF.ty k e
    have := e1.symm.trans e2
    injection this with this
    injection this with _ e3 _
    exact absurd e3 (by decide)

theorem takeC {l : List Ce} {k : Nat} (h : k < l.length) : l.take (k + 1) = l.take k ++ [l.getD k Ce.zero] := by
  rw [List.take_add_one]; simp [h]
theorem takeF {l : List Fe} {k : Nat} (h : k < l.length) : l.take (k + 1) = l.take k ++ [l.getD k Fe.zero] := by
  rw [List.take_add_one]; simp [h]
/-- The program's tables. -/
def TabEnd (c : List Ce) (f : List Fe) (w : World) (e : Ending) (w' : World) : Prop := ∃ v1 v2, e = .returned (.tuple #[v1, v2]) ∧ TC w' w.heap.size v1 c ∧ TF w' w.heap.size v2 f ∧ Below w.heap.size w w'

set_option maxHeartbeats 8000000 in
set_option maxRecDepth 20000 in
theorem tables_any (ac : Option Addr) (cc : Nat) (c : List Ce) (af : Option Addr) (cf : Nat) (f : List Fe) (w : World) (hC : Cs w ac c) (hF : Fs w af f) (hcl : c.length ≤ 4398046511000) (hfl : f.length ≤ 2932031007400) (hci : ∀ x ∈ c, x.ini.length ≤ 5864062014634) (hfi : ∀ x ∈ f, x.ops.length ≤ 5864062014634) :
    Calls Tryd.prog 12 #[.slice ac c.length cc, .slice af f.length cf] w (TabEnd c f w) := by
  have HC : Hid _ := ⟨hC⟩
  have HF : Hid _ := ⟨hF⟩
  have HCI : Hid _ := ⟨hci⟩
  have HFI : Hid _ := ⟨hfi⟩
  clear hC hF hci hfi
  go_enter Tryd.func12, Tryd.ntmps12
  go_wp2
  go_loopw [8, 6] (fun i v wr => ∃ k : Nat, k ≤ c.length ∧ i = .int .i64 k ∧ Hid (TC wr w.heap.size v (c.take k) ∧ Below w.heap.size w wr)) (fun i _ _ => c.length - (intOf i).toNat)
  case atStart => exact ⟨0, by omega, rfl, ⟨TC.nil _ _, Below.refl _ _⟩⟩
  case round =>
    obtain ⟨k, hk, rfl, HV⟩ := hrel
    by_cases hlt : k < c.length
    · obtain ⟨b, off, rfl, hat⟩ : ∃ b off, ac = some ⟨b, off, none⟩ ∧ ∀ j, j < c.length → CeAt w b (off + j * 2) (c.getD j Ce.zero) := by
        rcases HC.out with h | h
        · omega
        · exact h
      have q1 : (k : Int) < (c.length : Int) := by omega
      have q0 : (0 : Int) ≤ (k : Int) := by omega
      obtain ⟨a, cp, x0, x1, hI⟩ := hat k hlt
      have hil := HCI.out _ (ce_in hlt)
      have HTk : Hid (c.take (k + 1) = c.take k ++ [c.getD k Ce.zero]) := ⟨takeC hlt⟩
      have htl : (c.take k).length ≤ 4398046511000 := by rw [List.length_take]; omega
      have HT : Hid (TC wr w.heap.size u6 (c.take k)) := ⟨HV.out.1⟩
      have HB : Hid (Below w.heap.size w wr) := ⟨HV.out.2⟩
      generalize (c.getD k Ce.zero) = y at *
      have HCellW : Hid (∀ W, Below w.heap.size w W → W.cell? ⟨b, off + k * 2, none⟩ = some (.int .i64 y.enc) ∧ W.cell? ⟨b, off + k * 2 + 1, none⟩ = some (.slice a y.ini.length cp)) := ⟨fun W hW => ⟨up_bel x0 hW, up_bel x1 hW⟩⟩
      have HCell : Hid (wr.drew.cell? ⟨b, off + k * 2, none⟩ = some (.int .i64 y.enc) ∧ wr.drew.cell? ⟨b, off + k * 2 + 1, none⟩ = some (.slice a y.ini.length cp)) := ⟨HCellW.out _ HB.out.drew⟩
      have HO : Hid (∀ W, Below w.heap.size w W → Calls Tryd.prog 37 #[.slice a y.ini.length cp] W fun e w' => ∃ v, e = .returned v ∧ OwnP w' W.heap.size v y.ini ∧ Below W.heap.size W w') := ⟨fun W hW => lops_any a cp y.ini W hil (hI.ops.bel hW)⟩
      clear hat x0 x1 hI HV
      go_upto_region 6 with (fail)
      refine wp_region_held_drew (S := fun u => u.cell? ⟨b, off + k * 2, none⟩ = some (.int .i64 y.enc) ∧ u.cell? ⟨b, off + k * 2 + 1, none⟩ = some (.slice a y.ini.length cp)) (by kernel_rfl) HCell.out (fun hS => ?_)
      refine wpAnyH_take (i := 0) (v := u6) rfl (by kernel_rfl) (by kernel_rfl) (by kernel_rfl) (fun _ _ _ h => h) (Or.inl ⟨by kernel_rfl, fun u hu => by kernel_rfl⟩) hS ?_
      simp only [Act.put, List.getElem_toArray, List.getElem_cons_succ, List.getElem_cons_zero, List.setIfInBounds_toArray, List.set_cons_zero, List.set_cons_succ]
      refine wpAnyH_take (i := 1) (v := .slice (some ⟨b, off, none⟩) c.length cc) rfl (by kernel_rfl) (by kernel_rfl) (by kernel_rfl) (fun _ _ _ h => h) (Or.inl ⟨by kernel_rfl, fun u hu => by kernel_rfl⟩) hS ?_
      simp only [Act.put, List.getElem_toArray, List.getElem_cons_succ, List.getElem_cons_zero, List.setIfInBounds_toArray, List.set_cons_zero, List.set_cons_succ]
      refine wpAnyH_take (i := 2) (v := .int .i64 (k : Int)) rfl (by kernel_rfl) (by kernel_rfl) (by kernel_rfl) (fun _ _ _ h => h) (Or.inl ⟨by kernel_rfl, fun u hu => by kernel_rfl⟩) hS ?_
      simp only [Act.put, List.getElem_toArray, List.getElem_cons_succ, List.getElem_cons_zero, List.setIfInBounds_toArray, List.set_cons_zero, List.set_cons_succ]
      refine wpAnyH_take (i := 3) (v := .pointer (some ⟨b, off + k * 2, none⟩)) rfl (by kernel_rfl) (by kernel_rfl) (by kernel_rfl) (fun _ _ _ h => h) (Or.inl ⟨by kernel_rfl, fun u hu => exec_ix rfl (by kernel_rfl) (by kernel_rfl) (ix_rcie b off c.length cc k hlt u)⟩) hS ?_
      simp only [Act.put, List.getElem_toArray, List.getElem_cons_succ, List.getElem_cons_zero, List.setIfInBounds_toArray, List.set_cons_zero, List.set_cons_succ]
      refine wpAnyH_take (i := 4) (v := .pointer (some ⟨b, off + k * 2, none⟩)) rfl (by kernel_rfl) (by kernel_rfl) (by kernel_rfl) (fun _ _ _ h => h) (Or.inl ⟨by kernel_rfl, fun u hu => by kernel_rfl⟩) hS ?_
      simp only [Act.put, List.getElem_toArray, List.getElem_cons_succ, List.getElem_cons_zero, List.setIfInBounds_toArray, List.set_cons_zero, List.set_cons_succ]
      refine wpAnyH_take (i := 5) (v := .int .i64 y.enc) rfl (by kernel_rfl) (by kernel_rfl) (by kernel_rfl) (fun _ _ _ h => h) (Or.inl ⟨by kernel_rfl, fun u hu => exec_loadV (t := 3) (p := ⟨b, off + k * 2, none⟩) rfl (by kernel_rfl) (load_i64 hu.1)⟩) hS ?_
      simp only [Act.put, List.getElem_toArray, List.getElem_cons_succ, List.getElem_cons_zero, List.setIfInBounds_toArray, List.set_cons_zero, List.set_cons_succ]
      refine wpAnyH_take (i := 6) (v := .slice (some ⟨b, off, none⟩) c.length cc) rfl (by kernel_rfl) (by kernel_rfl) (by kernel_rfl) (fun _ _ _ h => h) (Or.inl ⟨by kernel_rfl, fun u hu => by kernel_rfl⟩) hS ?_
      simp only [Act.put, List.getElem_toArray, List.getElem_cons_succ, List.getElem_cons_zero, List.setIfInBounds_toArray, List.set_cons_zero, List.set_cons_succ]
      refine wpAnyH_take (i := 7) (v := .int .i64 (k : Int)) rfl (by kernel_rfl) (by kernel_rfl) (by kernel_rfl) (fun _ _ _ h => h) (Or.inl ⟨by kernel_rfl, fun u hu => by kernel_rfl⟩) hS ?_
      simp only [Act.put, List.getElem_toArray, List.getElem_cons_succ, List.getElem_cons_zero, List.setIfInBounds_toArray, List.set_cons_zero, List.set_cons_succ]
      refine wpAnyH_take (i := 8) (v := .pointer (some ⟨b, off + k * 2, none⟩)) rfl (by kernel_rfl) (by kernel_rfl) (by kernel_rfl) (fun _ _ _ h => h) (Or.inl ⟨by kernel_rfl, fun u hu => exec_ix rfl (by kernel_rfl) (by kernel_rfl) (ix_rcie b off c.length cc k hlt u)⟩) hS ?_
      simp only [Act.put, List.getElem_toArray, List.getElem_cons_succ, List.getElem_cons_zero, List.setIfInBounds_toArray, List.set_cons_zero, List.set_cons_succ]
      refine wpAnyH_take (i := 9) (v := .pointer (some ⟨b, off + k * 2 + 1, none⟩)) rfl (by kernel_rfl) (by kernel_rfl) (by kernel_rfl) (fun _ _ _ h => h) (Or.inl ⟨by kernel_rfl, fun u hu => by kernel_rfl⟩) hS ?_
      simp only [Act.put, List.getElem_toArray, List.getElem_cons_succ, List.getElem_cons_zero, List.setIfInBounds_toArray, List.set_cons_zero, List.set_cons_succ]
      refine wpAnyH_take (i := 10) (v := .slice a y.ini.length cp) rfl (by kernel_rfl) (by kernel_rfl) (by kernel_rfl) (fun _ _ _ h => h) (Or.inl ⟨by kernel_rfl, fun u hu => exec_loadV (t := 52) (p := ⟨b, off + k * 2 + 1, none⟩) rfl (by kernel_rfl) (load_rops hu.2)⟩) hS ?_
      simp only [Act.put, List.getElem_toArray, List.getElem_cons_succ, List.getElem_cons_zero, List.setIfInBounds_toArray, List.set_cons_zero, List.set_cons_succ]
      refine wpAnyH_ready (rs := [11]) (by kernel_rfl) (by simp) ?_
      refine AllReadyH.cons rfl (fun K hK => ?_) AllReadyH.nil
      simp only [List.getElem_toArray, List.getElem_cons_succ, List.getElem_cons_zero]
      refine wp_if (by kernel_rfl) ?_
      refine wp_enter (f := 37) (args := #[.slice a y.ini.length cp]) (by kernel_rfl) (HO.out _ (show Below w.heap.size w wr.drew from HB.out.drew)) ?_
      rintro e w2 ⟨r2, rfl, ho2, hb2⟩
      refine ⟨_, rfl, ?_⟩
      obtain ⟨ra, rc, hr2, _⟩ := ho2.is
      subst hr2
      have hd2 : Below wr.heap.size wr w2 := (Below.refl _ _).drew.trans hb2
      have T2 := HT.out.bel hd2
      have HB2 : Hid (Below w.heap.size w w2) := ⟨HB.out.trans (hd2.mono HB.out.size)⟩
      refine hK.out _ _ (HCellW.out _ HB2.out) (fun hS => ?_)
      clear hK
      simp only [Act.put, List.getElem_toArray, List.getElem_cons_succ, List.getElem_cons_zero, List.setIfInBounds_toArray, List.set_cons_zero, List.set_cons_succ]
      refine wpAnyH_take (i := 12) (v := .agg #[.int .i64 y.enc, .slice ra y.ini.length rc]) rfl (by kernel_rfl) (by kernel_rfl) (by kernel_rfl) (fun _ _ _ h => h) (Or.inl ⟨by kernel_rfl, fun u hu => by kernel_rfl⟩) hS ?_
      simp only [Act.put, List.getElem_toArray, List.getElem_cons_succ, List.getElem_cons_zero, List.setIfInBounds_toArray, List.set_cons_zero, List.set_cons_succ]
      refine wpAnyH_ready (rs := [13]) (by kernel_rfl) (by simp) ?_
      refine AllReadyH.cons rfl (fun K hK => ?_) AllReadyH.nil
      simp only [List.getElem_toArray, List.getElem_cons_succ, List.getElem_cons_zero]
      refine wp_if (by kernel_rfl) ?_
      refine wp_val (v := .slice (some ⟨w2.heap.size, 0, none⟩) 1 1) (w' := w2.alloc (.cells #[.int .i64 y.enc, .slice ra y.ini.length rc] 76)) (build_C w2 rfl (by kernel_rfl)) ?_
      have ha3 : Below w2.heap.size w2 (w2.alloc (.cells #[.int .i64 y.enc, .slice ra y.ini.length rc] 76)) := (Below.refl _ _).alloc (Nat.le_refl _) _
      have T3 := T2.bel ha3
      have O3 := OwnP.bel (ho2.lowP (Nat.le_trans HB.out.size (show wr.heap.size ≤ wr.drew.heap.size from Nat.le_refl _))) ha3
      have HB3 : Hid (Below w.heap.size w (w2.alloc (.cells #[.int .i64 y.enc, .slice ra y.ini.length rc] 76))) := ⟨HB2.out.alloc HB2.out.size _⟩
      have N3 := Bk.new w2 #[.int .i64 y.enc, .slice ra y.ini.length rc] 76
      refine hK.out _ _ (HCellW.out _ HB3.out) (fun hS => ?_)
      clear hK T2 ho2 hb2 hd2 ha3
      simp only [Act.put, List.getElem_toArray, List.getElem_cons_succ, List.getElem_cons_zero, List.setIfInBounds_toArray, List.set_cons_zero, List.set_cons_succ]
      generalize (w2.alloc (.cells #[.int .i64 y.enc, .slice ra y.ini.length rc] 76)) = w3 at *
      refine wpAnyH_ready (rs := [14]) (by kernel_rfl) (by simp) ?_
      refine AllReadyH.cons rfl (fun K hK => ?_) AllReadyH.nil
      simp only [List.getElem_toArray, List.getElem_cons_succ, List.getElem_cons_zero]
      refine wp_if (by kernel_rfl) ?_
      refine wp_appC rfl (by kernel_rfl) (by kernel_rfl) T3 N3 O3 (by omega) HB3.out.size ?_
      intro v4 w4 T4 hg4
      have HB4 : Hid (Below w.heap.size w w4) := ⟨HB3.out.grown hg4 HB3.out.size (fun k hk => T3.low k hk)⟩
      refine hK.out _ _ (HCellW.out _ HB4.out) (fun hS => ?_)
      clear hK
      simp only [Act.put, List.getElem_toArray, List.getElem_cons_succ, List.getElem_cons_zero, List.setIfInBounds_toArray, List.set_cons_zero, List.set_cons_succ]
      refine wpAnyH_take (i := 15) (v := v4) rfl (by kernel_rfl) (by kernel_rfl) (by kernel_rfl) (fun _ _ _ h => h) (Or.inl ⟨by kernel_rfl, fun u hu => by kernel_rfl⟩) hS ?_
      simp only [Act.put, List.getElem_toArray, List.getElem_cons_succ, List.getElem_cons_zero, List.setIfInBounds_toArray, List.set_cons_zero, List.set_cons_succ]
      refine wpAnyH_done (by kernel_rfl) ?_ _
      go_wp2_with fail
      go_roundw
      case rel => exact ⟨k + 1, by omega, by go_num, ⟨by rw [HTk.out]; exact T4, HB4.out⟩⟩
      case measure => simp [intOf]; omega
    · obtain rfl : k = c.length := by omega
      have q1 : ¬ (c.length : Int) < (c.length : Int) := by omega
      have HTC0 : Hid (TC wr w.heap.size u6 c) := ⟨by have := HV.out.1; rwa [List.take_length] at this⟩
      have HB0 : Hid (Below w.heap.size w wr) := ⟨HV.out.2⟩
      clear HV
      go_wp2
      go_loopw [9, 7] (fun i v wq => ∃ k : Nat, k ≤ f.length ∧ i = .int .i64 k ∧ Hid (TF wq w.heap.size v (f.take k) ∧ TC wq w.heap.size u6 c ∧ Below w.heap.size w wq)) (fun i _ _ => f.length - (intOf i).toNat)
      case atStart => exact ⟨0, by omega, rfl, ⟨TF.nil _ _, HTC0.out, HB0.out⟩⟩
      case round =>
        obtain ⟨k, hk2, rfl, HV⟩ := hrel
        by_cases hlt : k < f.length
        · obtain ⟨b, off, rfl, hat⟩ : ∃ b off, af = some ⟨b, off, none⟩ ∧ ∀ j, j < f.length → FeAt w b (off + j * 4) (f.getD j Fe.zero) := by
            rcases HF.out with h | h
            · omega
            · exact h
          have q1 : (k : Int) < (f.length : Int) := by omega
          have q0 : (0 : Int) ≤ (k : Int) := by omega
          obtain ⟨a, cp, x0, x1, x2, x3, hI⟩ := hat k hlt
          have hil := HFI.out _ (fe_in hlt)
          have HTk : Hid (f.take (k + 1) = f.take k ++ [f.getD k Fe.zero]) := ⟨takeF hlt⟩
          have htl : (f.take k).length ≤ 2932031007400 := by rw [List.length_take]; omega
          have HT : Hid (TF wr w.heap.size u7 (f.take k)) := ⟨HV.out.1⟩
          have HTC : Hid (TC wr w.heap.size u6 c) := ⟨HV.out.2.1⟩
          have HB : Hid (Below w.heap.size w wr) := ⟨HV.out.2.2⟩
          generalize (f.getD k Fe.zero) = y at *
          have HCellW : Hid (∀ W, Below w.heap.size w W → W.cell? ⟨b, off + k * 4, none⟩ = some (.int .i64 y.cie) ∧ W.cell? ⟨b, off + k * 4 + 1, none⟩ = some (.int .i64 y.beg) ∧ W.cell? ⟨b, off + k * 4 + 2, none⟩ = some (.int .i64 y.size) ∧ W.cell? ⟨b, off + k * 4 + 3, none⟩ = some (.slice a y.ops.length cp)) := ⟨fun W hW => ⟨up_bel x0 hW, up_bel x1 hW, up_bel x2 hW, up_bel x3 hW⟩⟩
          have HCell : Hid (wr.drew.cell? ⟨b, off + k * 4, none⟩ = some (.int .i64 y.cie) ∧ wr.drew.cell? ⟨b, off + k * 4 + 1, none⟩ = some (.int .i64 y.beg) ∧ wr.drew.cell? ⟨b, off + k * 4 + 2, none⟩ = some (.int .i64 y.size) ∧ wr.drew.cell? ⟨b, off + k * 4 + 3, none⟩ = some (.slice a y.ops.length cp)) := ⟨HCellW.out _ HB.out.drew⟩
          have HO : Hid (∀ W, Below w.heap.size w W → Calls Tryd.prog 37 #[.slice a y.ops.length cp] W fun e w' => ∃ v, e = .returned v ∧ OwnP w' W.heap.size v y.ops ∧ Below W.heap.size W w') := ⟨fun W hW => lops_any a cp y.ops W hil (hI.ops.bel hW)⟩
          clear hat x0 x1 x2 x3 hI HV HTC0 HB0
          go_upto_region 10 with (fail)
          refine wp_region_held_drew (S := fun u => u.cell? ⟨b, off + k * 4, none⟩ = some (.int .i64 y.cie) ∧ u.cell? ⟨b, off + k * 4 + 1, none⟩ = some (.int .i64 y.beg) ∧ u.cell? ⟨b, off + k * 4 + 2, none⟩ = some (.int .i64 y.size) ∧ u.cell? ⟨b, off + k * 4 + 3, none⟩ = some (.slice a y.ops.length cp)) (by kernel_rfl) HCell.out (fun hS => ?_)
          refine wpAnyH_take (i := 0) (v := u7) rfl (by kernel_rfl) (by kernel_rfl) (by kernel_rfl) (fun _ _ _ h => h) (Or.inl ⟨by kernel_rfl, fun u hu => by kernel_rfl⟩) hS ?_
          simp only [Act.put, List.getElem_toArray, List.getElem_cons_succ, List.getElem_cons_zero, List.setIfInBounds_toArray, List.set_cons_zero, List.set_cons_succ]
          refine wpAnyH_take (i := 1) (v := .slice (some ⟨b, off, none⟩) f.length cf) rfl (by kernel_rfl) (by kernel_rfl) (by kernel_rfl) (fun _ _ _ h => h) (Or.inl ⟨by kernel_rfl, fun u hu => by kernel_rfl⟩) hS ?_
          simp only [Act.put, List.getElem_toArray, List.getElem_cons_succ, List.getElem_cons_zero, List.setIfInBounds_toArray, List.set_cons_zero, List.set_cons_succ]
          refine wpAnyH_take (i := 2) (v := .int .i64 (k : Int)) rfl (by kernel_rfl) (by kernel_rfl) (by kernel_rfl) (fun _ _ _ h => h) (Or.inl ⟨by kernel_rfl, fun u hu => by kernel_rfl⟩) hS ?_
          simp only [Act.put, List.getElem_toArray, List.getElem_cons_succ, List.getElem_cons_zero, List.setIfInBounds_toArray, List.set_cons_zero, List.set_cons_succ]
          refine wpAnyH_take (i := 3) (v := .pointer (some ⟨b, off + k * 4, none⟩)) rfl (by kernel_rfl) (by kernel_rfl) (by kernel_rfl) (fun _ _ _ h => h) (Or.inl ⟨by kernel_rfl, fun u hu => exec_ix rfl (by kernel_rfl) (by kernel_rfl) (ix_rfde b off f.length cf k hlt u)⟩) hS ?_
          simp only [Act.put, List.getElem_toArray, List.getElem_cons_succ, List.getElem_cons_zero, List.setIfInBounds_toArray, List.set_cons_zero, List.set_cons_succ]
          refine wpAnyH_take (i := 4) (v := .pointer (some ⟨b, off + k * 4, none⟩)) rfl (by kernel_rfl) (by kernel_rfl) (by kernel_rfl) (fun _ _ _ h => h) (Or.inl ⟨by kernel_rfl, fun u hu => by kernel_rfl⟩) hS ?_
          simp only [Act.put, List.getElem_toArray, List.getElem_cons_succ, List.getElem_cons_zero, List.setIfInBounds_toArray, List.set_cons_zero, List.set_cons_succ]
          refine wpAnyH_take (i := 5) (v := .int .i64 y.cie) rfl (by kernel_rfl) (by kernel_rfl) (by kernel_rfl) (fun _ _ _ h => h) (Or.inl ⟨by kernel_rfl, fun u hu => exec_loadV (t := 3) (p := ⟨b, off + k * 4, none⟩) rfl (by kernel_rfl) (load_i64 hu.1)⟩) hS ?_
          simp only [Act.put, List.getElem_toArray, List.getElem_cons_succ, List.getElem_cons_zero, List.setIfInBounds_toArray, List.set_cons_zero, List.set_cons_succ]
          refine wpAnyH_take (i := 6) (v := .slice (some ⟨b, off, none⟩) f.length cf) rfl (by kernel_rfl) (by kernel_rfl) (by kernel_rfl) (fun _ _ _ h => h) (Or.inl ⟨by kernel_rfl, fun u hu => by kernel_rfl⟩) hS ?_
          simp only [Act.put, List.getElem_toArray, List.getElem_cons_succ, List.getElem_cons_zero, List.setIfInBounds_toArray, List.set_cons_zero, List.set_cons_succ]
          refine wpAnyH_take (i := 7) (v := .int .i64 (k : Int)) rfl (by kernel_rfl) (by kernel_rfl) (by kernel_rfl) (fun _ _ _ h => h) (Or.inl ⟨by kernel_rfl, fun u hu => by kernel_rfl⟩) hS ?_
          simp only [Act.put, List.getElem_toArray, List.getElem_cons_succ, List.getElem_cons_zero, List.setIfInBounds_toArray, List.set_cons_zero, List.set_cons_succ]
          refine wpAnyH_take (i := 8) (v := .pointer (some ⟨b, off + k * 4, none⟩)) rfl (by kernel_rfl) (by kernel_rfl) (by kernel_rfl) (fun _ _ _ h => h) (Or.inl ⟨by kernel_rfl, fun u hu => exec_ix rfl (by kernel_rfl) (by kernel_rfl) (ix_rfde b off f.length cf k hlt u)⟩) hS ?_
          simp only [Act.put, List.getElem_toArray, List.getElem_cons_succ, List.getElem_cons_zero, List.setIfInBounds_toArray, List.set_cons_zero, List.set_cons_succ]
          refine wpAnyH_take (i := 9) (v := .pointer (some ⟨b, off + k * 4 + 1, none⟩)) rfl (by kernel_rfl) (by kernel_rfl) (by kernel_rfl) (fun _ _ _ h => h) (Or.inl ⟨by kernel_rfl, fun u hu => by kernel_rfl⟩) hS ?_
          simp only [Act.put, List.getElem_toArray, List.getElem_cons_succ, List.getElem_cons_zero, List.setIfInBounds_toArray, List.set_cons_zero, List.set_cons_succ]
          refine wpAnyH_take (i := 10) (v := .int .i64 y.beg) rfl (by kernel_rfl) (by kernel_rfl) (by kernel_rfl) (fun _ _ _ h => h) (Or.inl ⟨by kernel_rfl, fun u hu => exec_loadV (t := 3) (p := ⟨b, off + k * 4 + 1, none⟩) rfl (by kernel_rfl) (load_i64 hu.2.1)⟩) hS ?_
          simp only [Act.put, List.getElem_toArray, List.getElem_cons_succ, List.getElem_cons_zero, List.setIfInBounds_toArray, List.set_cons_zero, List.set_cons_succ]
          refine wpAnyH_take (i := 11) (v := .slice (some ⟨b, off, none⟩) f.length cf) rfl (by kernel_rfl) (by kernel_rfl) (by kernel_rfl) (fun _ _ _ h => h) (Or.inl ⟨by kernel_rfl, fun u hu => by kernel_rfl⟩) hS ?_
          simp only [Act.put, List.getElem_toArray, List.getElem_cons_succ, List.getElem_cons_zero, List.setIfInBounds_toArray, List.set_cons_zero, List.set_cons_succ]
          refine wpAnyH_take (i := 12) (v := .int .i64 (k : Int)) rfl (by kernel_rfl) (by kernel_rfl) (by kernel_rfl) (fun _ _ _ h => h) (Or.inl ⟨by kernel_rfl, fun u hu => by kernel_rfl⟩) hS ?_
          simp only [Act.put, List.getElem_toArray, List.getElem_cons_succ, List.getElem_cons_zero, List.setIfInBounds_toArray, List.set_cons_zero, List.set_cons_succ]
          refine wpAnyH_take (i := 13) (v := .pointer (some ⟨b, off + k * 4, none⟩)) rfl (by kernel_rfl) (by kernel_rfl) (by kernel_rfl) (fun _ _ _ h => h) (Or.inl ⟨by kernel_rfl, fun u hu => exec_ix rfl (by kernel_rfl) (by kernel_rfl) (ix_rfde b off f.length cf k hlt u)⟩) hS ?_
          simp only [Act.put, List.getElem_toArray, List.getElem_cons_succ, List.getElem_cons_zero, List.setIfInBounds_toArray, List.set_cons_zero, List.set_cons_succ]
          refine wpAnyH_take (i := 14) (v := .pointer (some ⟨b, off + k * 4 + 2, none⟩)) rfl (by kernel_rfl) (by kernel_rfl) (by kernel_rfl) (fun _ _ _ h => h) (Or.inl ⟨by kernel_rfl, fun u hu => by kernel_rfl⟩) hS ?_
          simp only [Act.put, List.getElem_toArray, List.getElem_cons_succ, List.getElem_cons_zero, List.setIfInBounds_toArray, List.set_cons_zero, List.set_cons_succ]
          refine wpAnyH_take (i := 15) (v := .int .i64 y.size) rfl (by kernel_rfl) (by kernel_rfl) (by kernel_rfl) (fun _ _ _ h => h) (Or.inl ⟨by kernel_rfl, fun u hu => exec_loadV (t := 3) (p := ⟨b, off + k * 4 + 2, none⟩) rfl (by kernel_rfl) (load_i64 hu.2.2.1)⟩) hS ?_
          simp only [Act.put, List.getElem_toArray, List.getElem_cons_succ, List.getElem_cons_zero, List.setIfInBounds_toArray, List.set_cons_zero, List.set_cons_succ]
          refine wpAnyH_take (i := 16) (v := .slice (some ⟨b, off, none⟩) f.length cf) rfl (by kernel_rfl) (by kernel_rfl) (by kernel_rfl) (fun _ _ _ h => h) (Or.inl ⟨by kernel_rfl, fun u hu => by kernel_rfl⟩) hS ?_
          simp only [Act.put, List.getElem_toArray, List.getElem_cons_succ, List.getElem_cons_zero, List.setIfInBounds_toArray, List.set_cons_zero, List.set_cons_succ]
          refine wpAnyH_take (i := 17) (v := .int .i64 (k : Int)) rfl (by kernel_rfl) (by kernel_rfl) (by kernel_rfl) (fun _ _ _ h => h) (Or.inl ⟨by kernel_rfl, fun u hu => by kernel_rfl⟩) hS ?_
          simp only [Act.put, List.getElem_toArray, List.getElem_cons_succ, List.getElem_cons_zero, List.setIfInBounds_toArray, List.set_cons_zero, List.set_cons_succ]
          refine wpAnyH_take (i := 18) (v := .pointer (some ⟨b, off + k * 4, none⟩)) rfl (by kernel_rfl) (by kernel_rfl) (by kernel_rfl) (fun _ _ _ h => h) (Or.inl ⟨by kernel_rfl, fun u hu => exec_ix rfl (by kernel_rfl) (by kernel_rfl) (ix_rfde b off f.length cf k hlt u)⟩) hS ?_
          simp only [Act.put, List.getElem_toArray, List.getElem_cons_succ, List.getElem_cons_zero, List.setIfInBounds_toArray, List.set_cons_zero, List.set_cons_succ]
          refine wpAnyH_take (i := 19) (v := .pointer (some ⟨b, off + k * 4 + 3, none⟩)) rfl (by kernel_rfl) (by kernel_rfl) (by kernel_rfl) (fun _ _ _ h => h) (Or.inl ⟨by kernel_rfl, fun u hu => by kernel_rfl⟩) hS ?_
          simp only [Act.put, List.getElem_toArray, List.getElem_cons_succ, List.getElem_cons_zero, List.setIfInBounds_toArray, List.set_cons_zero, List.set_cons_succ]
          refine wpAnyH_take (i := 20) (v := .slice a y.ops.length cp) rfl (by kernel_rfl) (by kernel_rfl) (by kernel_rfl) (fun _ _ _ h => h) (Or.inl ⟨by kernel_rfl, fun u hu => exec_loadV (t := 52) (p := ⟨b, off + k * 4 + 3, none⟩) rfl (by kernel_rfl) (load_rops hu.2.2.2)⟩) hS ?_
          simp only [Act.put, List.getElem_toArray, List.getElem_cons_succ, List.getElem_cons_zero, List.setIfInBounds_toArray, List.set_cons_zero, List.set_cons_succ]
          refine wpAnyH_ready (rs := [21]) (by kernel_rfl) (by simp) ?_
          refine AllReadyH.cons rfl (fun K hK => ?_) AllReadyH.nil
          simp only [List.getElem_toArray, List.getElem_cons_succ, List.getElem_cons_zero]
          refine wp_if (by kernel_rfl) ?_
          refine wp_enter (f := 37) (args := #[.slice a y.ops.length cp]) (by kernel_rfl) (HO.out _ (show Below w.heap.size w wr.drew from HB.out.drew)) ?_
          rintro e w2 ⟨r2, rfl, ho2, hb2⟩
          refine ⟨_, rfl, ?_⟩
          obtain ⟨ra, rc, hr2, _⟩ := ho2.is
          subst hr2
          have hd2 : Below wr.heap.size wr w2 := (Below.refl _ _).drew.trans hb2
          have T2 := HT.out.bel hd2
          have C2 := HTC.out.bel hd2
          have HB2 : Hid (Below w.heap.size w w2) := ⟨HB.out.trans (hd2.mono HB.out.size)⟩
          refine hK.out _ _ (HCellW.out _ HB2.out) (fun hS => ?_)
          clear hK
          simp only [Act.put, List.getElem_toArray, List.getElem_cons_succ, List.getElem_cons_zero, List.setIfInBounds_toArray, List.set_cons_zero, List.set_cons_succ]
          refine wpAnyH_take (i := 22) (v := .agg #[.int .i64 y.cie, .int .i64 y.beg, .int .i64 y.size, .slice ra y.ops.length rc]) rfl (by kernel_rfl) (by kernel_rfl) (by kernel_rfl) (fun _ _ _ h => h) (Or.inl ⟨by kernel_rfl, fun u hu => by kernel_rfl⟩) hS ?_
          simp only [Act.put, List.getElem_toArray, List.getElem_cons_succ, List.getElem_cons_zero, List.setIfInBounds_toArray, List.set_cons_zero, List.set_cons_succ]
          refine wpAnyH_ready (rs := [23]) (by kernel_rfl) (by simp) ?_
          refine AllReadyH.cons rfl (fun K hK => ?_) AllReadyH.nil
          simp only [List.getElem_toArray, List.getElem_cons_succ, List.getElem_cons_zero]
          refine wp_if (by kernel_rfl) ?_
          refine wp_val (v := .slice (some ⟨w2.heap.size, 0, none⟩) 1 1) (w' := w2.alloc (.cells #[.int .i64 y.cie, .int .i64 y.beg, .int .i64 y.size, .slice ra y.ops.length rc] 57)) (build_F w2 rfl (by kernel_rfl)) ?_
          have ha3 : Below w2.heap.size w2 (w2.alloc (.cells #[.int .i64 y.cie, .int .i64 y.beg, .int .i64 y.size, .slice ra y.ops.length rc] 57)) := (Below.refl _ _).alloc (Nat.le_refl _) _
          have T3 := T2.bel ha3
          have C3 := C2.bel ha3
          have O3 := OwnP.bel (ho2.lowP (Nat.le_trans HB.out.size (show wr.heap.size ≤ wr.drew.heap.size from Nat.le_refl _))) ha3
          have HB3 : Hid (Below w.heap.size w (w2.alloc (.cells #[.int .i64 y.cie, .int .i64 y.beg, .int .i64 y.size, .slice ra y.ops.length rc] 57))) := ⟨HB2.out.alloc HB2.out.size _⟩
          have N3 := Bk.new w2 #[.int .i64 y.cie, .int .i64 y.beg, .int .i64 y.size, .slice ra y.ops.length rc] 57
          refine hK.out _ _ (HCellW.out _ HB3.out) (fun hS => ?_)
          clear hK T2 ho2 hb2 hd2 ha3 C2
          simp only [Act.put, List.getElem_toArray, List.getElem_cons_succ, List.getElem_cons_zero, List.setIfInBounds_toArray, List.set_cons_zero, List.set_cons_succ]
          generalize (w2.alloc (.cells #[.int .i64 y.cie, .int .i64 y.beg, .int .i64 y.size, .slice ra y.ops.length rc] 57)) = w3 at *
          refine wpAnyH_ready (rs := [24]) (by kernel_rfl) (by simp) ?_
          refine AllReadyH.cons rfl (fun K hK => ?_) AllReadyH.nil
          simp only [List.getElem_toArray, List.getElem_cons_succ, List.getElem_cons_zero]
          refine wp_if (by kernel_rfl) ?_
          refine wp_appF rfl (by kernel_rfl) (by kernel_rfl) T3 N3 O3 (by omega) HB3.out.size ?_
          intro v4 w4 T4 hg4
          have HB4 : Hid (Below w.heap.size w w4) := ⟨HB3.out.grown hg4 HB3.out.size (fun k hk => T3.low k hk)⟩
          have C4 := C3.far hg4 T3
          refine hK.out _ _ (HCellW.out _ HB4.out) (fun hS => ?_)
          clear hK
          simp only [Act.put, List.getElem_toArray, List.getElem_cons_succ, List.getElem_cons_zero, List.setIfInBounds_toArray, List.set_cons_zero, List.set_cons_succ]
          refine wpAnyH_take (i := 25) (v := v4) rfl (by kernel_rfl) (by kernel_rfl) (by kernel_rfl) (fun _ _ _ h => h) (Or.inl ⟨by kernel_rfl, fun u hu => by kernel_rfl⟩) hS ?_
          simp only [Act.put, List.getElem_toArray, List.getElem_cons_succ, List.getElem_cons_zero, List.setIfInBounds_toArray, List.set_cons_zero, List.set_cons_succ]
          refine wpAnyH_done (by kernel_rfl) ?_ _
          go_wp2_with fail
          go_roundw
          case rel => exact ⟨k + 1, by omega, by go_num, ⟨by rw [HTk.out]; exact T4, C4, HB4.out⟩⟩
          case measure => simp [intOf]; omega
        · obtain rfl : k = f.length := by omega
          have q2 : ¬ (f.length : Int) < (f.length : Int) := by omega
          go_wp2
          go_ret2
          refine ⟨_, _, rfl, HV.out.2.1, ?_, HV.out.2.2⟩
          have := HV.out.1
          rwa [List.take_length] at this
end Go.Proofs.YtomboebfbipaaaaDoor
