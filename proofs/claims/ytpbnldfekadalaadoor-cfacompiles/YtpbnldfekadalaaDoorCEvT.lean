/- Events of the call's own: rows of ints, tables of events. -/
import Derived.Test.YtpbnldfekadalaaDoorCEvM
import Derived.Laws.AppendOwnNone
namespace Go.Proofs.YtpbnldfekadalaaDoor
open Go.ChangeShapes Go.WideShapes Go.ChangeAt Go.RowKit
set_option linter.unusedVariables false
set_option linter.unusedSimpArgs false

/-- A row of ints of the call's own. -/
def OwnJ (w : World) (base : Nat) (v : Value) (xs : List Int) : Prop := w.ownsRow base 3 1 v xs.length (xs.map (Value.int .i64))
theorem OwnJ.bel {w w' : World} {base : Nat} {v : Value} {xs : List Int} (h : OwnJ w base v xs) (hb : Below w.heap.size w w') : OwnJ w' base v xs :=
  World.ownsRow.kept (row := none) h ⟨hb.os, hb.tape, hb.output, hb.size, fun j hj _ => hb.block j hj⟩ (by cases hv : v.ownBlock <;> simp)
theorem OwnJ.low {w : World} {b b' : Nat} {v : Value} {l : List Int} (h : OwnJ w b v l) (hb : b' ≤ b) : OwnJ w b' v l := by
  refine ⟨h.1, ?_⟩
  rcases h.2 with hv | ⟨g', c', cur, hv, h2, h3⟩
  · exact .inl hv
  · exact .inr ⟨g', c', cur, hv, by omega, h3⟩
theorem OwnJ.ia {w : World} {base : Nat} {v : Value} {l : List Int} (h : OwnJ w base v l) : ∃ ao c, v = .slice ao l.length c ∧ Ia w ao l := by
  have hh := h
  rcases h.2 with ⟨rfl, e⟩ | ⟨g, cap, cur, rfl, e1, e2, _⟩
  · exact ⟨none, 0, by rw [e], .inl e⟩
  · refine ⟨_, cap, rfl, .inr ⟨g, 0, rfl, fun k hk => ?_⟩⟩
    have := World.ownsRow.cells (g := g) hh rfl k (.int .i64 (l.getD k 0)) (by simp [hk])
    rwa [caddr_add] at this
theorem OwnJ.empty (w : World) (base : Nat) (hb : base ≤ w.heap.size) : OwnJ (w.alloc (.cells #[] 3)) base (.slice (some ⟨w.heap.size, 0, none⟩) 0 0) [] :=
  ⟨rfl, .inr ⟨w.heap.size, 0, #[], rfl, hb, heap_alloc_new w _, by decide, by decide, rfl, rfl⟩⟩
theorem infoJ : (Tryd.prog.info? 3).map (fun i => (i.zero, i.size, i.bytes)) = some (some (.int .i64 0), 1, 8) := by kernel_rfl
/-- append of ints. -/
theorem wp_appJ {o : Oper} {a : Act} {w : World} {K : Act → World → Prop} {Q : Exit → Act → World → Prop} {s x : Operand} (ho : o.op = .call { callee := .builtin .append, args := #[s, x], argTypes := #[24, 24] })
    {base : Nat} {v : Value} {xs l : List Int} {ao : Option Addr} {c : Nat} (hown : OwnJ w base v xs) (hs : a.eval s = v) (hx : a.eval x = .slice ao l.length c) (hI : Ia w ao l) (hn : ao = none → c = 0) (hlen : xs.length + l.length ≤ 17592186044000) (hbase : base ≤ w.heap.size)
    (h : ∀ v' w', OwnJ w' base v' (xs ++ l) → w.grownBy w' v.ownBlock → K (a.put o.dst v') w') : o.wp Tryd.prog a w K Q := by
  obtain ⟨i0, hi, hz0, hz1, hz2⟩ := info_parts infoJ
  cases ao with
  | none =>
    have hl0 : l = [] := by
      rcases hI with h | ⟨b, off, e, _⟩
      · exact List.eq_nil_of_length_eq_zero h
      · cases e
    subst hl0
    rw [hn rfl] at hx
    have hrun := run_append_owned_none (P := Tryd.prog) (w := w) base 24 o.type 3 i0 1 Tryd.underlying24 hi v xs.length _ hown
    unfold Oper.wp
    simp only [List.length_nil] at hx
    simp only [execOp, ho, resolve, invoke, builtin, List.map_toArray, List.map_cons, List.map_nil, hs, hx, hrun, Result.andThen, Sem.run_bind, Sem.run_pure]
    exact h v w (by rw [List.append_nil]; exact hown) ⟨rfl, rfl, rfl, Nat.le_refl _, fun k _ _ => rfl⟩
  | some a0 =>
    obtain ⟨v', w', hr, h2, h3, h4, h5⟩ := run_append_own_at (P := Tryd.prog) w base 24 o.type 3 i0 _ 1 8 Tryd.underlying24 hi hz0 hz1 hz2 rfl (by decide) v xs.length _ hown a0 l.length c (l.map (Value.int .i64)) (by simp) (fun j u hj => by
      have hjl : j < l.length := by have := (List.getElem?_eq_some_iff.1 hj).1; simpa using this
      rcases hI with h | ⟨b, off, e, hc⟩
      · omega
      · cases e
        rw [caddr_add, hc j hjl]
        simp [hjl] at hj ⊢
        exact hj) (fun u hu => by
      simp at hu
      obtain ⟨y, _, rfl⟩ := hu
      rfl) (by unfold maxLen; omega) (by omega) hbase
    unfold Oper.wp execOp
    simp only [ho, resolve, invoke, builtin, Sem.run_bind, Sem.run_pure, Result.andThen_ok, List.map_toArray, List.map_cons, List.map_nil, hs, hx, hr]
    refine h v' w' ?_ h3
    unfold OwnJ
    rw [List.length_append, List.map_append]
    exact h2

/-- The cells of a table of events of the call's own. -/
def celV (ps : List (Ev × Value)) : List Value := ps.flatMap (fun p => [Value.int .i64 p.1.p, Value.string p.1.s, p.2])
theorem celV_len (ps : List (Ev × Value)) : (celV ps).length = ps.length * 3 := by
  induction ps with
  | nil => rfl
  | cons p ps ih => simp only [celV, List.flatMap_cons, List.length_append, List.length_cons, List.length_nil] at ih ⊢; omega
structure TV (w : World) (b : Nat) (v : Value) (l : List Ev) : Prop where
  row : ∃ ps : List (Ev × Value), ps.map Prod.fst = l ∧ w.ownsRow b 27 3 v l.length (celV ps) ∧ ∀ p ∈ ps, OwnJ w b p.2 p.1.a
theorem TV.nil (w : World) (b : Nat) : TV w b (.slice none 0 0) [] := ⟨[], rfl, World.ownsRow_nil _ _ _ _, fun p hp => by cases hp⟩
theorem TV.bel {w w' : World} {b : Nat} {v : Value} {l : List Ev} (h : TV w b v l) (hb : Below w.heap.size w w') : TV w' b v l := by
  obtain ⟨ps, h1, h2, h3⟩ := h.row
  exact ⟨ps, h1, World.ownsRow.kept (row := none) h2 ⟨hb.os, hb.tape, hb.output, hb.size, fun j hj _ => hb.block j hj⟩ (by cases hv : v.ownBlock <;> simp), fun p hp => (h3 p hp).bel hb⟩
theorem TV.low {w : World} {b : Nat} {v : Value} {l : List Ev} (h : TV w b v l) : ∀ k, v.ownBlock = some k → b ≤ k := by
  obtain ⟨ps, h1, h2, h3⟩ := h.row
  exact own_block h2
theorem infoV : (Tryd.prog.info? 27).map (fun i => (i.zero, i.size, i.bytes)) = some (some (.agg #[.int .i64 0, .string ⟨#[]⟩, .slice none 0 0]), 3, 48) := by kernel_rfl
theorem ix_rev (b off n c k : Nat) (hk : k < n) (W : World) : (Instr.indexAt 22 (.slice (some ⟨b, off, none⟩) n c) (.int .i64 (k : Int))).run Tryd.prog W = .ok (.pointer (some ⟨b, off + k * 3, none⟩)) W := by
  have hi : (Tryd.prog.info? 26).map (·.size) = some 3 := by kernel_rfl
  cases hq : Tryd.prog.info? 26 with
  | none => simp [hq] at hi
  | some i =>
    have hi1 : i.size = 3 := by simpa [hq] using hi
    simp [Instr.indexAt, run_underlying Tryd.underlying22, asIntOf, sizeOf, typeInfo, hq, hi1, caddr_add, hk]
theorem build_V {o : Oper} {a : Act} {x : Operand} {y : Ev} {ra : Option Addr} {n rc : Nat} (w : World) (ho : o.op = .buildSlice 23 1 #[(0, x)]) (hx : a.eval x = .agg #[.int .i64 y.p, .string y.s, .slice ra n rc]) :
    (execOp a.eval o).run Tryd.prog w = .ok (.value (.slice (some ⟨w.heap.size, 0, none⟩) 1 1)) (w.alloc (.cells #[.int .i64 y.p, .string y.s, .slice ra n rc] 27)) := by
  unfold execOp
  simp only [ho, List.map_toArray, List.map_cons, List.map_nil, hx]
  kernel_rfl
theorem wp_appV {o : Oper} {a : Act} {w : World} {K : Act → World → Prop} {Q : Exit → Act → World → Prop} {s x : Operand} (ho : o.op = .call { callee := .builtin .append, args := #[s, x], argTypes := #[23, 23] })
    {base : Nat} {v : Value} {l : List Ev} {q : Nat} {y : Ev} {ra : Option Addr} {rc : Nat} (hs : a.eval s = v) (hx : a.eval x = .slice (some ⟨q, 0, none⟩) 1 1) (hT : TV w base v l) (hb : Bk w q 27 #[.int .i64 y.p, .string y.s, .slice ra y.a.length rc]) (hO : OwnJ w base (.slice ra y.a.length rc) y.a) (hn : l.length ≤ 2932031007400) (hbase : base ≤ w.heap.size)
    (h : ∀ v' w', TV w' base v' (l ++ [y]) → w.grownBy w' v.ownBlock → K (a.put o.dst v') w') : o.wp Tryd.prog a w K Q := by
  obtain ⟨ps, h1, h2, h3⟩ := hT.row
  have hty := own_ty h2
  obtain ⟨i0, hi, hz0, hz1, hz2⟩ := info_parts infoV
  obtain ⟨v', w', hrun, r2, r3, r4, r5⟩ := run_append_own_at (P := Tryd.prog) w base 23 o.type 27 i0 _ 3 48 Tryd.underlying23 hi hz0 hz1 hz2 rfl (by decide) v l.length _ h2 ⟨q, 0, none⟩ 1 1 [.int .i64 y.p, .string y.s, .slice ra y.a.length rc] (by simp) (by
    intro j u hj
    rw [caddr_add]
    exact hb.cell _ (by simpa using hj)) (by
    intro u hu
    simp at hu
    rcases hu with rfl | rfl | rfl <;> rfl) (by unfold maxLen; omega) (by omega) hbase
  unfold Oper.wp execOp
  simp only [ho, resolve, invoke, builtin, Sem.run_bind, Sem.run_pure, Result.andThen_ok, List.map_toArray, List.map_cons, List.map_nil, hs, hx, hrun]
  refine h v' w' ⟨ps ++ [(y, .slice ra y.a.length rc)], by simp [h1], ?_, fun p hp => ?_⟩ r3
  · have e : celV (ps ++ [(y, .slice ra y.a.length rc)]) = celV ps ++ [.int .i64 y.p, .string y.s, .slice ra y.a.length rc] := by simp [celV]
    rw [e, List.length_append]
    exact r2
  · have hfar : ∀ (u : Value) (m : List Int), OwnJ w base u m → OwnJ w' base u m := fun u m hu => World.ownsRow.kept hu r3 (ne_of fun k hk e => by
      obtain ⟨c1, e1⟩ := hty k hk
      obtain ⟨c2, e2⟩ := own_ty hu k e
      have := e1.symm.trans e2
      injection this with this
      injection this with _ e3 _
      exact absurd e3 (by decide))
    rcases List.mem_append.1 hp with hp | hp
    · exact hfar _ _ (h3 p hp)
    · have : p = (y, .slice ra y.a.length rc) := by simpa using hp
      subst this
      exact hfar _ _ hO
theorem celV_at : ∀ (ps : List (Ev × Value)) (k : Nat) (hk : k < ps.length), (celV ps)[k * 3]? = some (.int .i64 (ps[k]).1.p) ∧ (celV ps)[k * 3 + 1]? = some (.string (ps[k]).1.s) ∧ (celV ps)[k * 3 + 2]? = some (ps[k]).2
  | p :: ps, 0, _ => ⟨rfl, rfl, rfl⟩
  | p :: ps, k + 1, hk => by
    have ih := celV_at ps k (by simpa using hk)
    have e : celV (p :: ps) = [Value.int .i64 p.1.p, Value.string p.1.s, p.2] ++ celV ps := rfl
    rw [e, show (k + 1) * 3 = k * 3 + 3 by omega]
    simpa using ih
theorem own_cellV {w : World} {g e m : Nat} {xs : List Value} {cur : Array Value} (hg : w.heap[g]? = some (.cells cur e (0, 0))) (ht : cur.toList.take m = xs) {j : Nat} {x : Value} (hj : xs[j]? = some x) : w.cell? ⟨g, j, none⟩ = some x := by
  have hlt : j < m := by
    rw [← ht] at hj
    have := (List.getElem?_eq_some_iff.1 hj).1
    simp at this
    omega
  rw [← ht, List.getElem?_take_of_lt hlt] at hj
  simp only [World.cell?, hg]
  simpa using hj
theorem TV.evs {w : World} {b : Nat} {v : Value} {l : List Ev} (h : TV w b v l) : ∃ ao cap, v = .slice ao l.length cap ∧ Evs w ao l := by
  obtain ⟨ps, h1, h2, h3⟩ := h.row
  rcases h2.2 with ⟨rfl, e⟩ | ⟨g, cap, cur, rfl, e1, e2, e3, e4, e5, e6⟩
  · exact ⟨none, 0, by rw [e], .inl e⟩
  · refine ⟨_, cap, rfl, .inr ⟨g, 0, rfl, fun k hk => ?_⟩⟩
    have hkp : k < ps.length := by rw [← h1] at hk; simpa using hk
    obtain ⟨c0, c1, c2⟩ := celV_at ps k hkp
    have el : l.getD k Ev.zero = (ps[k]).1 := by rw [← h1]; simp [hkp]
    obtain ⟨a, cp, hr, hI⟩ := (h3 ps[k] (List.getElem_mem hkp)).ia
    rw [el, Nat.zero_add]
    exact ⟨a, cp, own_cellV e2 e6 c0, own_cellV e2 e6 c1, by rw [own_cellV e2 e6 c2, hr], hI⟩
end Go.Proofs.YtpbnldfekadalaaDoor
