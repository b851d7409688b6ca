/- What was told, gathered: the sequences. What was told, gathered: the walk. gathered. -/
import Derived.Test.YtbhdledlahbokaaLNew
namespace Go.Proofs.Ytbhdledlahbokaa
open Go.ChangeShapes Go.WideShapes Go.ChangeAt Go.RowKit Go.Conc
set_option linter.unusedVariables false
set_option linter.unusedSimpArgs false

/-! Rows and sequences of the call's own. -/
def lrC (l : List Lr) : List Value := l.flatMap fun r => [.int .i64 r.at', .int .i64 r.fi, .int .i64 r.li, .int .i64 r.co]
theorem lrC_len (l : List Lr) : (lrC l).length = l.length * 4 := by
  induction l with
  | nil => rfl
  | cons r l ih => simp only [lrC, List.flatMap_cons, List.length_append, List.length_cons, List.length_nil] at ih ⊢; omega
theorem lrC_at : ∀ (l : List Lr) (i j : Nat), i < l.length → j < 4 → (lrC l)[i * 4 + j]? = ([.int .i64 (l.getD i Lr.zero).at', .int .i64 (l.getD i Lr.zero).fi, .int .i64 (l.getD i Lr.zero).li, .int .i64 (l.getD i Lr.zero).co] : List Value)[j]?
  | [], i, j, hi, _ => by simp at hi
  | r :: l, 0, j, _, hj => by
    show (_ :: _ :: _ :: _ :: lrC l)[0 * 4 + j]? = _
    rcases j with _ | _ | _ | _ | j <;> first | rfl | omega
  | r :: l, i + 1, j, hi, hj => by
    have ih := lrC_at l i j (by simpa using hi) hj
    show (_ :: _ :: _ :: _ :: lrC l)[(i + 1) * 4 + j]? = _
    rw [show (i + 1) * 4 + j = i * 4 + j + 4 by omega]
    simpa using ih
def OwnRL (w : World) (base : Nat) (v : Value) (l : List Lr) : Prop := w.ownsRow base 47 4 v l.length (lrC l)
theorem OwnRL.nil (w : World) (base : Nat) : OwnRL w base (.slice none 0 0) [] := World.ownsRow_nil _ _ _ _
theorem OwnRL.bel {w w' : World} {base : Nat} {v : Value} {l : List Lr} (h : OwnRL w base v l) (hb : Below w.heap.size w w') : OwnRL w' base v l :=
  World.ownsRow.kept (row := none) h ⟨hb.os, hb.tape, hb.output, hb.size, fun j hj _ => hb.block j hj⟩ (by cases hv : v.ownBlock <;> simp)
theorem OwnRL.far {w1 w2 : World} {base : Nat} {u : Value} {l : List Lr} {row : Option Nat} (h : OwnRL w1 base u l) (hg : w1.grownBy w2 row) (hn : ∀ k, u.ownBlock = some k → row ≠ some k) : OwnRL w2 base u l := World.ownsRow.kept h hg (by
  cases hb : u.ownBlock with
  | none => exact .inl rfl
  | some k => exact .inr fun e => hn k hb e.symm)
theorem OwnRL.ty {w : World} {base : Nat} {v : Value} {l : List Lr} (h : OwnRL w base v l) : ∀ k, v.ownBlock = some k → base ≤ k ∧ k < w.heap.size ∧ ∃ cur, w.heap[k]? = some (.cells cur 47 (0, 0)) := by
  intro k hk
  rcases h.2 with ⟨rfl, _⟩ | ⟨g, cap, cur, rfl, h1, h2, _⟩
  · simp [Value.ownBlock] at hk
  · simp [Value.ownBlock] at hk
    subst hk
    exact ⟨h1, (Array.getElem?_eq_some_iff.1 h2).1, cur, h2⟩
theorem OwnRL.lrs {w : World} {base : Nat} {v : Value} {l : List Lr} (h : OwnRL w base v l) : ∃ ao c, v = .slice ao l.length c ∧ Lrs w ao l := by
  rcases h.2 with ⟨rfl, e⟩ | ⟨g, cap, cur, rfl, h1, h2, _⟩
  · exact ⟨none, 0, by rw [e], .inl e⟩
  · refine ⟨_, cap, rfl, .inr ⟨g, 0, rfl, fun i hi => ?_⟩⟩
    have hc : ∀ j, j < 4 → ∀ x, ([.int .i64 (l.getD i Lr.zero).at', .int .i64 (l.getD i Lr.zero).fi, .int .i64 (l.getD i Lr.zero).li, .int .i64 (l.getD i Lr.zero).co] : List Value)[j]? = some x → w.cell? ⟨g, 0 + i * 4 + j, none⟩ = some x := by
      intro j hj x hx
      have := World.ownsRow.cells (g := g) h rfl (i * 4 + j) x (by rw [lrC_at l i j hi hj]; exact hx)
      rwa [caddr_add, ← Nat.add_assoc] at this
    exact ⟨hc 0 (by omega) _ rfl, hc 1 (by omega) _ rfl, hc 2 (by omega) _ rfl, hc 3 (by omega) _ rfl⟩
theorem infoRL : (Try.prog.info? 47).map (fun i => (i.zero, i.size, i.bytes)) = some (some (.agg #[.int .i64 0, .int .i64 0, .int .i64 0, .int .i64 0]), 4, 32) := by kernel_rfl
def OwnRD (w : World) (base : Nat) (v : Value) (l : List Lr) : Prop := w.ownsRow base 50 4 v l.length (lrC l)
theorem OwnRD.nil (w : World) (base : Nat) : OwnRD w base (.slice none 0 0) [] := World.ownsRow_nil _ _ _ _
theorem OwnRD.bel {w w' : World} {base : Nat} {v : Value} {l : List Lr} (h : OwnRD w base v l) (hb : Below w.heap.size w w') : OwnRD w' base v l :=
  World.ownsRow.kept (row := none) h ⟨hb.os, hb.tape, hb.output, hb.size, fun j hj _ => hb.block j hj⟩ (by cases hv : v.ownBlock <;> simp)
theorem OwnRD.far {w1 w2 : World} {base : Nat} {u : Value} {l : List Lr} {row : Option Nat} (h : OwnRD w1 base u l) (hg : w1.grownBy w2 row) (hn : ∀ k, u.ownBlock = some k → row ≠ some k) : OwnRD w2 base u l := World.ownsRow.kept h hg (by
  cases hb : u.ownBlock with
  | none => exact .inl rfl
  | some k => exact .inr fun e => hn k hb e.symm)
theorem OwnRD.ty {w : World} {base : Nat} {v : Value} {l : List Lr} (h : OwnRD w base v l) : ∀ k, v.ownBlock = some k → base ≤ k ∧ k < w.heap.size ∧ ∃ cur, w.heap[k]? = some (.cells cur 50 (0, 0)) := by
  intro k hk
  rcases h.2 with ⟨rfl, _⟩ | ⟨g, cap, cur, rfl, h1, h2, _⟩
  · simp [Value.ownBlock] at hk
  · simp [Value.ownBlock] at hk
    subst hk
    exact ⟨h1, (Array.getElem?_eq_some_iff.1 h2).1, cur, h2⟩
theorem OwnRD.lrs {w : World} {base : Nat} {v : Value} {l : List Lr} (h : OwnRD w base v l) : ∃ ao c, v = .slice ao l.length c ∧ Lrs w ao l := by
  rcases h.2 with ⟨rfl, e⟩ | ⟨g, cap, cur, rfl, h1, h2, _⟩
  · exact ⟨none, 0, by rw [e], .inl e⟩
  · refine ⟨_, cap, rfl, .inr ⟨g, 0, rfl, fun i hi => ?_⟩⟩
    have hc : ∀ j, j < 4 → ∀ x, ([.int .i64 (l.getD i Lr.zero).at', .int .i64 (l.getD i Lr.zero).fi, .int .i64 (l.getD i Lr.zero).li, .int .i64 (l.getD i Lr.zero).co] : List Value)[j]? = some x → w.cell? ⟨g, 0 + i * 4 + j, none⟩ = some x := by
      intro j hj x hx
      have := World.ownsRow.cells (g := g) h rfl (i * 4 + j) x (by rw [lrC_at l i j hi hj]; exact hx)
      rwa [caddr_add, ← Nat.add_assoc] at this
    exact ⟨hc 0 (by omega) _ rfl, hc 1 (by omega) _ rfl, hc 2 (by omega) _ rfl, hc 3 (by omega) _ rfl⟩
theorem infoRD : (Try.prog.info? 50).map (fun i => (i.zero, i.size, i.bytes)) = some (some (.agg #[.int .i64 0, .int .i64 0, .int .i64 0, .int .i64 0]), 4, 32) := by kernel_rfl
/-- A row behind rows. -/
theorem append_row4 {ops : Array Oper} {rest : List Oper} {o : Oper} {a : Act} {Q : Exit → Act → World → Prop} (w : World) (hgd : o.guard = none) (s x : Operand)
    (ho : o.op = .call { callee := .builtin .append, args := #[s, x], argTypes := #[61, 61] })
    (base : Nat) (v : Value) (l : List Lr) (hs : a.eval s = v) (hown : OwnRL w base v l) (q : Nat) (r : Lr) (hx : a.eval x = .slice (some ⟨q, 0, none⟩) 1 1) (hb : Bk w q 47 #[.int .i64 r.at', .int .i64 r.fi, .int .i64 r.li, .int .i64 r.co])
    (hn : l.length ≤ 4398046511000) (hbase : base ≤ w.heap.size)
    (h : ∀ v' w', OwnRL w' base v' (l ++ [r]) → w.grownBy w' v.ownBlock → (v'.ownBlock = v.ownBlock ∨ ∀ k, v'.ownBlock = some k → w.heap.size ≤ k) → wpList Try.prog ops Q rest (a.put o.dst v') w') :
    wpList Try.prog ops Q (o :: rest) a w := by
  obtain ⟨i0, hi, hz0, hz1, hz2⟩ := info_parts infoRL
  refine wpList_append_own_at w hgd s x 61 ho base 47 i0 _ 4 32 Try.underlying61 hi hz0 hz1 hz2 rfl (by decide) _ l.length _ hs hown ⟨q, 0, none⟩ 1 1 [.int .i64 r.at', .int .i64 r.fi, .int .i64 r.li, .int .i64 r.co] hx (by simp) ?_ ?_ (by unfold maxLen; omega) (by omega) hbase ?_
  · intro j u hj
    rw [caddr_add]
    exact hb.cell _ (by simpa using hj)
  · intro u hu
    simp at hu
    rcases hu with rfl | rfl | rfl | rfl <;> rfl
  · intro v' w' hown' hgrow hnn hbk
    refine h v' w' ?_ hgrow ?_
    · unfold OwnRL lrC
      rw [List.flatMap_append, List.length_append]
      exact hown'
    · rcases hbk with e | e
      · exact .inl e
      · exact .inr fun k hk => by rw [e] at hk; simp at hk; omega

def celS (ps : List (Sq × Value)) : List Value := ps.flatMap (fun p => [Value.int .i64 p.1.st, Value.int .i64 p.1.sz, p.2])
theorem celS_len (ps : List (Sq × Value)) : (celS ps).length = ps.length * 3 := by
  induction ps with
  | nil => rfl
  | cons p ps ih => simp only [celS, List.flatMap_cons, List.length_append, List.length_cons, List.length_nil] at ih ⊢; omega
/-- Sequences of the call's own. -/
structure TS (w : World) (b : Nat) (v : Value) (l : List Sq) : Prop where
  row : ∃ ps : List (Sq × Value), ps.map Prod.fst = l ∧ w.ownsRow b 63 3 v l.length (celS ps) ∧ ∀ p ∈ ps, OwnRL w b p.2 p.1.rows
theorem TS.nil (w : World) (b : Nat) : TS w b (.slice none 0 0) [] := ⟨[], rfl, World.ownsRow_nil _ _ _ _, fun p hp => by cases hp⟩
theorem TS.bel {w w' : World} {b : Nat} {v : Value} {l : List Sq} (h : TS w b v l) (hb : Below w.heap.size w w') : TS w' b v l := by
  obtain ⟨ps, h1, h2, h3⟩ := h.row
  exact ⟨ps, h1, World.ownsRow.kept (row := none) h2 ⟨hb.os, hb.tape, hb.output, hb.size, fun j hj _ => hb.block j hj⟩ (by cases hv : v.ownBlock <;> simp), fun p hp => (h3 p hp).bel hb⟩
theorem TS.ty {w : World} {b : Nat} {v : Value} {l : List Sq} (h : TS w b v l) : ∀ k, v.ownBlock = some k → b ≤ k ∧ k < w.heap.size ∧ ∃ cur, w.heap[k]? = some (.cells cur 63 (0, 0)) := by
  obtain ⟨ps, h1, h2, h3⟩ := h.row
  intro k hk
  rcases h2.2 with ⟨rfl, _⟩ | ⟨g, cap, cur, rfl, e1, e2, _⟩
  · simp [Value.ownBlock] at hk
  · simp [Value.ownBlock] at hk
    subst hk
    exact ⟨e1, (Array.getElem?_eq_some_iff.1 e2).1, cur, e2⟩
/-- What turns is neither of sequences nor of rows. -/
theorem TS.far {w w' : World} {b : Nat} {v : Value} {l : List Sq} {row : Option Nat} (h : TS w b v l) (hg : w.grownBy w' row) (h1 : ∀ k, row = some k → (∀ cur, w.heap[k]? ≠ some (.cells cur 63 (0, 0))) ∧ ∀ cur, w.heap[k]? = some (.cells cur 47 (0, 0)) → False) : TS w' b v l := by
  have hty := h.ty
  obtain ⟨ps, e1, e2, e3⟩ := h.row
  refine ⟨ps, e1, World.ownsRow.kept e2 hg ?_, fun p hp => (e3 p hp).far hg (fun k hk e => ?_)⟩
  · cases hb : v.ownBlock with
    | none => exact .inl rfl
    | some k =>
      refine .inr fun e => ?_
      obtain ⟨_, _, cur, hc⟩ := hty k hb
      exact (h1 k e.symm).1 cur hc
  · obtain ⟨_, _, cur, hc⟩ := (e3 p hp).ty k hk
    exact (h1 k e).2 cur hc
/-- Sequences of the call's own, and rows that are none of theirs. -/
structure TU (w : World) (b : Nat) (v : Value) (l : List Sq) (u : Value) : Prop where
  row : ∃ ps : List (Sq × Value), ps.map Prod.fst = l ∧ w.ownsRow b 63 3 v l.length (celS ps) ∧ (∀ p ∈ ps, OwnRL w b p.2 p.1.rows) ∧ ∀ p ∈ ps, ∀ k, p.2.ownBlock = some k → u.ownBlock ≠ some k
theorem TU.ts {w : World} {b : Nat} {v : Value} {l : List Sq} {u : Value} (h : TU w b v l u) : TS w b v l := by
  obtain ⟨ps, h1, h2, h3, h4⟩ := h.row
  exact ⟨ps, h1, h2, h3⟩
theorem TS.tu {w : World} {b : Nat} {v : Value} {l : List Sq} (h : TS w b v l) : TU w b v l (.slice none 0 0) := by
  obtain ⟨ps, h1, h2, h3⟩ := h.row
  exact ⟨ps, h1, h2, h3, fun p hp k _ e => by simp [Value.ownBlock] at e⟩
theorem TU.bel {w w' : World} {b : Nat} {v : Value} {l : List Sq} {u : Value} (h : TU w b v l u) (hb : Below w.heap.size w w') : TU w' b v l u := by
  obtain ⟨ps, h1, h2, h3, h4⟩ := h.row
  exact ⟨ps, h1, World.ownsRow.kept (row := none) h2 ⟨hb.os, hb.tape, hb.output, hb.size, fun j hj _ => hb.block j hj⟩ (by cases hv : v.ownBlock <;> simp), fun p hp => (h3 p hp).bel hb, h4⟩
/-- The rows grow. -/
theorem TU.grow {w w' : World} {b : Nat} {v : Value} {l : List Sq} {u u' : Value} {R : List Lr} (h : TU w b v l u) (hu : OwnRL w b u R) (hg : w.grownBy w' u.ownBlock) (hk : u'.ownBlock = u.ownBlock ∨ ∀ k, u'.ownBlock = some k → w.heap.size ≤ k) : TU w' b v l u' := by
  have hty := h.ts.ty
  obtain ⟨ps, h1, h2, h3, h4⟩ := h.row
  refine ⟨ps, h1, World.ownsRow.kept h2 hg ?_, fun p hp => (h3 p hp).far hg (fun k hk e => h4 p hp k hk e), fun p hp k hk2 e => ?_⟩
  · cases hb : v.ownBlock with
    | none => exact .inl rfl
    | some k =>
      refine .inr fun e => ?_
      obtain ⟨_, _, c1, e1⟩ := hty k hb
      obtain ⟨_, _, c2, e2⟩ := hu.ty k e.symm
      have := e1.symm.trans e2
      injection this with this
      injection this with _ e3 _
      exact absurd e3 (by decide)
  · rcases hk with e2 | e2
    · exact h4 p hp k hk2 (e2 ▸ e)
    · have := e2 k e
      have := ((h3 p hp).ty k hk2).2.1
      omega
/-- What turns is neither of sequences nor of rows. -/
theorem TU.far {w w' : World} {b : Nat} {v : Value} {l : List Sq} {u : Value} {row : Option Nat} (h : TU w b v l u) (hg : w.grownBy w' row) (h1 : ∀ k, row = some k → (∀ cur, w.heap[k]? ≠ some (.cells cur 63 (0, 0))) ∧ ∀ cur, w.heap[k]? = some (.cells cur 47 (0, 0)) → False) : TU w' b v l u := by
  have hty := h.ts.ty
  obtain ⟨ps, e1, e2, e3, e4⟩ := h.row
  refine ⟨ps, e1, World.ownsRow.kept e2 hg ?_, fun p hp => (e3 p hp).far hg (fun k hk e => ?_), e4⟩
  · cases hb : v.ownBlock with
    | none => exact .inl rfl
    | some k =>
      refine .inr fun e => ?_
      obtain ⟨_, _, cur, hc⟩ := hty k hb
      exact (h1 k e.symm).1 cur hc
  · obtain ⟨_, _, cur, hc⟩ := (e3 p hp).ty k hk
    exact (h1 k e).2 cur hc
theorem infoS : (Try.prog.info? 63).map (fun i => (i.zero, i.size, i.bytes)) = some (some (.agg #[.int .i64 0, .int .i64 0, .slice none 0 0]), 3, 40) := by kernel_rfl
/-- A sequence behind sequences. -/
theorem append_seq {ops : Array Oper} {rest : List Oper} {o : Oper} {a : Act} {Q : Exit → Act → World → Prop} (w : World) (hgd : o.guard = none) (s x : Operand)
    (ho : o.op = .call { callee := .builtin .append, args := #[s, x], argTypes := #[26, 26] })
    (base : Nat) (v : Value) (l : List Sq) (hs : a.eval s = v) (hown : TS w base v l) (g : Nat) (q : Sq) (u : Value) (hx : a.eval x = .slice (some ⟨g, 0, none⟩) 1 1) (hb : Bk w g 63 #[.int .i64 q.st, .int .i64 q.sz, u]) (hu : OwnRL w base u q.rows)
    (hn : l.length ≤ 2932031007400) (hbase : base ≤ w.heap.size)
    (h : ∀ v' w', TS w' base v' (l ++ [q]) → w.grownBy w' v.ownBlock → wpList Try.prog ops Q rest (a.put o.dst v') w') :
    wpList Try.prog ops Q (o :: rest) a w := by
  have hty := hown.ty
  obtain ⟨ps, h1, h2, h3⟩ := hown.row
  obtain ⟨i0, hi, hz0, hz1, hz2⟩ := info_parts infoS
  have hone : u.oneCell' = true := by
    obtain ⟨ao, c, rfl, _⟩ := hu.lrs
    rfl
  refine wpList_append_own_at w hgd s x 26 ho base 63 i0 _ 3 40 Try.underlying26 hi hz0 hz1 hz2 rfl (by decide) _ l.length _ hs h2 ⟨g, 0, none⟩ 1 1 [.int .i64 q.st, .int .i64 q.sz, u] hx (by simp) ?_ ?_ (by unfold maxLen; omega) (by omega) hbase ?_
  · intro j y hj
    rw [caddr_add]
    exact hb.cell _ (by simpa using hj)
  · intro y hy
    simp at hy
    rcases hy with rfl | rfl | rfl
    · rfl
    · rfl
    · exact hone
  · intro v' w' hown' hgrow hnn hbk
    refine h v' w' ⟨ps ++ [(q, u)], by simp [h1], ?_, fun p hp => ?_⟩ hgrow
    · have e : celS (ps ++ [(q, u)]) = celS ps ++ [.int .i64 q.st, .int .i64 q.sz, u] := by simp [celS]
      rw [e, List.length_append]
      exact hown'
    · have hfar : ∀ (y : Value) (m : List Lr), OwnRL w base y m → OwnRL w' base y m := fun y m hy => hy.far hgrow (fun k hk e => by
        obtain ⟨_, _, c1, e1⟩ := hty k e
        obtain ⟨_, _, c2, e2⟩ := hy.ty k hk
        have := e1.symm.trans e2
        injection this with this
        injection this with _ e3 _
        exact absurd e3 (by decide))
      rcases List.mem_append.1 hp with hp | hp
      · exact hfar _ _ (h3 p hp)
      · have : p = (q, u) := by simpa using hp
        subst this
        exact hfar _ _ hu

/-! Plainly. -/
def gM (z : List Sq × List Lr) : Ev → List Sq × List Lr
  | .row r => (z.1, z.2 ++ [r])
  | .fin st sz => (z.1 ++ [⟨st, sz, z.2⟩], [])
def gF (l : List Ev) : List Sq × List Lr := l.foldl gM ([], [])
theorem gM_rows : ∀ (l : List Lr) (z : List Sq × List Lr), (l.map Ev.row).foldl gM z = (z.1, z.2 ++ l)
  | [], z => by simp
  | r :: l, z => by
    show (l.map Ev.row).foldl gM (gM z (.row r)) = _
    rw [gM_rows l]; simp [gM]
theorem gM_seq (q : Sq) (L : List Sq) : (seqEv q).foldl gM (L, []) = (L ++ [q], []) := by
  unfold seqEv
  rw [List.foldl_append, gM_rows]
  simp [gM]
theorem gF_evs (l : List Sq) : gF (evsOf l) = (l, []) := by
  have : ∀ (l L : List Sq), (evsOf l).foldl gM (L, []) = (L ++ l, []) := by
    intro l
    induction l with
    | nil => intro L; simp [evsOf]
    | cons q l ih =>
      intro L
      have e : evsOf (q :: l) = seqEv q ++ evsOf l := by simp [evsOf]
      rw [e, List.foldl_append, gM_seq, ih]; simp
  have := this l []
  simpa [gF] using this
theorem gF_at (E : List Ev) (i : Nat) (hi : i < E.length) : gF (E.take (i + 1)) = gM (gF (E.take i)) (E.getD i (.fin 0 0)) := by
  unfold gF
  rw [take_at E (.fin 0 0) i hi, List.foldl_append]; rfl
theorem gM_len : ∀ (E : List Ev) (z : List Sq × List Lr), (E.foldl gM z).1.length + (E.foldl gM z).2.length ≤ z.1.length + z.2.length + E.length
  | [], z => by simp
  | e :: E, z => by
    have := gM_len E (gM z e)
    have h2 : (gM z e).1.length + (gM z e).2.length ≤ z.1.length + z.2.length + 1 := by
      cases e <;> simp [gM] <;> omega
    simp only [List.foldl_cons, List.length_cons]
    omega
/-- How much is left in a channel. -/
def leftIn (w : World) (c : Nat) : Nat := match w.heap[c]? with | some (.chan _ buf _ _ _ _) => buf.size | _ => 0
def evZ : Value := .agg #[.int .i64 0, .int .i64 0, .int .i64 0, .int .i64 0, .bool false, .int .i64 0, .int .i64 0]

/-- What is known at event i. -/
structure GI (w wr : World) (c cap s : Nat) (E : List Ev) (i : Nat) (v3 v4 : Value) : Prop where
  fr : Fr (c, c) w wr
  ch : wr.heap[c]? = some (.chan cap ((E.drop i).map evV).toArray true s i false)
  ts : TU wr w.heap.size v3 (gF (E.take i)).1 v4
  rw : OwnRL wr w.heap.size v4 (gF (E.take i)).2
theorem GI.left {w wr : World} {c cap s : Nat} {E : List Ev} {i : Nat} {v3 v4 : Value} (h : GI w wr c cap s E i v3 v4) : leftIn wr c = E.length - i := by
  unfold leftIn; rw [h.ch]; simp
theorem left_set (w : World) (c cap : Nat) (buf : Array Value) (b : Bool) (s r : Nat) (h : c < w.heap.size) : leftIn (w.setChan c cap buf b s r false) c = buf.size := by
  unfold leftIn; rw [heap_setChan _ _ _ _ _ _ _ _ h]
/-- A value was taken. -/
theorem GI.taken {w wr : World} {c cap s : Nat} {E : List Ev} {i : Nat} {v3 v4 : Value} (h : GI w wr c cap s E i v3 v4) (hc : c < w.heap.size) (hi : i < E.length) :
    let W := wr.setChan c cap (((E.drop i).map evV).toArray.extract 1 ((E.drop i).map evV).toArray.size) true s (i + 1) false
    Fr (c, c) w W ∧ W.heap[c]? = some (.chan cap ((E.drop (i + 1)).map evV).toArray true s (i + 1) false) ∧ TU W w.heap.size v3 (gF (E.take i)).1 v4 ∧ OwnRL W w.heap.size v4 (gF (E.take i)).2 ∧ wr.heap.size = W.heap.size := by
  have hcw : c < wr.heap.size := (Array.getElem?_eq_some_iff.1 h.ch).1
  have hg : wr.grownBy (wr.setChan c cap (((E.drop i).map evV).toArray.extract 1 ((E.drop i).map evV).toArray.size) true s (i + 1) false) (some c) :=
    ⟨rfl, rfl, rfl, by simp [World.setChan], fun k _ hk => by simp only [World.setChan]; rw [Array.getElem?_setIfInBounds_ne (fun e => hk (by rw [e]))]⟩
  refine ⟨h.fr.trans ⟨hg.os, hg.tape, hg.output, hg.size, fun k hk ha _ => hg.block k hk (fun e => ha (by injection e))⟩, ?_, ?_, ?_, by simp [World.setChan]⟩
  · rw [heap_setChan _ _ _ _ _ _ _ _ hcw]
    have e : ((E.drop i).map evV).toArray.extract 1 ((E.drop i).map evV).toArray.size = ((E.drop (i + 1)).map evV).toArray := by
      apply Array.ext'
      simp only [Array.toList_extract, List.size_toArray, List.length_map, List.length_drop]
      rw [List.extract_eq_take_drop, List.take_of_length_le (by simp; omega), ← List.map_drop, List.drop_drop]
    rw [e]
  · refine h.ts.far hg (fun k hk => ?_)
    injection hk with hk
    subst hk
    exact ⟨fun cur e => (by rw [h.ch] at e; cases e), fun cur e => (by rw [h.ch] at e; cases e)⟩
  · refine h.rw.far hg (fun k hk e => ?_)
    injection e with e
    subst e
    obtain ⟨_, _, cur, e2⟩ := h.rw.ty _ hk
    rw [h.ch] at e2; cases e2

/-- Behind an append of the call's own. -/
theorem GI.next {w W V w5 : World} {c cap s i : Nat} {buf : Array Value} {row : Option Nat} {t : Nat} (hf : Fr (c, c) w W) (hc : W.heap[c]? = some (.chan cap buf true s i false)) (hcw : c < w.heap.size) (hb : Below W.heap.size W V) (hg : V.grownBy w5 row) (hr : ∀ k, row = some k → w.heap.size ≤ k ∧ k < V.heap.size ∧ ∃ cur, V.heap[k]? = some (.cells cur t (0, 0))) :
    Fr (c, c) w w5 ∧ w5.heap[c]? = some (.chan cap buf true s i false) ∧ leftIn w5 c = buf.size := by
  have hcW : c < W.heap.size := (Array.getElem?_eq_some_iff.1 hc).1
  have hcV : V.heap[c]? = some (.chan cap buf true s i false) := (hb.block c hcW).trans hc
  have hne : ∀ k, k < w.heap.size → row ≠ some k := fun k hk e => by have := (hr k e).1; omega
  have h5 : w5.heap[c]? = some (.chan cap buf true s i false) := (hg.block c (Array.getElem?_eq_some_iff.1 hcV).1 (fun e => hne c hcw e.symm)).trans hcV
  refine ⟨⟨hg.os.trans (hb.os.trans hf.os), hg.tape.trans (hb.tape.trans hf.tape), hg.output.trans (hb.output.trans hf.output), Nat.le_trans hf.size (Nat.le_trans hb.size hg.size), fun k hk ha hb' => ?_⟩, h5, by unfold leftIn; rw [h5]⟩
  have hkW := Nat.lt_of_lt_of_le hk hf.size
  rw [hg.block k (Nat.lt_of_lt_of_le hkW hb.size) (fun e => hne k hk e.symm), hb.block k hkW]
  exact hf.block k hk ha hb'

set_option maxRecDepth 20000 in
set_option maxHeartbeats 4000000 in
theorem gathered_ok (l : List Sq) (hl : (evsOf l).length ≤ 1000000) (c cap s : Nat) (w : World) (hch : w.heap[c]? = some (.chan cap ((evsOf l).map evV).toArray true s 0 false)) :
    Calls Try.prog 53 #[.chan (some c)] w fun e w' => ∃ v, e = .returned v ∧ TS w' w.heap.size v l ∧ Fr (c, c) w w' := by
  have HL : Hid _ := ⟨gF_evs l⟩
  have hcw : c < w.heap.size := (Array.getElem?_eq_some_iff.1 hch).1
  have HCh : Hid _ := ⟨hch⟩
  generalize evsOf l = E at *
  have HLn : Hid _ := ⟨hl⟩
  clear hch hl
  go_enter Try.func53, Try.ntmps53
  go_wp2
  go_loopw [3, 4] (fun v3 v4 wr => ∃ i : Nat, i ≤ E.length ∧ Hid (GI w wr c cap s E i v3 v4)) (fun _ _ wr => leftIn wr c)
  case atStart => exact ⟨0, by omega, ⟨Fr.refl _ _, by simpa using HCh.out, (TS.nil _ _).tu, OwnRL.nil _ _⟩⟩
  case round =>
    obtain ⟨i, hi, HG⟩ := hrel
    by_cases hlt : i < E.length
    · have HT : Hid _ := ⟨HG.out.taken hcw hlt⟩
      go_upto_region 4 with (fail)
      refine wp_sops ?_
      show Sops _ _ _ [0, 1, 2] _ _
      have hsome : 0 < ((E.drop i).map evV).toArray.size := by simp; omega
      have hget : ((E.drop i).map evV).toArray.getD 0 undef = evV (E.getD i (.fin 0 0)) := by
        simp [hlt]
      refine sops_take (c := c) (z := evZ) (cap := cap) (s := s) (r := i) (buf := ((E.drop i).map evV).toArray) (closed := true) (tm := false) (blocking := true) (w' := wr) rfl (by kernel_rfl) (by kernel_rfl) HG.out.ch hsome ?_
      rw [hget]
      have HX : Hid _ := ⟨gF_at E i hlt⟩
      have hlf : leftIn wr c = E.length - i := HG.out.left
      dsimp only at HT
      have HW : Hid (∀ W, W = wr.setChan c cap (((E.drop i).map evV).toArray.extract 1 ((E.drop i).map evV).toArray.size) true s (i + 1) false → Fr (c, c) w W ∧ W.heap[c]? = some (.chan cap ((E.drop (i + 1)).map evV).toArray true s (i + 1) false) ∧ TU W w.heap.size u3 (gF (E.take i)).1 u4 ∧ OwnRL W w.heap.size u4 (gF (E.take i)).2) := ⟨fun W hW => by subst hW; exact ⟨HT.out.1, HT.out.2.1, HT.out.2.2.1, HT.out.2.2.2.1⟩⟩
      generalize hW : wr.setChan c cap (((E.drop i).map evV).toArray.extract 1 ((E.drop i).map evV).toArray.size) true s (i + 1) false = W
      obtain ⟨x1, x2, x3, x4⟩ := HW.out W hW.symm
      have HF : Hid _ := ⟨x1⟩
      have HC : Hid _ := ⟨x2⟩
      have H3 : Hid _ := ⟨x3⟩
      have H4 : Hid _ := ⟨x4⟩
      have hLn : (gF (E.take i)).1.length ≤ 1000000 ∧ (gF (E.take i)).2.length ≤ 1000000 := by
        have := gM_len (E.take i) ([], [])
        have h2 := HLn.out
        have h3 : (E.take i).length ≤ E.length := by simp; omega
        unfold gF
        simp at this
        omega
      have HLg : Hid _ := ⟨hLn⟩
      simp only [Act.put, List.getElem_toArray, List.getElem_cons_succ, List.getElem_cons_zero, List.setIfInBounds_toArray, List.set_cons_zero, List.set_cons_succ]
      refine sops_val (v := .int .i64 0) (w' := W) rfl (by kernel_rfl) (by kernel_rfl) ?_
      simp only [Act.put, List.getElem_toArray, List.getElem_cons_succ, List.getElem_cons_zero, List.setIfInBounds_toArray, List.set_cons_zero, List.set_cons_succ]
      refine sops_val (v := .bool true) (w' := W) rfl (by kernel_rfl) (by kernel_rfl) ?_
      simp only [Act.put, List.getElem_toArray, List.getElem_cons_succ, List.getElem_cons_zero, List.setIfInBounds_toArray, List.set_cons_zero, List.set_cons_succ]
      refine sops_nil ?_
      clear x1 x2 x3 x4 HT HW hW HG hsome hget hLn
      generalize E.getD i (.fin 0 0) = ev at *
      generalize gF (E.take i) = Z at *
      obtain ⟨L, R⟩ := Z
      dsimp only at H3 H4 HLg
      cases ev with
      | row r =>
        have HX2 : Hid (gF (E.take (i + 1)) = (L, R ++ [r])) := ⟨HX.out⟩
        clear HX
        simp only [evV]
        have HBa : Hid (Below W.heap.size W ((W.alloc (.cells #[.int .i64 r.at', .int .i64 r.fi, .int .i64 r.li, .int .i64 r.co, .bool false, .int .i64 0, .int .i64 0] 131)).alloc (.cells #[.int .i64 r.at', .int .i64 r.fi, .int .i64 r.li, .int .i64 r.co] 47))) := ⟨((Below.refl _ W).alloc (Nat.le_refl _) _).alloc (by simp) _⟩
        go_wp2_with (at_builtin; go_loud (refine append_row4 ((W.alloc (.cells #[.int .i64 r.at', .int .i64 r.fi, .int .i64 r.li, .int .i64 r.co, .bool false, .int .i64 0, .int .i64 0] 131)).alloc (.cells #[.int .i64 r.at', .int .i64 r.fi, .int .i64 r.li, .int .i64 r.co] 47)) rfl _ _ rfl w.heap.size u4 R rfl (H4.out.bel HBa.out) (W.heap.size + 1) r (by simp [Act.eval, Act.put]) ⟨by have := heap_alloc_new (W.alloc (.cells #[.int .i64 r.at', .int .i64 r.fi, .int .i64 r.li, .int .i64 r.co, .bool false, .int .i64 0, .int .i64 0] 131)) (.cells #[.int .i64 r.at', .int .i64 r.fi, .int .i64 r.li, .int .i64 r.co] 47); rwa [show (W.alloc (.cells #[.int .i64 r.at', .int .i64 r.fi, .int .i64 r.li, .int .i64 r.co, .bool false, .int .i64 0, .int .i64 0] 131)).heap.size = W.heap.size + 1 by simp] at this⟩ (by have := HLg.out; omega) (Nat.le_trans HF.out.size HBa.out.size) ?_); intro v5 w5 hO5 hG5 hK5; have H5 : Hid _ := ⟨hO5⟩; have HG5 : Hid _ := ⟨hG5⟩; have HK5 : Hid _ := ⟨hK5⟩; clear hO5 hG5 hK5)
        have HN := GI.next HF.out HC.out hcw HBa.out HG5.out (fun k hk => (H4.out.bel HBa.out).ty k hk)
        refine ⟨⟨i + 1, hlt, ⟨HN.1, HN.2.1, by rw [HX2.out]; exact (H3.out.bel HBa.out).grow (H4.out.bel HBa.out) HG5.out HK5.out, by rw [HX2.out]; exact H5.out⟩⟩, ?_⟩
        rw [hlf, HN.2.2]; simp; omega
      | fin st sz =>
        have HX2 : Hid (gF (E.take (i + 1)) = (L ++ [⟨st, sz, R⟩], [])) := ⟨HX.out⟩
        clear HX
        simp only [evV]
        obtain ⟨ra, rc, hu4, _⟩ := H4.out.lrs
        have HBa : Hid (Below W.heap.size W ((W.alloc (.cells #[.int .i64 0, .int .i64 0, .int .i64 0, .int .i64 0, .bool true, .int .i64 st, .int .i64 sz] 131)).alloc (.cells #[.int .i64 st, .int .i64 sz, u4] 63))) := ⟨((Below.refl _ W).alloc (Nat.le_refl _) _).alloc (by simp) _⟩
        subst hu4
        go_wp2_with (at_builtin; refine append_seq ((W.alloc (.cells #[.int .i64 0, .int .i64 0, .int .i64 0, .int .i64 0, .bool true, .int .i64 st, .int .i64 sz] 131)).alloc (.cells #[.int .i64 st, .int .i64 sz, .slice ra R.length rc] 63)) rfl _ _ rfl w.heap.size u3 L rfl (H3.out.bel HBa.out).ts (W.heap.size + 1) ⟨st, sz, R⟩ (.slice ra R.length rc) (by simp [Act.eval, Act.put]) ⟨by have := heap_alloc_new (W.alloc (.cells #[.int .i64 0, .int .i64 0, .int .i64 0, .int .i64 0, .bool true, .int .i64 st, .int .i64 sz] 131)) (.cells #[.int .i64 st, .int .i64 sz, .slice ra R.length rc] 63); rwa [show (W.alloc (.cells #[.int .i64 0, .int .i64 0, .int .i64 0, .int .i64 0, .bool true, .int .i64 st, .int .i64 sz] 131)).heap.size = W.heap.size + 1 by simp] at this⟩ (H4.out.bel HBa.out) (by have := HLg.out; omega) (Nat.le_trans HF.out.size HBa.out.size) ?_; intro v5 w5 hO5 hG5; have H5 : Hid _ := ⟨hO5⟩; have HG5 : Hid _ := ⟨hG5⟩; clear hO5 hG5)
        have HN := GI.next HF.out HC.out hcw HBa.out HG5.out (fun k hk => (H3.out.bel HBa.out).ts.ty k hk)
        refine ⟨⟨i + 1, hlt, ⟨HN.1, HN.2.1, by rw [HX2.out]; exact H5.out.tu, by rw [HX2.out]; exact OwnRL.nil _ _⟩⟩, ?_⟩
        rw [hlf, HN.2.2]; simp; omega
    · obtain rfl : i = E.length := by omega
      have hch : wr.heap[c]? = some (.chan cap #[] true s E.length false) := by have := HG.out.ch; simpa using this
      have HTs : Hid (TS wr w.heap.size u3 l) := ⟨by have := HG.out.ts.ts; rwa [List.take_of_length_le (Nat.le_refl _), HL.out] at this⟩
      go_upto_region 4 with (fail)
      refine wp_sops ?_
      show Sops _ _ _ [0, 1, 2] _ _
      refine sops_shut (c := c) (z := evZ) (cap := cap) (s := s) (r := E.length) (tm := false) (blocking := true) (w' := wr) rfl (by kernel_rfl) (by kernel_rfl) hch ?_
      simp only [Act.put, List.getElem_toArray, List.getElem_cons_succ, List.getElem_cons_zero, List.setIfInBounds_toArray, List.set_cons_zero, List.set_cons_succ]
      refine sops_val (v := .int .i64 0) (w' := wr) rfl (by kernel_rfl) (by kernel_rfl) ?_
      simp only [Act.put, List.getElem_toArray, List.getElem_cons_succ, List.getElem_cons_zero, List.setIfInBounds_toArray, List.set_cons_zero, List.set_cons_succ]
      refine sops_val (v := .bool true) (w' := wr) rfl (by kernel_rfl) (by kernel_rfl) ?_
      simp only [Act.put, List.getElem_toArray, List.getElem_cons_succ, List.getElem_cons_zero, List.setIfInBounds_toArray, List.set_cons_zero, List.set_cons_succ]
      refine sops_nil ?_
      simp only [evZ]
      go_wp2
      go_ret
      exact ⟨_, rfl, HTs.out.bel ((Below.refl _ _).alloc (Nat.le_refl _) _), HG.out.fr.trans (.of_bel ((Below.refl _ _).alloc (Nat.le_refl _) _))⟩
end Go.Proofs.Ytbhdledlahbokaa
