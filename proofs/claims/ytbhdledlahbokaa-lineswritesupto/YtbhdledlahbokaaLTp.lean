/- Programs of the call's own. -/
import Derived.Test.YtbhdledlahbokaaRFind
namespace Go.Proofs.Ytbhdledlahbokaa
open Go.ChangeShapes Go.WideShapes Go.ChangeAt Go.RowKit Go.Conc
set_option linter.unusedVariables false
set_option linter.unusedSimpArgs false

def celP (ps : List (Pg × Value × Value)) : List Value := ps.flatMap (fun p => [p.2.1, p.2.2])
theorem celP_len (ps : List (Pg × Value × Value)) : (celP ps).length = ps.length * 2 := by
  induction ps with
  | nil => rfl
  | cons p ps ih => simp only [celP, List.flatMap_cons, List.length_append, List.length_cons, List.length_nil] at ih ⊢; omega
/-- Programs of the call's own. -/
structure TP (w : World) (b : Nat) (v : Value) (l : List Pg) : Prop where
  row : ∃ ps : List (Pg × Value × Value), ps.map Prod.fst = l ∧ w.ownsRow b 28 2 v l.length (celP ps) ∧ ∀ p ∈ ps, OwnN w b p.2.1 p.1.files ∧ TS w b p.2.2 p.1.seqs
theorem TP.nil (w : World) (b : Nat) : TP w b (.slice none 0 0) [] := ⟨[], rfl, World.ownsRow_nil _ _ _ _, fun p hp => by cases hp⟩
theorem TP.bel {w w' : World} {b : Nat} {v : Value} {l : List Pg} (h : TP w b v l) (hb : Below w.heap.size w w') : TP w' b v l := by
  obtain ⟨ps, h1, h2, h3⟩ := h.row
  exact ⟨ps, h1, World.ownsRow.kept (row := none) h2 ⟨hb.os, hb.tape, hb.output, hb.size, fun j hj _ => hb.block j hj⟩ (by cases hv : v.ownBlock <;> simp), fun p hp => ⟨(h3 p hp).1.bel hb, (h3 p hp).2.bel hb⟩⟩
theorem TP.ty {w : World} {b : Nat} {v : Value} {l : List Pg} (h : TP w b v l) : ∀ k, v.ownBlock = some k → b ≤ k ∧ k < w.heap.size ∧ ∃ cur, w.heap[k]? = some (.cells cur 28 (0, 0)) := by
  obtain ⟨ps, h1, h2, h3⟩ := h.row
  intro k hk
  rcases h2.2 with ⟨rfl, _⟩ | ⟨g, cap, cur, rfl, e1, e2, _⟩
  · simp [Value.ownBlock] at hk
  · simp [Value.ownBlock] at hk
    subst hk
    exact ⟨e1, (Array.getElem?_eq_some_iff.1 e2).1, cur, e2⟩
theorem infoP : (Try.prog.info? 28).map (fun i => (i.zero, i.size, i.bytes)) = some (some (.agg #[.slice none 0 0, .slice none 0 0]), 2, 48) := by kernel_rfl
/-- A program behind programs. -/
theorem append_pg {ops : Array Oper} {rest : List Oper} {o : Oper} {a : Act} {Q : Exit → Act → World → Prop} (w : World) (hgd : o.guard = none) (s x : Operand)
    (ho : o.op = .call { callee := .builtin .append, args := #[s, x], argTypes := #[45, 45] })
    (base : Nat) (v : Value) (l : List Pg) (hs : a.eval s = v) (hown : TP w base v l) (g : Nat) (q : Pg) (u1 u2 : Value) (hx : a.eval x = .slice (some ⟨g, 0, none⟩) 1 1) (hb : Bk w g 28 #[u1, u2]) (hu1 : OwnN w base u1 q.files) (hu2 : TS w base u2 q.seqs)
    (hn : l.length ≤ 1000000000000) (hbase : base ≤ w.heap.size)
    (h : ∀ v' w', TP w' base v' (l ++ [q]) → w.grownBy w' v.ownBlock → wpList Try.prog ops Q rest (a.put o.dst v') w') :
    wpList Try.prog ops Q (o :: rest) a w := by
  have hty := hown.ty
  obtain ⟨ps, h1, h2, h3⟩ := hown.row
  obtain ⟨i0, hi, hz0, hz1, hz2⟩ := info_parts infoP
  have ho1 : u1.oneCell' = true := by obtain ⟨ao, c, rfl, _⟩ := hu1.strs; rfl
  have ho2 : u2.oneCell' = true := by obtain ⟨ao, c, rfl, _⟩ := hu2.sqs; rfl
  refine wpList_append_own_at w hgd s x 45 ho base 28 i0 _ 2 48 Try.underlying45 hi hz0 hz1 hz2 rfl (by decide) _ l.length _ hs h2 ⟨g, 0, none⟩ 1 1 [u1, u2] hx (by simp) ?_ ?_ (by unfold maxLen; omega) (by omega) hbase ?_
  · intro j y hj
    rw [caddr_add]
    exact hb.cell _ (by simpa using hj)
  · intro y hy
    simp at hy
    rcases hy with rfl | rfl
    · exact ho1
    · exact ho2
  · intro v' w' hown' hgrow hnn hbk
    have hfN : ∀ (y : Value) (m : List ByteArray), OwnN w base y m → OwnN w' base y m := fun y m hy => hy.far hgrow (fun k hk e => by
      obtain ⟨_, _, c1, e1⟩ := hty k e
      obtain ⟨_, _, c2, e2⟩ := hy.ty k hk
      have := e1.symm.trans e2
      injection this with this
      injection this with _ e3 _
      exact absurd e3 (by decide))
    have hfS : ∀ (y : Value) (m : List Sq), TS w base y m → TS w' base y m := fun y m hy => hy.far hgrow (fun k e => by
      obtain ⟨_, _, c1, e1⟩ := hty k e
      refine ⟨fun cur e2 => ?_, fun cur e2 => ?_⟩ <;>
      · have := e1.symm.trans e2
        injection this with this
        injection this with _ e3 _
        exact absurd e3 (by decide))
    refine h v' w' ⟨ps ++ [(q, u1, u2)], by simp [h1], ?_, fun p hp => ?_⟩ hgrow
    · have e : celP (ps ++ [(q, u1, u2)]) = celP ps ++ [u1, u2] := by simp [celP]
      rw [e, List.length_append]
      exact hown'
    · rcases List.mem_append.1 hp with hp | hp
      · exact ⟨hfN _ _ (h3 p hp).1, hfS _ _ (h3 p hp).2⟩
      · have : p = (q, u1, u2) := by simpa using hp
        subst this
        exact ⟨hfN _ _ hu1, hfS _ _ hu2⟩
theorem celP_at : ∀ (ps : List (Pg × Value × Value)) (i j : Nat), i < ps.length → j < 2 → (celP ps)[i * 2 + j]? = ([(ps.getD i (pg0, undef, undef)).2.1, (ps.getD i (pg0, undef, undef)).2.2] : List Value)[j]?
  | [], i, j, hi, _ => by simp at hi
  | r :: l, 0, j, _, hj => by
    show (_ :: _ :: celP l)[0 * 2 + j]? = _
    rcases j with _ | _ | j <;> first | rfl | omega
  | r :: l, i + 1, j, hi, hj => by
    have ih := celP_at l i j (by simpa using hi) hj
    show (_ :: _ :: celP l)[(i + 1) * 2 + j]? = _
    rw [show (i + 1) * 2 + j = i * 2 + j + 2 by omega]
    simpa using ih
/-- What programs in memory are short enough for. -/
def FewL (l : List Pg) : Prop := ∀ p ∈ l, Few p
theorem Few.pg {w : World} {fa sa : Option Addr} {p : Pg} (h : Few p) (h1 : Strs w fa p.files) (h2 : Sqs w sa p.seqs) : PgIn w fa sa p :=
  ⟨h1, h2, by have := h.f; omega, by have := h.s; omega, fun q hq => by have := h.r q hq; omega⟩
theorem TP.sl {w : World} {b : Nat} {v : Value} {l : List Pg} (h : TP w b v l) : ∃ sa sc, v = .slice sa l.length sc := by
  obtain ⟨ps, h1, h2, h3⟩ := h.row
  rcases h2.2 with ⟨rfl, e⟩ | ⟨g, cap, cur, rfl, _⟩
  · exact ⟨none, 0, by rw [e]⟩
  · exact ⟨_, cap, rfl⟩
theorem TP.pgs {w : World} {b n c : Nat} {sa : Option Addr} {l : List Pg} (h : TP w b (.slice sa n c) l) (hf : FewL l) : Pgs w sa l := by
  obtain ⟨ps, h1, h2, h3⟩ := h.row
  have hpl : ps.length = l.length := by rw [← h1]; simp
  rcases h2.2 with ⟨_, e⟩ | ⟨g, cap, cur, hv, e1, e2, _⟩
  · exact .inl e
  · cases hv
    refine .inr ⟨g, 0, rfl, fun i hi => ?_⟩
    have hip : i < ps.length := by omega
    have hc : ∀ j, j < 2 → ∀ x, ([(ps.getD i (pg0, undef, undef)).2.1, (ps.getD i (pg0, undef, undef)).2.2] : List Value)[j]? = some x → w.cell? ⟨g, 0 + i * 2 + j, none⟩ = some x := by
      intro j hj x hx
      have := World.ownsRow.cells (g := g) h2 rfl (i * 2 + j) x (by rw [celP_at ps i j hip hj]; exact hx)
      rwa [caddr_add, ← Nat.add_assoc] at this
    have hg : (ps.getD i (pg0, undef, undef)).1 = l.getD i pg0 := by
      rw [← h1]; simp [hip]
    have hm : l.getD i pg0 ∈ l := by simp [hi]
    obtain ⟨k1, k2⟩ := h3 (ps.getD i (pg0, undef, undef)) (by simp [hip])
    obtain ⟨na, nc, hv1, hs1⟩ := k1.strs
    obtain ⟨ta, tc, hv2, hs2⟩ := k2.sqs
    have c0 := hc 0 (by omega) _ rfl
    have c1 := hc 1 (by omega) _ rfl
    rw [hv1] at c0
    rw [hv2] at c1
    rw [hg] at c0 c1 hs1 hs2
    exact ⟨na, nc, ta, tc, c0, c1, (hf _ hm).pg hs1 hs2⟩
/-- A program as it is handed in: a nil slice has room for nothing. -/
def PgHd (w : World) (b off : Nat) (p : Pg) : Prop := ∃ fa fc sa sc, w.cell? ⟨b, off, none⟩ = some (.slice fa p.files.length fc) ∧ w.cell? ⟨b, off + 1, none⟩ = some (.slice sa p.seqs.length sc) ∧ PgIn w fa sa p ∧ (fa = none → fc = 0)
theorem PgHd.bel {w w' : World} {b off : Nat} {p : Pg} (h : PgHd w b off p) (hb : Below w.heap.size w w') : PgHd w' b off p := by
  obtain ⟨fa, fc, sa, sc, h1, h2, h3, h4⟩ := h
  exact ⟨fa, fc, sa, sc, up_belL h1 hb, up_belL h2 hb, h3.bel hb, h4⟩
def PgsH (w : World) (ao : Option Addr) (l : List Pg) : Prop := l.length = 0 ∨ ∃ b off, ao = some ⟨b, off, none⟩ ∧ ∀ i, i < l.length → PgHd w b (off + i * 2) (l.getD i pg0)
theorem PgsH.bel {w w' : World} {ao : Option Addr} {l : List Pg} (h : PgsH w ao l) (hb : Below w.heap.size w w') : PgsH w' ao l := by
  rcases h with h | ⟨b, off, e, h⟩
  · exact .inl h
  · exact .inr ⟨b, off, e, fun i hi => (h i hi).bel hb⟩
theorem PgsH.pgs {w : World} {ao : Option Addr} {l : List Pg} (h : PgsH w ao l) : Pgs w ao l := by
  rcases h with h | ⟨b, off, e, h⟩
  · exact .inl h
  · exact .inr ⟨b, off, e, fun i hi => by
      obtain ⟨fa, fc, sa, sc, h1, h2, h3, _⟩ := h i hi
      exact ⟨fa, fc, sa, sc, h1, h2, h3⟩⟩
/-- What Own makes, in memory of the call's own. -/
def Mine (w : World) (e : Ending) (p : Pg) (w' : World) : Prop := ∃ na nc ta tc, e = .returned (.agg #[.slice na p.files.length nc, .slice ta p.seqs.length tc]) ∧ OwnN w' w.heap.size (.slice na p.files.length nc) p.files ∧ TS w' w.heap.size (.slice ta p.seqs.length tc) p.seqs ∧ Below w.heap.size w w'
theorem own_mine (p : Pg) (fa sa : Option Addr) (fc sc : Nat) (w : World) (h : PgIn w fa sa p) (hf : fa = none → fc = 0) (hw : Few p) :
    Calls Try.prog 7 #[.agg #[.slice fa p.files.length fc, .slice sa p.seqs.length sc]] w fun e w' => Mine w e p w' := by
  refine (own_any p fa sa fc sc w h hf (by have := hw.f; omega) (by have := hw.s; omega) (fun q hq => by have := hw.r q hq; omega)).mono fun e w' ⟨v1, v2, he, h1, h2, hb⟩ => ?_
  obtain ⟨na, nc, rfl, hs⟩ := h1.strs
  obtain ⟨ta, tc, rfl, hq⟩ := h2.sqs
  exact ⟨na, nc, ta, tc, he, h1, h2, hb⟩

end Go.Proofs.Ytbhdledlahbokaa
