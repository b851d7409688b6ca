/- append of objects onto a row of the call's own, within a region that draws. -/
import Derived.Test.YtgoaegembijdcaaROrd
import Derived.Deep.Upon
import Derived.Deep.RegionHeld3
namespace Go.Proofs.Ytgoaegembijdcaa
open Go.ChangeShapes Go.WideShapes Go.ChangeAt Go.RowKit Go.Maps
set_option linter.unusedVariables false
set_option linter.unusedSimpArgs false

/-- Cells of objects, in a row. -/
def Row2 (w : World) (mo : Option Addr) (M : List Fl) : Prop := M = [] ∨ ∃ b off, mo = some ⟨b, off, none⟩ ∧ ∀ i (hi : i < M.length), ∀ j, j < 2 → w.cell? ⟨b, off + (i * 2 + j), none⟩ = (encFl M[i])[j]?
theorem row2_of {w : World} {ao : Option Addr} {l : List Fl} (h : Fls w ao l) : Row2 w ao l := by
  rcases h with h | ⟨b, off, e, h⟩
  · exact .inl h
  · refine .inr ⟨b, off, e, fun i hi j hj => ?_⟩
    obtain ⟨c0, c1, _⟩ := h i hi
    have g : l.getD i Fl.zero = l[i] := by simp [hi]
    rw [g] at c0 c1
    rcases j with _ | _ | j
    · exact c0
    · exact c1
    · omega
theorem row2_one {w : World} {q t : Nat} {f : Fl} (h : Bk w q t #[.slice f.sa f.secs.length f.sc, .slice f.ya f.syms.length f.yc]) : Row2 w (some ⟨q, 0, none⟩) [f] := by
  refine .inr ⟨q, 0, rfl, fun i hi j hj => ?_⟩
  obtain rfl : i = 0 := by simpa using hi
  rcases j with _ | _ | j
  · exact h.cell 0 rfl
  · exact h.cell 1 rfl
  · omega
theorem own_empty {w : World} {B g : Nat} (h : Bk w g 52 #[]) (hb : B ≤ g) : OwnR 52 2 encFl w B (.slice (some ⟨g, 0, none⟩) 0 0) [] := ⟨by simp, .inr ⟨g, 0, #[], rfl, hb, h.hp, Nat.le_refl _, by unfold maxLen; omega, rfl, rfl⟩⟩

theorem own_flsN {w : World} {base n : Nat} {ao : Option Addr} {cap : Nat} {l : List Fl} (hn : l.length = n) (h : OwnR 52 2 encFl w base (.slice ao n cap) l) (hin : ∀ f ∈ l, FlIn w f) : Fls w ao l := by subst hn; exact own_fls h hin
/-- A block apart from a row. -/
structure Ap (w : World) (j u : Nat) (cs : Array Value) (v : Value) : Prop where
  bk : Bk w j u cs
  ne : some j ≠ v.ownBlock
theorem Ap.alloc {w : World} {j u : Nat} {cs : Array Value} {v : Value} (h : Ap w j u cs v) (o : Obj) : Ap (w.alloc o) j u cs v := ⟨h.bk.alloc o, h.ne⟩
theorem Ap.drew {w : World} {j u : Nat} {cs : Array Value} {v : Value} (h : Ap w j u cs v) : Ap w.drew j u cs v := ⟨⟨h.bk.hp⟩, h.ne⟩
theorem bal {a w : World} (h : Below a.heap.size a w) (o : Obj) : Below a.heap.size a (w.alloc o) := h.alloc h.size o
theorem btr {a w w' : World} (h : Below a.heap.size a w) (h' : Below w.heap.size w w') : Below a.heap.size a w' := h.trans (h'.mono h.size)
theorem al_bel {α : Type} {e k : Nat} {enc : α → List Value} {W w8 : World} {q u : Nat} {cs : Array Value} {v r : Value} {l : List α} (h : Ap W q u cs v) (hb : Below W.heap.size W w8) (ho : OwnR e k enc w8 W.heap.size r l) : Ap w8 q u cs r := ⟨h.bk.bel hb h.bk.lt, fun e => by
  have h1 := (World.ownsRow.lt ho q e.symm).1
  have h2 := h.bk.lt
  omega⟩
theorem fin_late {w2 w8 : World} {e base : Nat} {ua : Option Addr} {uc : Nat} {T2 : List En} (ho : OwnR e 5 encE w8 base (.slice ua T2.length uc) T2) (hb : Below w2.heap.size w2 w8) (ye : Int) (yn : ByteArray) :
    Below w2.heap.size w2 (w8.alloc (.cells #[.int .i64 ye, .string yn] 45)) ∧ Ents (w8.alloc (.cells #[.int .i64 ye, .string yn] 45)) ua T2 ∧ (w8.alloc (.cells #[.int .i64 ye, .string yn] 45)).cell? ⟨w8.heap.size, 0, none⟩ = some (.int .i64 ye) :=
  ⟨bal hb _, (own_ents ho).below ((Below.refl _ _).alloc (Nat.le_refl _) _) (Nat.le_refl _), (Bk.new w8 _ _).cell 0 rfl⟩
theorem fin_early {w2 w8 : World} {e base q : Nat} {ua : Option Addr} {uc : Nat} {T2 : List En} (hA : Ap w8 q 45 #[.int .i64 0, .string ⟨#[]⟩] (.slice ua T2.length uc)) (ho : OwnR e 5 encE w8 base (.slice ua T2.length uc) T2) (hb : Below w2.heap.size w2 w8) (hq : w2.heap.size ≤ q) (ye : Int) (yn : ByteArray) :
    Below w2.heap.size w2 ((w8.setCell ⟨q, 0, none⟩ (.int .i64 ye)).setCell ⟨q, 1, none⟩ (.string yn)) ∧ Ents ((w8.setCell ⟨q, 0, none⟩ (.int .i64 ye)).setCell ⟨q, 1, none⟩ (.string yn)) ua T2 ∧ ((w8.setCell ⟨q, 0, none⟩ (.int .i64 ye)).setCell ⟨q, 1, none⟩ (.string yn)).cell? ⟨q, 0, none⟩ = some (.int .i64 ye) := by
  have KE := (hA.bk.setC 0 (.int .i64 ye)).setC 1 (.string yn)
  have TE := ((Turn.refl (fun k => k = q) w8).setCell ⟨q, 0, none⟩ rfl (.int .i64 ye)).setCell ⟨q, 1, none⟩ rfl (.string yn)
  have OE := TE.row ho (fun k hk e => by have e2 : k = q := e; subst e2; exact hA.ne hk.symm)
  exact ⟨bel_setC (bel_setC hb ⟨q, 0, none⟩ hq (.int .i64 ye)) ⟨q, 1, none⟩ hq (.string yn), own_ents (show OwnR e 5 encE _ _ _ _ from OE), KE.cell 0 rfl⟩
theorem all_o (ao : Option Addr) (c : Nat) (l : List Fl) (w : World) (hb : FlsB l) (hin : Fls w ao l) :
    Calls Try.prog 16 #[.slice ao l.length c] w fun e w' => ∃ va vc, e = .returned (.tuple #[.slice va (AllT l).length vc, (AllF l).val]) ∧ (checkL l = 0 → RowsL l) ∧ OwnR 27 5 encE w' w.heap.size (.slice va (AllT l).length vc) (AllT l) ∧ Below w.heap.size w w' := by
  refine (pall_any ao c l w hb hin).mono ?_
  rintro e w' ⟨v, rfl, hR, ho, hb'⟩
  obtain ⟨va, vc, rfl, _⟩ := ho.any encE_len
  exact ⟨va, vc, rfl, hR, ho, hb'⟩
theorem Ap.fresh {w : World} {j u : Nat} {cs : Array Value} {v : Value} (hj : w.heap.size = j) (hne : some j ≠ v.ownBlock) : Ap (w.alloc (.cells cs u)) j u cs v := ⟨by subst hj; exact Bk.new w cs u, hne⟩
theorem ne_own {v : Value} {n j : Nat} (hv : ∀ k, v.ownBlock = some k → k < n) (h : n ≤ j) : some j ≠ v.ownBlock := fun e => by have := hv j e.symm; omega

theorem run_append_fl (w : World) (t ty : TypeId) (ht : Try.prog.underlying t = some (.slice 52)) (base : Nat) (v : Value) (L : List Fl) (hown : OwnR 52 2 encFl w base v L) (mo : Option Addr) (M : List Fl) (mc : Nat) (hM : Row2 w mo M) (hb : L.length + M.length ≤ 4000000) (hbase : base ≤ w.heap.size) :
    ∃ va vc w', (Builtin.append_ #[t, t] ty #[v, .slice mo M.length mc]).run Try.prog w = .ok (.slice va (L ++ M).length vc) w' ∧ OwnR 52 2 encFl w' base (.slice va (L ++ M).length vc) (L ++ M) ∧ Below base w w' ∧ (∀ j u cs, Ap w j u cs v → Ap w' j u cs (.slice va (L ++ M).length vc)) := by
  obtain ⟨i0, hi, hz0, hz1, hz2⟩ := info_parts infoFl
  by_cases hm : M = []
  · subst hm
    obtain ⟨ao, cap, rfl, hle, _⟩ := hown.any encFl_len
    rw [List.append_nil]
    refine ⟨ao, cap, w, ?_, hown, Below.refl _ _, fun _ _ _ h => ⟨h.bk, h.ne⟩⟩
    refine run_append_nothing w t t ty 52 i0 ht hi ao L.length cap hle _ ?_
    cases mo with
    | none => exact Src.ofNil w ht mc
    | some a => exact Src.ofSlice w ht a 0 mc [] (by simp) (fun j u h => by simp at h) (fun u h => by cases h)
  · rcases hM with h | ⟨b, off, rfl, hc⟩
    · exact absurd h hm
    · obtain ⟨v', w', hr, h2, h3, _, h5⟩ := run_append_own_at (P := Try.prog) w base t ty 52 i0 (.agg (encFl Fl.zero).toArray) 2 48 ht hi hz0 hz1 hz2 rfl (by decide) v L.length (L.flatMap encFl) hown ⟨b, off, none⟩ M.length mc (M.flatMap encFl) (flat_len encFl_len M) (fun j u hj => by
        have hjl : j < M.length * 2 := by rw [← flat_len encFl_len M]; exact (List.getElem?_eq_some_iff.1 hj).1
        have e : j = j / 2 * 2 + j % 2 := by omega
        have hi2 : j / 2 < M.length := by omega
        rw [addr_add]
        rw [e] at hj ⊢
        rw [flat_at encFl_len M (j / 2) (j % 2) hi2 (by omega)] at hj
        rw [hc (j / 2) hi2 (j % 2) (by omega)]
        exact hj) (fun u hu => by
        obtain ⟨x, _, hx⟩ := List.mem_flatMap.1 hu
        exact encFl_one x u hx) (by unfold maxLen; omega) (by omega) hbase
      have ho : OwnR 52 2 encFl w' base v' (L ++ M) := by
        unfold OwnR
        rw [List.flatMap_append, List.length_append]
        exact h2
      obtain ⟨ao, cap, rfl, _⟩ := ho.any encFl_len
      refine ⟨ao, cap, w', hr, ho, (Below.refl _ _).grown h3 hbase (fun k hk => (World.ownsRow.lt hown k hk).1), fun j u cs hA => ⟨hA.bk.of (h3.block j hA.bk.lt hA.ne), fun e => ?_⟩⟩
      rcases h5 with h5 | h5
      · exact hA.ne (e.trans h5)
      · have := hA.bk.lt
        rw [h5] at e
        simp at e
        omega

theorem step_append_fl {w : World} {ops : Array Oper} {o : Oper} {a : Act} {K : Act → World → Prop} {Q : Exit → Act → World → Prop} {E : Prop} (hgd : o.guard = none) (s x : Operand) (t : TypeId)
    (ho : o.op = .call { callee := .builtin .append, args := #[s, x], argTypes := #[t, t] }) (ht : Try.prog.underlying t = some (.slice 52)) (base : Nat) (v : Value) (L : List Fl) (hs : a.eval s = v) (hown : OwnR 52 2 encFl w base v L)
    (mo : Option Addr) (M : List Fl) (mc : Nat) (m : Nat) (hm : M.length = m) (hx : a.eval x = .slice mo m mc) (hM : Row2 w mo M) (hb : L.length + M.length ≤ 4000000) (hbase : base ≤ w.heap.size) (n : Nat) (hn : (L ++ M).length = n)
    (h : ∀ va vc w', OwnR 52 2 encFl w' base (.slice va n vc) (L ++ M) → Below base w w' → (∀ j u cs, Ap w j u cs v → Ap w' j u cs (.slice va n vc)) → K (a.put o.dst (.slice va n vc)) w') :
    if Region.wanted o (yielded ops a.tmps) = true then Oper.wp Try.prog o a w K Q else E := by
  have hw : Region.wanted o (yielded ops a.tmps) = true := by simp [Region.wanted, hgd]
  rw [if_pos hw]
  obtain ⟨va, vc, w', hr, h2, h3, h4⟩ := run_append_fl w t o.type ht base v L hown mo M mc hM hb hbase
  subst hn hm
  unfold Oper.wp execOp
  simp only [ho, resolve, invoke, builtin, Sem.run_bind, Sem.run_pure, Result.andThen_ok, List.map_toArray, List.map_cons, List.map_nil, hs, hx, hr]
  exact h va vc w' h2 h3 h4
end Go.Proofs.Ytgoaegembijdcaa
