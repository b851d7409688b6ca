/- Numbers of the call's own. -/
import Derived.Test.YtbhdledlahbokaaLHead
namespace Go.Proofs.Ytbhdledlahbokaa
open Go.ChangeShapes Go.WideShapes Go.ChangeAt Go.RowKit
set_option linter.unusedVariables false
set_option linter.unusedSimpArgs false

def OwnI (w : World) (base : Nat) (v : Value) (xs : List Int) : Prop := w.ownsRow base 3 1 v xs.length (xs.map (Value.int .i64))
section
variable {w w' w1 w2 : World} {base : Nat} {v u : Value} {xs m : List Int}
theorem OwnI.nil (w : World) (base : Nat) : OwnI w base (.slice none 0 0) [] := World.ownsRow_nil _ _ _ _
theorem OwnI.lt' (h : OwnI w base v xs) : ∀ k, v.ownBlock = some k → base ≤ k ∧ k < w.heap.size ∧ ∃ cur, w.heap[k]? = some (.cells cur 3 (0, 0)) := by
  intro k hk
  rcases h.2 with ⟨rfl, _⟩ | ⟨g, cap, cur, rfl, h1, h2, _⟩
  · simp [Value.ownBlock] at hk
  · simp [Value.ownBlock] at hk
    subst hk
    exact ⟨h1, (Array.getElem?_eq_some_iff.1 h2).1, cur, h2⟩
theorem OwnI.not_bk {k t : Nat} {cs : Array Value} (h : OwnI w base v xs) (hB : Bk w k t cs) (ht : t ≠ 3) : v.ownBlock ≠ some k := fun e => by
  obtain ⟨_, _, cur, hc⟩ := h.lt' k e
  have := hc.symm.trans hB.hp
  injection this with this
  injection this with _ e2 _
  exact ht e2.symm
theorem OwnI.not_own (h : OwnI w base v xs) {b : Nat} (ho : Own w b u m) : ∀ k, v.ownBlock = some k → u.ownBlock ≠ some k := fun k hk e => by
  obtain ⟨_, _, cur, hc⟩ := h.lt' k hk
  obtain ⟨cur2, hc2⟩ := ho.tyL k e
  have := hc.symm.trans hc2
  injection this with this
  injection this with _ e2 _
  exact absurd e2 (by decide)
theorem OwnI.bel (h : OwnI w base v xs) (hb : Below w.heap.size w w') : OwnI w' base v xs :=
  World.ownsRow.kept (row := none) h ⟨hb.os, hb.tape, hb.output, hb.size, fun j hj _ => hb.block j hj⟩ (by cases hv : v.ownBlock <;> simp)
theorem OwnI.lowB {b : Nat} (h : OwnI w base v xs) (hb : b ≤ base) : OwnI w b v xs := by
  refine ⟨h.1, ?_⟩
  rcases h.2 with hv | ⟨g', c', cur, hv, h2, h3⟩
  · exact .inl hv
  · exact .inr ⟨g', c', cur, hv, by omega, h3⟩
theorem OwnI.far {row : Option Nat} (h : OwnI w1 base u m) (hg : w1.grownBy w2 row) (hn : ∀ k, u.ownBlock = some k → row ≠ some k) : OwnI w2 base u m := World.ownsRow.kept h hg (by
  cases hb : u.ownBlock with
  | none => exact .inl rfl
  | some k => exact .inr fun e => hn k hb e.symm)
theorem Own.farL {row : Option Nat} (h : Own w1 base u m) (hg : w1.grownBy w2 row) (hn : ∀ k, u.ownBlock = some k → row ≠ some k) : Own w2 base u m := World.ownsRow.kept h hg (by
  cases hb : u.ownBlock with
  | none => exact .inl rfl
  | some k => exact .inr fun e => hn k hb e.symm)
theorem OwnI.sl (h : OwnI w base v xs) : ∃ ao c, v = .slice ao xs.length c := by
  rcases h.2 with ⟨rfl, e⟩ | ⟨g, cap, cur, rfl, _⟩
  · exact ⟨none, 0, by rw [e]⟩
  · exact ⟨_, cap, rfl⟩
theorem OwnI.lies (h : OwnI w base v xs) (hne : 1 ≤ xs.length) : ∃ g c, v = .slice (some ⟨g, 0, none⟩) xs.length c ∧ ∀ k, k < xs.length → w.cell? ⟨g, k, none⟩ = some (.int .i64 (xs.getD k 0)) ∧ w.frozen? ⟨g, k, none⟩ = false := by
  rcases h.2 with ⟨rfl, e⟩ | ⟨g, cap, cur, rfl, _, hg, _⟩
  · omega
  · refine ⟨g, cap, rfl, fun k hk => ⟨?_, by simp [World.frozen?, hg]⟩⟩
    have := World.ownsRow.cells (g := g) h rfl k (.int .i64 (xs.getD k 0)) (by simp [hk])
    rwa [caddr_add, Nat.zero_add] at this
theorem OwnI.set {g c : Nat} (h : OwnI w base (.slice (some ⟨g, 0, none⟩) xs.length c) xs) {k : Nat} (hk : k < xs.length) (y : Int) : OwnI (w.setCell ⟨g, k, none⟩ (.int .i64 y)) base (.slice (some ⟨g, 0, none⟩) xs.length c) (xs.set k y) := by
  refine ⟨by simp, ?_⟩
  rcases h.2 with ⟨h1, _⟩ | ⟨g', c', cur, hv, h2, h3, h4, h5, h6, h7⟩
  · cases h1
  · cases hv
    refine .inr ⟨g, c, cur.setIfInBounds k (.int .i64 y), by simp, h2, ?_, by simpa using h4, h5, by simpa using h6, ?_⟩
    · rw [setCell_eq_setRow w g k cur 3 (0, 0) _ h3]
      exact setRow_heap w g cur _ 3 _ h3
    · have hl : (xs.set k y).length * 1 = xs.length * 1 := by simp
      rw [hl, Array.toList_setIfInBounds, List.take_set, h7, List.map_set]
theorem OwnI.setN {g c n : Nat} (h : OwnI w base (.slice (some ⟨g, 0, none⟩) n c) xs) (hn : xs.length = n) {k : Nat} (hk : k < n) (y : Int) : OwnI (w.setCell ⟨g, k, none⟩ (.int .i64 y)) base (.slice (some ⟨g, 0, none⟩) n c) (xs.set k y) := by
  subst hn; exact h.set hk y
theorem set_grown (w : World) (g k : Nat) (y : Value) : w.grownBy (w.setCell ⟨g, k, none⟩ y) (some g) :=
  ⟨rfl, rfl, rfl, by simp, fun j _ hj => Below.heap_setCell w ⟨g, k, none⟩ y j (fun e => hj (by rw [e]))⟩
end
theorem info3 : (Try.prog.info? 3).map (fun i => (i.zero, i.size, i.bytes)) = some (some (.int .i64 0), 1, 8) := by kernel_rfl
/-- A number behind numbers. -/
theorem append_int {ops : Array Oper} {rest : List Oper} {o : Oper} {a : Act} {Q : Exit → Act → World → Prop} (w : World) (hgd : o.guard = none) (s x : Operand)
    (ho : o.op = .call { callee := .builtin .append, args := #[s, x], argTypes := #[31, 31] })
    (base : Nat) (v : Value) (l : List Int) (hs : a.eval s = v) (hown : OwnI w base v l) (q : Nat) (y : Int) (hx : a.eval x = .slice (some ⟨q, 0, none⟩) 1 1) (hb : Bk w q 3 #[.int .i64 y])
    (hn : l.length ≤ 1000000) (hbase : base ≤ w.heap.size)
    (h : ∀ v' w', OwnI w' base v' (l ++ [y]) → w.grownBy w' v.ownBlock → wpList Try.prog ops Q rest (a.put o.dst v') w') :
    wpList Try.prog ops Q (o :: rest) a w := by
  obtain ⟨i0, hi, hz0, hz1, hz2⟩ := info_parts info3
  refine wpList_append_own_at w hgd s x 31 ho base 3 i0 _ 1 8 Try.underlying31 hi hz0 hz1 hz2 rfl (by decide) _ l.length _ hs hown ⟨q, 0, none⟩ 1 1 [.int .i64 y] hx (by simp) ?_ ?_ (by unfold maxLen; omega) (by omega) hbase ?_
  · intro j u hj
    rw [caddr_add]
    exact hb.cell _ (by simpa using hj)
  · intro u hu
    simp at hu
    subst hu
    rfl
  · intro v' w' hown' hgrow hnn hbk
    refine h v' w' ?_ hgrow
    unfold OwnI
    simpa using hown'
end Go.Proofs.Ytbhdledlahbokaa
