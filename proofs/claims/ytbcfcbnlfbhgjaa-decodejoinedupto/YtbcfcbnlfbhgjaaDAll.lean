/- The contract of All. -/
import Derived.Test.YtbcfcbnlfbhgjaaDAllP
import Derived.Test.YtbcfcbnlfbhgjaaDKnows
import Derived.OwnWalk
import Derived.Laws.OwnMore
import Derived.Great.BuildSlice
namespace Go.Proofs.Ytbcfcbnlfbhgjaa
open Go.ChangeShapes Go.WideShapes Go.ChangeAt Go.RowKit
set_option linter.unusedVariables false
set_option linter.unusedSimpArgs false

/-- An instruction's cells. -/
def I.cells (i : I) : List Value := [.int .i64 i.op, .int .i64 i.sz, .int .i64 i.cd,
  .int .i64 i.to.k, .int .i64 i.to.r, .int .i64 i.to.b, .int .i64 i.to.x, .int .i64 i.to.s, .bool i.to.rip, .bool i.to.fs, .int .i64 i.to.n, .string i.to.nm, .int .i64 i.to.m,
  .int .i64 i.fr.k, .int .i64 i.fr.r, .int .i64 i.fr.b, .int .i64 i.fr.x, .int .i64 i.fr.s, .bool i.fr.rip, .bool i.fr.fs, .int .i64 i.fr.n, .string i.fr.nm, .int .i64 i.fr.m, .bool i.sh]
theorem val_cells (i : I) : i.val = .agg i.cells.toArray := rfl
theorem cells_len (i : I) : i.cells.length = 24 := rfl
theorem cells_one (i : I) : ∀ u ∈ i.cells, u.oneCell' = true := by
  intro u hu
  simp only [I.cells, List.mem_cons, List.not_mem_nil, or_false] at hu
  rcases hu with h | h | h | h | h | h | h | h | h | h | h | h | h | h | h | h | h | h | h | h | h | h | h | h <;> (rw [h]; rfl)

def instCells (P : List (I × Nat)) : List Value := P.flatMap fun p => p.1.cells
def instAts (P : List (I × Nat)) : List Value := P.map fun p => .int .i64 p.2

theorem info27 : (Try.prog.info? 27).map (fun i => (i.zero, i.size, i.bytes)) = some (some (.agg ZZ27), 24, 192) := by kernel_rfl
theorem info3 : (Try.prog.info? 3).map (fun i => (i.zero, i.size, i.bytes)) = some (some (.int .i64 0), 1, 8) := by kernel_rfl

theorem own_apart {w : World} {base e e' s s' n m : Nat} {v u : Value} {xs ys : List Value} (hne : e ≠ e') (h : w.ownsRow base e s v n xs) (g : w.ownsRow base e' s' u m ys) : u.ownBlock = none ∨ u.ownBlock ≠ v.ownBlock := by
  rcases g.2 with ⟨rfl, _⟩ | ⟨g2, c2, cur2, rfl, _, hg2, _⟩
  · exact .inl rfl
  · rcases h.2 with ⟨rfl, _⟩ | ⟨g1, c1, cur1, rfl, _, hg1, _⟩
    · exact .inr (by simp [Value.ownBlock])
    · refine .inr fun e => ?_
      simp only [Value.ownBlock, Option.some.injEq] at e
      subst e
      rw [hg1] at hg2
      simp only [Option.some.injEq, Obj.cells.injEq] at hg2
      exact hne hg2.2.1

theorem own_block {w : World} {base e s n : Nat} {v : Value} {xs : List Value} (h : w.ownsRow base e s v n xs) : ∀ k, v.ownBlock = some k → base ≤ k := fun k hk => (h.lt k hk).1

theorem append_inst {ops : Array Oper} {rest : List Oper} {o : Oper} {a : Act} {Q : Exit → Act → World → Prop} (w : World) (hgd : o.guard = none) (s x : Operand)
    (ho : o.op = .call { callee := .builtin .append, args := #[s, x], argTypes := #[37, 37] })
    (base : Nat) (v : Value) (P : List (I × Nat)) (hs : a.eval s = v) (hown : w.ownsRow base 27 24 v P.length (instCells P)) (i : I) (k : Nat) (V : Array Value) (hV : V = i.cells.toArray) (hx : a.eval x = .slice (some ⟨w.heap.size, 0, none⟩) 1 1)
    (hn : P.length ≤ 4194304) (hbase : base ≤ w.heap.size)
    (h : ∀ v' w', w'.ownsRow base 27 24 v' (P ++ [(i, k)]).length (instCells (P ++ [(i, k)])) → Below base w w' → (∀ u m xs, w.ownsRow base 3 1 u m xs → w'.ownsRow base 3 1 u m xs) → wpList Try.prog ops Q rest (a.put o.dst v') w') :
    wpList Try.prog ops Q (o :: rest) a (w.alloc (.cells V 27)) := by
  obtain ⟨i0, hi, hz0, hz1, hz2⟩ := info_parts info27
  have hP : instCells (P ++ [(i, k)]) = instCells P ++ i.cells := by simp [instCells]
  rw [List.length_append] at h
  rw [hP] at h
  clear hP
  refine wpList_append_own _ hgd s x 37 ho base 27 i0 (.agg ZZ27) 24 192 Try.underlying37 hi hz0 hz1 hz2 (by kernel_rfl) (by decide) v P.length _ hs (hown.alloc _) ⟨w.heap.size, 0, none⟩ 1 1 i.cells hx (by rw [cells_len]) ?_ (cells_one i) (by unfold maxLen; omega) (by omega) (by simp; omega) ?_
  · intro j u hj
    have hadd : (⟨w.heap.size, 0, none⟩ : Addr).add j = ⟨w.heap.size, j, none⟩ := by unfold Addr.add; split <;> simp_all
    rw [hadd, hV]
    simp only [World.cell?]
    rw [show (w.alloc (.cells i.cells.toArray 27)).heap[w.heap.size]? = some (.cells i.cells.toArray 27) from heap_alloc_last w _]
    simpa using hj
  · intro v' w' hown' hgrow _
    refine h v' w' hown' (((Below.refl base w).alloc hbase _).grown hgrow (by simp; omega) (own_block hown)) fun u m xs hu => ?_
    exact (hu.alloc _).kept hgrow (own_apart (by decide) (hown.alloc (.cells V 27)) (hu.alloc _))

theorem append_at {ops : Array Oper} {rest : List Oper} {o : Oper} {a : Act} {Q : Exit → Act → World → Prop} (w : World) (hgd : o.guard = none) (s x : Operand)
    (ho : o.op = .call { callee := .builtin .append, args := #[s, x], argTypes := #[38, 38] })
    (base : Nat) (v : Value) (xs : List Value) (hs : a.eval s = v) (hown : w.ownsRow base 3 1 v xs.length xs) (k : Int) (hx : a.eval x = .slice (some ⟨w.heap.size, 0, none⟩) 1 1)
    (hn : xs.length ≤ 4194304) (hbase : base ≤ w.heap.size)
    (h : ∀ v' w', w'.ownsRow base 3 1 v' (xs ++ [Value.int .i64 k]).length (xs ++ [Value.int .i64 k]) → Below base w w' → (∀ u m ys, w.ownsRow base 27 24 u m ys → w'.ownsRow base 27 24 u m ys) → wpList Try.prog ops Q rest (a.put o.dst v') w') :
    wpList Try.prog ops Q (o :: rest) a (w.alloc (.cells #[.int .i64 k] 3)) := by
  obtain ⟨i0, hi, hz0, hz1, hz2⟩ := info_parts info3
  rw [List.length_append] at h
  refine wpList_append_own _ hgd s x 38 ho base 3 i0 (.int .i64 0) 1 8 Try.underlying38 hi hz0 hz1 hz2 rfl (by decide) v xs.length _ hs (hown.alloc _) ⟨w.heap.size, 0, none⟩ 1 1 [.int .i64 k] hx rfl ?_ ?_ (by unfold maxLen; omega) (by omega) (by simp; omega) ?_
  · intro j u hj
    match j, hj with
    | 0, hj => simp at hj; subst hj; simp [Addr.add]
  · intro u hu; simp at hu; subst hu; rfl
  · intro v' w' hown' hgrow _
    refine h v' w' hown' (((Below.refl base w).alloc hbase _).grown hgrow (by simp; omega) (own_block hown)) fun u m ys hu => ?_
    exact (hu.alloc _).kept hgrow (own_apart (by decide) (hown.alloc (.cells #[.int .i64 k] 3)) (hu.alloc _))

theorem build_inst (i : I) (w : World) : (Instr.buildSlice 37 1 #[(0, i.val)]).run Try.prog w = .ok (.slice (some ⟨w.heap.size, 0, none⟩) 1 1) (w.alloc (.cells i.cells.toArray 27)) := by kernel_rfl
end Go.Proofs.Ytbcfcbnlfbhgjaa
