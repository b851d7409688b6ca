/- The contract of One: what it recovers. -/
import Derived.Test.YtjbepojopfbajaaDInst2
import Derived.Defers
import Derived.Recover
import Derived.Laws.Pointers
namespace Go.Proofs.Ytjbepojopfbajaa
open Go.ChangeShapes Go.WideShapes Go.ChangeAt Go.RowKit
set_option linter.unusedVariables false
set_option linter.unusedSimpArgs false

theorem catch_idle (p q r : Addr) (w : World) :
    CallsD Try.prog 39 #[.pointer (some p), .pointer (some q), .pointer (some r)] .returning w fun e u' w' => e = .returned (.tuple #[]) ∧ u' = .returning ∧ w' = w := by
  refine callsD_of_wpS Try.func39 rfl fun c₀ cs hu => ?_
  apply wpS_seq
  apply wpS_region
  simp [wpOpsS, go_sem, recoverD, hu, Try.ntmps39, Exit.thenS]
  refine wpS_of_wp ?_
  go_wp2
  cases c₀
  simp_all [bodyPostS, results, Try.results39]

/-- No instruction, as its cells. -/
abbrev ZZ27 : Array Value := #[.int .i64 0, .int .i64 0, .int .i64 0, .int .i64 0, .int .i64 0, .int .i64 0, .int .i64 0, .int .i64 0, .bool false, .bool false, .int .i64 0, .string ⟨#[]⟩, .int .i64 0, .int .i64 0, .int .i64 0, .int .i64 0, .int .i64 0, .int .i64 0, .bool false, .bool false, .int .i64 0, .string ⟨#[]⟩, .int .i64 0, .bool false]

theorem wp_store1 {o : Oper} {a : Act} {w w' : World} {K : Act → World → Prop} {Q : Exit → Act → World → Prop} {t : TypeId} {x y : Operand} {p : Addr} {v : Value} (ho : o.op = .store t x y)
    (hx : a.eval x = .pointer (some p)) (hy : a.eval y = v) (hs : (storeVar t p v).run Try.prog w = .ok () w') (h : K (a.put o.dst undef) w') : o.wp Try.prog a w K Q := by
  unfold Oper.wp execOp
  simp only [ho, hx, hy, Instr.storeAt, Instr.sureAddr, Sem.run_bind, Sem.run_pure, Result.andThen_ok, hs]
  exact h
theorem size3 : (Try.prog.info? 3).map (·.size) = some 1 := by kernel_rfl
theorem sizeE : (Try.prog.info? 24).map (·.size) = some 1 := by kernel_rfl
theorem run_store1 {t : TypeId} (hi : (Try.prog.info? t).map (·.size) = some 1) {w : World} {p : Addr} {n m : Int} (hc : w.cell? p = some (.int .i64 m)) (hz : w.frozen? p = false) :
    (storeVar t p (.int .i64 n)).run Try.prog w = .ok () (w.setCell p (.int .i64 n)) := by
  cases hq : Try.prog.info? t with
  | none => simp [hq] at hi
  | some i =>
    have hs : i.size = 1 := by simpa [hq] using hi
    simp [storeVar, sizeOf, typeInfo, hq, hs, Value.cells, storeCells, Addr.add, go_sem, hc, hz]

set_option maxRecDepth 20000 in
theorem catch_panicking (ib nb eb : Nat) (n x y : Int) (older : List PanicEntry) (w : World) (hI : w.heap[ib]? = some zI.box) (hn : w.cell? ⟨nb, 0, none⟩ = some (.int .i64 x)) (he : w.cell? ⟨eb, 0, none⟩ = some (.int .i64 y)) (fn : w.frozen? ⟨nb, 0, none⟩ = false) (fe : w.frozen? ⟨eb, 0, none⟩ = false) (k1 : ¬ nb = ib) (k2 : ¬ eb = ib) (k3 : ¬ eb = nb) :
    CallsD Try.prog 39 #[.pointer (some ⟨ib, 0, none⟩), .pointer (some ⟨nb, 0, none⟩), .pointer (some ⟨eb, 0, none⟩)] (.panicking ({ v := .iface 24 (.int .i64 n), recovered := false } :: older)) w fun e u' w' =>
      e = .returned (.tuple #[]) ∧ u' = .panicking ({ v := .iface 24 (.int .i64 n), recovered := true } :: older) ∧ w' = ((w.drew.setRow ib ZZ27).setCell ⟨nb, 0, none⟩ (.int .i64 0)).setCell ⟨eb, 0, none⟩ (.int .i64 n) := by
  refine callsD_of_wpS Try.func39 rfl fun c₀ cs hu => ?_
  apply wpS_seq
  apply wpS_region
  simp [wpOpsS, go_sem, recoverD, hu, Try.ntmps39, Exit.thenS]
  rw [show (#[.pointer (some ⟨ib, 0, none⟩), .pointer (some ⟨nb, 0, none⟩), .pointer (some ⟨eb, 0, none⟩)] ++ ((Array.replicate 7 undef).setIfInBounds 1 (.iface 24 (.int .i64 n))).setIfInBounds 0 (.iface 24 (.int .i64 n)) : Array Value) =
    #[.pointer (some ⟨ib, 0, none⟩), .pointer (some ⟨nb, 0, none⟩), .pointer (some ⟨eb, 0, none⟩), .iface 24 (.int .i64 n), .iface 24 (.int .i64 n), undef, undef, undef, undef, undef] from rfl]
  refine wpS_of_wp ?_
  go_wp2
  refine wp_region_held_drew (S := fun _ => True) (by kernel_rfl) trivial (fun hS => ?_)
  refine wpAnyH_take (i := 0) (v := .agg #[.int .i64 0, .int .i64 0, .int .i64 0, .int .i64 0, .int .i64 0, .int .i64 0, .int .i64 0, .int .i64 0, .bool false, .bool false, .int .i64 0, .string ⟨#[]⟩, .int .i64 0, .int .i64 0, .int .i64 0, .int .i64 0, .int .i64 0, .int .i64 0, .bool false, .bool false, .int .i64 0, .string ⟨#[]⟩, .int .i64 0, .bool false]) rfl (by kernel_rfl) (by kernel_rfl) (by kernel_rfl) (fun _ _ _ h => h) (Or.inl ⟨by kernel_rfl, fun u hu => by kernel_rfl⟩) hS ?_
  simp only [Act.put, List.getElem_toArray, List.getElem_cons_succ, List.getElem_cons_zero, List.setIfInBounds_toArray, List.set_cons_zero, List.set_cons_succ]
  refine wpAnyH_take (i := 1) (v := .iface 24 (.int .i64 n)) rfl (by kernel_rfl) (by kernel_rfl) (by kernel_rfl) (fun _ _ _ h => h) (Or.inl ⟨by kernel_rfl, fun u hu => by kernel_rfl⟩) hS ?_
  simp only [Act.put, List.getElem_toArray, List.getElem_cons_succ, List.getElem_cons_zero, List.setIfInBounds_toArray, List.set_cons_zero, List.set_cons_succ]
  refine wpAnyH_take (i := 2) (v := .int .i64 n) rfl (by kernel_rfl) (by kernel_rfl) (by kernel_rfl) (fun _ _ _ h => h) (Or.inl ⟨by kernel_rfl, fun u hu => by kernel_rfl⟩) hS ?_
  simp only [Act.put, List.getElem_toArray, List.getElem_cons_succ, List.getElem_cons_zero, List.setIfInBounds_toArray, List.set_cons_zero, List.set_cons_succ]
  refine wpAnyH_ready (rs := [3]) (by kernel_rfl) (by simp) ?_
  refine AllReadyH.cons rfl (fun K hK => ?_) AllReadyH.nil
  simp only [List.getElem_toArray, List.getElem_cons_succ, List.getElem_cons_zero]
  refine wp_if (by kernel_rfl) ?_
  refine wp_store_row 56 _ _ rfl ib #[.int .i64 0, .int .i64 0, .int .i64 0, .int .i64 0, .int .i64 0, .int .i64 0, .int .i64 0, .int .i64 0, .bool false, .bool false, .int .i64 0, .string ⟨#[]⟩, .int .i64 0, .int .i64 0, .int .i64 0, .int .i64 0, .int .i64 0, .int .i64 0, .bool false, .bool false, .int .i64 0, .string ⟨#[]⟩, .int .i64 0, .bool false] (by kernel_rfl) (by kernel_rfl) 56 _ hI (by kernel_rfl) (by kernel_rfl) (by kernel_rfl) ?_
  refine hK.out _ _ trivial (fun _ => ?_)
  clear hK
  simp only [Act.put, List.getElem_toArray, List.getElem_cons_succ, List.getElem_cons_zero, List.setIfInBounds_toArray, List.set_cons_zero, List.set_cons_succ]
  have hn1 : (w.drew.setRow ib ZZ27).cell? ⟨nb, 0, none⟩ = some (.int .i64 x) := (cell_setRow_other _ _ _ _ k1).trans hn
  have fn1 : (w.drew.setRow ib ZZ27).frozen? ⟨nb, 0, none⟩ = false := (World.frozen?_of_block (w := w) (setRow_other _ _ _ _ k1)).trans fn
  have he1 : (w.drew.setRow ib ZZ27).cell? ⟨eb, 0, none⟩ = some (.int .i64 y) := (cell_setRow_other _ _ _ _ k2).trans he
  have fe1 : (w.drew.setRow ib ZZ27).frozen? ⟨eb, 0, none⟩ = false := (World.frozen?_of_block (w := w) (setRow_other _ _ _ _ k2)).trans fe
  change wpAnyH _ _ _ _ _ _ _ _ (w.drew.setRow ib ZZ27)
  generalize hv : w.drew.setRow ib ZZ27 = v at hn1 fn1 he1 fe1 ⊢
  refine wpAnyH_ready (rs := [4]) (by kernel_rfl) (by simp) ?_
  refine AllReadyH.cons rfl (fun K hK => ?_) AllReadyH.nil
  simp only [List.getElem_toArray, List.getElem_cons_succ, List.getElem_cons_zero]
  refine wp_if (by kernel_rfl) ?_
  refine wp_store1 (t := 3) (x := .tmp 1) (y := .const (.int .i64 0)) (p := ⟨nb, 0, none⟩) rfl (by kernel_rfl) (by kernel_rfl) (run_store1 (n := 0) size3 hn1 fn1) ?_
  refine hK.out _ _ trivial (fun _ => ?_)
  clear hK
  simp only [Act.put, List.getElem_toArray, List.getElem_cons_succ, List.getElem_cons_zero, List.setIfInBounds_toArray, List.set_cons_zero, List.set_cons_succ]
  have he2 : (v.setCell ⟨nb, 0, none⟩ (.int .i64 0)).cell? ⟨eb, 0, none⟩ = some (.int .i64 y) := (World.cell?_of_block (w := v) (Below.heap_setCell v ⟨nb, 0, none⟩ _ eb k3)).trans he1
  have fe2 : (v.setCell ⟨nb, 0, none⟩ (.int .i64 0)).frozen? ⟨eb, 0, none⟩ = false := (World.frozen?_setCell _ _ _ _).trans fe1
  refine wpAnyH_ready (rs := [5]) (by kernel_rfl) (by simp) ?_
  refine AllReadyH.cons rfl (fun K hK => ?_) AllReadyH.nil
  simp only [List.getElem_toArray, List.getElem_cons_succ, List.getElem_cons_zero]
  refine wp_if (by kernel_rfl) ?_
  refine wp_store1 (t := 24) (x := .tmp 2) (y := .tmp 9) (p := ⟨eb, 0, none⟩) rfl (by kernel_rfl) (by kernel_rfl) (run_store1 (n := n) sizeE he2 fe2) ?_
  refine hK.out _ _ trivial (fun _ => ?_)
  clear hK
  simp only [Act.put, List.getElem_toArray, List.getElem_cons_succ, List.getElem_cons_zero, List.setIfInBounds_toArray, List.set_cons_zero, List.set_cons_succ]
  refine wpAnyH_done (by kernel_rfl) ?_ _
  show bodyPostS Try.prog Try.f39 _ _ _ _ _ _ _
  rw [← hv]
  simp [bodyPostS, results, Try.results39]
end Go.Proofs.Ytjbepojopfbajaa
