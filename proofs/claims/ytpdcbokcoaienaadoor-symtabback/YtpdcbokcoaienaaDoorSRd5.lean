/- bytes.Equal; what Read recovers. -/
import Derived.Test.YtpdcbokcoaienaaDoorSRd4
import Derived.Defers
import Derived.Recover
import Derived.Laws.Pointers
namespace Go.Proofs.YtpdcbokcoaienaaDoor
open Go.ChangeShapes Go.WideShapes Go.ChangeAt Go.RowKit
set_option linter.unusedVariables false
set_option linter.unusedSimpArgs false

theorem equal_any (v1 v2 : Value) (s1 s2 : ByteArray) (w : World) (h1 : Sem.run Tryd.prog (convert 24 9 v1) w = .ok (.string s1) w) (h2 : Sem.run Tryd.prog (convert 24 9 v2) w = .ok (.string s2) w) :
    Calls Tryd.prog 34 #[v1, v2] w fun e w' => e = .returned (.bool (s1.toList == s2.toList)) ∧ w' = w := by
  go_enter Tryd.func34, Tryd.ntmps34
  go_wp2
  go_ret
  exact ⟨rfl, rfl⟩

theorem catch_idle (p q : Addr) (w : World) :
    CallsD Tryd.prog 31 #[.pointer (some p), .pointer (some q)] .returning w fun e u' w' => e = .returned (.tuple #[]) ∧ u' = .returning ∧ w' = w := by
  refine callsD_of_wpS Tryd.func31 rfl fun c₀ cs hu => ?_
  apply wpS_seq
  apply wpS_region
  simp [wpOpsS, go_sem, recoverD, hu, Tryd.ntmps31, Exit.thenS]
  refine wpS_of_wp ?_
  go_wp2
  cases c₀
  simp_all [bodyPostS, results, Tryd.results31]

theorem wp_store1 {o : Oper} {a : Act} {w w' : World} {K : Act → World → Prop} {Q : Exit → Act → World → Prop} {t : TypeId} {x y : Operand} {p : Addr} {v : Value} (ho : o.op = .store t x y)
    (hx : a.eval x = .pointer (some p)) (hy : a.eval y = v) (hs : (storeVar t p v).run Tryd.prog w = .ok () w') (h : K (a.put o.dst undef) w') : o.wp Tryd.prog a w K Q := by
  unfold Oper.wp execOp
  simp only [ho, hx, hy, Instr.storeAt, Instr.sureAddr, Sem.run_bind, Sem.run_pure, Result.andThen_ok, hs]
  exact h
theorem sizeE : (Tryd.prog.info? 25).map (·.size) = some 1 := by kernel_rfl
theorem sizeL : (Tryd.prog.info? 22).map (·.size) = some 1 := by kernel_rfl
theorem run_store1 {t : TypeId} (hi : (Tryd.prog.info? t).map (·.size) = some 1) {w : World} {p : Addr} {n m : Int} (hc : w.cell? p = some (.int .i64 m)) (hz : w.frozen? p = false) :
    (storeVar t p (.int .i64 n)).run Tryd.prog w = .ok () (w.setCell p (.int .i64 n)) := by
  cases hq : Tryd.prog.info? t with
  | none => simp [hq] at hi
  | some i =>
    have hs : i.size = 1 := by simpa [hq] using hi
    simp [storeVar, sizeOf, typeInfo, hq, hs, Value.cells, storeCells, Addr.add, go_sem, hc, hz]
theorem run_storeL {t : TypeId} (hi : (Tryd.prog.info? t).map (·.size) = some 1) {w : World} {p : Addr} {a b : Option Addr} {n m c d : Nat} (hc : w.cell? p = some (.slice a n c)) (hz : w.frozen? p = false) :
    (storeVar t p (.slice b m d)).run Tryd.prog w = .ok () (w.setCell p (.slice b m d)) := by
  cases hq : Tryd.prog.info? t with
  | none => simp [hq] at hi
  | some i =>
    have hs : i.size = 1 := by simpa [hq] using hi
    simp [storeVar, sizeOf, typeInfo, hq, hs, Value.cells, storeCells, Addr.add, go_sem, hc, hz]

set_option maxRecDepth 20000 in
theorem catch_bad (lb eb : Nat) (a : Option Addr) (n c : Nat) (y : Int) (older : List PanicEntry) (w : World) (hl : w.cell? ⟨lb, 0, none⟩ = some (.slice a n c)) (he : w.cell? ⟨eb, 0, none⟩ = some (.int .i64 y)) (fl : w.frozen? ⟨lb, 0, none⟩ = false) (fe : w.frozen? ⟨eb, 0, none⟩ = false) (k : eb ≠ lb) :
    CallsD Tryd.prog 31 #[.pointer (some ⟨lb, 0, none⟩), .pointer (some ⟨eb, 0, none⟩)] (.panicking ({ v := .iface 25 (.int .i64 80), recovered := false } :: older)) w fun e u' w' =>
      e = .returned (.tuple #[]) ∧ u' = .panicking ({ v := .iface 25 (.int .i64 80), recovered := true } :: older) ∧ w' = ((w.setCell ⟨lb, 0, none⟩ (.slice none 0 0)).setCell ⟨eb, 0, none⟩ (.int .i64 80)).drew := by
  refine callsD_of_wpS Tryd.func31 rfl fun c₀ cs hu => ?_
  apply wpS_seq
  apply wpS_region
  simp [wpOpsS, go_sem, recoverD, hu, Tryd.ntmps31, Exit.thenS]
  rw [show (#[.pointer (some ⟨lb, 0, none⟩), .pointer (some ⟨eb, 0, none⟩)] ++ ((Array.replicate 6 undef).setIfInBounds 1 (.iface 25 (.int .i64 80))).setIfInBounds 0 (.iface 25 (.int .i64 80)) : Array Value) =
    #[.pointer (some ⟨lb, 0, none⟩), .pointer (some ⟨eb, 0, none⟩), .iface 25 (.int .i64 80), .iface 25 (.int .i64 80), undef, undef, undef, undef] from rfl]
  refine wpS_of_wp ?_
  go_wp2
  refine wp_region_held_drew (S := fun _ => True) (by kernel_rfl) trivial (fun hS => ?_)
  refine wpAnyH_take (i := 0) (v := .iface 25 (.int .i64 80)) rfl (by kernel_rfl) (by kernel_rfl) (by kernel_rfl) (fun _ _ _ h => h) (Or.inl ⟨by kernel_rfl, fun u hu => by kernel_rfl⟩) hS ?_
  simp only [Act.put, List.getElem_toArray, List.getElem_cons_succ, List.getElem_cons_zero, List.setIfInBounds_toArray, List.set_cons_zero, List.set_cons_succ]
  refine wpAnyH_take (i := 1) (v := .int .i64 80) rfl (by kernel_rfl) (by kernel_rfl) (by kernel_rfl) (fun _ _ _ h => h) (Or.inl ⟨by kernel_rfl, fun u hu => by kernel_rfl⟩) hS ?_
  simp only [Act.put, List.getElem_toArray, List.getElem_cons_succ, List.getElem_cons_zero, List.setIfInBounds_toArray, List.set_cons_zero, List.set_cons_succ]
  refine wpAnyH_ready (rs := [2]) (by kernel_rfl) (by simp) ?_
  refine AllReadyH.cons rfl (fun K hK => ?_) AllReadyH.nil
  simp only [List.getElem_toArray, List.getElem_cons_succ, List.getElem_cons_zero]
  refine wp_if (by kernel_rfl) ?_
  refine wp_store1 (v := .slice none 0 0) (t := 22) (x := .tmp 0) (y := .const (.slice none 0 0)) (p := ⟨lb, 0, none⟩) rfl (by kernel_rfl) (by kernel_rfl) (run_storeL (w := w.drew) (b := none) (m := 0) (d := 0) sizeL hl fl) ?_
  refine hK.out _ _ trivial (fun _ => ?_)
  clear hK
  simp only [Act.put, List.getElem_toArray, List.getElem_cons_succ, List.getElem_cons_zero, List.setIfInBounds_toArray, List.set_cons_zero, List.set_cons_succ]
  have he2 : (w.drew.setCell ⟨lb, 0, none⟩ (.slice none 0 0)).cell? ⟨eb, 0, none⟩ = some (.int .i64 y) := (World.cell?_of_block (w := w) (Below.heap_setCell w.drew ⟨lb, 0, none⟩ _ eb k)).trans he
  have fe2 : (w.drew.setCell ⟨lb, 0, none⟩ (.slice none 0 0)).frozen? ⟨eb, 0, none⟩ = false := (World.frozen?_setCell _ _ _ _).trans fe
  refine wpAnyH_ready (rs := [3]) (by kernel_rfl) (by simp) ?_
  refine AllReadyH.cons rfl (fun K hK => ?_) AllReadyH.nil
  simp only [List.getElem_toArray, List.getElem_cons_succ, List.getElem_cons_zero]
  refine wp_if (by kernel_rfl) ?_
  refine wp_store1 (t := 25) (x := .tmp 1) (y := .tmp 7) (p := ⟨eb, 0, none⟩) rfl (by kernel_rfl) (by kernel_rfl) (run_store1 (n := 80) sizeE he2 fe2) ?_
  refine hK.out _ _ trivial (fun _ => ?_)
  clear hK
  simp only [Act.put, List.getElem_toArray, List.getElem_cons_succ, List.getElem_cons_zero, List.setIfInBounds_toArray, List.set_cons_zero, List.set_cons_succ]
  refine wpAnyH_done (by kernel_rfl) ?_ _
  show bodyPostS Tryd.prog Tryd.f31 _ _ _ _ _ _ _
  simp [bodyPostS, results, Tryd.results31]
  rfl

theorem res_read (tmps : Array Value) (w : World) (lb eb : Nat) (a : Option Addr) (n c : Nat) (e : Int) (hp : tmps.getD 8 undef = .pointer (some ⟨lb, 0, none⟩)) (hq : tmps.getD 9 undef = .pointer (some ⟨eb, 0, none⟩))
    (hl : w.cell? ⟨lb, 0, none⟩ = some (.slice a n c)) (he : w.cell? ⟨eb, 0, none⟩ = some (.int .i64 e)) :
    (results Tryd.f13 tmps).run Tryd.prog w = .ok (.tuple #[.slice a n c, .int .i64 e]) w := by
  have hp' : tmps[8]?.getD undef = .pointer (some ⟨lb, 0, none⟩) := by simpa using hp
  have hq' : tmps[9]?.getD undef = .pointer (some ⟨eb, 0, none⟩) := by simpa using hq
  have l1 : (loadVar 22 ⟨lb, 0, none⟩).run Tryd.prog w = .ok (.slice a n c) w := by simp [loadVar, isAgg, run_underlying Tryd.underlying22, go_sem, hl]
  have l2 : (loadVar 25 ⟨eb, 0, none⟩).run Tryd.prog w = .ok (.int .i64 e) w := by simp [loadVar, isAgg, run_underlying ((show Tryd.prog.underlying 25 = Tryd.prog.underlying 3 by kernel_rfl).trans Tryd.underlying3), go_sem, he]
  simp [results, Tryd.results13, hp', hq', asAddr, l1, l2]
end Go.Proofs.YtpdcbokcoaienaaDoor
