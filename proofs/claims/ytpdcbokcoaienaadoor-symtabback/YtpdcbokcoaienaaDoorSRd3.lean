/- The contract of the reader's symbol. -/
import Derived.Test.YtpdcbokcoaienaaDoorSRd2
import Derived.OwnWalk
import Derived.Laws.Tables
import Derived.Deep.RegionHeld3
namespace Go.Proofs.YtpdcbokcoaienaaDoor
open Go.ChangeShapes Go.WideShapes Go.ChangeAt Go.RowKit
set_option linter.unusedVariables false
set_option linter.unusedSimpArgs false

theorem keyK : ∀ k, k < 6 → (k = 0 ∧ fs k = 4) ∨ (k = 1 ∧ fs k = 1) ∨ (k = 2 ∧ fs k = 1) ∨ (k = 3 ∧ fs k = 2) ∨ (k = 4 ∧ fs k = 8) ∨ (k = 5 ∧ fs k = 8) := by decide
theorem fo_le : ∀ k, k ≤ 6 → fo k ≤ 24 := by decide

theorem ixK (k : Nat) (hk : k < 6) (w : World) : (Instr.index 78 (.agg #[.int .i64 4, .int .i64 1, .int .i64 1, .int .i64 2, .int .i64 8, .int .i64 8]) (.int .i64 k)).run Tryd.prog w = .ok (.int .i64 (fs k : Nat)) w := by
  rcases keyK k hk with ⟨rfl, h⟩ | ⟨rfl, h⟩ | ⟨rfl, h⟩ | ⟨rfl, h⟩ | ⟨rfl, h⟩ | ⟨rfl, h⟩ <;> rw [h]
  · exact ix6_0 4 1 1 2 8 8 w
  · exact ix6_1 4 1 1 2 8 8 w
  · exact ix6_2 4 1 1 2 8 8 w
  · exact ix6_3 4 1 1 2 8 8 w
  · exact ix6_4 4 1 1 2 8 8 w
  · exact ix6_5 4 1 1 2 8 8 w

theorem heap_alloc_last (w : World) (o : Obj) : (w.alloc o).heap[w.heap.size]? = some o := by
  show (w.heap.push o)[w.heap.size]? = _
  simp
theorem fz_new (w : World) (cs : Array Value) (t : TypeId) (j : Nat) : (w.alloc (.cells cs t)).frozen? ⟨w.heap.size, j, none⟩ = false := by
  simp only [World.frozen?]
  rw [heap_alloc_last]
  simp
theorem fz_two (w : World) (c1 c2 : Array Value) (t1 t2 : TypeId) (j : Nat) : ((w.alloc (.cells c1 t1)).alloc (.cells c2 t2)).frozen? ⟨w.heap.size + 1, j, none⟩ = false := by
  have := fz_new (w.alloc (.cells c1 t1)) c2 t2 j
  rw [show (w.alloc (.cells c1 t1)).heap.size = w.heap.size + 1 from by simp] at this
  exact this

theorem wp_if {c : Prop} [Decidable c] {p q : Prop} (hc : c) (h : p) : if c then p else q := by rw [if_pos hc]; exact h
theorem wp_enter_panics {o : Oper} {a : Act} {w : World} {K : Act → World → Prop} {Q : Exit → Act → World → Prop} {f : FuncId} {args : Array Value} {ch : List PanicEntry}
    (hx : (execOp a.eval o).run Tryd.prog w = .ok (.enter f args) w) (hc : Calls Tryd.prog f args w fun e w' => e = .panicked ch ∧ w' = w) (h : Q (.panic ch) a w) : o.wp Tryd.prog a w K Q := by
  unfold Oper.wp
  rw [hx, Oper.upon_enter]
  refine hc.mono ?_
  rintro e w' ⟨rfl, rfl⟩
  exact h
theorem wp_enter {o : Oper} {a : Act} {w : World} {K : Act → World → Prop} {Q : Exit → Act → World → Prop} {f : FuncId} {args : Array Value} {R : Ending → World → Prop}
    (hx : (execOp a.eval o).run Tryd.prog w = .ok (.enter f args) w) (hc : Calls Tryd.prog f args w R) (h : ∀ e w', R e w' → ∃ v, e = .returned v ∧ K (a.put o.dst v) w') : o.wp Tryd.prog a w K Q := by
  unfold Oper.wp
  rw [hx, Oper.upon_enter]
  refine hc.mono ?_
  intro e w' hr
  obtain ⟨v, rfl, hk⟩ := h e w' hr
  exact hk
theorem exec_load3 {o : Oper} {a : Act} {w : World} {x : Operand} {p : Addr} {n : Int} (ho : o.op = .load 3 x) (hx : a.eval x = .pointer (some p)) (hc : w.cell? p = some (.int .i64 n)) :
    (execOp a.eval o).run Tryd.prog w = .ok (.value (.int .i64 n)) w := by
  have hl : (loadVar 3 p).run Tryd.prog w = .ok (.int .i64 n) w := by simp [loadVar, isAgg, run_underlying Tryd.underlying3, go_sem, hc]
  unfold execOp
  simp only [ho, hx, Instr.loadAt, Instr.sureAddr, Sem.run_bind, Sem.run_pure, Result.andThen_ok, hl]

abbrev zSym : Array Value := #[.string ⟨#[]⟩, .string ⟨#[]⟩, .int .i64 0, .int .i64 0, .int .i64 0, .int .i64 0]

theorem res_sym (tmps : Array Value) (w : World) (R : Nat) (cs : Array Value) (hp : tmps.getD 2 undef = .pointer (some ⟨R, 0, none⟩)) (hI : w.heap[R]? = some (.cells cs 43 (0, 0))) (hs : cs.size = 6) :
    (results Tryd.f46 tmps).run Tryd.prog w = .ok (.agg cs) w := by
  have hp' : tmps[2]?.getD undef = .pointer (some ⟨R, 0, none⟩) := by simpa using hp
  have l1 := run_loadVar_row (P := Tryd.prog) w R 43 43 cs (0, 0) _ hI Tryd.underlying43 rfl (by rw [hs]; kernel_rfl)
  simp [results, Tryd.results46, hp', asAddr, l1]

set_option maxHeartbeats 4000000 in
set_option maxRecDepth 10000 in
theorem symbol_any {w0 w : World} {rb : Nat} {I : In} {a : Nat} (h : RD w0 w rb I a) (hi : InOk w0 I) (hf : Fz w0) (ha : a ≤ 1048576) :
    Calls Tryd.prog 46 #[.pointer (some ⟨rb, 0, none⟩)] w fun e w' => SymEnds (symF I a) w0 rb I a w e w' := by
  have HR : Hid _ := ⟨h⟩
  have HI : Hid _ := ⟨hi⟩
  have hFz := hf.bel h.bel hf.z
  obtain ⟨_, z0, z1, z2, z3, z4, z5⟩ := hFz
  have hrb := h.lt
  have hlo := h.lo
  have hw0 := h.bel.size
  clear h hi hf
  obtain ⟨M, HM⟩ : ∃ M, Hid (symF I a = M) := ⟨_, ⟨rfl⟩⟩
  rw [HM.out]
  go_enter Tryd.func46, Tryd.ntmps46
  go_wp2
  clear z0 z1 z2 z3 z4 z5
  have A2 : Turn (fun k => k = rb) w ((w.alloc (.cells zSym 43)).alloc (.cells #[.int .i64 0, .int .i64 0, .int .i64 0, .int .i64 0, .int .i64 0, .int .i64 0] 78)) := ((Turn.refl _ w).alloc _).alloc _
  have R2 : RD w0 ((w.alloc (.cells zSym 43)).alloc (.cells #[.int .i64 0, .int .i64 0, .int .i64 0, .int .i64 0, .int .i64 0, .int .i64 0] 78)) rb I a := HR.out.below (((Below.refl _ _).alloc (Nat.le_refl _) _).alloc (by simp) _)
  have F2 : FD ((w.alloc (.cells zSym 43)).alloc (.cells #[.int .i64 0, .int .i64 0, .int .i64 0, .int .i64 0, .int .i64 0, .int .i64 0] 78)) (w.heap.size + 1) (fN I a) 0 := by
    refine ⟨fun j hj => ?_, fun j => ?_⟩
    · rcases (show j = 0 ∨ j = 1 ∨ j = 2 ∨ j = 3 ∨ j = 4 ∨ j = 5 by omega) with rfl | rfl | rfl | rfl | rfl | rfl <;> simp [go_sem]
    · exact fz_two w _ _ _ _ j
  have X2 : ((w.alloc (.cells zSym 43)).alloc (.cells #[.int .i64 0, .int .i64 0, .int .i64 0, .int .i64 0, .int .i64 0, .int .i64 0] 78)).heap[w.heap.size]? = some (.cells zSym 43) := by
    rw [Below.heap_alloc _ _ _ (by simp)]; exact heap_alloc_last w _
  have HA2 : Hid _ := ⟨A2⟩
  have HR2 : Hid _ := ⟨R2⟩
  have HF2 : Hid _ := ⟨F2⟩
  have HX2 : Hid _ := ⟨X2⟩
  clear A2 R2 F2 X2 HR
  go_loopw [7] (fun i wr => ∃ k : Nat, k ≤ 6 ∧ i = .int .i64 k ∧ (k = 0 ∨ a + fo k ≤ I.n1) ∧ Hid (RD w0 wr rb I (a + fo k)) ∧ Hid (FD wr (w.heap.size + 1) (fN I a) k) ∧ Hid (wr.heap[w.heap.size]? = some (.cells zSym 43)) ∧ Hid (Turn (fun k => k = rb) w wr)) (fun i _ => 6 - (intOf i).toNat)
  case atStart => exact ⟨0, by omega, rfl, .inl rfl, HR2, HF2, HX2, HA2⟩
  case round =>
    obtain ⟨k, hk, rfl, hle, HRD, HFD, HX, HT⟩ := hrel
    by_cases hlt : k < 6
    · have hix := ixK k hlt
      have j0 : (0 : Int) ≤ (k : Int) := by omega
      have j6 : (k : Int) < 6 := by omega
      have hsz := fs_size k hlt
      have hfo := fo_succ k hlt
      have hf24 := fo_le k hk
      have hf24' := fo_le (k + 1) (by omega)
      have hnF : ¬ (w.heap.size + 1 = rb) := by omega
      have hnR : ¬ (w.heap.size = rb) := by omega
      have hltR : w.heap.size < wr.heap.size := by
        have := World.block_lt_of_cell? wr ⟨w.heap.size + 1, 0, none⟩ (HFD.out.c 0 (by omega))
        simp at this; omega
      by_cases hin : a + fo k + fs k ≤ I.n1
      · have NK := number_ok HRD.out HI.out (fs k) hsz hin
        have HNK : Hid _ := ⟨NK⟩
        have hN : wrap64 (bacc I.f1 (a + fo k) (fs k)) = fN I a k := rfl
        have HK2 : Hid (a + fo (k + 1) ≤ I.n1 ∧ a + fo (k + 1) = a + fo k + fs k) := ⟨by omega, by omega⟩
        rw [hN] at HNK
        clear NK hN hfo hf24 hf24' hsz hle hin
        generalize fs k = s at *
        have HCN : Hid (∀ u, Turn (fun k => k = rb) wr u → u.cell? ⟨w.heap.size + 1, k, none⟩ = some (.int .i64 0) ∧ u.frozen? ⟨w.heap.size + 1, k, none⟩ = false) := ⟨fun u hu => ⟨by have := (HFD.out.turn hu hnF).c k hlt; simpa using this, (HFD.out.turn hu hnF).fz k⟩⟩
        have HGO : Hid (∀ u, Turn (fun k => k = rb) wr u → RD w0 u rb I (a + fo k + s) → ∃ k2 : Nat, k2 ≤ 6 ∧ (.int .i64 ((k : Int) + 1) : Value) = .int .i64 k2 ∧ (k2 = 0 ∨ a + fo k2 ≤ I.n1) ∧ Hid (RD w0 (u.setCell ⟨w.heap.size + 1, k, none⟩ (.int .i64 (fN I a k))) rb I (a + fo k2)) ∧ Hid (FD (u.setCell ⟨w.heap.size + 1, k, none⟩ (.int .i64 (fN I a k))) (w.heap.size + 1) (fN I a) k2) ∧ Hid ((u.setCell ⟨w.heap.size + 1, k, none⟩ (.int .i64 (fN I a k))).heap[w.heap.size]? = some (.cells zSym 43)) ∧ Hid (Turn (fun k => k = rb) w (u.setCell ⟨w.heap.size + 1, k, none⟩ (.int .i64 (fN I a k))))) := ⟨fun u hu hr => by
          have tS : Turn (fun k => k = w.heap.size + 1) u (u.setCell ⟨w.heap.size + 1, k, none⟩ (.int .i64 (fN I a k))) := Turn.setCell (S := fun k => k = w.heap.size + 1) (Turn.refl _ _) ⟨w.heap.size + 1, k, none⟩ rfl _
          refine ⟨k + 1, by omega, by simp, .inr HK2.out.1, ⟨?_⟩, ⟨(HFD.out.turn hu hnF).set hlt _ rfl⟩, ⟨?_⟩, ⟨?_⟩⟩
          · rw [HK2.out.2]; exact hr.turn tS (fun e => hnF e.symm) (fun k e => by omega)
          · rw [tS.block w.heap.size (Nat.lt_of_lt_of_le hltR hu.size) (by omega), hu.block w.heap.size hltR hnR]; exact HX.out
          · exact (HT.out.trans hu).trans' tS (fun i hi e => by omega)⟩
        generalize fN I a k = z at *
        clear HFD HRD HX HT HK2
        go_wp2_with (go_at_call 58; (with_reducible refine HNK.out.mono ?_); rintro e u ⟨rfl, hr, hu⟩; obtain ⟨x1, x2⟩ := HCN.out _ hu)
        go_roundw
        case rel => exact HGO.out _ hu hr
        case measure => simp [intOf]; omega
      · have NK := number_bad HRD.out HI.out (fs k) hsz (by omega) (by omega)
        have HNK : Hid _ := ⟨NK⟩
        have hM : M = none := by rw [← HM.out]; unfold symF; rw [if_neg (by omega)]
        subst hM
        clear NK hfo hf24 hf24' hsz hle hin HFD HRD HX
        generalize fs k = s at *
        go_wp2_with (go_at_call 58; (with_reducible refine HNK.out.mono ?_); rintro e u ⟨rfl, hu⟩)
        exact ⟨rfl, rfl, HT.out.trans hu⟩
    · obtain rfl : k = 6 := by omega
      have hin : a + 24 ≤ I.n1 := by
        rcases hle with h | h
        · cases h
        · exact h
      have hM : symM I a = M := by rw [← HM.out]; unfold symF; rw [if_pos hin]
      have AO := atP_ok I.n2 I.f2 (fN I a 0) HI.out.b2 (by have := HI.out.t2; omega)
      unfold symM at hM
      have f0 := HFD.out.c 0 (by omega)
      have f1 := HFD.out.c 1 (by omega)
      have f3 := HFD.out.c 3 (by omega)
      have f4 := HFD.out.c 4 (by omega)
      have f5 := HFD.out.c 5 (by omega)
      simp only [show (0 < 6) = True from by simp, show (1 < 6) = True from by simp, show (3 < 6) = True from by simp, show (4 < 6) = True from by simp, show (5 < 6) = True from by simp, if_true] at f0 f1 f3 f4 f5
      have hR : ∀ j, wr.drew.cell? ⟨w.heap.size, j, none⟩ = zSym[j]? := fun j => by
        show wr.cell? _ = _
        simp only [World.cell?]; rw [HX.out]
        simp
      have hRf : ∀ j, wr.drew.frozen? ⟨w.heap.size, j, none⟩ = false := fun j => by
        show wr.frozen? _ = _
        simp only [World.frozen?]; rw [HX.out]; simp
      have q0 : wr.drew.cell? ⟨w.heap.size, 0, none⟩ = some (.string ⟨#[]⟩) := hR 0
      have q1 : wr.drew.cell? ⟨w.heap.size, 1, none⟩ = some (.string ⟨#[]⟩) := hR 1
      have q2 : wr.drew.cell? ⟨w.heap.size, 2, none⟩ = some (.int .i64 0) := hR 2
      have q3 : wr.drew.cell? ⟨w.heap.size, 3, none⟩ = some (.int .i64 0) := hR 3
      have q4 : wr.drew.cell? ⟨w.heap.size, 4, none⟩ = some (.int .i64 0) := hR 4
      have q5 : wr.drew.cell? ⟨w.heap.size, 5, none⟩ = some (.int .i64 0) := hR 5
      have g0 := hRf 0; have g1 := hRf 1; have g2 := hRf 2; have g3 := hRf 3; have g4 := hRf 4; have g5 := hRf 5
      have hN3 : 0 ≤ fN I a 3 ∧ fN I a 3 < 65536 := by
        have := bacc_in I.f1 HI.out.b1 (a + fo 3) 2
        have e : fN I a 3 = wrap64 (bacc I.f1 (a + fo 3) 2) := rfl
        rw [e]; unfold wrap64; omega
      obtain ⟨p, hp⟩ : ∃ p, atP I.n2 I.f2 (fN I a 0) = p := ⟨_, rfl⟩
      rw [hp] at AO hM
      obtain ⟨nm, g⟩ := p
      have HNM : Hid _ := ⟨AO.2.1 I.a2 I.k2 wr.drew (HI.out.r2.below HRD.out.drew.bel (Nat.le_refl _)) HI.out.fit2 HI.out.top2⟩
      have HRD2 : Hid _ := ⟨HRD.out.drew⟩
      have f0' : wr.drew.cell? ⟨w.heap.size + 1, 0, none⟩ = _ := f0
      have f1' : wr.drew.cell? ⟨w.heap.size + 1, 1, none⟩ = _ := f1
      have f3' : wr.drew.cell? ⟨w.heap.size + 1, 3, none⟩ = _ := f3
      have f4' : wr.drew.cell? ⟨w.heap.size + 1, 4, none⟩ = _ := f4
      have f5' : wr.drew.cell? ⟨w.heap.size + 1, 5, none⟩ = _ := f5
      generalize fN I a 0 = n0 at *
      generalize fN I a 1 = n1 at *
      generalize fN I a 3 = n3 at *
      generalize fN I a 4 = n4 at *
      generalize fN I a 5 = n5 at *
      have HXd : Hid (wr.drew.heap[w.heap.size]? = some (.cells zSym 43)) := ⟨HX.out⟩
      clear f0 f1 f3 f4 f5 hR hRf AO hp hle HFD HRD HX q0 q1 q2 q3 q4 q5 g0 g1 g2 g3 g4 g5
      go_wp2
      cases hg : g == 0
      · have hM' : M = none := by rw [← hM, if_neg (by simpa using hg)]
        subst hM'
        clear hM
        refine wp_region_held_drew (S := fun u => u.cell? ⟨w.heap.size + 1, 0, none⟩ = some (.int .i64 n0) ∧ u.cell? ⟨w.heap.size + 1, 1, none⟩ = some (.int .i64 n1) ∧ u.cell? ⟨w.heap.size + 1, 3, none⟩ = some (.int .i64 n3) ∧ u.cell? ⟨w.heap.size + 1, 4, none⟩ = some (.int .i64 n4) ∧ u.cell? ⟨w.heap.size + 1, 5, none⟩ = some (.int .i64 n5)) (by kernel_rfl) ⟨f0', f1', f3', f4', f5'⟩ (fun hH => ?_)
        refine wpAnyH_take (i := 0) (v := .pointer (some ⟨rb, 0, none⟩)) rfl (by kernel_rfl) (by kernel_rfl) (by kernel_rfl) (fun _ _ _ h => h) (Or.inl ⟨by kernel_rfl, fun u hu => by kernel_rfl⟩) hH ?_
        simp only [Act.put, List.getElem_toArray, List.getElem_cons_succ, List.getElem_cons_zero, List.setIfInBounds_toArray, List.set_cons_zero, List.set_cons_succ]
        refine wpAnyH_take (i := 1) (v := .pointer (some ⟨w.heap.size + 1, 0, none⟩)) rfl (by kernel_rfl) (by kernel_rfl) (by kernel_rfl) (fun _ _ _ h => h) (Or.inl ⟨by kernel_rfl, fun u hu => by kernel_rfl⟩) hH ?_
        simp only [Act.put, List.getElem_toArray, List.getElem_cons_succ, List.getElem_cons_zero, List.setIfInBounds_toArray, List.set_cons_zero, List.set_cons_succ]
        refine wpAnyH_take (i := 2) (v := .int .i64 n0) rfl (by kernel_rfl) (by kernel_rfl) (by kernel_rfl) (fun _ _ _ h => h) (Or.inl ⟨by kernel_rfl, fun u hu => exec_load3 (x := .tmp 18) (p := ⟨w.heap.size + 1, 0, none⟩) rfl (by kernel_rfl) hu.1⟩) hH ?_
        simp only [Act.put, List.getElem_toArray, List.getElem_cons_succ, List.getElem_cons_zero, List.setIfInBounds_toArray, List.set_cons_zero, List.set_cons_succ]
        refine wpAnyH_take (i := 4) (v := .pointer (some ⟨w.heap.size + 1, 1, none⟩)) rfl (by kernel_rfl) (by kernel_rfl) (by kernel_rfl) (fun _ _ _ h => h) (Or.inl ⟨by kernel_rfl, fun u hu => by kernel_rfl⟩) hH ?_
        simp only [Act.put, List.getElem_toArray, List.getElem_cons_succ, List.getElem_cons_zero, List.setIfInBounds_toArray, List.set_cons_zero, List.set_cons_succ]
        refine wpAnyH_take (i := 5) (v := .int .i64 n1) rfl (by kernel_rfl) (by kernel_rfl) (by kernel_rfl) (fun _ _ _ h => h) (Or.inl ⟨by kernel_rfl, fun u hu => exec_load3 (x := .tmp 21) (p := ⟨w.heap.size + 1, 1, none⟩) rfl (by kernel_rfl) hu.2.1⟩) hH ?_
        simp only [Act.put, List.getElem_toArray, List.getElem_cons_succ, List.getElem_cons_zero, List.setIfInBounds_toArray, List.set_cons_zero, List.set_cons_succ]
        refine wpAnyH_take (i := 6) (v := .int .i64 (IntKind.i64.wrap (n1.tdiv 16))) rfl (by kernel_rfl) (by kernel_rfl) (by kernel_rfl) (fun _ _ _ h => h) (Or.inl ⟨by kernel_rfl, fun u hu => by kernel_rfl⟩) hH ?_
        simp only [Act.put, List.getElem_toArray, List.getElem_cons_succ, List.getElem_cons_zero, List.setIfInBounds_toArray, List.set_cons_zero, List.set_cons_succ]
        refine wpAnyH_take (i := 7) (v := .pointer (some ⟨w.heap.size + 1, 1, none⟩)) rfl (by kernel_rfl) (by kernel_rfl) (by kernel_rfl) (fun _ _ _ h => h) (Or.inl ⟨by kernel_rfl, fun u hu => by kernel_rfl⟩) hH ?_
        simp only [Act.put, List.getElem_toArray, List.getElem_cons_succ, List.getElem_cons_zero, List.setIfInBounds_toArray, List.set_cons_zero, List.set_cons_succ]
        refine wpAnyH_take (i := 8) (v := .int .i64 n1) rfl (by kernel_rfl) (by kernel_rfl) (by kernel_rfl) (fun _ _ _ h => h) (Or.inl ⟨by kernel_rfl, fun u hu => exec_load3 (x := .tmp 24) (p := ⟨w.heap.size + 1, 1, none⟩) rfl (by kernel_rfl) hu.2.1⟩) hH ?_
        simp only [Act.put, List.getElem_toArray, List.getElem_cons_succ, List.getElem_cons_zero, List.setIfInBounds_toArray, List.set_cons_zero, List.set_cons_succ]
        refine wpAnyH_take (i := 9) (v := .int .i64 (n1.tmod 16)) rfl (by kernel_rfl) (by kernel_rfl) (by kernel_rfl) (fun _ _ _ h => h) (Or.inl ⟨by kernel_rfl, fun u hu => by kernel_rfl⟩) hH ?_
        simp only [Act.put, List.getElem_toArray, List.getElem_cons_succ, List.getElem_cons_zero, List.setIfInBounds_toArray, List.set_cons_zero, List.set_cons_succ]
        refine wpAnyH_take (i := 10) (v := .pointer (some ⟨rb, 0, none⟩)) rfl (by kernel_rfl) (by kernel_rfl) (by kernel_rfl) (fun _ _ _ h => h) (Or.inl ⟨by kernel_rfl, fun u hu => by kernel_rfl⟩) hH ?_
        simp only [Act.put, List.getElem_toArray, List.getElem_cons_succ, List.getElem_cons_zero, List.setIfInBounds_toArray, List.set_cons_zero, List.set_cons_succ]
        refine wpAnyH_take (i := 11) (v := .pointer (some ⟨w.heap.size + 1, 3, none⟩)) rfl (by kernel_rfl) (by kernel_rfl) (by kernel_rfl) (fun _ _ _ h => h) (Or.inl ⟨by kernel_rfl, fun u hu => by kernel_rfl⟩) hH ?_
        simp only [Act.put, List.getElem_toArray, List.getElem_cons_succ, List.getElem_cons_zero, List.setIfInBounds_toArray, List.set_cons_zero, List.set_cons_succ]
        refine wpAnyH_take (i := 12) (v := .int .i64 n3) rfl (by kernel_rfl) (by kernel_rfl) (by kernel_rfl) (fun _ _ _ h => h) (Or.inl ⟨by kernel_rfl, fun u hu => exec_load3 (x := .tmp 28) (p := ⟨w.heap.size + 1, 3, none⟩) rfl (by kernel_rfl) hu.2.2.1⟩) hH ?_
        simp only [Act.put, List.getElem_toArray, List.getElem_cons_succ, List.getElem_cons_zero, List.setIfInBounds_toArray, List.set_cons_zero, List.set_cons_succ]
        refine wpAnyH_take (i := 14) (v := .pointer (some ⟨w.heap.size + 1, 4, none⟩)) rfl (by kernel_rfl) (by kernel_rfl) (by kernel_rfl) (fun _ _ _ h => h) (Or.inl ⟨by kernel_rfl, fun u hu => by kernel_rfl⟩) hH ?_
        simp only [Act.put, List.getElem_toArray, List.getElem_cons_succ, List.getElem_cons_zero, List.setIfInBounds_toArray, List.set_cons_zero, List.set_cons_succ]
        refine wpAnyH_take (i := 15) (v := .int .i64 n4) rfl (by kernel_rfl) (by kernel_rfl) (by kernel_rfl) (fun _ _ _ h => h) (Or.inl ⟨by kernel_rfl, fun u hu => exec_load3 (x := .tmp 31) (p := ⟨w.heap.size + 1, 4, none⟩) rfl (by kernel_rfl) hu.2.2.2.1⟩) hH ?_
        simp only [Act.put, List.getElem_toArray, List.getElem_cons_succ, List.getElem_cons_zero, List.setIfInBounds_toArray, List.set_cons_zero, List.set_cons_succ]
        refine wpAnyH_take (i := 16) (v := .pointer (some ⟨w.heap.size + 1, 5, none⟩)) rfl (by kernel_rfl) (by kernel_rfl) (by kernel_rfl) (fun _ _ _ h => h) (Or.inl ⟨by kernel_rfl, fun u hu => by kernel_rfl⟩) hH ?_
        simp only [Act.put, List.getElem_toArray, List.getElem_cons_succ, List.getElem_cons_zero, List.setIfInBounds_toArray, List.set_cons_zero, List.set_cons_succ]
        refine wpAnyH_take (i := 17) (v := .int .i64 n5) rfl (by kernel_rfl) (by kernel_rfl) (by kernel_rfl) (fun _ _ _ h => h) (Or.inl ⟨by kernel_rfl, fun u hu => exec_load3 (x := .tmp 33) (p := ⟨w.heap.size + 1, 5, none⟩) rfl (by kernel_rfl) hu.2.2.2.2⟩) hH ?_
        simp only [Act.put, List.getElem_toArray, List.getElem_cons_succ, List.getElem_cons_zero, List.setIfInBounds_toArray, List.set_cons_zero, List.set_cons_succ]
        refine wpAnyH_ready (rs := [3]) (by kernel_rfl) (by simp) ?_
        refine AllReadyH.cons rfl (fun K hK => ?_) AllReadyH.nil
        simp only [List.getElem_toArray, List.getElem_cons_succ, List.getElem_cons_zero]
        refine wp_if (by kernel_rfl) ?_
        refine wp_enter_panics (f := 59) (by kernel_rfl) (name_bad HRD2.out n0 nm g hg HNM.out) ?_
        exact ⟨rfl, rfl, HT.out.trans (Turn.of_below (Below.refl _ _).drew _)⟩
      · obtain rfl : g = 0 := by simpa using hg
        clear hg
        cases hs : secM I.ss n3 with
        | none =>
          have hM' : M = none := by rw [← hM]; simp only [if_true]; rw [hs]; rfl
          subst hM'
          clear hM
          refine wp_region_held_drew (S := fun u => u.cell? ⟨w.heap.size + 1, 0, none⟩ = some (.int .i64 n0) ∧ u.cell? ⟨w.heap.size + 1, 1, none⟩ = some (.int .i64 n1) ∧ u.cell? ⟨w.heap.size + 1, 3, none⟩ = some (.int .i64 n3) ∧ u.cell? ⟨w.heap.size + 1, 4, none⟩ = some (.int .i64 n4) ∧ u.cell? ⟨w.heap.size + 1, 5, none⟩ = some (.int .i64 n5)) (by kernel_rfl) ⟨f0', f1', f3', f4', f5'⟩ (fun hH => ?_)
          refine wpAnyH_take (i := 0) (v := .pointer (some ⟨rb, 0, none⟩)) rfl (by kernel_rfl) (by kernel_rfl) (by kernel_rfl) (fun _ _ _ h => h) (Or.inl ⟨by kernel_rfl, fun u hu => by kernel_rfl⟩) hH ?_
          simp only [Act.put, List.getElem_toArray, List.getElem_cons_succ, List.getElem_cons_zero, List.setIfInBounds_toArray, List.set_cons_zero, List.set_cons_succ]
          refine wpAnyH_take (i := 1) (v := .pointer (some ⟨w.heap.size + 1, 0, none⟩)) rfl (by kernel_rfl) (by kernel_rfl) (by kernel_rfl) (fun _ _ _ h => h) (Or.inl ⟨by kernel_rfl, fun u hu => by kernel_rfl⟩) hH ?_
          simp only [Act.put, List.getElem_toArray, List.getElem_cons_succ, List.getElem_cons_zero, List.setIfInBounds_toArray, List.set_cons_zero, List.set_cons_succ]
          refine wpAnyH_take (i := 2) (v := .int .i64 n0) rfl (by kernel_rfl) (by kernel_rfl) (by kernel_rfl) (fun _ _ _ h => h) (Or.inl ⟨by kernel_rfl, fun u hu => exec_load3 (x := .tmp 18) (p := ⟨w.heap.size + 1, 0, none⟩) rfl (by kernel_rfl) hu.1⟩) hH ?_
          simp only [Act.put, List.getElem_toArray, List.getElem_cons_succ, List.getElem_cons_zero, List.setIfInBounds_toArray, List.set_cons_zero, List.set_cons_succ]
          refine wpAnyH_take (i := 4) (v := .pointer (some ⟨w.heap.size + 1, 1, none⟩)) rfl (by kernel_rfl) (by kernel_rfl) (by kernel_rfl) (fun _ _ _ h => h) (Or.inl ⟨by kernel_rfl, fun u hu => by kernel_rfl⟩) hH ?_
          simp only [Act.put, List.getElem_toArray, List.getElem_cons_succ, List.getElem_cons_zero, List.setIfInBounds_toArray, List.set_cons_zero, List.set_cons_succ]
          refine wpAnyH_take (i := 5) (v := .int .i64 n1) rfl (by kernel_rfl) (by kernel_rfl) (by kernel_rfl) (fun _ _ _ h => h) (Or.inl ⟨by kernel_rfl, fun u hu => exec_load3 (x := .tmp 21) (p := ⟨w.heap.size + 1, 1, none⟩) rfl (by kernel_rfl) hu.2.1⟩) hH ?_
          simp only [Act.put, List.getElem_toArray, List.getElem_cons_succ, List.getElem_cons_zero, List.setIfInBounds_toArray, List.set_cons_zero, List.set_cons_succ]
          refine wpAnyH_take (i := 6) (v := .int .i64 (IntKind.i64.wrap (n1.tdiv 16))) rfl (by kernel_rfl) (by kernel_rfl) (by kernel_rfl) (fun _ _ _ h => h) (Or.inl ⟨by kernel_rfl, fun u hu => by kernel_rfl⟩) hH ?_
          simp only [Act.put, List.getElem_toArray, List.getElem_cons_succ, List.getElem_cons_zero, List.setIfInBounds_toArray, List.set_cons_zero, List.set_cons_succ]
          refine wpAnyH_take (i := 7) (v := .pointer (some ⟨w.heap.size + 1, 1, none⟩)) rfl (by kernel_rfl) (by kernel_rfl) (by kernel_rfl) (fun _ _ _ h => h) (Or.inl ⟨by kernel_rfl, fun u hu => by kernel_rfl⟩) hH ?_
          simp only [Act.put, List.getElem_toArray, List.getElem_cons_succ, List.getElem_cons_zero, List.setIfInBounds_toArray, List.set_cons_zero, List.set_cons_succ]
          refine wpAnyH_take (i := 8) (v := .int .i64 n1) rfl (by kernel_rfl) (by kernel_rfl) (by kernel_rfl) (fun _ _ _ h => h) (Or.inl ⟨by kernel_rfl, fun u hu => exec_load3 (x := .tmp 24) (p := ⟨w.heap.size + 1, 1, none⟩) rfl (by kernel_rfl) hu.2.1⟩) hH ?_
          simp only [Act.put, List.getElem_toArray, List.getElem_cons_succ, List.getElem_cons_zero, List.setIfInBounds_toArray, List.set_cons_zero, List.set_cons_succ]
          refine wpAnyH_take (i := 9) (v := .int .i64 (n1.tmod 16)) rfl (by kernel_rfl) (by kernel_rfl) (by kernel_rfl) (fun _ _ _ h => h) (Or.inl ⟨by kernel_rfl, fun u hu => by kernel_rfl⟩) hH ?_
          simp only [Act.put, List.getElem_toArray, List.getElem_cons_succ, List.getElem_cons_zero, List.setIfInBounds_toArray, List.set_cons_zero, List.set_cons_succ]
          refine wpAnyH_take (i := 10) (v := .pointer (some ⟨rb, 0, none⟩)) rfl (by kernel_rfl) (by kernel_rfl) (by kernel_rfl) (fun _ _ _ h => h) (Or.inl ⟨by kernel_rfl, fun u hu => by kernel_rfl⟩) hH ?_
          simp only [Act.put, List.getElem_toArray, List.getElem_cons_succ, List.getElem_cons_zero, List.setIfInBounds_toArray, List.set_cons_zero, List.set_cons_succ]
          refine wpAnyH_take (i := 11) (v := .pointer (some ⟨w.heap.size + 1, 3, none⟩)) rfl (by kernel_rfl) (by kernel_rfl) (by kernel_rfl) (fun _ _ _ h => h) (Or.inl ⟨by kernel_rfl, fun u hu => by kernel_rfl⟩) hH ?_
          simp only [Act.put, List.getElem_toArray, List.getElem_cons_succ, List.getElem_cons_zero, List.setIfInBounds_toArray, List.set_cons_zero, List.set_cons_succ]
          refine wpAnyH_take (i := 12) (v := .int .i64 n3) rfl (by kernel_rfl) (by kernel_rfl) (by kernel_rfl) (fun _ _ _ h => h) (Or.inl ⟨by kernel_rfl, fun u hu => exec_load3 (x := .tmp 28) (p := ⟨w.heap.size + 1, 3, none⟩) rfl (by kernel_rfl) hu.2.2.1⟩) hH ?_
          simp only [Act.put, List.getElem_toArray, List.getElem_cons_succ, List.getElem_cons_zero, List.setIfInBounds_toArray, List.set_cons_zero, List.set_cons_succ]
          refine wpAnyH_take (i := 14) (v := .pointer (some ⟨w.heap.size + 1, 4, none⟩)) rfl (by kernel_rfl) (by kernel_rfl) (by kernel_rfl) (fun _ _ _ h => h) (Or.inl ⟨by kernel_rfl, fun u hu => by kernel_rfl⟩) hH ?_
          simp only [Act.put, List.getElem_toArray, List.getElem_cons_succ, List.getElem_cons_zero, List.setIfInBounds_toArray, List.set_cons_zero, List.set_cons_succ]
          refine wpAnyH_take (i := 15) (v := .int .i64 n4) rfl (by kernel_rfl) (by kernel_rfl) (by kernel_rfl) (fun _ _ _ h => h) (Or.inl ⟨by kernel_rfl, fun u hu => exec_load3 (x := .tmp 31) (p := ⟨w.heap.size + 1, 4, none⟩) rfl (by kernel_rfl) hu.2.2.2.1⟩) hH ?_
          simp only [Act.put, List.getElem_toArray, List.getElem_cons_succ, List.getElem_cons_zero, List.setIfInBounds_toArray, List.set_cons_zero, List.set_cons_succ]
          refine wpAnyH_take (i := 16) (v := .pointer (some ⟨w.heap.size + 1, 5, none⟩)) rfl (by kernel_rfl) (by kernel_rfl) (by kernel_rfl) (fun _ _ _ h => h) (Or.inl ⟨by kernel_rfl, fun u hu => by kernel_rfl⟩) hH ?_
          simp only [Act.put, List.getElem_toArray, List.getElem_cons_succ, List.getElem_cons_zero, List.setIfInBounds_toArray, List.set_cons_zero, List.set_cons_succ]
          refine wpAnyH_take (i := 17) (v := .int .i64 n5) rfl (by kernel_rfl) (by kernel_rfl) (by kernel_rfl) (fun _ _ _ h => h) (Or.inl ⟨by kernel_rfl, fun u hu => exec_load3 (x := .tmp 33) (p := ⟨w.heap.size + 1, 5, none⟩) rfl (by kernel_rfl) hu.2.2.2.2⟩) hH ?_
          simp only [Act.put, List.getElem_toArray, List.getElem_cons_succ, List.getElem_cons_zero, List.setIfInBounds_toArray, List.set_cons_zero, List.set_cons_succ]
          refine wpAnyH_ready (rs := [3]) (by kernel_rfl) (by simp) ?_
          refine AllReadyH.cons rfl (fun K hK => ?_) AllReadyH.nil
          simp only [List.getElem_toArray, List.getElem_cons_succ, List.getElem_cons_zero]
          refine wp_if (by kernel_rfl) ?_
          refine wp_enter (f := 59) (by kernel_rfl) (name_ok HRD2.out n0 nm HNM.out) ?_
          rintro e w1 ⟨rfl, hw1⟩
          subst w1
          refine ⟨_, rfl, hK.out _ _ hH (fun _ => ?_)⟩
          clear hK
          simp only [Act.put, List.getElem_toArray, List.getElem_cons_succ, List.getElem_cons_zero, List.setIfInBounds_toArray, List.set_cons_zero, List.set_cons_succ]
          refine wpAnyH_ready (rs := [13]) (by kernel_rfl) (by simp) ?_
          refine AllReadyH.cons rfl (fun K hK => ?_) AllReadyH.nil
          simp only [List.getElem_toArray, List.getElem_cons_succ, List.getElem_cons_zero]
          refine wp_if (by kernel_rfl) ?_
          refine wp_enter_panics (f := 60) (by kernel_rfl) (section_bad HRD2.out n3 hs) ?_
          exact ⟨rfl, rfl, HT.out.trans (Turn.of_below (Below.refl _ _).drew _)⟩
        | some sc =>
          have hM' : M = some ⟨nm, sc, n4, n5, IntKind.i64.wrap (n1.tdiv 16), n1.tmod 16⟩ := by rw [← hM]; simp only [if_true]; rw [hs]; rfl
          subst hM'
          clear hM
          refine wp_region_held_drew (S := fun u => u.cell? ⟨w.heap.size + 1, 0, none⟩ = some (.int .i64 n0) ∧ u.cell? ⟨w.heap.size + 1, 1, none⟩ = some (.int .i64 n1) ∧ u.cell? ⟨w.heap.size + 1, 3, none⟩ = some (.int .i64 n3) ∧ u.cell? ⟨w.heap.size + 1, 4, none⟩ = some (.int .i64 n4) ∧ u.cell? ⟨w.heap.size + 1, 5, none⟩ = some (.int .i64 n5)) (by kernel_rfl) ⟨f0', f1', f3', f4', f5'⟩ (fun hH => ?_)
          refine wpAnyH_take (i := 0) (v := .pointer (some ⟨rb, 0, none⟩)) rfl (by kernel_rfl) (by kernel_rfl) (by kernel_rfl) (fun _ _ _ h => h) (Or.inl ⟨by kernel_rfl, fun u hu => by kernel_rfl⟩) hH ?_
          simp only [Act.put, List.getElem_toArray, List.getElem_cons_succ, List.getElem_cons_zero, List.setIfInBounds_toArray, List.set_cons_zero, List.set_cons_succ]
          refine wpAnyH_take (i := 1) (v := .pointer (some ⟨w.heap.size + 1, 0, none⟩)) rfl (by kernel_rfl) (by kernel_rfl) (by kernel_rfl) (fun _ _ _ h => h) (Or.inl ⟨by kernel_rfl, fun u hu => by kernel_rfl⟩) hH ?_
          simp only [Act.put, List.getElem_toArray, List.getElem_cons_succ, List.getElem_cons_zero, List.setIfInBounds_toArray, List.set_cons_zero, List.set_cons_succ]
          refine wpAnyH_take (i := 2) (v := .int .i64 n0) rfl (by kernel_rfl) (by kernel_rfl) (by kernel_rfl) (fun _ _ _ h => h) (Or.inl ⟨by kernel_rfl, fun u hu => exec_load3 (x := .tmp 18) (p := ⟨w.heap.size + 1, 0, none⟩) rfl (by kernel_rfl) hu.1⟩) hH ?_
          simp only [Act.put, List.getElem_toArray, List.getElem_cons_succ, List.getElem_cons_zero, List.setIfInBounds_toArray, List.set_cons_zero, List.set_cons_succ]
          refine wpAnyH_take (i := 4) (v := .pointer (some ⟨w.heap.size + 1, 1, none⟩)) rfl (by kernel_rfl) (by kernel_rfl) (by kernel_rfl) (fun _ _ _ h => h) (Or.inl ⟨by kernel_rfl, fun u hu => by kernel_rfl⟩) hH ?_
          simp only [Act.put, List.getElem_toArray, List.getElem_cons_succ, List.getElem_cons_zero, List.setIfInBounds_toArray, List.set_cons_zero, List.set_cons_succ]
          refine wpAnyH_take (i := 5) (v := .int .i64 n1) rfl (by kernel_rfl) (by kernel_rfl) (by kernel_rfl) (fun _ _ _ h => h) (Or.inl ⟨by kernel_rfl, fun u hu => exec_load3 (x := .tmp 21) (p := ⟨w.heap.size + 1, 1, none⟩) rfl (by kernel_rfl) hu.2.1⟩) hH ?_
          simp only [Act.put, List.getElem_toArray, List.getElem_cons_succ, List.getElem_cons_zero, List.setIfInBounds_toArray, List.set_cons_zero, List.set_cons_succ]
          refine wpAnyH_take (i := 6) (v := .int .i64 (IntKind.i64.wrap (n1.tdiv 16))) rfl (by kernel_rfl) (by kernel_rfl) (by kernel_rfl) (fun _ _ _ h => h) (Or.inl ⟨by kernel_rfl, fun u hu => by kernel_rfl⟩) hH ?_
          simp only [Act.put, List.getElem_toArray, List.getElem_cons_succ, List.getElem_cons_zero, List.setIfInBounds_toArray, List.set_cons_zero, List.set_cons_succ]
          refine wpAnyH_take (i := 7) (v := .pointer (some ⟨w.heap.size + 1, 1, none⟩)) rfl (by kernel_rfl) (by kernel_rfl) (by kernel_rfl) (fun _ _ _ h => h) (Or.inl ⟨by kernel_rfl, fun u hu => by kernel_rfl⟩) hH ?_
          simp only [Act.put, List.getElem_toArray, List.getElem_cons_succ, List.getElem_cons_zero, List.setIfInBounds_toArray, List.set_cons_zero, List.set_cons_succ]
          refine wpAnyH_take (i := 8) (v := .int .i64 n1) rfl (by kernel_rfl) (by kernel_rfl) (by kernel_rfl) (fun _ _ _ h => h) (Or.inl ⟨by kernel_rfl, fun u hu => exec_load3 (x := .tmp 24) (p := ⟨w.heap.size + 1, 1, none⟩) rfl (by kernel_rfl) hu.2.1⟩) hH ?_
          simp only [Act.put, List.getElem_toArray, List.getElem_cons_succ, List.getElem_cons_zero, List.setIfInBounds_toArray, List.set_cons_zero, List.set_cons_succ]
          refine wpAnyH_take (i := 9) (v := .int .i64 (n1.tmod 16)) rfl (by kernel_rfl) (by kernel_rfl) (by kernel_rfl) (fun _ _ _ h => h) (Or.inl ⟨by kernel_rfl, fun u hu => by kernel_rfl⟩) hH ?_
          simp only [Act.put, List.getElem_toArray, List.getElem_cons_succ, List.getElem_cons_zero, List.setIfInBounds_toArray, List.set_cons_zero, List.set_cons_succ]
          refine wpAnyH_take (i := 10) (v := .pointer (some ⟨rb, 0, none⟩)) rfl (by kernel_rfl) (by kernel_rfl) (by kernel_rfl) (fun _ _ _ h => h) (Or.inl ⟨by kernel_rfl, fun u hu => by kernel_rfl⟩) hH ?_
          simp only [Act.put, List.getElem_toArray, List.getElem_cons_succ, List.getElem_cons_zero, List.setIfInBounds_toArray, List.set_cons_zero, List.set_cons_succ]
          refine wpAnyH_take (i := 11) (v := .pointer (some ⟨w.heap.size + 1, 3, none⟩)) rfl (by kernel_rfl) (by kernel_rfl) (by kernel_rfl) (fun _ _ _ h => h) (Or.inl ⟨by kernel_rfl, fun u hu => by kernel_rfl⟩) hH ?_
          simp only [Act.put, List.getElem_toArray, List.getElem_cons_succ, List.getElem_cons_zero, List.setIfInBounds_toArray, List.set_cons_zero, List.set_cons_succ]
          refine wpAnyH_take (i := 12) (v := .int .i64 n3) rfl (by kernel_rfl) (by kernel_rfl) (by kernel_rfl) (fun _ _ _ h => h) (Or.inl ⟨by kernel_rfl, fun u hu => exec_load3 (x := .tmp 28) (p := ⟨w.heap.size + 1, 3, none⟩) rfl (by kernel_rfl) hu.2.2.1⟩) hH ?_
          simp only [Act.put, List.getElem_toArray, List.getElem_cons_succ, List.getElem_cons_zero, List.setIfInBounds_toArray, List.set_cons_zero, List.set_cons_succ]
          refine wpAnyH_take (i := 14) (v := .pointer (some ⟨w.heap.size + 1, 4, none⟩)) rfl (by kernel_rfl) (by kernel_rfl) (by kernel_rfl) (fun _ _ _ h => h) (Or.inl ⟨by kernel_rfl, fun u hu => by kernel_rfl⟩) hH ?_
          simp only [Act.put, List.getElem_toArray, List.getElem_cons_succ, List.getElem_cons_zero, List.setIfInBounds_toArray, List.set_cons_zero, List.set_cons_succ]
          refine wpAnyH_take (i := 15) (v := .int .i64 n4) rfl (by kernel_rfl) (by kernel_rfl) (by kernel_rfl) (fun _ _ _ h => h) (Or.inl ⟨by kernel_rfl, fun u hu => exec_load3 (x := .tmp 31) (p := ⟨w.heap.size + 1, 4, none⟩) rfl (by kernel_rfl) hu.2.2.2.1⟩) hH ?_
          simp only [Act.put, List.getElem_toArray, List.getElem_cons_succ, List.getElem_cons_zero, List.setIfInBounds_toArray, List.set_cons_zero, List.set_cons_succ]
          refine wpAnyH_take (i := 16) (v := .pointer (some ⟨w.heap.size + 1, 5, none⟩)) rfl (by kernel_rfl) (by kernel_rfl) (by kernel_rfl) (fun _ _ _ h => h) (Or.inl ⟨by kernel_rfl, fun u hu => by kernel_rfl⟩) hH ?_
          simp only [Act.put, List.getElem_toArray, List.getElem_cons_succ, List.getElem_cons_zero, List.setIfInBounds_toArray, List.set_cons_zero, List.set_cons_succ]
          refine wpAnyH_take (i := 17) (v := .int .i64 n5) rfl (by kernel_rfl) (by kernel_rfl) (by kernel_rfl) (fun _ _ _ h => h) (Or.inl ⟨by kernel_rfl, fun u hu => exec_load3 (x := .tmp 33) (p := ⟨w.heap.size + 1, 5, none⟩) rfl (by kernel_rfl) hu.2.2.2.2⟩) hH ?_
          simp only [Act.put, List.getElem_toArray, List.getElem_cons_succ, List.getElem_cons_zero, List.setIfInBounds_toArray, List.set_cons_zero, List.set_cons_succ]
          refine wpAnyH_ready (rs := [3]) (by kernel_rfl) (by simp) ?_
          refine AllReadyH.cons rfl (fun K hK => ?_) AllReadyH.nil
          simp only [List.getElem_toArray, List.getElem_cons_succ, List.getElem_cons_zero]
          refine wp_if (by kernel_rfl) ?_
          refine wp_enter (f := 59) (by kernel_rfl) (name_ok HRD2.out n0 nm HNM.out) ?_
          rintro e w1 ⟨rfl, hw1⟩
          subst w1
          refine ⟨_, rfl, hK.out _ _ hH (fun _ => ?_)⟩
          clear hK
          simp only [Act.put, List.getElem_toArray, List.getElem_cons_succ, List.getElem_cons_zero, List.setIfInBounds_toArray, List.set_cons_zero, List.set_cons_succ]
          refine wpAnyH_ready (rs := [13]) (by kernel_rfl) (by simp) ?_
          refine AllReadyH.cons rfl (fun K hK => ?_) AllReadyH.nil
          simp only [List.getElem_toArray, List.getElem_cons_succ, List.getElem_cons_zero]
          refine wp_if (by kernel_rfl) ?_
          refine wp_enter (f := 60) (by kernel_rfl) (section_ok HRD2.out HI.out n3 hN3.1 hN3.2 sc hs) ?_
          rintro e w1 ⟨rfl, hw1⟩
          subst w1
          refine ⟨_, rfl, hK.out _ _ hH (fun _ => ?_)⟩
          clear hK
          simp only [Act.put, List.getElem_toArray, List.getElem_cons_succ, List.getElem_cons_zero, List.setIfInBounds_toArray, List.set_cons_zero, List.set_cons_succ]
          refine wpAnyH_take (i := 18) (v := .agg #[.string nm, .string sc, .int .i64 n4, .int .i64 n5, .int .i64 (IntKind.i64.wrap (n1.tdiv 16)), .int .i64 (n1.tmod 16)]) rfl (by kernel_rfl) (by kernel_rfl) (by kernel_rfl) (fun _ _ _ h => h) (Or.inl ⟨by kernel_rfl, fun u hu => by kernel_rfl⟩) hH ?_
          simp only [Act.put, List.getElem_toArray, List.getElem_cons_succ, List.getElem_cons_zero, List.setIfInBounds_toArray, List.set_cons_zero, List.set_cons_succ]
          refine wpAnyH_ready (rs := [19]) (by kernel_rfl) (by simp) ?_
          refine AllReadyH.cons rfl (fun K hK => ?_) AllReadyH.nil
          simp only [List.getElem_toArray, List.getElem_cons_succ, List.getElem_cons_zero]
          refine wp_if (by kernel_rfl) ?_
          refine wp_store_row 43 _ _ rfl w.heap.size #[.string nm, .string sc, .int .i64 n4, .int .i64 n5, .int .i64 (IntKind.i64.wrap (n1.tdiv 16)), .int .i64 (n1.tmod 16)] (by kernel_rfl) (by kernel_rfl) 43 _ HXd.out (by kernel_rfl) (by kernel_rfl) (by kernel_rfl) ?_
          have nF : (w.heap.size + 1) ≠ w.heap.size := by omega
          refine hK.out _ _ ⟨(cell_setRow_other _ _ _ _ nF).trans f0', (cell_setRow_other _ _ _ _ nF).trans f1', (cell_setRow_other _ _ _ _ nF).trans f3', (cell_setRow_other _ _ _ _ nF).trans f4', (cell_setRow_other _ _ _ _ nF).trans f5'⟩ (fun _ => ?_)
          clear hK
          simp only [Act.put, List.getElem_toArray, List.getElem_cons_succ, List.getElem_cons_zero, List.setIfInBounds_toArray, List.set_cons_zero, List.set_cons_succ]
          refine wpAnyH_done (by kernel_rfl) ?_ _
          have hW := setRow_heap wr.drew w.heap.size _ #[.string nm, .string sc, .int .i64 n4, .int .i64 n5, .int .i64 (IntKind.i64.wrap (n1.tdiv 16)), .int .i64 (n1.tmod 16)] _ _ HXd.out
          have tW : Turn (fun k => k = w.heap.size) wr.drew (wr.drew.setRow w.heap.size #[.string nm, .string sc, .int .i64 n4, .int .i64 n5, .int .i64 (IntKind.i64.wrap (n1.tdiv 16)), .int .i64 (n1.tmod 16)]) := ⟨rfl, rfl, rfl, by simp, fun k _ hk => setRow_other _ _ _ _ hk⟩
          generalize wr.drew.setRow w.heap.size #[.string nm, .string sc, .int .i64 n4, .int .i64 n5, .int .i64 (IntKind.i64.wrap (n1.tdiv 16)), .int .i64 (n1.tmod 16)] = W9 at *
          go_wp2
          refine bodyPost_ret (res_sym _ _ w.heap.size _ (by kernel_rfl) hW rfl) rfl ?_
          exact ⟨rfl, HRD2.out.turn tW (by omega) (fun k e => by omega), (HT.out.trans (Turn.of_below (Below.refl _ _).drew _)).trans' tW (fun i hi e => by omega)⟩
end Go.Proofs.YtpdcbokcoaienaaDoor
