/- The contract of settlePrefixes. -/
import Derived.Test.YtjbepojopfbajaaDMod
import Derived.Deep.RegionHeld3
namespace Go.Proofs.Ytjbepojopfbajaa
open Go.ChangeShapes Go.WideShapes Go.ChangeAt Go.RowKit
set_option linter.unusedVariables false
set_option linter.unusedSimpArgs false

/-- May the bytes ahead of an opcode stand? -/
def setA (fs : Bool) (rex sz : Int) (q : Q) : Except Int Value :=
  must (bits .andNot .i64 (bits .and .i64 rex 7) q.bes == 0) (must (!fs || (q.has 2 && !q.has 64))
    (must (rex != 64 || (sz == 1 && (!q.has 2 || q.has 4)) || ((sz == 1 || q.has 32) && q.has 16 && !fs)) (.ok (.tuple #[]))))

theorem wp_if {c : Prop} [Decidable c] {p q : Prop} (hc : c) (h : p) : if c then p else q := by rw [if_pos hc]; exact h
theorem wp_enter_panics {o : Oper} {a : Act} {w : World} {K : Act → World → Prop} {Q : Exit → Act → World → Prop} {f : FuncId} {args : Array Value} {ch : List PanicEntry}
    (hx : (execOp a.eval o).run Try.prog w = .ok (.enter f args) w) (hc : Calls Try.prog f args w fun e w' => e = .panicked ch ∧ w' = w) (h : Q (.panic ch) a w) : o.wp Try.prog a w K Q := by
  unfold Oper.wp
  rw [hx, Oper.upon_enter]
  refine hc.mono ?_
  rintro e w' ⟨rfl, rfl⟩
  exact h
theorem wp_enter {o : Oper} {a : Act} {w : World} {K : Act → World → Prop} {Q : Exit → Act → World → Prop} {f : FuncId} {args : Array Value} {R : Ending → World → Prop}
    (hx : (execOp a.eval o).run Try.prog w = .ok (.enter f args) w) (hc : Calls Try.prog f args w R) (h : ∀ e w', R e w' → ∃ v, e = .returned v ∧ K (a.put o.dst v) w') : o.wp Try.prog a w K Q := by
  unfold Oper.wp
  rw [hx, Oper.upon_enter]
  refine hc.mono ?_
  intro e w' hr
  obtain ⟨v, rfl, hk⟩ := h e w' hr
  exact hk
theorem exec_load3 {o : Oper} {a : Act} {w : World} {x : Operand} {p : Addr} {n : Int} (ho : o.op = .load 3 x) (hx : a.eval x = .pointer (some p)) (hc : w.cell? p = some (.int .i64 n)) :
    (execOp a.eval o).run Try.prog w = .ok (.value (.int .i64 n)) w := by
  have hl : (loadVar 3 p).run Try.prog w = .ok (.int .i64 n) w := by simp [loadVar, isAgg, run_underlying Try.underlying3, go_sem, hc]
  unfold execOp
  simp only [ho, hx, Instr.loadAt, Instr.sureAddr, Sem.run_bind, Sem.run_pure, Result.andThen_ok, hl]

set_option maxRecDepth 20000 in
set_option maxHeartbeats 4000000 in
theorem settle_any {w : World} {rb : Nat} {L : Ln} {a : Nat} {fs : Bool} {rex opc sz md rg rm : Int} (q : Q) (h : RS w rb L a fs rex opc sz md rg rm) :
    Calls Try.prog 52 #[.pointer (some ⟨rb, 0, none⟩), q.val] w fun e w' => Ends (setA fs rex sz q) e ∧ Below w.heap.size w w' := by
  have R1 := h.up q.box
  have Q1 := QA.new w q
  have F1 : Below w.heap.size w (w.alloc q.box) := bel_alloc (Below.refl _ _) _
  have HM : Hid (setA fs rex sz q = must (bits .andNot .i64 (bits .and .i64 rex 7) q.bes == 0) (must (!fs || (q.has 2 && !q.has 64))
    (must (rex != 64 || (sz == 1 && (!q.has 2 || q.has 4)) || ((sz == 1 || q.has 32) && q.has 16 && !fs)) (.ok (.tuple #[]))))) := ⟨rfl⟩
  generalize setA fs rex sz q = m at *
  have HQ2 : Hid (∀ u, Calls Try.prog 53 #[q.val] u fun e w' => e = .returned (.bool (q.has 2)) ∧ Below u.heap.size u w') := ⟨hasModRM q⟩
  have HQ64 : Hid (∀ u, Calls Try.prog 69 #[q.val, .int .i64 64] u fun e w' => e = .returned (.bool (q.has 64)) ∧ Below u.heap.size u w') := ⟨rhas q 64⟩
  have HQ16 : Hid (∀ u, Calls Try.prog 69 #[q.val, .int .i64 16] u fun e w' => e = .returned (.bool (q.has 16)) ∧ Below u.heap.size u w') := ⟨rhas q 16⟩
  have HQ4 : Hid (∀ u, Calls Try.prog 69 #[q.val, .int .i64 4] u fun e w' => e = .returned (.bool (q.has 4)) ∧ Below u.heap.size u w') := ⟨rhas q 4⟩
  have HBA : Hid (∀ u, RS u rb L a fs rex opc sz md rg rm → Calls Try.prog 70 #[.pointer (some ⟨rb, 0, none⟩), q.val] u fun e w' => e = .returned (.bool (sz == 1 || q.has 32)) ∧ Below u.heap.size u w') := ⟨fun u hu => byteAt_any q hu⟩
  generalize q.has 2 = q2b at *
  generalize q.has 64 = q64 at *
  generalize q.has 16 = q16 at *
  generalize q.has 4 = q4 at *
  generalize (sz == 1 || q.has 32) = bA at *
  clear h
  (have rc := R1); obtain ⟨d0, d1, d2, d3, d4, d5, d6, d7, d8, dz, dl⟩ := rc
  (have qc := Q1); obtain ⟨q0, q1, q2, q3, q4c, q5, q6, q7, q8, q9, q10, q11, q12⟩ := qc
  go_enter Try.func52, Try.ntmps52
  go_upto_region 1 with (fail)
  generalize hb1 : (bits .andNot .i64 (bits .and .i64 rex 7) q.bes == 0) = b1 at *
  go_cut [] from 6 to 15 (fun wx => Hid (b1 = true ∧ RS wx rb L a fs rex opc sz md rg rm ∧ QA wx w.heap.size q ∧ Below w.heap.size w wx))
  case first =>
    refine wp_region_held_drew (S := fun u => u.cell? ⟨rb, 3, none⟩ = some (.int .i64 rex) ∧ u.cell? ⟨w.heap.size, 11, none⟩ = some (.int .i64 q.bes) ∧ Below (w.alloc q.box).heap.size (w.alloc q.box) u) (by kernel_rfl) ⟨d3, q11, (Below.refl _ _).drew⟩ (fun hH => ?_)
    refine wpAnyH_take (i := 0) (v := .pointer (some ⟨rb, 0, none⟩)) rfl (by kernel_rfl) (by kernel_rfl) (by kernel_rfl) (fun _ _ _ h => h) (Or.inl ⟨by kernel_rfl, fun u hu => by kernel_rfl⟩) hH ?_
    simp only [Act.put, List.getElem_toArray, List.getElem_cons_succ, List.getElem_cons_zero, List.setIfInBounds_toArray, List.set_cons_zero, List.set_cons_succ]
    refine wpAnyH_take (i := 1) (v := .pointer (some ⟨rb, 0, none⟩)) rfl (by kernel_rfl) (by kernel_rfl) (by kernel_rfl) (fun _ _ _ h => h) (Or.inl ⟨by kernel_rfl, fun u hu => by kernel_rfl⟩) hH ?_
    simp only [Act.put, List.getElem_toArray, List.getElem_cons_succ, List.getElem_cons_zero, List.setIfInBounds_toArray, List.set_cons_zero, List.set_cons_succ]
    refine wpAnyH_take (i := 2) (v := .pointer (some ⟨rb, 3, none⟩)) rfl (by kernel_rfl) (by kernel_rfl) (by kernel_rfl) (fun _ _ _ h => h) (Or.inl ⟨by kernel_rfl, fun u hu => by kernel_rfl⟩) hH ?_
    simp only [Act.put, List.getElem_toArray, List.getElem_cons_succ, List.getElem_cons_zero, List.setIfInBounds_toArray, List.set_cons_zero, List.set_cons_succ]
    refine wpAnyH_take (i := 3) (v := .int .i64 rex) rfl (by kernel_rfl) (by kernel_rfl) (by kernel_rfl) (fun _ _ _ h => h) (Or.inl ⟨by kernel_rfl, fun u hu => exec_load3 (x := .tmp 8) (p := ⟨rb, 3, none⟩) rfl (by kernel_rfl) hu.1⟩) hH ?_
    simp only [Act.put, List.getElem_toArray, List.getElem_cons_succ, List.getElem_cons_zero, List.setIfInBounds_toArray, List.set_cons_zero, List.set_cons_succ]
    refine wpAnyH_take (i := 4) (v := .int .i64 (bits .and .i64 rex 7)) rfl (by kernel_rfl) (by kernel_rfl) (by kernel_rfl) (fun _ _ _ h => h) (Or.inl ⟨by kernel_rfl, fun u hu => by kernel_rfl⟩) hH ?_
    simp only [Act.put, List.getElem_toArray, List.getElem_cons_succ, List.getElem_cons_zero, List.setIfInBounds_toArray, List.set_cons_zero, List.set_cons_succ]
    refine wpAnyH_take (i := 5) (v := .pointer (some ⟨w.heap.size, 11, none⟩)) rfl (by kernel_rfl) (by kernel_rfl) (by kernel_rfl) (fun _ _ _ h => h) (Or.inl ⟨by kernel_rfl, fun u hu => by kernel_rfl⟩) hH ?_
    simp only [Act.put, List.getElem_toArray, List.getElem_cons_succ, List.getElem_cons_zero, List.setIfInBounds_toArray, List.set_cons_zero, List.set_cons_succ]
    refine wpAnyH_take (i := 6) (v := .int .i64 q.bes) rfl (by kernel_rfl) (by kernel_rfl) (by kernel_rfl) (fun _ _ _ h => h) (Or.inl ⟨by kernel_rfl, fun u hu => exec_load3 (x := .tmp 11) (p := ⟨w.heap.size, 11, none⟩) rfl (by kernel_rfl) hu.2.1⟩) hH ?_
    simp only [Act.put, List.getElem_toArray, List.getElem_cons_succ, List.getElem_cons_zero, List.setIfInBounds_toArray, List.set_cons_zero, List.set_cons_succ]
    refine wpAnyH_take (i := 7) (v := .int .i64 (bits .andNot .i64 (bits .and .i64 rex 7) q.bes)) rfl (by kernel_rfl) (by kernel_rfl) (by kernel_rfl) (fun _ _ _ h => h) (Or.inl ⟨by kernel_rfl, fun u hu => by kernel_rfl⟩) hH ?_
    simp only [Act.put, List.getElem_toArray, List.getElem_cons_succ, List.getElem_cons_zero, List.setIfInBounds_toArray, List.set_cons_zero, List.set_cons_succ]
    refine wpAnyH_take (i := 8) (v := .bool (bits .andNot .i64 (bits .and .i64 rex 7) q.bes == 0)) rfl (by kernel_rfl) (by kernel_rfl) (by kernel_rfl) (fun _ _ _ h => h) (Or.inl ⟨by kernel_rfl, fun u hu => by kernel_rfl⟩) hH ?_
    simp only [Act.put, List.getElem_toArray, List.getElem_cons_succ, List.getElem_cons_zero, List.setIfInBounds_toArray, List.set_cons_zero, List.set_cons_succ]
    rw [hb1]
    refine wpAnyH_ready (rs := [9]) (by kernel_rfl) (by simp) ?_
    refine AllReadyH.cons rfl (fun K hK => ?_) AllReadyH.nil
    simp only [List.getElem_toArray, List.getElem_cons_succ, List.getElem_cons_zero]
    refine wp_if (by kernel_rfl) ?_
    cases b1
    · refine wp_enter_panics (f := 66) (by kernel_rfl) (insist_no _) ?_
      refine ⟨rfl, ?_, F1.trans (hH.2.2.mono (by simp))⟩
      rw [HM.out]; rfl
    · refine wp_enter (f := 66) (by kernel_rfl) (insist_yes _) ?_
      rintro e w1 ⟨rfl, hw1⟩
      subst w1
      refine ⟨_, rfl, hK.out _ _ hH (fun h1 => ?_)⟩
      clear hK
      simp only [Act.put, List.getElem_toArray, List.getElem_cons_succ, List.getElem_cons_zero, List.setIfInBounds_toArray, List.set_cons_zero, List.set_cons_succ]
      refine wpAnyH_done (by kernel_rfl) ?_ _
      go_wp2_with fail
      go_meet
      exact ⟨⟨trivial, R1.bel h1.2.2, Q1.bel h1.2.2, bel_trans F1 h1.2.2⟩⟩
  case rest =>
  clear d0 d1 d2 d3 d4 d5 d6 d7 d8 dz dl q0 q1 q2 q3 q4c q5 q6 q7 q8 q9 q10 q11 q12
  clear R1 Q1 F1
  obtain ⟨hbb, R1, Q1, F1⟩ := hcut.out
  rw [hbb, must_true] at HM
  clear hbb hcut
  (have rc := R1); obtain ⟨d0, d1, d2, d3, d4, d5, d6, d7, d8, dz, dl⟩ := rc
  (have qc := Q1); obtain ⟨q0, q1, q2, q3, q4c, q5, q6, q7, q8, q9, q10, q11, q12⟩ := qc
  go_upto_region 2 with (fail)
  go_cut [] from 16 to 30 (fun wx => Hid ((!fs || (q2b && !q64)) = true ∧ RS wx rb L a fs rex opc sz md rg rm ∧ QA wx w.heap.size q ∧ Below w.heap.size w wx))
  case first =>
    cases fs
    case' true => cases q2b
    case' true.true => cases q64
    all_goals
      go_wp2_with (first
      | (go_at_call 53; (with_reducible refine (HQ2.out _).mono ?_); rintro e w2 ⟨rfl, hb⟩; (have Q2 := Q1.bel hb); (have qc2 := Q2); obtain ⟨p0, p1, p2, p3, p4, p5, p6, p7, p8, p9, p10, p11, p12⟩ := qc2)
      | (go_at_call 69; (with_reducible refine (HQ64.out _).mono ?_); rintro e w3 ⟨rfl, hb2⟩)
      | (go_at_call 66; (with_reducible refine (insist_yes _).mono ?_); rintro e w2 ⟨rfl, hw2⟩; subst w2)
      | (go_at_call 66; (with_reducible refine (insist_no _).mono ?_); rintro e w2 ⟨rfl, hw2⟩; subst w2))
    all_goals
      first
      | (go_meet; first | exact ⟨⟨rfl, R1, Q1, F1⟩⟩ | exact ⟨⟨rfl, R1.bel hb, Q1.bel hb, bel_trans F1 hb⟩⟩ | exact ⟨⟨rfl, R1.bel (bel_trans hb hb2), Q1.bel (bel_trans hb hb2), bel_trans F1 (bel_trans hb hb2)⟩⟩)
      | (refine ⟨rfl, ?_, by first | exact F1 | exact bel_trans F1 hb | exact bel_trans F1 (bel_trans hb hb2)⟩; rw [HM.out]; rfl)
  case rest =>
  clear d0 d1 d2 d3 d4 d5 d6 d7 d8 dz dl q0 q1 q2 q3 q4c q5 q6 q7 q8 q9 q10 q11 q12
  clear R1 Q1 F1
  obtain ⟨hbb, R1, Q1, F1⟩ := hcut.out
  rw [hbb, must_true] at HM
  clear hbb hcut
  (have rc := R1); obtain ⟨d0, d1, d2, d3, d4, d5, d6, d7, d8, dz, dl⟩ := rc
  (have qc := Q1); obtain ⟨q0, q1, q2, q3, q4c, q5, q6, q7, q8, q9, q10, q11, q12⟩ := qc
  go_upto_region 3 with (fail)
  generalize hs1 : (sz == 1) = s1 at *
  go_cut [4] from 31 to 44 (fun s4 wx => s4 = .bool (s1 && (!q2b || q4)) ∧ Hid (RS wx rb L a fs rex opc sz md rg rm ∧ QA wx w.heap.size q ∧ Below w.heap.size w wx))
  case first =>
    cases s1
    case' true => cases q2b
    all_goals
      go_wp2_with (first
      | (go_at_call 53; (with_reducible refine (HQ2.out _).mono ?_); rintro e w2 ⟨rfl, hb⟩; (have Q2 := Q1.bel hb); (have qc2 := Q2); obtain ⟨p0, p1, p2, p3, p4, p5, p6, p7, p8, p9, p10, p11, p12⟩ := qc2)
      | (go_at_call 69; (with_reducible refine (HQ4.out _).mono ?_); rintro e w3 ⟨rfl, hb2⟩))
    all_goals
      (go_meet; first | exact ⟨rfl, ⟨R1, Q1, F1⟩⟩ | exact ⟨rfl, ⟨R1.bel hb, Q1.bel hb, bel_trans F1 hb⟩⟩ | exact ⟨rfl, ⟨R1.bel (bel_trans hb hb2), Q1.bel (bel_trans hb hb2), bel_trans F1 (bel_trans hb hb2)⟩⟩)
  case rest =>
  clear d0 d1 d2 d3 d4 d5 d6 d7 d8 dz dl q0 q1 q2 q3 q4c q5 q6 q7 q8 q9 q10 q11 q12
  clear R1 Q1 F1
  obtain ⟨hs4, hc4⟩ := hcut
  obtain ⟨R1, Q1, F1⟩ := hc4.out
  subst hs4
  clear hc4
  (have rc := R1); obtain ⟨d0, d1, d2, d3, d4, d5, d6, d7, d8, dz, dl⟩ := rc
  (have qc := Q1); obtain ⟨q0, q1, q2, q3, q4c, q5, q6, q7, q8, q9, q10, q11, q12⟩ := qc
  generalize (s1 && (!q2b || q4)) = z4 at *
  go_upto_region 4 with (fail)
  go_cut [5] from 45 to 58 (fun s5 wx => s5 = .bool (bA && q16 && !fs) ∧ Hid (RS wx rb L a fs rex opc sz md rg rm ∧ QA wx w.heap.size q ∧ Below w.heap.size w wx))
  case first =>
    cases bA
    case' true => cases q16
    all_goals
      go_wp2_with (first
      | (go_at_call 70; (with_reducible refine (HBA.out _ R1).mono ?_); rintro e w2 ⟨rfl, hb⟩; (have Q2 := Q1.bel hb); (have qc2 := Q2); obtain ⟨p0, p1, p2, p3, p4, p5, p6, p7, p8, p9, p10, p11, p12⟩ := qc2)
      | (go_at_call 69; (with_reducible refine (HQ16.out _).mono ?_); rintro e w3 ⟨rfl, hb2⟩; (have R3 := R1.bel (bel_trans hb hb2)); obtain ⟨r0, r1, r2, r3, r4, r5, r6, r7, r8, rz, rl⟩ := R3))
    all_goals
      (go_meet; first | exact ⟨rfl, ⟨R1, Q1, F1⟩⟩ | exact ⟨rfl, ⟨R1.bel hb, Q1.bel hb, bel_trans F1 hb⟩⟩ | exact ⟨rfl, ⟨R1.bel (bel_trans hb hb2), Q1.bel (bel_trans hb hb2), bel_trans F1 (bel_trans hb hb2)⟩⟩)
  case rest =>
  clear d0 d1 d2 d3 d4 d5 d6 d7 d8 dz dl q0 q1 q2 q3 q4c q5 q6 q7 q8 q9 q10 q11 q12
  clear R1 Q1 F1
  obtain ⟨hs5, hc5⟩ := hcut
  obtain ⟨R1, Q1, F1⟩ := hc5.out
  subst hs5
  clear hc5
  (have rc := R1); obtain ⟨d0, d1, d2, d3, d4, d5, d6, d7, d8, dz, dl⟩ := rc
  (have qc := Q1); obtain ⟨q0, q1, q2, q3, q4c, q5, q6, q7, q8, q9, q10, q11, q12⟩ := qc
  generalize (bA && q16 && !fs) = z5 at *
  have two : ((rex != 64) = true ∧ (rex == 64) = false) ∨ ((rex != 64) = false ∧ (rex == 64) = true) := by by_cases e : rex = 64 <;> simp [e]
  rcases two with ⟨t1, t2⟩ | ⟨t1, t2⟩
  all_goals
    rw [t1] at HM
  rotate_left
  cases z4
  case' false => cases z5
  all_goals
    go_wp2_with (first
      | (go_at_call 66; (with_reducible refine (insist_yes _).mono ?_); rintro e w2 ⟨rfl, hw2⟩; subst w2)
      | (go_at_call 66; (with_reducible refine (insist_no _).mono ?_); rintro e w2 ⟨rfl, hw2⟩; subst w2))
    first
    | (go_end0; refine ⟨?_, F1⟩; rw [HM.out]; rfl)
    | (refine ⟨rfl, ?_, F1⟩; rw [HM.out]; rfl)
end Go.Proofs.Ytjbepojopfbajaa
