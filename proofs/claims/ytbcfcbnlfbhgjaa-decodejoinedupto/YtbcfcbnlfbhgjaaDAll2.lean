/- The contract of All: the walk. -/
import Derived.Test.YtbcfcbnlfbhgjaaDAll
import Derived.Test.YtbcfcbnlfbhgjaaDBytes
namespace Go.Proofs.Ytbcfcbnlfbhgjaa
open Go.ChangeShapes Go.WideShapes Go.ChangeAt Go.RowKit
set_option linter.unusedVariables false
set_option linter.unusedSimpArgs false

theorem wpList_does {ops : Array Oper} {rest : List Oper} {o : Oper} {a : Act} {w w' : World} {Q : Exit → Act → World → Prop} {v : Value} (hw : Region.wanted o (yielded ops a.tmps) = true)
    (hx : (execOp a.eval o).run Try.prog w = .ok (.value v) w') (h : wpList Try.prog ops Q rest (a.put o.dst v) w') : wpList Try.prog ops Q (o :: rest) a w := by
  refine BigFrame.wpList_want hw fun K hK => ?_
  unfold Oper.wp
  rw [hx, Oper.upon_value]
  exact hK _ _ h

theorem exec_build {o : Oper} {a : Act} {x : Operand} {V : Array Value} (w : World) (i : I) (ho : o.op = .buildSlice 37 1 #[(0, x)]) (hx : a.eval x = .agg V) (hV : V = i.cells.toArray) :
    (execOp a.eval o).run Try.prog w = .ok (.value (.slice (some ⟨w.heap.size, 0, none⟩) 1 1)) (w.alloc (.cells V 27)) := by
  subst hV
  unfold execOp
  simp only [ho, List.map_toArray, List.map_cons, List.map_nil, hx, Sem.run_bind]
  rw [← val_cells i, build_inst i w]
  rfl

/-- How All ends. -/
def AllEnds (m : Except Int (List (I × Nat))) (base : Nat) (w' : World) (e : Ending) : Prop :=
  match m with
  | .error n => e = .returned (.tuple #[.slice none 0 0, .slice none 0 0, .int .i64 n])
  | .ok P => ∃ v u, e = .returned (.tuple #[v, u, .int .i64 0]) ∧ w'.ownsRow base 27 24 v P.length (instCells P) ∧ w'.ownsRow base 3 1 u P.length (instAts P)

theorem oneM_no {len : Nat} {bs : Nat → Int} {k : Nat} {n : Int} (hk : k ≤ len) (h : instM (cut len bs k) = .error n) : oneM len bs (k : Int) = (zI, 0, n) := by
  unfold oneM; rw [if_neg (by omega), show ((k : Int)).toNat = k by omega, h]
theorem oneM_yes {len : Nat} {bs : Nat → Int} {k : Nat} {i : I} {a : Nat} (hk : k ≤ len) (h : instM (cut len bs k) = .ok (i, a)) : oneM len bs (k : Int) = (i, (a : Int), 0) := by
  unfold oneM; rw [if_neg (by omega), show ((k : Int)).toNat = k by omega, h]

theorem below_setRow {v u : World} {x : Array Value} (h : Below v.heap.size v u) : Below v.heap.size v (u.alloc (.cells x 27)) := bel_alloc h _

theorem store_new (V : Array Value) (hVs : V.size = 24) (hV1 : V.all (·.oneCell') = true) (u : World) : Sem.run Try.prog (storeCells ⟨u.heap.size, 0, none⟩ V.toList) (u.alloc (.cells #[.int .i64 0, .int .i64 0, .int .i64 0, .int .i64 0, .int .i64 0, .int .i64 0, .int .i64 0, .int .i64 0, .bool false, .bool false, .int .i64 0, .string ⟨#[]⟩, .int .i64 0, .int .i64 0, .int .i64 0, .int .i64 0, .int .i64 0, .int .i64 0, .bool false, .bool false, .int .i64 0, .string ⟨#[]⟩, .int .i64 0, .bool false] 27)) = .ok () (u.alloc (.cells V 27)) := by
  rw [store_row27 (heap_alloc_last u _) rfl hVs hV1, World.setRow_alloc_new]

theorem own_bel {w w' : World} {base e s n : Nat} {v : Value} {xs : List Value} (hb : Below w.heap.size w w') (h : w.ownsRow base e s v n xs) : w'.ownsRow base e s v n xs := by
  refine ⟨h.1, ?_⟩
  rcases h.2 with hn | ⟨g, cap, cur, rfl, hb1, hgg, rest⟩
  · exact .inl hn
  · refine .inr ⟨g, cap, cur, rfl, hb1, ?_, rest⟩
    rw [hb.block g (Array.getElem?_eq_some_iff.1 hgg).1]
    exact hgg

set_option maxHeartbeats 1000000 in
theorem all_any (ao : Option Addr) (len cap : Nat) (bs : Nat → Int) (w : World) (h : IsRow w ao len cap bs) (hl : len ≤ 4194304) :
    Calls Try.prog 12 #[.slice ao len cap] w fun e w' => AllEnds (allM len bs) w.heap.size w' e ∧ Below w.heap.size w w' := by
  have HO : Hid (∀ (v : World) (k : Nat), k < len → Below w.heap.size w v → Calls Try.prog 7 #[.slice ao len cap, .int .i64 k] v fun e w' => e = .returned (.tuple #[(oneM len bs k).1.val, .int .i64 (oneM len bs k).2.1, .int .i64 (oneM len bs k).2.2]) ∧ Below v.heap.size v w') :=
    ⟨fun v k hk hv => one_any ao len cap bs k v (h.row.below hv (Nat.le_refl _)) h.byte h.nil (fun a e => by
      rcases h.row with hr | ⟨b, off, e2, _⟩
      · omega
      · rw [e2] at e; cases e; exact ⟨b, off, rfl⟩) h.fit h.top (by omega)⟩
  have HB : Hid (∀ i, 0 ≤ bs i ∧ bs i < 256) := ⟨h.byte⟩
  obtain ⟨M, HM⟩ : ∃ M, Hid (allM len bs = M) := ⟨_, ⟨rfl⟩⟩
  rw [HM.out]
  clear h
  go_enter Try.func12, Try.ntmps12
  go_wp2
  go_loopw [2, 3, 5] (fun v u k wr => ∃ (j : Nat) (P : List (I × Nat)) (f : Nat), k = .int .i64 j ∧ j ≤ len ∧ Hid (P.length ≤ j ∧ len ≤ j + f ∧ (allF len bs f j >>= fun l => .ok (P ++ l)) = M ∧ wr.ownsRow w.heap.size 27 24 v P.length (instCells P) ∧ wr.ownsRow w.heap.size 3 1 u P.length (instAts P) ∧ Below w.heap.size w wr)) (fun _ _ k _ => len - (intOf k).toNat)
  case atStart => exact ⟨0, [], len, rfl, by omega, ⟨by simp, by omega, by rw [← HM.out]; show (allF len bs len 0 >>= _) = allF len bs len 0; rcases allF len bs len 0 with n | l <;> rfl, World.ownsRow_nil _ _ _ _, World.ownsRow_nil _ _ _ _, Below.refl _ _⟩⟩
  case round =>
    obtain ⟨j, P, f, rfl, hj, HR⟩ := hrel
    by_cases hjl : (j : Int) < len
    · obtain ⟨f, rfl⟩ : ∃ g, f = g + 1 := ⟨f - 1, by have := HR.out.2.1; omega⟩
      rcases hm : instM (cut len bs j) with n | ⟨i, a⟩
      · obtain ⟨V, hV, hVs, hV1⟩ : ∃ V : Array Value, zI.val = .agg V ∧ V.size = 24 ∧ V.all (·.oneCell') = true := ⟨_, rfl, rfl, by kernel_rfl⟩
        have HC := HO.out wr j (by omega) HR.out.2.2.2.2.2
        rw [oneM_no hj hm, hV] at HC
        have hn : (n != 0) = true := by
          have := inst_e _ (fun i => HB.out _) n hm
          rcases this with rfl | rfl <;> rfl
        have HE : Hid (M = .error n) := ⟨by rw [← HR.out.2.2.1, allF_on _ _ _ _ (by omega), hm]; rfl⟩
        have ST := store_new V hVs hV1
        clear hV hV1 hm
        go_wp2_with (go_at_call 7; (with_reducible refine HC.mono ?_); rintro e w1 ⟨he, hb⟩; subst he)
        go_ret3
        refine ⟨by rw [HE.out]; exact rfl, ?_⟩
        exact bel_alloc (HR.out.2.2.2.2.2.trans (hb.mono HR.out.2.2.2.2.2.size)) _
      · obtain ⟨V, hV, hVs, hV1, hVc⟩ : ∃ V : Array Value, i.val = .agg V ∧ V.size = 24 ∧ V.all (·.oneCell') = true ∧ V = i.cells.toArray := ⟨_, rfl, rfl, by kernel_rfl, rfl⟩
        have HC := HO.out wr j (by omega) HR.out.2.2.2.2.2
        rw [oneM_yes hj hm, hV] at HC
        have HS := inst_step hm
        have ha2 : a ≤ len - j := HS.2
        have HE : Hid ((allF len bs f (j + a) >>= fun l => .ok (P ++ [(i, j)] ++ l)) = M) := ⟨by
          rw [← HR.out.2.2.1, allF_on _ _ _ _ (by omega), hm]
          show _ = ((allF len bs f (j + a) >>= _) >>= _)
          rcases allF len bs f (j + a) with n | l
          · rfl
          · show Except.ok _ = Except.ok _
            rw [List.append_assoc]; rfl⟩
        have ST := store_new V hVs hV1
        have HV : Hid (V = i.cells.toArray) := ⟨hVc⟩
        clear hV hm hVc
        go_upto_region 6 with (go_at_call 7; (with_reducible refine HC.mono ?_); rintro e w1 ⟨he, hb⟩; subst he)
        have hx : (w1.alloc (.cells V 27)).heap[w1.heap.size]? = some (.cells V 27 (0, 0)) := heap_alloc_last w1 _
        have bx : Below wr.heap.size wr (w1.alloc (.cells V 27)) := bel_alloc hb _
        have ld := run_loadVar_row (P := Try.prog) _ w1.heap.size 27 27 V (0, 0) _ hx under_inst rfl (by rw [hVs]; exact size_inst)
        have by0 : Below w.heap.size w (w1.alloc (.cells V 27)) := HR.out.2.2.2.2.2.trans (bx.mono HR.out.2.2.2.2.2.size)
        have o1 := HR.out.2.2.2.1
        have o2 := HR.out.2.2.2.2.1
        generalize w1.alloc (.cells V 27) = x at *
        replace o1 := own_bel bx o1
        replace o2 := own_bel bx o2
        clear hx ST HC bx
        iterate 1 go_step
        refine wpList_val (v := u2) (by kernel_rfl) (by kernel_rfl) ?_
        simp only [Act.put, List.getElem_toArray, List.getElem_cons_succ, List.getElem_cons_zero, List.setIfInBounds_toArray, List.set_cons_zero, List.set_cons_succ]
        refine wpList_val (v := .agg V) (by kernel_rfl) (exec_loadV (t := 27) (x := .tmp 6) (p := ⟨w1.heap.size, 0, none⟩) rfl (by kernel_rfl) ld) ?_
        simp only [Act.put, List.getElem_toArray, List.getElem_cons_succ, List.getElem_cons_zero, List.setIfInBounds_toArray, List.set_cons_zero, List.set_cons_succ]
        refine wpList_does (v := .slice (some ⟨x.heap.size, 0, none⟩) 1 1) (w' := x.alloc (.cells V 27)) (by kernel_rfl) (exec_build x i (x := .tmp 24) rfl (by kernel_rfl) HV.out) ?_
        simp only [Act.put, List.getElem_toArray, List.getElem_cons_succ, List.getElem_cons_zero, List.setIfInBounds_toArray, List.set_cons_zero, List.set_cons_succ]
        refine append_inst x rfl (.tmp 23) (.tmp 25) rfl w.heap.size u2 P (by kernel_rfl) o1 i j V HV.out (by kernel_rfl) (by have := HR.out.1; omega) by0.size ?_
        intro v2 w2 own2 bel2 keep2
        simp only [Act.put, List.getElem_toArray, List.getElem_cons_succ, List.getElem_cons_zero, List.setIfInBounds_toArray, List.set_cons_zero, List.set_cons_succ]
        refine wpList_val (v := u3) (by kernel_rfl) (by kernel_rfl) ?_
        simp only [Act.put, List.getElem_toArray, List.getElem_cons_succ, List.getElem_cons_zero, List.setIfInBounds_toArray, List.set_cons_zero, List.set_cons_succ]
        refine wpList_val (v := .int .i64 j) (by kernel_rfl) (by kernel_rfl) ?_
        simp only [Act.put, List.getElem_toArray, List.getElem_cons_succ, List.getElem_cons_zero, List.setIfInBounds_toArray, List.set_cons_zero, List.set_cons_succ]
        refine wpList_does (v := .slice (some ⟨w2.heap.size, 0, none⟩) 1 1) (w' := w2.alloc (.cells #[.int .i64 j] 3)) (by kernel_rfl) (by kernel_rfl) ?_
        simp only [Act.put, List.getElem_toArray, List.getElem_cons_succ, List.getElem_cons_zero, List.setIfInBounds_toArray, List.set_cons_zero, List.set_cons_succ]
        have o3 := keep2 _ _ _ o2
        rw [show P.length = (instAts P).length by simp [instAts]] at o3
        refine append_at w2 rfl (.tmp 27) (.tmp 29) rfl w.heap.size u3 (instAts P) (by kernel_rfl) o3 j (by kernel_rfl) (by have := HR.out.1; simp [instAts]; omega) (by have := bel2.size; have := by0.size; omega) ?_
        intro v3 w3 own3 bel3 keep3
        simp only [Act.put, List.getElem_toArray, List.getElem_cons_succ, List.getElem_cons_zero, List.setIfInBounds_toArray, List.set_cons_zero, List.set_cons_succ]
        refine wpList_val (v := v2) (by kernel_rfl) (by kernel_rfl) ?_
        simp only [Act.put, List.getElem_toArray, List.getElem_cons_succ, List.getElem_cons_zero, List.setIfInBounds_toArray, List.set_cons_zero, List.set_cons_succ]
        refine wpList_val (v := v3) (by kernel_rfl) (by kernel_rfl) ?_
        simp only [Act.put, List.getElem_toArray, List.getElem_cons_succ, List.getElem_cons_zero, List.setIfInBounds_toArray, List.set_cons_zero, List.set_cons_succ]
        refine wpList_nil ?_
        have own4 := keep3 _ _ _ own2
        have by4 := (by0.trans bel2).trans bel3
        have own5 : w3.ownsRow w.heap.size 3 1 v3 (P ++ [(i, j)]).length (instAts (P ++ [(i, j)])) := by
          have e : instAts (P ++ [(i, j)]) = instAts P ++ [Value.int .i64 j] := by simp [instAts]
          rw [e]
          simpa [instAts] using own3
        clear own3 keep3 keep2 own2 bel2 bel3 o1 o2 o3 ld
        go_wp2
        go_roundw
        case rel => exact ⟨j + a, P ++ [(i, j)], f, by simp, by omega, ⟨by have := HR.out.1; have := HS.1; simp; omega, by have := HR.out.2.1; have := HS.1; omega, HE.out, own4, own5, by4⟩⟩
        case measure => have := HS.1; simp [intOf]; omega
    · obtain rfl : j = len := by omega
      have HE : Hid (M = .ok P) := ⟨by rw [← HR.out.2.2.1, allF_end _ _ _ _ (Nat.le_refl _)]; exact congrArg Except.ok (List.append_nil P)⟩
      go_wp2
      go_ret3
      exact ⟨by rw [HE.out]; exact ⟨_, _, rfl, HR.out.2.2.2.1, HR.out.2.2.2.2.1⟩, HR.out.2.2.2.2.2⟩
end Go.Proofs.Ytbcfcbnlfbhgjaa
