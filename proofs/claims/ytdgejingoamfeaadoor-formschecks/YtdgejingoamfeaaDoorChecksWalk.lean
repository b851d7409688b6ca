/- FormsChecks, walked. -/
import Derived.Test.YtdgejingoamfeaaDoorRefTextAny
import Derived.Test.YtdgejingoamfeaaDoorKnows
import Derived.Test.YtdgejingoamfeaaDoorOpenN
namespace Go.Proofs.YtdgejingoamfeaaDoor
open Go.ChangeShapes Go.WideShapes Go.ChangeAt Go.RowKit
set_option linter.unusedVariables false
set_option linter.unusedSimpArgs false

set_option maxHeartbeats 4000000 in
set_option maxRecDepth 4000 in
theorem formsChecks_walk (i : I) (w : World) (h : I64 i) (hn : NB i) (hw : Gp w) :
    Calls Tryd.prog 3 #[i.val] w fun e w' => e = .returned (.bool true) ∧ Below w.heap.size w w' := by
  have C1 : Hid (∀ v, Gp v → Calls Tryd.prog 9 #[.agg #[.int .i64 i.op, .int .i64 i.sz, .int .i64 i.cd, .int .i64 i.to.k, .int .i64 i.to.r, .int .i64 i.to.b, .int .i64 i.to.x, .int .i64 i.to.s, .bool i.to.rip, .bool i.to.fs, .int .i64 i.to.n, .string i.to.nm, .int .i64 i.to.m, .int .i64 i.fr.k, .int .i64 i.fr.r, .int .i64 i.fr.b, .int .i64 i.fr.x, .int .i64 i.fr.s, .bool i.fr.rip, .bool i.fr.fs, .int .i64 i.fr.n, .string i.fr.nm, .int .i64 i.fr.m, .bool i.sh]] v fun e w' => e = .returned (.tuple #[.string (if checkB i then textV i else ⟨#[]⟩), .int .i64 (errV (checkB i))]) ∧ Below v.heap.size v w') := ⟨fun v hv => text_any i v hv h⟩
  have C2 : Hid (∀ v, Calls Tryd.prog 10 #[.agg #[.int .i64 i.op, .int .i64 i.sz, .int .i64 i.cd, .int .i64 i.to.k, .int .i64 i.to.r, .int .i64 i.to.b, .int .i64 i.to.x, .int .i64 i.to.s, .bool i.to.rip, .bool i.to.fs, .int .i64 i.to.n, .string i.to.nm, .int .i64 i.to.m, .int .i64 i.fr.k, .int .i64 i.fr.r, .int .i64 i.fr.b, .int .i64 i.fr.x, .int .i64 i.fr.s, .bool i.fr.rip, .bool i.fr.fs, .int .i64 i.fr.n, .string i.fr.nm, .int .i64 i.fr.m, .bool i.sh]] v fun e w' => e = .returned (.tuple #[.string (if checkB i then textV i else ⟨#[]⟩), .int .i64 (errV (checkB i))]) ∧ Below v.heap.size v w') := ⟨fun v => refText_any i v hn h⟩
  have C3 : Hid (∀ v, Gp v → Calls Tryd.prog 12 #[.agg #[.int .i64 i.op, .int .i64 i.sz, .int .i64 i.cd, .int .i64 i.to.k, .int .i64 i.to.r, .int .i64 i.to.b, .int .i64 i.to.x, .int .i64 i.to.s, .bool i.to.rip, .bool i.to.fs, .int .i64 i.to.n, .string i.to.nm, .int .i64 i.to.m, .int .i64 i.fr.k, .int .i64 i.fr.r, .int .i64 i.fr.b, .int .i64 i.fr.x, .int .i64 i.fr.s, .bool i.fr.rip, .bool i.fr.fs, .int .i64 i.fr.n, .string i.fr.nm, .int .i64 i.fr.m, .bool i.sh]] v fun e w' => e = .returned (.int .i64 (errV (checkB i))) ∧ Below v.heap.size v w') := ⟨fun v hv => check_any i v hv.g⟩
  have C4 : Hid (∀ v, Calls Tryd.prog 13 #[.agg #[.int .i64 i.op, .int .i64 i.sz, .int .i64 i.cd, .int .i64 i.to.k, .int .i64 i.to.r, .int .i64 i.to.b, .int .i64 i.to.x, .int .i64 i.to.s, .bool i.to.rip, .bool i.to.fs, .int .i64 i.to.n, .string i.to.nm, .int .i64 i.to.m, .int .i64 i.fr.k, .int .i64 i.fr.r, .int .i64 i.fr.b, .int .i64 i.fr.x, .int .i64 i.fr.s, .bool i.fr.rip, .bool i.fr.fs, .int .i64 i.fr.n, .string i.fr.nm, .int .i64 i.fr.m, .bool i.sh]] v fun e w' => e = .returned (.int .i64 (errV (checkB i))) ∧ Below v.heap.size v w') := ⟨fun v => by have := refCheck_any i v hn; rw [check_same] at this; exact this⟩
  have C5 : Hid (∀ v, Gp v → Calls Tryd.prog 14 #[] v fun e w' => e = .returned (.bool true) ∧ Below v.heap.size v w') := ⟨fun v hv => knows_any v hv⟩
  have HW : Hid (Gp w) := ⟨hw⟩
  generalize (if checkB i then textV i else ⟨#[]⟩) = t at *
  generalize errV (checkB i) = c at *
  have C6 : Hid (∀ v, Calls Tryd.prog 11 #[.int .i64 c] v fun e w' => e = .returned (.int .i64 c) ∧ w' = v) := ⟨fun v => num_any c v⟩
  have L0 : Hid (∀ v, IA v w.heap.size i → (loadVar 25 ⟨w.heap.size, 0, none⟩).run Tryd.prog v = .ok (.agg #[.int .i64 i.op, .int .i64 i.sz, .int .i64 i.cd, .int .i64 i.to.k, .int .i64 i.to.r, .int .i64 i.to.b, .int .i64 i.to.x, .int .i64 i.to.s, .bool i.to.rip, .bool i.to.fs, .int .i64 i.to.n, .string i.to.nm, .int .i64 i.to.m, .int .i64 i.fr.k, .int .i64 i.fr.r, .int .i64 i.fr.b, .int .i64 i.fr.x, .int .i64 i.fr.s, .bool i.fr.rip, .bool i.fr.fs, .int .i64 i.fr.n, .string i.fr.nm, .int .i64 i.fr.m, .bool i.sh]) v) := ⟨fun v h => h.whole⟩
  have A : Hid (IA (w.alloc (.cells #[.int .i64 i.op, .int .i64 i.sz, .int .i64 i.cd, .int .i64 i.to.k, .int .i64 i.to.r, .int .i64 i.to.b, .int .i64 i.to.x, .int .i64 i.to.s, .bool i.to.rip, .bool i.to.fs, .int .i64 i.to.n, .string i.to.nm, .int .i64 i.to.m, .int .i64 i.fr.k, .int .i64 i.fr.r, .int .i64 i.fr.b, .int .i64 i.fr.x, .int .i64 i.fr.s, .bool i.fr.rip, .bool i.fr.fs, .int .i64 i.fr.n, .string i.fr.nm, .int .i64 i.fr.m, .bool i.sh] 25)) w.heap.size i ∧ Gp (w.alloc (.cells #[.int .i64 i.op, .int .i64 i.sz, .int .i64 i.cd, .int .i64 i.to.k, .int .i64 i.to.r, .int .i64 i.to.b, .int .i64 i.to.x, .int .i64 i.to.s, .bool i.to.rip, .bool i.to.fs, .int .i64 i.to.n, .string i.to.nm, .int .i64 i.to.m, .int .i64 i.fr.k, .int .i64 i.fr.r, .int .i64 i.fr.b, .int .i64 i.fr.x, .int .i64 i.fr.s, .bool i.fr.rip, .bool i.fr.fs, .int .i64 i.fr.n, .string i.fr.nm, .int .i64 i.fr.m, .bool i.sh] 25)) ∧ Below w.heap.size w (w.alloc (.cells #[.int .i64 i.op, .int .i64 i.sz, .int .i64 i.cd, .int .i64 i.to.k, .int .i64 i.to.r, .int .i64 i.to.b, .int .i64 i.to.x, .int .i64 i.to.s, .bool i.to.rip, .bool i.to.fs, .int .i64 i.to.n, .string i.to.nm, .int .i64 i.to.m, .int .i64 i.fr.k, .int .i64 i.fr.r, .int .i64 i.fr.b, .int .i64 i.fr.x, .int .i64 i.fr.s, .bool i.fr.rip, .bool i.fr.fs, .int .i64 i.fr.n, .string i.fr.nm, .int .i64 i.fr.m, .bool i.sh] 25))) := ⟨IA.new w i 25, HW.out.alloc _, bel_alloc (Below.refl _ _) _⟩
  obtain ⟨ec, hec⟩ : ∃ b, (c == c) = b := ⟨_, rfl⟩
  obtain rfl : ec = true := by rw [← hec]; simp
  have hss : (t.toList == t.toList) = true := by simp
  unfold I.val at *
  clear hw hn h HW
  go_enter Tryd.func3, Tryd.ntmps3
  go_wp2_with (first
    | (refine wpList_load_of (t := 25) rfl (by kernel_rfl) (by kernel_rfl) (L0.out _ A.out.1) ?_)
    | (go_at_call 9; refine (C1.out _ A.out.2.1).mono ?_; rintro e u ⟨rfl, hb⟩; have A : Hid (IA u w.heap.size i ∧ Gp u ∧ Below w.heap.size w u) := ⟨A.out.1.bel hb, A.out.2.1.bel hb, bel_trans A.out.2.2 hb⟩; clear hb)
    | (go_at_call 10; refine (C2.out _).mono ?_; rintro e u ⟨rfl, hb⟩; have A : Hid (IA u w.heap.size i ∧ Gp u ∧ Below w.heap.size w u) := ⟨A.out.1.bel hb, A.out.2.1.bel hb, bel_trans A.out.2.2 hb⟩; clear hb))
  refine wp_region_held_drew (S := fun v => IA v w.heap.size i ∧ Gp v ∧ Below w.heap.size w v) (by kernel_rfl) ⟨A.out.1.bel (bel_drew _), A.out.2.1.bel (bel_drew _), A.out.2.2.drew⟩ (fun h0 => ?_)
  clear A
  refine wpAnyH_take (i := 0) rfl (by kernel_rfl) (by kernel_rfl) (by kernel_rfl) (fun _ _ _ h => h) (yields_load (t := 25) (p := ⟨w.heap.size, 0, none⟩) rfl (by kernel_rfl) (by kernel_rfl) (fun v h => L0.out v h.1)) h0 ?_
  simp only [Act.put, List.getElem_toArray, List.getElem_cons_succ, List.getElem_cons_zero, List.setIfInBounds_toArray, List.set_cons_zero, List.set_cons_succ]
  refine wpAnyH_take (i := 3) rfl (by kernel_rfl) (by kernel_rfl) (by kernel_rfl) (fun _ _ _ h => h) (yields_load (t := 25) (p := ⟨w.heap.size, 0, none⟩) rfl (by kernel_rfl) (by kernel_rfl) (fun v h => L0.out v h.1)) h0 ?_
  simp only [Act.put, List.getElem_toArray, List.getElem_cons_succ, List.getElem_cons_zero, List.setIfInBounds_toArray, List.set_cons_zero, List.set_cons_succ]
  refine wpAnyH_ready (rs := [1]) (by kernel_rfl) (by simp) ?_
  refine AllReadyH.cons rfl (fun K hK => ?_) AllReadyH.nil
  simp only [List.getElem_toArray, List.getElem_cons_succ, List.getElem_cons_zero]
  refine wp_if (by kernel_rfl) ?_
  refine wp_of_enter (f := 12) (by kernel_rfl) (C3.out _ h0.2.1) ?_
  rintro e w1 ⟨rfl, hbw1⟩
  refine ⟨_, rfl, hK.out _ _ ⟨h0.1.bel hbw1, h0.2.1.bel hbw1, bel_trans h0.2.2 hbw1⟩ (fun h1 => ?_)⟩
  clear hK
  simp only [Act.put, List.getElem_toArray, List.getElem_cons_succ, List.getElem_cons_zero, List.setIfInBounds_toArray, List.set_cons_zero, List.set_cons_succ]
  refine wpAnyH_ready (rs := [2]) (by kernel_rfl) (by simp) ?_
  refine AllReadyH.cons rfl (fun K hK => ?_) AllReadyH.nil
  simp only [List.getElem_toArray, List.getElem_cons_succ, List.getElem_cons_zero]
  refine wp_if (by kernel_rfl) ?_
  refine wp_of_enter (f := 11) (by kernel_rfl) (C6.out _) ?_
  rintro e w2 ⟨rfl, hww2⟩
  subst w2
  refine ⟨_, rfl, hK.out _ _ h1 (fun h2 => ?_)⟩
  clear hK
  simp only [Act.put, List.getElem_toArray, List.getElem_cons_succ, List.getElem_cons_zero, List.setIfInBounds_toArray, List.set_cons_zero, List.set_cons_succ]
  refine wpAnyH_ready (rs := [4]) (by kernel_rfl) (by simp) ?_
  refine AllReadyH.cons rfl (fun K hK => ?_) AllReadyH.nil
  simp only [List.getElem_toArray, List.getElem_cons_succ, List.getElem_cons_zero]
  refine wp_if (by kernel_rfl) ?_
  refine wp_of_enter (f := 13) (by kernel_rfl) (C4.out _) ?_
  rintro e w3 ⟨rfl, hbw3⟩
  refine ⟨_, rfl, hK.out _ _ ⟨h2.1.bel hbw3, h2.2.1.bel hbw3, bel_trans h2.2.2 hbw3⟩ (fun h3 => ?_)⟩
  clear hK
  simp only [Act.put, List.getElem_toArray, List.getElem_cons_succ, List.getElem_cons_zero, List.setIfInBounds_toArray, List.set_cons_zero, List.set_cons_succ]
  refine wpAnyH_take (i := 5) (v := .bool (c == c)) rfl (by kernel_rfl) (by kernel_rfl) (by kernel_rfl) (fun _ _ _ h => h) (Or.inl ⟨by kernel_rfl, fun v _ => by kernel_rfl⟩) h3 ?_
  simp only [Act.put, List.getElem_toArray, List.getElem_cons_succ, List.getElem_cons_zero, List.setIfInBounds_toArray, List.set_cons_zero, List.set_cons_succ]
  rw [hec]
  refine wpAnyH_take (i := 6) (v := .bool true) rfl (by kernel_rfl) (by kernel_rfl) (by kernel_rfl) (fun _ _ _ h => h) (Or.inl ⟨by kernel_rfl, fun v _ => by kernel_rfl⟩) h3 ?_
  simp only [Act.put, List.getElem_toArray, List.getElem_cons_succ, List.getElem_cons_zero, List.setIfInBounds_toArray, List.set_cons_zero, List.set_cons_succ]
  refine wpAnyH_take (i := 7) (v := .string t) rfl (by kernel_rfl) (by kernel_rfl) (by kernel_rfl) (fun _ _ _ h => h) (Or.inl ⟨by kernel_rfl, fun v _ => by kernel_rfl⟩) h3 ?_
  simp only [Act.put, List.getElem_toArray, List.getElem_cons_succ, List.getElem_cons_zero, List.setIfInBounds_toArray, List.set_cons_zero, List.set_cons_succ]
  refine wpAnyH_take (i := 8) (v := .string t) rfl (by kernel_rfl) (by kernel_rfl) (by kernel_rfl) (fun _ _ _ h => h) (Or.inl ⟨by kernel_rfl, fun v _ => by kernel_rfl⟩) h3 ?_
  simp only [Act.put, List.getElem_toArray, List.getElem_cons_succ, List.getElem_cons_zero, List.setIfInBounds_toArray, List.set_cons_zero, List.set_cons_succ]
  refine wpAnyH_take (i := 9) (v := .bool (t.toList == t.toList)) rfl (by kernel_rfl) (by kernel_rfl) (by kernel_rfl) (fun _ _ _ h => h) (Or.inl ⟨by kernel_rfl, fun v _ => by kernel_rfl⟩) h3 ?_
  simp only [Act.put, List.getElem_toArray, List.getElem_cons_succ, List.getElem_cons_zero, List.setIfInBounds_toArray, List.set_cons_zero, List.set_cons_succ]
  rw [hss]
  refine wpAnyH_take (i := 10) (v := .bool true) rfl (by kernel_rfl) (by kernel_rfl) (by kernel_rfl) (fun _ _ _ h => h) (Or.inl ⟨by kernel_rfl, fun v _ => by kernel_rfl⟩) h3 ?_
  simp only [Act.put, List.getElem_toArray, List.getElem_cons_succ, List.getElem_cons_zero, List.setIfInBounds_toArray, List.set_cons_zero, List.set_cons_succ]
  refine wpAnyH_take (i := 11) (v := .bool true) rfl (by kernel_rfl) (by kernel_rfl) (by kernel_rfl) (fun _ _ _ h => h) (Or.inl ⟨by kernel_rfl, fun v _ => by kernel_rfl⟩) h3 ?_
  simp only [Act.put, List.getElem_toArray, List.getElem_cons_succ, List.getElem_cons_zero, List.setIfInBounds_toArray, List.set_cons_zero, List.set_cons_succ]
  refine wpAnyH_take (i := 12) (v := .int .i64 c) rfl (by kernel_rfl) (by kernel_rfl) (by kernel_rfl) (fun _ _ _ h => h) (Or.inl ⟨by kernel_rfl, fun v _ => by kernel_rfl⟩) h3 ?_
  simp only [Act.put, List.getElem_toArray, List.getElem_cons_succ, List.getElem_cons_zero, List.setIfInBounds_toArray, List.set_cons_zero, List.set_cons_succ]
  refine wpAnyH_take (i := 14) (v := .int .i64 c) rfl (by kernel_rfl) (by kernel_rfl) (by kernel_rfl) (fun _ _ _ h => h) (Or.inl ⟨by kernel_rfl, fun v _ => by kernel_rfl⟩) h3 ?_
  simp only [Act.put, List.getElem_toArray, List.getElem_cons_succ, List.getElem_cons_zero, List.setIfInBounds_toArray, List.set_cons_zero, List.set_cons_succ]
  refine wpAnyH_ready (rs := [13]) (by kernel_rfl) (by simp) ?_
  refine AllReadyH.cons rfl (fun K hK => ?_) AllReadyH.nil
  simp only [List.getElem_toArray, List.getElem_cons_succ, List.getElem_cons_zero]
  refine wp_if (by kernel_rfl) ?_
  refine wp_of_enter (f := 11) (by kernel_rfl) (C6.out _) ?_
  rintro e w4 ⟨rfl, hww4⟩
  subst w4
  refine ⟨_, rfl, hK.out _ _ h3 (fun h4 => ?_)⟩
  clear hK
  simp only [Act.put, List.getElem_toArray, List.getElem_cons_succ, List.getElem_cons_zero, List.setIfInBounds_toArray, List.set_cons_zero, List.set_cons_succ]
  refine wpAnyH_take (i := 15) (v := .bool (c == c)) rfl (by kernel_rfl) (by kernel_rfl) (by kernel_rfl) (fun _ _ _ h => h) (Or.inl ⟨by kernel_rfl, fun v _ => by kernel_rfl⟩) h4 ?_
  simp only [Act.put, List.getElem_toArray, List.getElem_cons_succ, List.getElem_cons_zero, List.setIfInBounds_toArray, List.set_cons_zero, List.set_cons_succ]
  rw [hec]
  refine wpAnyH_take (i := 16) (v := .bool true) rfl (by kernel_rfl) (by kernel_rfl) (by kernel_rfl) (fun _ _ _ h => h) (Or.inl ⟨by kernel_rfl, fun v _ => by kernel_rfl⟩) h4 ?_
  simp only [Act.put, List.getElem_toArray, List.getElem_cons_succ, List.getElem_cons_zero, List.setIfInBounds_toArray, List.set_cons_zero, List.set_cons_succ]
  refine wpAnyH_take (i := 17) (v := .bool true) rfl (by kernel_rfl) (by kernel_rfl) (by kernel_rfl) (fun _ _ _ h => h) (Or.inl ⟨by kernel_rfl, fun v _ => by kernel_rfl⟩) h4 ?_
  simp only [Act.put, List.getElem_toArray, List.getElem_cons_succ, List.getElem_cons_zero, List.setIfInBounds_toArray, List.set_cons_zero, List.set_cons_succ]
  refine wpAnyH_ready (rs := [18]) (by kernel_rfl) (by simp) ?_
  refine AllReadyH.cons rfl (fun K hK => ?_) AllReadyH.nil
  simp only [List.getElem_toArray, List.getElem_cons_succ, List.getElem_cons_zero]
  refine wp_if (by kernel_rfl) ?_
  refine wp_of_enter (f := 14) (by kernel_rfl) (C5.out _ h4.2.1) ?_
  rintro e w5 ⟨rfl, hbw5⟩
  refine ⟨_, rfl, hK.out _ _ ⟨h4.1.bel hbw5, h4.2.1.bel hbw5, bel_trans h4.2.2 hbw5⟩ (fun h5 => ?_)⟩
  clear hK
  simp only [Act.put, List.getElem_toArray, List.getElem_cons_succ, List.getElem_cons_zero, List.setIfInBounds_toArray, List.set_cons_zero, List.set_cons_succ]
  refine wpAnyH_take (i := 19) (v := .bool true) rfl (by kernel_rfl) (by kernel_rfl) (by kernel_rfl) (fun _ _ _ h => h) (Or.inl ⟨by kernel_rfl, fun v _ => by kernel_rfl⟩) h5 ?_
  simp only [Act.put, List.getElem_toArray, List.getElem_cons_succ, List.getElem_cons_zero, List.setIfInBounds_toArray, List.set_cons_zero, List.set_cons_succ]
  refine wpAnyH_take (i := 20) (v := .bool true) rfl (by kernel_rfl) (by kernel_rfl) (by kernel_rfl) (fun _ _ _ h => h) (Or.inl ⟨by kernel_rfl, fun v _ => by kernel_rfl⟩) h5 ?_
  simp only [Act.put, List.getElem_toArray, List.getElem_cons_succ, List.getElem_cons_zero, List.setIfInBounds_toArray, List.set_cons_zero, List.set_cons_succ]
  refine wpAnyH_done (by kernel_rfl) ?_ _
  have HX := hid h5
  clear h5 h4 h3 h2 h1 h0 hbw1 hbw3 hbw5
  go_wp2
  go_ret
  exact ⟨rfl, HX.out.2.2⟩
end Go.Proofs.YtdgejingoamfeaaDoor
