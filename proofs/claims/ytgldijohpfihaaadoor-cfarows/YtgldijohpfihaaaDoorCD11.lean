/- The document's Find. -/
import Derived.Test.YtgldijohpfihaaaDoorCD10
import Derived.Test.YtgldijohpfihaaaDoorCFind
namespace Go.Proofs.YtgldijohpfihaaaDoor
open Go.ChangeShapes Go.WideShapes Go.ChangeAt Go.RowKit
set_option linter.unusedVariables false
set_option linter.unusedSimpArgs false

theorem load_rowbD {w : World} {b : Nat} {x : Rw} (hx : Wf x) (h : Bk w b 45 x.cells.toArray) : (loadVar 45 ⟨b, 0, none⟩).run Tryd.prog w = .ok (.agg x.cells.toArray) w :=
  load_rowD hx (h.range 0 _ (fun j v hv => by rw [Nat.zero_add]; simpa using hv))
theorem ix_rowoD (b off n c k : Nat) (hk : k < n) (W : World) : (Instr.indexAt 29 (.slice (some ⟨b, off, none⟩) n c) (.int .i64 (k : Int))).run Tryd.prog W = .ok (.pointer (some ⟨b, off + k * 37, none⟩)) W := by
  have hs := sizeRowD
  cases hq : Tryd.prog.info? 45 with
  | none => rw [hq] at hs; cases hs
  | some i =>
    have hi1 : i.size = 37 := by rw [hq] at hs; simpa using hs
    simp [Instr.indexAt, run_underlying Tryd.underlying29, asIntOf, sizeOf, typeInfo, hq, hi1, caddr_add]
    omega
/-- What has been found behind k rows. -/
def fndM (l : List Rw) (k : Nat) : Rw := if k = 0 then Rw.zero else l.getD (k - 1) Rw.zero
theorem fnd_wf {l : List Rw} (hw : ∀ y ∈ l, Wf y) {k : Nat} (hk : k ≤ l.length) : Wf (fndM l k) := by
  unfold fndM
  by_cases h : k = 0
  · rw [if_pos h]; exact Wf0
  · rw [if_neg h]; exact hw _ (row_in (by omega))
theorem fnd_end {l : List Rw} {x : Int} {k : Nat} (hk : k ≤ l.length) (h1 : ∀ j, j < k → (l.getD j Rw.zero).p ≤ x) (hx : 0 < k → ¬ x < 0) (h2 : x < 0 ∨ k = l.length ∨ ¬ (l.getD k Rw.zero).p ≤ x) : (findM l x).getD Rw.zero = fndM l k ∧ (findM l x).isSome = decide (0 < k) := by
  unfold fndM
  by_cases h : k = 0
  · subst h
    have e : findM l x = none := find_not (by
      rcases h2 with h | h | h
      · exact .inl h
      · exact .inr (.inl (List.length_eq_zero_iff.1 h.symm))
      · exact .inr (.inr h))
    rw [e]; simp
  · obtain ⟨m, rfl⟩ : ∃ m, k = m + 1 := ⟨k - 1, by omega⟩
    have e : findM l x = some (l.getD m Rw.zero) := find_at (hx (by omega)) (by omega) (fun j hj => h1 j (by omega)) (fun h => by
      rcases h2 with h3 | h3 | h3
      · exact absurd h3 (hx (by omega))
      · omega
      · exact h3)
    rw [e]; simp

set_option maxRecDepth 10000 in
set_option maxHeartbeats 1000000 in
theorem rfind_any (ao : Option Addr) (c : Nat) (l : List Rw) (x : Int) (w : World) (hw : ∀ y ∈ l, Wf y) (hl : l.length ≤ 100000) (hx : -9223372036854775808 ≤ x ∧ x ≤ 9223372036854775807) (hr : Rws w ao l) :
    Calls Tryd.prog 18 #[.slice ao l.length c, .int .i64 x] w fun e w' => e = .returned (.tuple #[.agg ((findM l x).getD Rw.zero).cells.toArray, .bool (findM l x).isSome]) ∧ Below w.heap.size w w' := by
  have B0 : Below w.heap.size w (w.alloc (.cells Z37 45)) := (Below.refl _ _).alloc (Nat.le_refl _) _
  have N0 : Bk (w.alloc (.cells Z37 45)) w.heap.size 45 Z37 := Bk.new w _ _
  have hz37 : Z37 = Rw.zero.cells.toArray := by rfl
  have hput : putAt Z37 0 (Value.agg Rw.zero.cells.toArray).cells.toList = Rw.zero.cells.toArray := by rfl
  have hs0 : (w.alloc (.cells Z37 45)).heap.size = w.heap.size + 1 := by simp
  obtain ⟨RA, hRA⟩ : ∃ RA, ((findM l x).getD Rw.zero).cells.toArray = RA := ⟨_, rfl⟩
  obtain ⟨RB, hRB⟩ : ∃ RB, (findM l x).isSome = RB := ⟨_, rfl⟩
  rw [hRA, hRB]
  have HRR : Hid (((findM l x).getD Rw.zero).cells.toArray = RA ∧ (findM l x).isSome = RB) := ⟨hRA, hRB⟩
  have HW : Hid _ := ⟨hw⟩
  have HRw : Hid _ := ⟨hr⟩
  clear hRA hRB hw hr
  have hlI : (l.length : Int) ≤ 100000 := by omega
  go_enter Tryd.func18, Tryd.ntmps18
  go_upto_region 1 with fail
  generalize hW : w.alloc (.cells Z37 45) = W0 at *
  change Code.wp _ _ _ _ (w.alloc (.cells Z37 45))
  rw [hW]
  clear hW
  go_upto_region 2 with fail
  iterate 1 go_step
  refine wpList_val (v := .agg Rw.zero.cells.toArray) (w' := W0) (by kernel_rfl) (by kernel_rfl) ?_
  simp only [Act.put, List.getElem_toArray, List.getElem_cons_succ, List.getElem_cons_zero, List.setIfInBounds_toArray, List.set_cons_zero, List.set_cons_succ]
  refine wpList_val (v := .pointer (some ⟨W0.heap.size, 0, none⟩)) (w' := W0.alloc (.cells Z37 45)) (by kernel_rfl) (by kernel_rfl) ?_
  simp only [Act.put, List.getElem_toArray, List.getElem_cons_succ, List.getElem_cons_zero, List.setIfInBounds_toArray, List.set_cons_zero, List.set_cons_succ]
  have B2 : Below w.heap.size w (W0.alloc (.cells Z37 45)) := B0.trans ((Below.refl _ _).alloc (by omega) _)
  have N2 : Bk (W0.alloc (.cells Z37 45)) W0.heap.size 45 Z37 := Bk.new W0 _ _
  have M2 := N0.bel ((Below.refl W0.heap.size W0).alloc (Nat.le_refl _) (.cells Z37 45)) (by omega)
  obtain ⟨ob, hob⟩ : ∃ ob, W0.heap.size = ob := ⟨_, rfl⟩
  obtain ⟨rb, hrbe⟩ : ∃ rb, w.heap.size = rb := ⟨_, rfl⟩
  have hrb : w.heap.size ≤ rb := by omega
  have hobb : w.heap.size ≤ ob := by omega
  have hne : rb ≠ ob := by omega
  have hne' : ob ≠ rb := by omega
  generalize W0.alloc (.cells Z37 45) = W2 at *
  rw [hob] at N2 ⊢
  rw [hrbe] at M2
  refine wpList_part (g := ob) (off := 0) (val := .agg Rw.zero.cells.toArray) (new := Rw.zero.cells.toArray) rfl rfl (by kernel_rfl) (by kernel_rfl) N2 (by rw [sizeRowD]; rfl) (by decide) (by simpa [Value.cells] using rw_one Rw.zero) (by rfl) ?_
  simp only [Act.put, List.getElem_toArray, List.getElem_cons_succ, List.getElem_cons_zero, List.setIfInBounds_toArray, List.set_cons_zero, List.set_cons_succ]
  have N3 := N2.setR Rw.zero.cells.toArray
  have M3 := M2.setO hne Rw.zero.cells.toArray
  have B3 := B2.trans (below_set W2 ob Rw.zero.cells.toArray hobb)
  rw [hz37] at M3
  generalize W2.setRow ob Rw.zero.cells.toArray = W3 at *
  refine wpList_nil ?_
  have HN3 : Hid _ := ⟨N3⟩
  have HM3 : Hid _ := ⟨M3⟩
  have HB3 : Hid _ := ⟨B3⟩
  simp only [hrbe]
  clear N3 M3 B3 N2 M2 B2 N0 B0 hput hz37 hs0 hob
  go_wp2
  go_loopw [6, 8] (fun fv iv wr => ∃ k : Nat, k ≤ l.length ∧ iv = .int .i64 k ∧ (∃ fb, fv = .bool fb ∧ Hid (fb = decide (0 < k))) ∧ Hid (Bk wr ob 45 (fndM l k).cells.toArray ∧ Bk wr rb 45 Rw.zero.cells.toArray ∧ Below w.heap.size w wr ∧ (∀ j, j < k → (l.getD j Rw.zero).p ≤ x) ∧ (0 < k → ¬ x < 0))) (fun _ iv _ => l.length - (intOf iv).toNat)
  case atStart => exact ⟨0, by omega, rfl, ⟨false, rfl, ⟨rfl⟩⟩, ⟨HN3.out, HM3.out, HB3.out, fun j hj => by omega, fun h => by omega⟩⟩
  case round =>
    obtain ⟨k, hk, rfl, ⟨fb, rfl, HFb⟩, HI⟩ := hrel
    have hki : (k : Int) ≤ 100000 := by omega
    have hk0 : (0 : Int) ≤ (k : Int) := by omega
    have fin : ∀ (y : Rw), fndM l k = y → (x < 0 ∨ k = l.length ∨ ¬ (l.getD k Rw.zero).p ≤ x) → y.cells.toArray = RA ∧ fb = RB := fun y hy h2 => by
      obtain ⟨e1, e2⟩ := fnd_end hk HI.out.2.2.2.1 HI.out.2.2.2.2 h2
      obtain ⟨q1, q2⟩ := HRR.out
      rw [e1, hy] at q1
      rw [e2, ← HFb.out] at q2
      exact ⟨q1, q2⟩
    have HFin : Hid _ := ⟨fin⟩
    have HO : Hid _ := ⟨HI.out.1⟩
    have HN : Hid _ := ⟨HI.out.2.1⟩
    have HBw : Hid _ := ⟨HI.out.2.2.1⟩
    have hy := fnd_wf HW.out hk
    clear fin
    obtain ⟨y, hye⟩ : ∃ y, fndM l k = y := ⟨_, rfl⟩
    rw [hye] at HO hy
    have HYe : Hid _ := ⟨hye⟩
    clear hye
    by_cases hlt : k < l.length
    · have hlti : (k : Int) < (l.length : Int) := by omega
      by_cases hx0 : x < 0
      · obtain ⟨q1, q2⟩ := HFin.out y HYe.out (.inl hx0)
        subst q1 q2
        have hx1 : ¬ 0 ≤ x := by omega
        clear HRR HFin
        go_upto_region 8 with fail
        iterate 1 go_step
        refine wpList_val (v := .agg y.cells.toArray) (w' := wr) (by kernel_rfl) (exec_loadV (t := 45) (p := ⟨ob, 0, none⟩) rfl (by kernel_rfl) (load_rowbD hy HO.out)) ?_
        simp only [Act.put, List.getElem_toArray, List.getElem_cons_succ, List.getElem_cons_zero, List.setIfInBounds_toArray, List.set_cons_zero, List.set_cons_succ]
        refine wpList_val (v := .bool fb) (w' := wr) (by kernel_rfl) (by kernel_rfl) ?_
        simp only [Act.put, List.getElem_toArray, List.getElem_cons_succ, List.getElem_cons_zero, List.setIfInBounds_toArray, List.set_cons_zero, List.set_cons_succ]
        refine wpList_part (g := rb) (off := 0) (val := .agg y.cells.toArray) (new := y.cells.toArray) rfl rfl (by kernel_rfl) (by kernel_rfl) HN.out (by rw [sizeRowD]; simp [Value.cells, Rw.cells_len hy]) (by simp [Value.cells, Rw.cells_len hy, Rw.cells_len Wf0]) (by simpa [Value.cells] using rw_one y) (by have := putAt_mid Rw.zero.cells y.cells [] [] (by rw [Rw.cells_len hy]; rfl); simpa [Value.cells] using this) ?_
        simp only [Act.put, List.getElem_toArray, List.getElem_cons_succ, List.getElem_cons_zero, List.setIfInBounds_toArray, List.set_cons_zero, List.set_cons_succ]
        have N1 := HN.out.setR y.cells.toArray
        have B1 := HBw.out.trans (below_set wr rb y.cells.toArray hrb)
        generalize wr.setRow rb y.cells.toArray = W9 at *
        refine wpList_val (v := .bool fb) (w' := W9) (by kernel_rfl) (by kernel_rfl) ?_
        simp only [Act.put, List.getElem_toArray, List.getElem_cons_succ, List.getElem_cons_zero, List.setIfInBounds_toArray, List.set_cons_zero, List.set_cons_succ]
        refine wpList_nil ?_
        go_wp2_with fail
        (try simp only [Exit.inBlock, Exit.then])
        refine bodyPost_ret (results_ct rfl rfl (load_rowbD hy N1)) rfl ?_
        exact ⟨rfl, by rw [← hrbe]; exact B1⟩
      have hx1 : 0 ≤ x := by omega
      obtain ⟨b, off, rfl, hat⟩ : ∃ b off, ao = some ⟨b, off, none⟩ ∧ ∀ i, i < l.length → RwAt wr b (off + i * 37) (l.getD i Rw.zero) := by
        rcases HRw.out.bel HBw.out with h | h
        · rw [h] at hlt; simp at hlt
        · exact h
      have hatk := hat k hlt
      have c0 := hatk.p
      have hq : Wf (l.getD k Rw.zero) := HW.out _ (row_in hlt)
      have hrk : wr.rangeAt b (off + k * 37) (l.getD k Rw.zero).cells := fun j v hv => by
        have hj : j < 37 := by have := (List.getElem?_eq_some_iff.1 hv).1; rw [Rw.cells_len hq] at this; exact this
        exact (hatk j hj).trans hv
      have HRk : Hid _ := ⟨hrk⟩
      clear hat hatk hrk
      by_cases hp : (l.getD k Rw.zero).p ≤ x
      · have HNx : Hid (fndM l (k + 1) = l.getD k Rw.zero) := ⟨by unfold fndM; rw [if_neg (by omega)]; rfl⟩
        have HJ : Hid (∀ j, j < k + 1 → (l.getD j Rw.zero).p ≤ x) := ⟨fun j hj => by
          by_cases h : j < k
          · exact HI.out.2.2.2.1 j h
          · obtain rfl : j = k := by omega
            exact hp⟩
        clear HFin HI
        generalize l.getD k Rw.zero = q at *
        obtain ⟨p1, hp1⟩ : ∃ p1, q.p = p1 := ⟨_, rfl⟩
        rw [hp1] at c0 hp
        clear hp1
        go_upto_region 6 with fail
        iterate 1 go_step
        refine wpList_val (v := .slice (some ⟨b, off, none⟩) l.length c) (w' := wr) (by kernel_rfl) (by kernel_rfl) ?_
        simp only [Act.put, List.getElem_toArray, List.getElem_cons_succ, List.getElem_cons_zero, List.setIfInBounds_toArray, List.set_cons_zero, List.set_cons_succ]
        refine wpList_val (v := .int .i64 (k : Int)) (w' := wr) (by kernel_rfl) (by kernel_rfl) ?_
        simp only [Act.put, List.getElem_toArray, List.getElem_cons_succ, List.getElem_cons_zero, List.setIfInBounds_toArray, List.set_cons_zero, List.set_cons_succ]
        refine wpList_val (v := .pointer (some ⟨b, off + k * 37, none⟩)) (w' := wr) (by kernel_rfl) (exec_ix rfl (by kernel_rfl) (by kernel_rfl) (ix_rowoD b off l.length c k hlt wr)) ?_
        simp only [Act.put, List.getElem_toArray, List.getElem_cons_succ, List.getElem_cons_zero, List.setIfInBounds_toArray, List.set_cons_zero, List.set_cons_succ]
        refine wpList_val (v := .agg q.cells.toArray) (w' := wr) (by kernel_rfl) (exec_loadV (t := 45) (p := ⟨b, off + k * 37, none⟩) rfl (by kernel_rfl) (load_rowD hq HRk.out)) ?_
        simp only [Act.put, List.getElem_toArray, List.getElem_cons_succ, List.getElem_cons_zero, List.setIfInBounds_toArray, List.set_cons_zero, List.set_cons_succ]
        refine wpList_part (g := ob) (off := 0) (val := .agg q.cells.toArray) (new := q.cells.toArray) rfl rfl (by kernel_rfl) (by kernel_rfl) HO.out (by rw [sizeRowD]; simp [Value.cells, Rw.cells_len hq]) (by simp [Value.cells, Rw.cells_len hq, Rw.cells_len hy]) (by simpa [Value.cells] using rw_one q) (by have := putAt_mid y.cells q.cells [] [] (by rw [Rw.cells_len hq, Rw.cells_len hy]); simpa [Value.cells] using this) ?_
        simp only [Act.put, List.getElem_toArray, List.getElem_cons_succ, List.getElem_cons_zero, List.setIfInBounds_toArray, List.set_cons_zero, List.set_cons_succ]
        have N1 := HO.out.setR q.cells.toArray
        have M1 := HN.out.setO hne q.cells.toArray
        have B1 := HBw.out.trans (below_set wr ob q.cells.toArray hobb)
        have HN1 : Hid _ := ⟨N1⟩
        have HM1 : Hid _ := ⟨M1⟩
        have HB1 : Hid _ := ⟨B1⟩
        clear N1 M1 B1 HRk HO HN HBw
        generalize wr.setRow ob q.cells.toArray = W1 at *
        refine wpList_nil ?_
        clear c0
        go_wp2_with fail
        go_roundw
        case rel => exact ⟨k + 1, hlt, by go_num, ⟨true, rfl, ⟨by simp⟩⟩, ⟨by rw [HNx.out]; exact HN1.out, HM1.out, HB1.out, HJ.out, fun _ => hx0⟩⟩
        case measure => simp [intOf]; omega
      · obtain ⟨q1, q2⟩ := HFin.out y HYe.out (.inr (.inr hp))
        subst q1 q2
        clear HRR HFin HI HRk hq
        generalize l.getD k Rw.zero = q at *
        obtain ⟨p1, hp1⟩ : ∃ p1, q.p = p1 := ⟨_, rfl⟩
        rw [hp1] at c0 hp
        clear hp1
        go_upto_region 8 with fail
        iterate 1 go_step
        refine wpList_val (v := .agg y.cells.toArray) (w' := wr) (by kernel_rfl) (exec_loadV (t := 45) (p := ⟨ob, 0, none⟩) rfl (by kernel_rfl) (load_rowbD hy HO.out)) ?_
        simp only [Act.put, List.getElem_toArray, List.getElem_cons_succ, List.getElem_cons_zero, List.setIfInBounds_toArray, List.set_cons_zero, List.set_cons_succ]
        refine wpList_val (v := .bool fb) (w' := wr) (by kernel_rfl) (by kernel_rfl) ?_
        simp only [Act.put, List.getElem_toArray, List.getElem_cons_succ, List.getElem_cons_zero, List.setIfInBounds_toArray, List.set_cons_zero, List.set_cons_succ]
        refine wpList_part (g := rb) (off := 0) (val := .agg y.cells.toArray) (new := y.cells.toArray) rfl rfl (by kernel_rfl) (by kernel_rfl) HN.out (by rw [sizeRowD]; simp [Value.cells, Rw.cells_len hy]) (by simp [Value.cells, Rw.cells_len hy, Rw.cells_len Wf0]) (by simpa [Value.cells] using rw_one y) (by have := putAt_mid Rw.zero.cells y.cells [] [] (by rw [Rw.cells_len hy]; rfl); simpa [Value.cells] using this) ?_
        simp only [Act.put, List.getElem_toArray, List.getElem_cons_succ, List.getElem_cons_zero, List.setIfInBounds_toArray, List.set_cons_zero, List.set_cons_succ]
        have N1 := HN.out.setR y.cells.toArray
        have B1 := HBw.out.trans (below_set wr rb y.cells.toArray hrb)
        generalize wr.setRow rb y.cells.toArray = W9 at *
        refine wpList_val (v := .bool fb) (w' := W9) (by kernel_rfl) (by kernel_rfl) ?_
        simp only [Act.put, List.getElem_toArray, List.getElem_cons_succ, List.getElem_cons_zero, List.setIfInBounds_toArray, List.set_cons_zero, List.set_cons_succ]
        refine wpList_nil ?_
        go_wp2_with fail
        (try simp only [Exit.inBlock, Exit.then])
        refine bodyPost_ret (results_ct rfl rfl (load_rowbD hy N1)) rfl ?_
        exact ⟨rfl, by rw [← hrbe]; exact B1⟩
    · obtain rfl : k = l.length := by omega
      obtain ⟨q1, q2⟩ := HFin.out y HYe.out (.inr (.inl rfl))
      subst q1 q2
      clear HRR HFin
      go_upto_region 8 with fail
      iterate 1 go_step
      refine wpList_val (v := .agg y.cells.toArray) (w' := wr) (by kernel_rfl) (exec_loadV (t := 45) (p := ⟨ob, 0, none⟩) rfl (by kernel_rfl) (load_rowbD hy HO.out)) ?_
      simp only [Act.put, List.getElem_toArray, List.getElem_cons_succ, List.getElem_cons_zero, List.setIfInBounds_toArray, List.set_cons_zero, List.set_cons_succ]
      refine wpList_val (v := .bool fb) (w' := wr) (by kernel_rfl) (by kernel_rfl) ?_
      simp only [Act.put, List.getElem_toArray, List.getElem_cons_succ, List.getElem_cons_zero, List.setIfInBounds_toArray, List.set_cons_zero, List.set_cons_succ]
      refine wpList_part (g := rb) (off := 0) (val := .agg y.cells.toArray) (new := y.cells.toArray) rfl rfl (by kernel_rfl) (by kernel_rfl) HN.out (by rw [sizeRowD]; simp [Value.cells, Rw.cells_len hy]) (by simp [Value.cells, Rw.cells_len hy, Rw.cells_len Wf0]) (by simpa [Value.cells] using rw_one y) (by have := putAt_mid Rw.zero.cells y.cells [] [] (by rw [Rw.cells_len hy]; rfl); simpa [Value.cells] using this) ?_
      simp only [Act.put, List.getElem_toArray, List.getElem_cons_succ, List.getElem_cons_zero, List.setIfInBounds_toArray, List.set_cons_zero, List.set_cons_succ]
      have N1 := HN.out.setR y.cells.toArray
      have B1 := HBw.out.trans (below_set wr rb y.cells.toArray hrb)
      generalize wr.setRow rb y.cells.toArray = W9 at *
      refine wpList_val (v := .bool fb) (w' := W9) (by kernel_rfl) (by kernel_rfl) ?_
      simp only [Act.put, List.getElem_toArray, List.getElem_cons_succ, List.getElem_cons_zero, List.setIfInBounds_toArray, List.set_cons_zero, List.set_cons_succ]
      refine wpList_nil ?_
      go_wp2_with fail
      (try simp only [Exit.inBlock, Exit.then])
      refine bodyPost_ret (results_ct rfl rfl (load_rowbD hy N1)) rfl ?_
      exact ⟨rfl, by rw [← hrbe]; exact B1⟩
end Go.Proofs.YtgldijohpfihaaaDoor
