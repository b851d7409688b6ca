/- The program's Find. -/
import Derived.Test.YtpbnldfekadalaaDoorCPRows
namespace Go.Proofs.YtpbnldfekadalaaDoor
open Go.ChangeShapes Go.WideShapes Go.ChangeAt Go.RowKit
set_option linter.unusedVariables false
set_option linter.unusedSimpArgs false

theorem results_ct {fn : Func} {t u : Tmp} {ty : TypeId} (h : fn.results = #[.cell t ty, .tmp u]) {tmps : Array Value} {w : World} {p : Addr} {v : Value} (hp : tmps.getD t undef = .pointer (some p)) (hl : (loadVar ty p).run Tryd.prog w = .ok v w) :
    (results fn tmps).run Tryd.prog w = .ok (.tuple #[v, tmps.getD u undef]) w := by
  have hp' : tmps[t]?.getD undef = .pointer (some p) := by simpa using hp
  simp [results, h, hp', hl, asAddr]
theorem Wf0 : Wf Rw.zero := rfl
theorem load_rowb {w : World} {b : Nat} {x : Rw} (hx : Wf x) (h : Bk w b 71 x.cells.toArray) : (loadVar 71 ⟨b, 0, none⟩).run Tryd.prog w = .ok (.agg x.cells.toArray) w :=
  load_row hx (h.range 0 _ (fun j v hv => by rw [Nat.zero_add]; simpa using hv))
theorem ix_rowo (b off n c k : Nat) (hk : k < n) (W : World) : (Instr.indexAt 65 (.slice (some ⟨b, off, none⟩) n c) (.int .i64 (k : Int))).run Tryd.prog W = .ok (.pointer (some ⟨b, off + k * 37, none⟩)) W := by
  have hs := sizeRow
  cases hq : Tryd.prog.info? 71 with
  | none => rw [hq] at hs; cases hs
  | some i =>
    have hi1 : i.size = 37 := by rw [hq] at hs; simpa using hs
    simp [Instr.indexAt, run_underlying Tryd.underlying65, asIntOf, sizeOf, typeInfo, hq, hi1, caddr_add]
    omega
theorem find_at {l : List Rw} {x : Int} {k : Nat} (hx : ¬ x < 0) (hk : k < l.length) (h1 : ∀ j, j ≤ k → (l.getD j Rw.zero).p ≤ x) (h2 : k + 1 < l.length → ¬ (l.getD (k + 1) Rw.zero).p ≤ x) : findM l x = some (l.getD k Rw.zero) := by
  unfold findM
  rw [if_neg hx]
  have e : l.takeWhile (fun q => decide (q.p ≤ x)) = l.take (k + 1) := by
    have hs : l = l.take (k + 1) ++ l.drop (k + 1) := (List.take_append_drop _ l).symm
    have ha : ∀ q ∈ l.take (k + 1), decide (q.p ≤ x) = true := fun q hq => by
      obtain ⟨j, hj, rfl⟩ := List.mem_iff_getElem.1 hq
      have hj' : j < k + 1 := by simp at hj; omega
      have := h1 j (by omega)
      have hjl : j < l.length := by omega
      simp only [List.getD, List.getElem?_eq_getElem hjl, Option.getD_some] at this
      simpa using this
    conv => lhs; rw [hs]
    rw [List.takeWhile_append_of_pos ha]
    by_cases hk1 : k + 1 < l.length
    · have hd : l.drop (k + 1) = l[k + 1] :: l.drop (k + 1 + 1) := List.drop_eq_getElem_cons hk1
      have := h2 hk1
      simp only [List.getD, List.getElem?_eq_getElem hk1, Option.getD_some] at this
      rw [hd, List.takeWhile_cons_of_neg (by simpa using this), List.append_nil]
    · rw [List.drop_of_length_le (by omega)]; simp
  rw [e, List.getLast?_eq_getElem?]
  have hl : (l.take (k + 1)).length = k + 1 := by simp; omega
  rw [hl]
  simp [List.getElem?_take, hk]
theorem find_not {l : List Rw} {x : Int} (h : x < 0 ∨ l = [] ∨ ¬ (l.getD 0 Rw.zero).p ≤ x) : findM l x = none := by
  unfold findM
  by_cases hx : x < 0
  · rw [if_pos hx]
  rw [if_neg hx]
  rcases h with h | h | h
  · exact absurd h hx
  · rw [h]; rfl
  · cases l with
    | nil => rfl
    | cons a l =>
      rw [List.takeWhile_cons_of_neg (by simpa using h)]; rfl

set_option maxRecDepth 10000 in
set_option maxHeartbeats 1000000 in
theorem pfind : PFind := by
  intro ao c l x w hw hl hx hr
  have B0 : Below w.heap.size w (w.alloc (.cells Z37 71)) := (Below.refl _ _).alloc (Nat.le_refl _) _
  have N0 : Bk (w.alloc (.cells Z37 71)) w.heap.size 71 Z37 := Bk.new w _ _
  have hput : putAt Z37 0 (Value.agg Rw.zero.cells.toArray).cells.toList = Rw.zero.cells.toArray := by rfl
  have hr0 := hr.bel B0
  by_cases hx0 : x < 0
  · rw [find_not (.inl hx0)]
    show Calls _ _ _ _ fun e w' => e = .returned (.tuple #[.agg Rw.zero.cells.toArray, .bool false]) ∧ _
    go_enter Tryd.func19, Tryd.ntmps19
    go_upto_region 1 with fail
    generalize hW : w.alloc (.cells Z37 71) = W0 at *
    change Code.wp _ _ _ _ (w.alloc (.cells Z37 71))
    rw [hW]
    clear hW
    go_upto_region 2 with fail
    iterate 1 go_step
    refine wpList_val (v := .agg Rw.zero.cells.toArray) (w' := W0) (by kernel_rfl) (by kernel_rfl) ?_
    simp only [Act.put, List.getElem_toArray, List.getElem_cons_succ, List.getElem_cons_zero, List.setIfInBounds_toArray, List.set_cons_zero, List.set_cons_succ]
    refine wpList_part (g := w.heap.size) (off := 0) (val := .agg Rw.zero.cells.toArray) rfl rfl (by kernel_rfl) (by kernel_rfl) N0 (by rw [sizeRow]; rfl) (by decide) (by simpa [Value.cells] using rw_one Rw.zero) rfl ?_
    simp only [Act.put, List.getElem_toArray, List.getElem_cons_succ, List.getElem_cons_zero, List.setIfInBounds_toArray, List.set_cons_zero, List.set_cons_succ]
    have N1 := N0.setR (putAt Z37 0 (Value.agg Rw.zero.cells.toArray).cells.toList)
    rw [hput] at N1
    rw [hput]
    have B1 := B0.trans (below_set W0 w.heap.size Rw.zero.cells.toArray (Nat.le_refl _))
    generalize W0.setRow w.heap.size Rw.zero.cells.toArray = W1 at *
    refine wpList_val (v := .bool false) (w' := W1) (by kernel_rfl) (by kernel_rfl) ?_
    simp only [Act.put, List.getElem_toArray, List.getElem_cons_succ, List.getElem_cons_zero, List.setIfInBounds_toArray, List.set_cons_zero, List.set_cons_succ]
    refine wpList_nil ?_
    go_wp2_with fail
    (try simp only [Exit.inBlock, Exit.then])
    refine bodyPost_ret (results_ct rfl rfl (load_rowb (Wf0) N1)) rfl ?_
    exact ⟨rfl, B1⟩
  by_cases hl0 : l = []
  · subst hl0
    rw [find_not (.inr (.inl rfl))]
    show Calls _ _ _ _ fun e w' => e = .returned (.tuple #[.agg Rw.zero.cells.toArray, .bool false]) ∧ _
    go_enter Tryd.func19, Tryd.ntmps19
    go_upto_region 1 with fail
    generalize hW : w.alloc (.cells Z37 71) = W0 at *
    change Code.wp _ _ _ _ (w.alloc (.cells Z37 71))
    rw [hW]
    clear hW
    go_upto_region 2 with fail
    iterate 1 go_step
    refine wpList_val (v := .agg Rw.zero.cells.toArray) (w' := W0) (by kernel_rfl) (by kernel_rfl) ?_
    simp only [Act.put, List.getElem_toArray, List.getElem_cons_succ, List.getElem_cons_zero, List.setIfInBounds_toArray, List.set_cons_zero, List.set_cons_succ]
    refine wpList_part (g := w.heap.size) (off := 0) (val := .agg Rw.zero.cells.toArray) rfl rfl (by kernel_rfl) (by kernel_rfl) N0 (by rw [sizeRow]; rfl) (by decide) (by simpa [Value.cells] using rw_one Rw.zero) rfl ?_
    simp only [Act.put, List.getElem_toArray, List.getElem_cons_succ, List.getElem_cons_zero, List.setIfInBounds_toArray, List.set_cons_zero, List.set_cons_succ]
    have N1 := N0.setR (putAt Z37 0 (Value.agg Rw.zero.cells.toArray).cells.toList)
    rw [hput] at N1
    rw [hput]
    have B1 := B0.trans (below_set W0 w.heap.size Rw.zero.cells.toArray (Nat.le_refl _))
    generalize W0.setRow w.heap.size Rw.zero.cells.toArray = W1 at *
    refine wpList_val (v := .bool false) (w' := W1) (by kernel_rfl) (by kernel_rfl) ?_
    simp only [Act.put, List.getElem_toArray, List.getElem_cons_succ, List.getElem_cons_zero, List.setIfInBounds_toArray, List.set_cons_zero, List.set_cons_succ]
    refine wpList_nil ?_
    go_wp2_with fail
    (try simp only [Exit.inBlock, Exit.then])
    refine bodyPost_ret (results_ct rfl rfl (load_rowb (Wf0) N1)) rfl ?_
    exact ⟨rfl, B1⟩
  have hpos : 0 < l.length := List.length_pos_iff.2 hl0
  have hne : ((l.length : Int) == 0) = false := by simp; omega
  obtain ⟨b, off, rfl, hat⟩ : ∃ b off, ao = some ⟨b, off, none⟩ ∧ ∀ i, i < l.length → RwAt (w.alloc (.cells Z37 71)) b (off + i * 37) (l.getD i Rw.zero) := by
    rcases hr0 with h | h
    · exact absurd h hl0
    · exact h
  have c0 := (hat 0 hpos).p
  rw [Nat.zero_mul, Nat.add_zero] at c0
  have hlI : (0 : Int) < (l.length : Int) := by omega
  by_cases hf : (l.getD 0 Rw.zero).p ≤ x
  rotate_left
  · rw [find_not (.inr (.inr hf))]
    show Calls _ _ _ _ fun e w' => e = .returned (.tuple #[.agg Rw.zero.cells.toArray, .bool false]) ∧ _
    clear hat
    generalize (l.getD 0 Rw.zero).p = p0 at *
    have hgt : x < p0 := by omega
    go_enter Tryd.func19, Tryd.ntmps19
    go_upto_region 1 with fail
    generalize hW : w.alloc (.cells Z37 71) = W0 at *
    change Code.wp _ _ _ _ (w.alloc (.cells Z37 71))
    rw [hW]
    clear hW
    go_upto_region 2 with fail
    iterate 1 go_step
    refine wpList_val (v := .agg Rw.zero.cells.toArray) (w' := W0) (by kernel_rfl) (by kernel_rfl) ?_
    simp only [Act.put, List.getElem_toArray, List.getElem_cons_succ, List.getElem_cons_zero, List.setIfInBounds_toArray, List.set_cons_zero, List.set_cons_succ]
    refine wpList_part (g := w.heap.size) (off := 0) (val := .agg Rw.zero.cells.toArray) rfl rfl (by kernel_rfl) (by kernel_rfl) N0 (by rw [sizeRow]; rfl) (by decide) (by simpa [Value.cells] using rw_one Rw.zero) rfl ?_
    simp only [Act.put, List.getElem_toArray, List.getElem_cons_succ, List.getElem_cons_zero, List.setIfInBounds_toArray, List.set_cons_zero, List.set_cons_succ]
    have N1 := N0.setR (putAt Z37 0 (Value.agg Rw.zero.cells.toArray).cells.toList)
    rw [hput] at N1
    rw [hput]
    have B1 := B0.trans (below_set W0 w.heap.size Rw.zero.cells.toArray (Nat.le_refl _))
    generalize W0.setRow w.heap.size Rw.zero.cells.toArray = W1 at *
    refine wpList_val (v := .bool false) (w' := W1) (by kernel_rfl) (by kernel_rfl) ?_
    simp only [Act.put, List.getElem_toArray, List.getElem_cons_succ, List.getElem_cons_zero, List.setIfInBounds_toArray, List.set_cons_zero, List.set_cons_succ]
    refine wpList_nil ?_
    go_wp2_with fail
    (try simp only [Exit.inBlock, Exit.then])
    refine bodyPost_ret (results_ct rfl rfl (load_rowb (Wf0) N1)) rfl ?_
    exact ⟨rfl, B1⟩
  have HW : Hid (∀ q ∈ l, Wf q) := ⟨hw⟩
  have HAt : Hid _ := ⟨hat⟩
  have hll : (l.length : Int) ≤ 4001 := by omega
  have hf0 : ¬ x < (l.getD 0 Rw.zero).p := by omega
  obtain ⟨R, hR⟩ : ∃ R, findM l x = R := ⟨_, rfl⟩
  rw [hR]
  have HR : Hid _ := ⟨hR⟩
  have HF0 : Hid _ := ⟨hf⟩
  clear hat hR hw hr hr0
  obtain ⟨p0, hp0⟩ : ∃ p0, (l.getD 0 Rw.zero).p = p0 := ⟨_, rfl⟩
  rw [hp0] at c0 hf0
  clear hp0
  obtain ⟨RA, hRA⟩ : ∃ RA, (R.getD Rw.zero).cells.toArray = RA := ⟨_, rfl⟩
  obtain ⟨RB, hRB⟩ : ∃ RB, R.isSome = RB := ⟨_, rfl⟩
  rw [hRA, hRB]
  have HRR : Hid ((R.getD Rw.zero).cells.toArray = RA ∧ R.isSome = RB) := ⟨hRA, hRB⟩
  clear hRA hRB
  go_enter Tryd.func19, Tryd.ntmps19
  go_upto_region 1 with fail
  generalize hW : w.alloc (.cells Z37 71) = W0 at *
  change Code.wp _ _ _ _ (w.alloc (.cells Z37 71))
  rw [hW]
  clear hW
  have HN : Hid _ := ⟨N0⟩
  have HB : Hid _ := ⟨B0⟩
  clear N0 B0 hput hf hl
  go_wp2
  go_loopw [6] (fun iv wr => ∃ k : Nat, k < l.length ∧ iv = .int .i64 k ∧ Hid (wr = W0) ∧ Hid (∀ j, j ≤ k → (l.getD j Rw.zero).p ≤ x)) (fun iv _ => l.length - (intOf iv).toNat)
  case atStart => exact ⟨0, hpos, rfl, ⟨rfl⟩, ⟨fun j hj => by (obtain rfl : j = 0 := (by omega)); exact HF0.out⟩⟩
  case round =>
    obtain ⟨k, hk, rfl, hwr, HJ⟩ := hrel
    have hwr := hwr.out
    subst hwr
    have hki : (k : Int) ≤ 4000 := by omega
    have hk0 : (0 : Int) ≤ (k : Int) := by omega
    by_cases hk1 : k + 1 < l.length
    · have g1 : (k : Int) + 1 < (l.length : Int) := by omega
      have d1 := (HAt.out (k + 1) hk1).p
      obtain ⟨j, hj⟩ : ∃ j, j = k + 1 := ⟨_, rfl⟩
      have hji : (k : Int) + 1 = (j : Int) := by omega
      have hjl : (j : Int) < (l.length : Int) := by omega
      have hj0 : (0 : Int) ≤ (j : Int) := by omega
      rw [← hj] at d1
      by_cases hp : (l.getD j Rw.zero).p ≤ x
      · have HP : Hid ((l.getD j Rw.zero).p ≤ x) := ⟨hp⟩
        have HJj : Hid (j = k + 1) := ⟨hj⟩
        clear hj
        obtain ⟨p1, hp1⟩ : ∃ p1, (l.getD j Rw.zero).p = p1 := ⟨_, rfl⟩
        rw [hp1] at d1 hp
        clear hp1 c0 hf0
        go_wp2
        go_roundw
        case rel =>
          have e := HJj.out
          exact ⟨j, by omega, by first | rfl | go_num | (simp only [Value.int.injEq, true_and]; omega), ⟨by first | rfl | trivial⟩, ⟨fun i hi => by
            by_cases h : i ≤ k
            · exact HJ.out i h
            · obtain rfl : i = j := by omega
              exact HP.out⟩⟩
        case measure => have e := HJj.out; simp [intOf]; omega
      · have HP : Hid (¬ (l.getD (k + 1) Rw.zero).p ≤ x) := ⟨by rw [← hj]; exact hp⟩
        obtain ⟨p1, hp1⟩ : ∃ p1, (l.getD j Rw.zero).p = p1 := ⟨_, rfl⟩
        rw [hp1] at d1 hp
        clear hp1 c0 hf0 hj
        have hfd := find_at (by omega) hk HJ.out (fun _ => HP.out)
        rw [HR.out] at hfd
        subst hfd
        obtain ⟨hRA, hRB⟩ := HRR.out
        have hq : Wf (l.getD k Rw.zero) := HW.out _ (row_in hk)
        have hatk := HAt.out k hk
        have hrk : wr.rangeAt b (off + k * 37) (l.getD k Rw.zero).cells := fun j v hv => by
          have hj : j < 37 := by have := (List.getElem?_eq_some_iff.1 hv).1; rw [Rw.cells_len hq] at this; exact this
          exact (hatk j hj).trans hv
        have hRA' : (l.getD k Rw.zero).cells.toArray = RA := hRA
        have hRB' : true = RB := hRB
        clear hRA hRB HRR hatk HR
        generalize l.getD k Rw.zero = q at *
        subst hRA' hRB'
        go_upto_region 6 with fail
        iterate 1 go_step
        refine wpList_val (v := .slice (some ⟨b, off, none⟩) l.length c) (w' := wr) (by kernel_rfl) (by kernel_rfl) ?_
        simp only [Act.put, List.getElem_toArray, List.getElem_cons_succ, List.getElem_cons_zero, List.setIfInBounds_toArray, List.set_cons_zero, List.set_cons_succ]
        refine wpList_val (v := .int .i64 (k : Int)) (w' := wr) (by kernel_rfl) (by kernel_rfl) ?_
        simp only [Act.put, List.getElem_toArray, List.getElem_cons_succ, List.getElem_cons_zero, List.setIfInBounds_toArray, List.set_cons_zero, List.set_cons_succ]
        refine wpList_val (v := .pointer (some ⟨b, off + k * 37, none⟩)) (w' := wr) (by kernel_rfl) (exec_ix rfl (by kernel_rfl) (by kernel_rfl) (ix_rowo b off l.length c k hk wr)) ?_
        simp only [Act.put, List.getElem_toArray, List.getElem_cons_succ, List.getElem_cons_zero, List.setIfInBounds_toArray, List.set_cons_zero, List.set_cons_succ]
        refine wpList_val (v := .agg q.cells.toArray) (w' := wr) (by kernel_rfl) (exec_loadV (t := 71) (p := ⟨b, off + k * 37, none⟩) rfl (by kernel_rfl) (load_row hq hrk)) ?_
        simp only [Act.put, List.getElem_toArray, List.getElem_cons_succ, List.getElem_cons_zero, List.setIfInBounds_toArray, List.set_cons_zero, List.set_cons_succ]
        refine wpList_part (g := w.heap.size) (off := 0) (val := .agg q.cells.toArray) (new := q.cells.toArray) rfl rfl (by kernel_rfl) (by kernel_rfl) HN.out (by rw [sizeRow]; simp [Value.cells, Rw.cells_len hq]) (by simp [Value.cells, Rw.cells_len hq, Z37]) (by simpa [Value.cells] using rw_one q) (by have := putAt_mid Z37.toList q.cells [] [] (by rw [Rw.cells_len hq]; rfl); simpa [Value.cells] using this) ?_
        simp only [Act.put, List.getElem_toArray, List.getElem_cons_succ, List.getElem_cons_zero, List.setIfInBounds_toArray, List.set_cons_zero, List.set_cons_succ]
        have N1 := HN.out.setR q.cells.toArray
        have B1 := HB.out.trans (below_set wr w.heap.size q.cells.toArray (Nat.le_refl _))
        generalize wr.setRow w.heap.size q.cells.toArray = W1 at *
        refine wpList_val (v := .bool true) (w' := W1) (by kernel_rfl) (by kernel_rfl) ?_
        simp only [Act.put, List.getElem_toArray, List.getElem_cons_succ, List.getElem_cons_zero, List.setIfInBounds_toArray, List.set_cons_zero, List.set_cons_succ]
        refine wpList_nil ?_
        clear hrk
        go_wp2_with fail
        (try simp only [Exit.inBlock, Exit.then])
        refine bodyPost_ret (results_ct rfl rfl (load_rowb hq N1)) rfl ?_
        exact ⟨rfl, B1⟩
    · have g1 : ¬ (k : Int) + 1 < (l.length : Int) := by omega
      clear c0 hf0
      have hfd := find_at (by omega) hk HJ.out (fun h => absurd h hk1)
      rw [HR.out] at hfd
      subst hfd
      obtain ⟨hRA, hRB⟩ := HRR.out
      have hq : Wf (l.getD k Rw.zero) := HW.out _ (row_in hk)
      have hatk := HAt.out k hk
      have hrk : wr.rangeAt b (off + k * 37) (l.getD k Rw.zero).cells := fun j v hv => by
        have hj : j < 37 := by have := (List.getElem?_eq_some_iff.1 hv).1; rw [Rw.cells_len hq] at this; exact this
        exact (hatk j hj).trans hv
      have hRA' : (l.getD k Rw.zero).cells.toArray = RA := hRA
      have hRB' : true = RB := hRB
      clear hRA hRB HRR hatk HR
      generalize l.getD k Rw.zero = q at *
      subst hRA' hRB'
      go_upto_region 6 with fail
      iterate 1 go_step
      refine wpList_val (v := .slice (some ⟨b, off, none⟩) l.length c) (w' := wr) (by kernel_rfl) (by kernel_rfl) ?_
      simp only [Act.put, List.getElem_toArray, List.getElem_cons_succ, List.getElem_cons_zero, List.setIfInBounds_toArray, List.set_cons_zero, List.set_cons_succ]
      refine wpList_val (v := .int .i64 (k : Int)) (w' := wr) (by kernel_rfl) (by kernel_rfl) ?_
      simp only [Act.put, List.getElem_toArray, List.getElem_cons_succ, List.getElem_cons_zero, List.setIfInBounds_toArray, List.set_cons_zero, List.set_cons_succ]
      refine wpList_val (v := .pointer (some ⟨b, off + k * 37, none⟩)) (w' := wr) (by kernel_rfl) (exec_ix rfl (by kernel_rfl) (by kernel_rfl) (ix_rowo b off l.length c k hk wr)) ?_
      simp only [Act.put, List.getElem_toArray, List.getElem_cons_succ, List.getElem_cons_zero, List.setIfInBounds_toArray, List.set_cons_zero, List.set_cons_succ]
      refine wpList_val (v := .agg q.cells.toArray) (w' := wr) (by kernel_rfl) (exec_loadV (t := 71) (p := ⟨b, off + k * 37, none⟩) rfl (by kernel_rfl) (load_row hq hrk)) ?_
      simp only [Act.put, List.getElem_toArray, List.getElem_cons_succ, List.getElem_cons_zero, List.setIfInBounds_toArray, List.set_cons_zero, List.set_cons_succ]
      refine wpList_part (g := w.heap.size) (off := 0) (val := .agg q.cells.toArray) (new := q.cells.toArray) rfl rfl (by kernel_rfl) (by kernel_rfl) HN.out (by rw [sizeRow]; simp [Value.cells, Rw.cells_len hq]) (by simp [Value.cells, Rw.cells_len hq, Z37]) (by simpa [Value.cells] using rw_one q) (by have := putAt_mid Z37.toList q.cells [] [] (by rw [Rw.cells_len hq]; rfl); simpa [Value.cells] using this) ?_
      simp only [Act.put, List.getElem_toArray, List.getElem_cons_succ, List.getElem_cons_zero, List.setIfInBounds_toArray, List.set_cons_zero, List.set_cons_succ]
      have N1 := HN.out.setR q.cells.toArray
      have B1 := HB.out.trans (below_set wr w.heap.size q.cells.toArray (Nat.le_refl _))
      generalize wr.setRow w.heap.size q.cells.toArray = W1 at *
      refine wpList_val (v := .bool true) (w' := W1) (by kernel_rfl) (by kernel_rfl) ?_
      simp only [Act.put, List.getElem_toArray, List.getElem_cons_succ, List.getElem_cons_zero, List.setIfInBounds_toArray, List.set_cons_zero, List.set_cons_succ]
      refine wpList_nil ?_
      clear hrk
      go_wp2_with fail
      (try simp only [Exit.inBlock, Exit.then])
      refine bodyPost_ret (results_ct rfl rfl (load_rowb hq N1)) rfl ?_
      exact ⟨rfl, B1⟩
end Go.Proofs.YtpbnldfekadalaaDoor
