/- The table's recall. -/
import Derived.Test.YtpbnldfekadalaaDoorCTabO
namespace Go.Proofs.YtpbnldfekadalaaDoor
open Go.ChangeShapes Go.WideShapes Go.ChangeAt Go.RowKit
set_option linter.unusedVariables false
set_option linter.unusedSimpArgs false
variable {X : Nat → Option Obj}

theorem ix_row (g n c k : Nat) (hk : k < n) (W : World) : (Instr.indexAt 65 (.slice (some ⟨g, 0, none⟩) n c) (.int .i64 (k : Int))).run Tryd.prog W = .ok (.pointer (some ⟨g, k * 37, none⟩)) W := by
  have hs := sizeRow
  cases hq : Tryd.prog.info? 71 with
  | none => rw [hq] at hs; cases hs
  | some i =>
    have hi1 : i.size = 37 := by rw [hq] at hs; simpa using hs
    simp [Instr.indexAt, run_underlying Tryd.underlying65, asIntOf, sizeOf, typeInfo, hq, hi1, caddr_add]
    omega
theorem exec_cut {w : World} {a : Act} {o : Oper} {x y : Operand} (g n c k : Nat) (hk : k ≤ n) (hc : n ≤ c) (ho : o.op = .slice 65 x none (some y) none) (hx : a.eval x = .slice (some ⟨g, 0, none⟩) n c) (hy : a.eval y = .int .i64 (k : Int)) :
    (execOp a.eval o).run Tryd.prog w = .ok (.value (.slice (some ⟨g, 0, none⟩) k c)) w := by
  have hs := sizeRow
  cases hq : Tryd.prog.info? 71 with
  | none => rw [hq] at hs; cases hs
  | some i =>
    have hi1 : i.size = 37 := by rw [hq] at hs; simpa using hs
    have h1 : (k : Int) ≤ (c : Int) := by omega
    have h2 : k ≤ c := by omega
    unfold execOp
    simp only [ho, hx, hy, Option.map_none, Option.map_some]
    simp [Instr.sliceAt, Instr.slice, Instr.sliceBounds, Instr.sliceBound, run_underlying Tryd.underlying65, asIntOf, sizeOf, typeInfo, hq, hi1, caddr_add, h1, h2]
theorem OwnW.cut {w : World} {base g c : Nat} {l : List Rw} {q : Rw} (h : OwnW w base (.slice (some ⟨g, 0, none⟩) (l ++ [q]).length c) (l ++ [q])) : OwnW w base (.slice (some ⟨g, 0, none⟩) l.length c) l := by
  have hw : ∀ x ∈ l, Wf x := fun x hx => h.1 x (by simp [hx])
  refine ⟨hw, rwCells_len l hw, .inr ?_⟩
  rcases h.2.2 with ⟨hv, _⟩ | ⟨g', c', cur, hv, h1, h2, h3, h4, h5, h6⟩
  · cases hv
  · simp only [Value.slice.injEq, Option.some.injEq, Addr.mk.injEq, and_true, true_and] at hv
    obtain ⟨rfl, rfl⟩ := hv
    refine ⟨g, c, cur, rfl, h1, h2, by simp at h3; omega, h4, h5, ?_⟩
    have e := congrArg (List.take (l.length * 37)) h6
    rw [List.take_take, rwCells_append] at e
    have hl := rwCells_len l hw
    rw [show min (l.length * 37) ((l ++ [q]).length * 37) = l.length * 37 by rw [List.length_append]; omega] at e
    rw [e, List.take_append_of_le_length (by omega), List.take_of_length_le (by omega)]
theorem OwnW.last {w : World} {base g c : Nat} {l : List Rw} {q : Rw} (h : OwnW w base (.slice (some ⟨g, 0, none⟩) (l ++ [q]).length c) (l ++ [q])) : w.rangeAt g (l.length * 37) q.cells := by
  obtain ⟨ao, cap, hv, _, _, hr, _⟩ := h.any
  simp only [Value.slice.injEq] at hv
  obtain ⟨rfl, _, rfl⟩ := hv
  have hq : Wf q := h.1 q (by simp)
  rcases hr with hr | ⟨b, off, e, hr⟩
  · simp at hr
  · simp only [Option.some.injEq, Addr.mk.injEq, and_true] at e
    obtain ⟨rfl, rfl⟩ := e
    intro j v hv
    have hj : j < 37 := by have := (List.getElem?_eq_some_iff.1 hv).1; rw [Rw.cells_len hq] at this; exact this
    have := hr l.length (by simp) j hj
    rw [Nat.zero_add] at this
    rw [this]
    simpa using hv
theorem put_row {bg : Bool} {t : Tb} {vr vk : Value} (h : Tw t) (x : Rw) (hx : Wf x) : putAt (tC bg t vr vk).toArray 39 x.cells = (tC bg ⟨t.L, x, t.first, t.kept, t.size⟩ vr vk).toArray :=
  put_now h x [] t.now.cells x.cells [] (by simp) (by simp) (by rw [Rw.cells_len h.now, Rw.cells_len hx]) 39 rfl
theorem TA.setRowW {base : Nat} {w : World} {tb : Nat} {bg : Bool} {t : Tb} {vr vk : Value} (h : TA X base w tb bg t vr vk) (x : Rw) (hx : Wf x) : TA X base (w.setRow tb (putAt (tC bg t vr vk).toArray 39 x.cells)) tb bg ⟨t.L, x, t.first, t.kept, t.size⟩ vr vk :=
  h.put (t' := ⟨t.L, x, t.first, t.kept, t.size⟩) rfl rfl ⟨h.wf.L, hx, h.wf.first, h.wf.kept⟩ (put_row h.wf x hx)
theorem TA.setK {base : Nat} {w : World} {tb : Nat} {bg : Bool} {t : Tb} {vr : Value} {g c : Nat} {l : List Rw} {q : Rw} (h : TA X base w tb bg t vr (.slice (some ⟨g, 0, none⟩) (l ++ [q]).length c)) (hk : t.kept = l ++ [q]) :
    TA X base (w.setRow tb (putAt (tC bg t vr (.slice (some ⟨g, 0, none⟩) (l ++ [q]).length c)).toArray 77 [.slice (some ⟨g, 0, none⟩) l.length c])) tb bg ⟨t.L, t.now, t.first, l, t.size⟩ vr (.slice (some ⟨g, 0, none⟩) l.length c) := by
  have hK := h.K
  rw [hk] at hK
  have hK2 := hK.cut
  refine ⟨?_, h.lo, h.L.grown (grown_set _ _ _) (.inr h.nr), hK2.grown (grown_set _ _ _) (.inr h.nk), h.nr, h.nk, h.rk, ⟨h.wf.L, h.wf.now, h.wf.first, hK2.1⟩, (⟨h.ff.fx, h.ff.xt, h.ff.xr, h.ff.xk⟩ : Fx X w tb vr (.slice (some ⟨g, 0, none⟩) l.length c)).set _⟩
  have := h.bk.setR (putAt (tC bg t vr (.slice (some ⟨g, 0, none⟩) (l ++ [q]).length c)).toArray 77 [.slice (some ⟨g, 0, none⟩) l.length c])
  rw [put_k h.wf] at this ⊢
  exact this

set_option maxRecDepth 10000 in
set_option maxHeartbeats 1000000 in
theorem recall_tb {base tb : Nat} {w : World} {bg : Bool} {t : Tb} {vr vk : Value} (h : TA X base w tb bg t vr vk) (o : Oq) (hk64 : t.kept.length ≤ 64) :
    Calls Tryd.prog 46 #[.pointer (some ⟨tb, 0, none⟩), o.val] w fun e w' => e = .returned (.bool (recM t).isSome) ∧ TEnd X base tb bg w w' (recM t) := by
  have HB : Below w.heap.size w (w.alloc (.cells #[.int .i64 o.k, .int .i64 o.r, .int .i64 o.n] 64)) := (Below.refl _ _).alloc (Nat.le_refl _) _
  have HT := h.bel HB
  have HTd := h.bel HB.drew
  have HO : Bk (w.alloc (.cells #[.int .i64 o.k, .int .i64 o.r, .int .i64 o.n] 64)).drew w.heap.size 64 #[.int .i64 o.k, .int .i64 o.r, .int .i64 o.n] := (Bk.new w _ _).of rfl
  have hne : w.heap.size ≠ tb := by have := h.bk.lt; omega
  have hbs : base ≤ w.heap.size := Nat.le_trans h.lo (Nat.le_of_lt h.bk.lt)
  have HBb := HB.mono hbs
  have HBd := HB.drew.mono hbs
  rcases List.eq_nil_or_concat t.kept with hk | ⟨l, q, hk⟩
  · have hr : recM t = none := by unfold recM; rw [hk]; rfl
    rw [hr]
    obtain ⟨ar, cr, hvr, _⟩ := h.K.any
    have c2 := HT.kept1 hvr
    rw [hk] at c2
    simp only [List.length_nil] at c2
    go_enter Tryd.func46, Tryd.ntmps46
    go_wp2_with fail
    go_ret
    exact ⟨rfl, HBb, fun t' ht => by cases ht⟩
  rw [List.concat_eq_append] at hk
  have hr : recM t = some ⟨t.L, ⟨t.now.p, q.r, q.n, q.z⟩, t.first, l, t.size⟩ := by unfold recM; rw [hk]; simp
  rw [hr]
  have hq : Wf q := h.wf.kept q (by rw [hk]; simp)
  obtain ⟨g, cr, hvr, hcap⟩ : ∃ g cr, vk = .slice (some ⟨g, 0, none⟩) (l ++ [q]).length cr ∧ (l ++ [q]).length ≤ cr := by
    rcases h.K.2.2 with ⟨_, hn⟩ | ⟨g, cap, cur, hv, _, hg, h1, h2, _⟩
    · rw [hk] at hn; simp at hn
    · rw [hk] at hv h1; exact ⟨g, cap, hv, h1⟩
  have hlen : l.length + 1 ≤ 64 := by rw [hk] at hk64; simpa using hk64
  subst hvr
  have hgt : g ≠ tb := fun e => h.nk (by rw [← e]; rfl)
  have c2 := HT.kept
  have c3 := HT.p
  have hll : (l ++ [q]).length = l.length + 1 := by simp
  rw [hll] at c2
  go_enter Tryd.func46, Tryd.ntmps46
  go_upto_region 5 with fail
  clear c2 c3
  generalize w.alloc (.cells #[.int .i64 o.k, .int .i64 o.r, .int .i64 o.n] 64) = W at *
  have H4 := HTd
  have B4 := HBd
  have hK4 := H4.K
  rw [hk] at hK4
  have hR4 := hK4.last
  refine wp_region_held_drew (S := fun u => u.rangeAt g (l.length * 37) q.cells) (by kernel_rfl) hR4 (fun hS => ?_)
  generalize W.drew = W4 at *
  have hcc : W4.cell? ⟨tb, 77, none⟩ = some (.slice (some ⟨g, 0, none⟩) (l.length + 1) cr) := by rw [← hll]; exact H4.kept
  have hap : ∀ (V : Array Value) (u : World), u.rangeAt g (l.length * 37) q.cells → (u.setRow tb V).rangeAt g (l.length * 37) q.cells := fun V u hu j v hv => (World.cell?_of_block (a := ⟨g, l.length * 37 + j, none⟩) (setRow_other u tb g V hgt)).trans (hu j v hv)
  refine wpAnyH_take (i := 0) (v := .pointer (some ⟨tb, 0, none⟩)) rfl (by kernel_rfl) (by kernel_rfl) (by kernel_rfl) (fun _ _ _ h => h) (Or.inl ⟨by kernel_rfl, fun u hu => by kernel_rfl⟩) hS ?_
  simp only [Act.put, List.getElem_toArray, List.getElem_cons_succ, List.getElem_cons_zero, List.setIfInBounds_toArray, List.set_cons_zero, List.set_cons_succ]
  refine wpAnyH_take (i := 1) (v := .pointer (some ⟨tb, 0, none⟩)) rfl (by kernel_rfl) (by kernel_rfl) (by kernel_rfl) (fun _ _ _ h => h) (Or.inl ⟨by kernel_rfl, fun u hu => by kernel_rfl⟩) hS ?_
  simp only [Act.put, List.getElem_toArray, List.getElem_cons_succ, List.getElem_cons_zero, List.setIfInBounds_toArray, List.set_cons_zero, List.set_cons_succ]
  refine wpAnyH_take (i := 2) (v := .pointer (some ⟨tb, 0, none⟩)) rfl (by kernel_rfl) (by kernel_rfl) (by kernel_rfl) (fun _ _ _ h => h) (Or.inl ⟨by kernel_rfl, fun u hu => by kernel_rfl⟩) hS ?_
  simp only [Act.put, List.getElem_toArray, List.getElem_cons_succ, List.getElem_cons_zero, List.setIfInBounds_toArray, List.set_cons_zero, List.set_cons_succ]
  refine wpAnyH_take (i := 3) (v := .pointer (some ⟨tb, 0, none⟩)) rfl (by kernel_rfl) (by kernel_rfl) (by kernel_rfl) (fun _ _ _ h => h) (Or.inl ⟨by kernel_rfl, fun u hu => by kernel_rfl⟩) hS ?_
  simp only [Act.put, List.getElem_toArray, List.getElem_cons_succ, List.getElem_cons_zero, List.setIfInBounds_toArray, List.set_cons_zero, List.set_cons_succ]
  refine wpAnyH_take (i := 4) (v := .pointer (some ⟨tb, 77, none⟩)) rfl (by kernel_rfl) (by kernel_rfl) (by kernel_rfl) (fun _ _ _ h => h) (Or.inl ⟨by kernel_rfl, fun u hu => by kernel_rfl⟩) hS ?_
  simp only [Act.put, List.getElem_toArray, List.getElem_cons_succ, List.getElem_cons_zero, List.setIfInBounds_toArray, List.set_cons_zero, List.set_cons_succ]
  refine wpAnyH_take (i := 6) (v := .int .i64 (l.length : Int)) rfl (by kernel_rfl) (by kernel_rfl) (by kernel_rfl) (fun _ _ _ h => h) (Or.inl ⟨by kernel_rfl, fun u hu => by kernel_rfl⟩) hS ?_
  simp only [Act.put, List.getElem_toArray, List.getElem_cons_succ, List.getElem_cons_zero, List.setIfInBounds_toArray, List.set_cons_zero, List.set_cons_succ]
  refine wpAnyH_take (i := 9) (v := .pointer (some ⟨tb, 0, none⟩)) rfl (by kernel_rfl) (by kernel_rfl) (by kernel_rfl) (fun _ _ _ h => h) (Or.inl ⟨by kernel_rfl, fun u hu => by kernel_rfl⟩) hS ?_
  simp only [Act.put, List.getElem_toArray, List.getElem_cons_succ, List.getElem_cons_zero, List.setIfInBounds_toArray, List.set_cons_zero, List.set_cons_succ]
  refine wpAnyH_take (i := 10) (v := .pointer (some ⟨tb, 0, none⟩)) rfl (by kernel_rfl) (by kernel_rfl) (by kernel_rfl) (fun _ _ _ h => h) (Or.inl ⟨by kernel_rfl, fun u hu => by kernel_rfl⟩) hS ?_
  simp only [Act.put, List.getElem_toArray, List.getElem_cons_succ, List.getElem_cons_zero, List.setIfInBounds_toArray, List.set_cons_zero, List.set_cons_succ]
  refine wpAnyH_take (i := 11) (v := .pointer (some ⟨tb, 77, none⟩)) rfl (by kernel_rfl) (by kernel_rfl) (by kernel_rfl) (fun _ _ _ h => h) (Or.inl ⟨by kernel_rfl, fun u hu => by kernel_rfl⟩) hS ?_
  simp only [Act.put, List.getElem_toArray, List.getElem_cons_succ, List.getElem_cons_zero, List.setIfInBounds_toArray, List.set_cons_zero, List.set_cons_succ]
  refine wpAnyH_take (i := 13) (v := .int .i64 (l.length : Int)) rfl (by kernel_rfl) (by kernel_rfl) (by kernel_rfl) (fun _ _ _ h => h) (Or.inl ⟨by kernel_rfl, fun u hu => by kernel_rfl⟩) hS ?_
  simp only [Act.put, List.getElem_toArray, List.getElem_cons_succ, List.getElem_cons_zero, List.setIfInBounds_toArray, List.set_cons_zero, List.set_cons_succ]
  refine wpAnyH_ready (rs := [5, 12]) (by kernel_rfl) (by simp) ?_
  refine AllReadyH.cons rfl (fun K hK => ?_) (AllReadyH.cons rfl (fun K hK => ?_) AllReadyH.nil)
  · simp only [List.getElem_toArray, List.getElem_cons_succ, List.getElem_cons_zero]
    refine wp_if (by kernel_rfl) ?_
    refine wp_val (v := .slice (some ⟨g, 0, none⟩) (l.length + 1) cr) (exec_loadV (t := 65) (p := ⟨tb, 77, none⟩) rfl (by kernel_rfl) (load_rows hcc)) ?_
    refine hK.out _ _ hR4 (fun hS => ?_)
    clear hK
    simp only [Act.put, List.getElem_toArray, List.getElem_cons_succ, List.getElem_cons_zero, List.setIfInBounds_toArray, List.set_cons_zero, List.set_cons_succ]
    refine wpAnyH_take (i := 7) (v := .pointer (some ⟨g, l.length * 37, none⟩)) rfl (by kernel_rfl) (by kernel_rfl) (by kernel_rfl) (fun _ _ _ h => h) (Or.inl ⟨by kernel_rfl, fun u hu => exec_ix rfl (by kernel_rfl) (by kernel_rfl) (ix_row g (l.length + 1) cr l.length (by omega) u)⟩) hS ?_
    simp only [Act.put, List.getElem_toArray, List.getElem_cons_succ, List.getElem_cons_zero, List.setIfInBounds_toArray, List.set_cons_zero, List.set_cons_succ]
    refine wpAnyH_take (i := 8) (v := .agg q.cells.toArray) rfl (by kernel_rfl) (by kernel_rfl) (by kernel_rfl) (fun _ _ _ h => h) (Or.inl ⟨by kernel_rfl, fun u hu => exec_loadV (t := 71) (p := ⟨g, l.length * 37, none⟩) rfl (by kernel_rfl) (load_row hq hu)⟩) hS ?_
    simp only [Act.put, List.getElem_toArray, List.getElem_cons_succ, List.getElem_cons_zero, List.setIfInBounds_toArray, List.set_cons_zero, List.set_cons_succ]
    refine wpAnyH_ready (rs := [12]) (by kernel_rfl) (by simp) ?_
    refine AllReadyH.cons rfl (fun K hK => ?_) AllReadyH.nil
    simp only [List.getElem_toArray, List.getElem_cons_succ, List.getElem_cons_zero]
    refine wp_if (by kernel_rfl) ?_
    refine wp_val (v := .slice (some ⟨g, 0, none⟩) (l.length + 1) cr) (exec_loadV (t := 65) (p := ⟨tb, 77, none⟩) rfl (by kernel_rfl) (load_rows hcc)) ?_
    refine hK.out _ _ hR4 (fun hS => ?_)
    clear hK
    simp only [Act.put, List.getElem_toArray, List.getElem_cons_succ, List.getElem_cons_zero, List.setIfInBounds_toArray, List.set_cons_zero, List.set_cons_succ]
    refine wpAnyH_take (i := 14) (v := .slice (some ⟨g, 0, none⟩) l.length cr) rfl (by kernel_rfl) (by kernel_rfl) (by kernel_rfl) (fun _ _ _ h => h) (Or.inl ⟨by kernel_rfl, fun u hu => exec_cut g (l.length + 1) cr l.length (by omega) (by omega) rfl (by kernel_rfl) (by kernel_rfl)⟩) hS ?_
    simp only [Act.put, List.getElem_toArray, List.getElem_cons_succ, List.getElem_cons_zero, List.setIfInBounds_toArray, List.set_cons_zero, List.set_cons_succ]
    refine wpAnyH_take (i := 15) (v := .pointer (some ⟨tb, 0, none⟩)) rfl (by kernel_rfl) (by kernel_rfl) (by kernel_rfl) (fun _ _ _ h => h) (Or.inl ⟨by kernel_rfl, fun u hu => by kernel_rfl⟩) hS ?_
    simp only [Act.put, List.getElem_toArray, List.getElem_cons_succ, List.getElem_cons_zero, List.setIfInBounds_toArray, List.set_cons_zero, List.set_cons_succ]
    refine wpAnyH_take (i := 16) (v := .pointer (some ⟨tb, 39, none⟩)) rfl (by kernel_rfl) (by kernel_rfl) (by kernel_rfl) (fun _ _ _ h => h) (Or.inl ⟨by kernel_rfl, fun u hu => by kernel_rfl⟩) hS ?_
    simp only [Act.put, List.getElem_toArray, List.getElem_cons_succ, List.getElem_cons_zero, List.setIfInBounds_toArray, List.set_cons_zero, List.set_cons_succ]
    refine wpAnyH_ready (rs := [17]) (by kernel_rfl) (by simp) ?_
    refine AllReadyH.cons rfl (fun K hK => ?_) AllReadyH.nil
    simp only [List.getElem_toArray, List.getElem_cons_succ, List.getElem_cons_zero]
    refine wp_if (by kernel_rfl) ?_
    refine wp_part (g := tb) (off := 39) (val := .agg q.cells.toArray) rfl (by kernel_rfl) (by kernel_rfl) H4.bk (by rw [sizeRow]; simp [Value.cells, Rw.cells_len hq]) (by rw [H4.len]; simp [Value.cells, Rw.cells_len hq]) (by simpa [Value.cells] using rw_one q) rfl ?_
    have ev : (Value.agg q.cells.toArray).cells.toList = q.cells := rfl
    rw [ev]
    clear ev
    have H5 := H4.setRowW q hq
    have B5 := B4.trans (below_set _ tb (putAt (tC bg t vr (.slice (some ⟨g, 0, none⟩) (l ++ [q]).length cr)).toArray 39 q.cells) h.lo)
    have hR5 := hap (putAt (tC bg t vr (.slice (some ⟨g, 0, none⟩) (l ++ [q]).length cr)).toArray 39 q.cells) _ hR4
    refine hK.out _ _ hR5 (fun hS => ?_)
    clear hK
    simp only [Act.put, List.getElem_toArray, List.getElem_cons_succ, List.getElem_cons_zero, List.setIfInBounds_toArray, List.set_cons_zero, List.set_cons_succ]
    generalize W4.setRow tb (putAt (tC bg t vr (.slice (some ⟨g, 0, none⟩) (l ++ [q]).length cr)).toArray 39 q.cells) = W5 at *
    refine wpAnyH_take (i := 18) (v := .pointer (some ⟨tb, 0, none⟩)) rfl (by kernel_rfl) (by kernel_rfl) (by kernel_rfl) (fun _ _ _ h => h) (Or.inl ⟨by kernel_rfl, fun u hu => by kernel_rfl⟩) hS ?_
    simp only [Act.put, List.getElem_toArray, List.getElem_cons_succ, List.getElem_cons_zero, List.setIfInBounds_toArray, List.set_cons_zero, List.set_cons_succ]
    refine wpAnyH_take (i := 19) (v := .pointer (some ⟨tb, 77, none⟩)) rfl (by kernel_rfl) (by kernel_rfl) (by kernel_rfl) (fun _ _ _ h => h) (Or.inl ⟨by kernel_rfl, fun u hu => by kernel_rfl⟩) hS ?_
    simp only [Act.put, List.getElem_toArray, List.getElem_cons_succ, List.getElem_cons_zero, List.setIfInBounds_toArray, List.set_cons_zero, List.set_cons_succ]
    refine wpAnyH_ready (rs := [20]) (by kernel_rfl) (by simp) ?_
    refine AllReadyH.cons rfl (fun K hK => ?_) AllReadyH.nil
    simp only [List.getElem_toArray, List.getElem_cons_succ, List.getElem_cons_zero]
    refine wp_if (by kernel_rfl) ?_
    refine wp_part (g := tb) (off := 77) (val := .slice (some ⟨g, 0, none⟩) l.length cr) rfl (by kernel_rfl) (by kernel_rfl) H5.bk (by rw [sizeRws]; rfl) (by rw [H5.len]; show 77 + 1 ≤ 78; omega) (slice_one _ _ _) rfl ?_
    have H6 := H5.setK hk
    have B6 := B5.trans (below_set _ tb (putAt (tC bg ⟨t.L, q, t.first, t.kept, t.size⟩ vr (.slice (some ⟨g, 0, none⟩) (l ++ [q]).length cr)).toArray 77 [.slice (some ⟨g, 0, none⟩) l.length cr]) h.lo)
    refine hK.out _ _ (hap _ _ hR5) (fun _ => ?_)
    clear hK
    simp only [Act.put, List.getElem_toArray, List.getElem_cons_succ, List.getElem_cons_zero, List.setIfInBounds_toArray, List.set_cons_zero, List.set_cons_succ]
    refine wpAnyH_done (by kernel_rfl) ?_ _
    have ev : (Value.slice (some ⟨g, 0, none⟩) l.length cr).cells.toList = [.slice (some ⟨g, 0, none⟩) l.length cr] := rfl
    rw [ev]
    clear ev hcc hR4 hR5 hap
    generalize W5.setRow tb (putAt (tC bg ⟨t.L, q, t.first, t.kept, t.size⟩ vr (.slice (some ⟨g, 0, none⟩) (l ++ [q]).length cr)).toArray 77 [.slice (some ⟨g, 0, none⟩) l.length cr]) = W6 at *
    have H7 := H6.setP t.now.p
    have B7 := B6.trans (below_set _ tb (putAt (tC bg ⟨t.L, q, t.first, l, t.size⟩ vr (.slice (some ⟨g, 0, none⟩) l.length cr)).toArray 39 [.int .i64 t.now.p]) h.lo)
    go_upto_region 7 with (refine wpList_part (g := tb) (off := 39) (val := .int .i64 t.now.p) rfl rfl (by rfl) (by rfl) H6.bk (by rw [sizeInt]; rfl) (by rw [H6.len]; show 39 + 1 ≤ 78; omega) (one_cells _) rfl ?_)
    have ev : (Value.int .i64 t.now.p).cells.toList = [.int .i64 t.now.p] := rfl
    rw [ev]
    clear ev
    generalize W6.setRow tb (putAt (tC bg ⟨t.L, q, t.first, l, t.size⟩ vr (.slice (some ⟨g, 0, none⟩) l.length cr)).toArray 39 [.int .i64 t.now.p]) = W7 at *
    go_wp2_with fail
    go_ret
    refine ⟨rfl, B7, fun t' ht => ?_⟩
    cases ht
    exact ⟨vr, _, H7⟩
  · simp only [List.getElem_toArray, List.getElem_cons_succ, List.getElem_cons_zero]
    refine wp_if (by kernel_rfl) ?_
    refine wp_val (v := .slice (some ⟨g, 0, none⟩) (l.length + 1) cr) (exec_loadV (t := 65) (p := ⟨tb, 77, none⟩) rfl (by kernel_rfl) (load_rows hcc)) ?_
    refine hK.out _ _ hR4 (fun hS => ?_)
    clear hK
    simp only [Act.put, List.getElem_toArray, List.getElem_cons_succ, List.getElem_cons_zero, List.setIfInBounds_toArray, List.set_cons_zero, List.set_cons_succ]
    refine wpAnyH_take (i := 14) (v := .slice (some ⟨g, 0, none⟩) l.length cr) rfl (by kernel_rfl) (by kernel_rfl) (by kernel_rfl) (fun _ _ _ h => h) (Or.inl ⟨by kernel_rfl, fun u hu => exec_cut g (l.length + 1) cr l.length (by omega) (by omega) rfl (by kernel_rfl) (by kernel_rfl)⟩) hS ?_
    simp only [Act.put, List.getElem_toArray, List.getElem_cons_succ, List.getElem_cons_zero, List.setIfInBounds_toArray, List.set_cons_zero, List.set_cons_succ]
    refine wpAnyH_ready (rs := [5]) (by kernel_rfl) (by simp) ?_
    refine AllReadyH.cons rfl (fun K hK => ?_) AllReadyH.nil
    simp only [List.getElem_toArray, List.getElem_cons_succ, List.getElem_cons_zero]
    refine wp_if (by kernel_rfl) ?_
    refine wp_val (v := .slice (some ⟨g, 0, none⟩) (l.length + 1) cr) (exec_loadV (t := 65) (p := ⟨tb, 77, none⟩) rfl (by kernel_rfl) (load_rows hcc)) ?_
    refine hK.out _ _ hR4 (fun hS => ?_)
    clear hK
    simp only [Act.put, List.getElem_toArray, List.getElem_cons_succ, List.getElem_cons_zero, List.setIfInBounds_toArray, List.set_cons_zero, List.set_cons_succ]
    refine wpAnyH_take (i := 7) (v := .pointer (some ⟨g, l.length * 37, none⟩)) rfl (by kernel_rfl) (by kernel_rfl) (by kernel_rfl) (fun _ _ _ h => h) (Or.inl ⟨by kernel_rfl, fun u hu => exec_ix rfl (by kernel_rfl) (by kernel_rfl) (ix_row g (l.length + 1) cr l.length (by omega) u)⟩) hS ?_
    simp only [Act.put, List.getElem_toArray, List.getElem_cons_succ, List.getElem_cons_zero, List.setIfInBounds_toArray, List.set_cons_zero, List.set_cons_succ]
    refine wpAnyH_take (i := 8) (v := .agg q.cells.toArray) rfl (by kernel_rfl) (by kernel_rfl) (by kernel_rfl) (fun _ _ _ h => h) (Or.inl ⟨by kernel_rfl, fun u hu => exec_loadV (t := 71) (p := ⟨g, l.length * 37, none⟩) rfl (by kernel_rfl) (load_row hq hu)⟩) hS ?_
    simp only [Act.put, List.getElem_toArray, List.getElem_cons_succ, List.getElem_cons_zero, List.setIfInBounds_toArray, List.set_cons_zero, List.set_cons_succ]
    refine wpAnyH_take (i := 15) (v := .pointer (some ⟨tb, 0, none⟩)) rfl (by kernel_rfl) (by kernel_rfl) (by kernel_rfl) (fun _ _ _ h => h) (Or.inl ⟨by kernel_rfl, fun u hu => by kernel_rfl⟩) hS ?_
    simp only [Act.put, List.getElem_toArray, List.getElem_cons_succ, List.getElem_cons_zero, List.setIfInBounds_toArray, List.set_cons_zero, List.set_cons_succ]
    refine wpAnyH_take (i := 16) (v := .pointer (some ⟨tb, 39, none⟩)) rfl (by kernel_rfl) (by kernel_rfl) (by kernel_rfl) (fun _ _ _ h => h) (Or.inl ⟨by kernel_rfl, fun u hu => by kernel_rfl⟩) hS ?_
    simp only [Act.put, List.getElem_toArray, List.getElem_cons_succ, List.getElem_cons_zero, List.setIfInBounds_toArray, List.set_cons_zero, List.set_cons_succ]
    refine wpAnyH_ready (rs := [17]) (by kernel_rfl) (by simp) ?_
    refine AllReadyH.cons rfl (fun K hK => ?_) AllReadyH.nil
    simp only [List.getElem_toArray, List.getElem_cons_succ, List.getElem_cons_zero]
    refine wp_if (by kernel_rfl) ?_
    refine wp_part (g := tb) (off := 39) (val := .agg q.cells.toArray) rfl (by kernel_rfl) (by kernel_rfl) H4.bk (by rw [sizeRow]; simp [Value.cells, Rw.cells_len hq]) (by rw [H4.len]; simp [Value.cells, Rw.cells_len hq]) (by simpa [Value.cells] using rw_one q) rfl ?_
    have ev : (Value.agg q.cells.toArray).cells.toList = q.cells := rfl
    rw [ev]
    clear ev
    have H5 := H4.setRowW q hq
    have B5 := B4.trans (below_set _ tb (putAt (tC bg t vr (.slice (some ⟨g, 0, none⟩) (l ++ [q]).length cr)).toArray 39 q.cells) h.lo)
    have hR5 := hap (putAt (tC bg t vr (.slice (some ⟨g, 0, none⟩) (l ++ [q]).length cr)).toArray 39 q.cells) _ hR4
    refine hK.out _ _ hR5 (fun hS => ?_)
    clear hK
    simp only [Act.put, List.getElem_toArray, List.getElem_cons_succ, List.getElem_cons_zero, List.setIfInBounds_toArray, List.set_cons_zero, List.set_cons_succ]
    generalize W4.setRow tb (putAt (tC bg t vr (.slice (some ⟨g, 0, none⟩) (l ++ [q]).length cr)).toArray 39 q.cells) = W5 at *
    refine wpAnyH_take (i := 18) (v := .pointer (some ⟨tb, 0, none⟩)) rfl (by kernel_rfl) (by kernel_rfl) (by kernel_rfl) (fun _ _ _ h => h) (Or.inl ⟨by kernel_rfl, fun u hu => by kernel_rfl⟩) hS ?_
    simp only [Act.put, List.getElem_toArray, List.getElem_cons_succ, List.getElem_cons_zero, List.setIfInBounds_toArray, List.set_cons_zero, List.set_cons_succ]
    refine wpAnyH_take (i := 19) (v := .pointer (some ⟨tb, 77, none⟩)) rfl (by kernel_rfl) (by kernel_rfl) (by kernel_rfl) (fun _ _ _ h => h) (Or.inl ⟨by kernel_rfl, fun u hu => by kernel_rfl⟩) hS ?_
    simp only [Act.put, List.getElem_toArray, List.getElem_cons_succ, List.getElem_cons_zero, List.setIfInBounds_toArray, List.set_cons_zero, List.set_cons_succ]
    refine wpAnyH_ready (rs := [20]) (by kernel_rfl) (by simp) ?_
    refine AllReadyH.cons rfl (fun K hK => ?_) AllReadyH.nil
    simp only [List.getElem_toArray, List.getElem_cons_succ, List.getElem_cons_zero]
    refine wp_if (by kernel_rfl) ?_
    refine wp_part (g := tb) (off := 77) (val := .slice (some ⟨g, 0, none⟩) l.length cr) rfl (by kernel_rfl) (by kernel_rfl) H5.bk (by rw [sizeRws]; rfl) (by rw [H5.len]; show 77 + 1 ≤ 78; omega) (slice_one _ _ _) rfl ?_
    have H6 := H5.setK hk
    have B6 := B5.trans (below_set _ tb (putAt (tC bg ⟨t.L, q, t.first, t.kept, t.size⟩ vr (.slice (some ⟨g, 0, none⟩) (l ++ [q]).length cr)).toArray 77 [.slice (some ⟨g, 0, none⟩) l.length cr]) h.lo)
    refine hK.out _ _ (hap _ _ hR5) (fun _ => ?_)
    clear hK
    simp only [Act.put, List.getElem_toArray, List.getElem_cons_succ, List.getElem_cons_zero, List.setIfInBounds_toArray, List.set_cons_zero, List.set_cons_succ]
    refine wpAnyH_done (by kernel_rfl) ?_ _
    have ev : (Value.slice (some ⟨g, 0, none⟩) l.length cr).cells.toList = [.slice (some ⟨g, 0, none⟩) l.length cr] := rfl
    rw [ev]
    clear ev hcc hR4 hR5 hap
    generalize W5.setRow tb (putAt (tC bg ⟨t.L, q, t.first, t.kept, t.size⟩ vr (.slice (some ⟨g, 0, none⟩) (l ++ [q]).length cr)).toArray 77 [.slice (some ⟨g, 0, none⟩) l.length cr]) = W6 at *
    have H7 := H6.setP t.now.p
    have B7 := B6.trans (below_set _ tb (putAt (tC bg ⟨t.L, q, t.first, l, t.size⟩ vr (.slice (some ⟨g, 0, none⟩) l.length cr)).toArray 39 [.int .i64 t.now.p]) h.lo)
    go_upto_region 7 with (refine wpList_part (g := tb) (off := 39) (val := .int .i64 t.now.p) rfl rfl (by rfl) (by rfl) H6.bk (by rw [sizeInt]; rfl) (by rw [H6.len]; show 39 + 1 ≤ 78; omega) (one_cells _) rfl ?_)
    have ev : (Value.int .i64 t.now.p).cells.toList = [.int .i64 t.now.p] := rfl
    rw [ev]
    clear ev
    generalize W6.setRow tb (putAt (tC bg ⟨t.L, q, t.first, l, t.size⟩ vr (.slice (some ⟨g, 0, none⟩) l.length cr)).toArray 39 [.int .i64 t.now.p]) = W7 at *
    go_wp2_with fail
    go_ret
    refine ⟨rfl, B7, fun t' ht => ?_⟩
    cases ht
    exact ⟨vr, _, H7⟩
end Go.Proofs.YtpbnldfekadalaaDoor
