/- Rows, compared. -/
import Derived.Test.YtgldijohpfihaabDoorCRow
import Derived.DeepKeys
namespace Go.Proofs.YtgldijohpfihaabDoor
open Go.ChangeShapes Go.WideShapes Go.ChangeAt Go.RowKit
set_option linter.unusedVariables false
set_option linter.unusedSimpArgs false

/-- A rule, and a row's N, that may be. -/
def Rq (q : Int × Int) : Prop := (0 ≤ q.1 ∧ q.1 ≤ 2) ∧ (-2147483648 ≤ q.2 ∧ q.2 < 2147483648)
structure Rz (x : Rw) : Prop where
  n : 0 ≤ x.n ∧ x.n < 2147483648
  z : ∀ q ∈ x.z, Rq q
structure Tr (t : Tb) : Prop where
  L : ∀ x ∈ t.L, Rz x
  now : Rz t.now
  first : Rz t.first
  kept : ∀ x ∈ t.kept, Rz x
theorem rq_zero : Rq (0, 0) := ⟨by decide, by decide⟩
theorem rz_zero : ∀ q ∈ zero17, Rq q := fun q hq => by
  have := List.eq_of_mem_replicate hq
  subst this
  exact rq_zero
theorem tr_new (size : Int) : Tr (tbNew size) := ⟨fun x hx => (by cases hx), ⟨by show (0 : Int) ≤ 0 ∧ (0 : Int) < 2147483648; omega, rz_zero⟩, ⟨by show (0 : Int) ≤ 0 ∧ (0 : Int) < 2147483648; omega, rz_zero⟩, fun x hx => (by cases hx)⟩
theorem rz_set {x : Rw} (h : Rz x) (r : Int) {v : Int × Int} (hv : Rq v) : Rz (x.set r v) := ⟨h.n, fun q hq => by
  rcases List.mem_or_eq_of_mem_set hq with h1 | h1
  · exact h.z q h1
  · subst h1; exact hv⟩
theorem may_far {o : Oq} (h : mayB o = true) (hk : o.k = 2 ∨ o.k = 3) : 0 ≤ o.n ∧ o.n < 2147483648 := by
  unfold mayB at h
  have hr : farB o = true := by rcases hk with e | e <;> simp [e] at h <;> simp [h]
  simpa [farB] using hr
theorem may_off {o : Oq} (h : mayB o = true) (hk : o.k = 5) : -2147483648 ≤ o.n ∧ o.n < 2147483648 := by
  unfold mayB at h
  simp [hk] at h
  exact ⟨h.2.1, h.2.2.1⟩
theorem tr_do {t t' : Tb} {o : Oq} (h : Tr t) (hm : mayB o = true) (hd : doM t o = some t') : Tr t' := by
  unfold doM at hd
  by_cases k1 : o.k = 1
  · rw [if_pos k1] at hd
    split at hd
    · cases hd
      unfold advM
      split
      · refine ⟨fun x hx => ?_, ⟨h.now.n, h.now.z⟩, h.first, h.kept⟩
        rcases List.mem_append.1 hx with h1 | h1
        · exact h.L x h1
        · simp at h1; subst h1; exact h.now
      · exact h
    · cases hd
  rw [if_neg k1] at hd
  by_cases k2 : o.k = 2
  · rw [if_pos k2] at hd
    cases hd
    exact ⟨h.L, ⟨may_far hm (.inl k2), h.now.z⟩, h.first, h.kept⟩
  rw [if_neg k2] at hd
  by_cases k3 : o.k = 3
  · rw [if_pos k3] at hd
    split at hd
    · cases hd
      exact ⟨h.L, ⟨may_far hm (.inr k3), h.now.z⟩, h.first, h.kept⟩
    · cases hd
  rw [if_neg k3] at hd
  by_cases k4 : o.k = 4
  · rw [if_pos k4] at hd
    split at hd
    · cases hd
      exact ⟨h.L, ⟨h.now.n, h.now.z⟩, h.first, h.kept⟩
    · cases hd
  rw [if_neg k4] at hd
  by_cases k5 : o.k = 5
  · rw [if_pos k5] at hd
    cases hd
    exact ⟨h.L, rz_set h.now _ ⟨by show (0 : Int) ≤ 2 ∧ (2 : Int) ≤ 2; omega, may_off hm k5⟩, h.first, h.kept⟩
  rw [if_neg k5] at hd
  by_cases k6 : o.k = 6
  · rw [if_pos k6] at hd
    cases hd
    refine ⟨h.L, rz_set h.now _ ?_, h.first, h.kept⟩
    rw [List.getD_eq_getElem?_getD]
    cases hq : t.first.z[o.r.toNat]? with
    | none => exact rq_zero
    | some q => exact h.first.z q (List.mem_of_getElem? hq)
  rw [if_neg k6] at hd
  by_cases k7 : o.k = 7
  · rw [if_pos k7] at hd
    cases hd
    exact ⟨h.L, rz_set h.now _ ⟨by show (0 : Int) ≤ 1 ∧ (1 : Int) ≤ 2; omega, by show (-2147483648 : Int) ≤ 0 ∧ (0 : Int) < 2147483648; omega⟩, h.first, h.kept⟩
  rw [if_neg k7] at hd
  by_cases k8 : o.k = 8
  · rw [if_pos k8] at hd
    cases hd
    exact ⟨h.L, rz_set h.now _ rq_zero, h.first, h.kept⟩
  rw [if_neg k8] at hd
  by_cases k9 : o.k = 9
  · rw [if_pos k9] at hd
    split at hd
    · cases hd
      refine ⟨h.L, h.now, h.first, fun x hx => ?_⟩
      rcases List.mem_append.1 hx with h1 | h1
      · exact h.kept x h1
      · simp at h1; subst h1; exact h.now
    · cases hd
  rw [if_neg k9] at hd
  by_cases k10 : o.k = 10
  · rw [if_pos k10] at hd
    unfold recM at hd
    cases hl : t.kept.getLast? with
    | none => rw [hl] at hd; cases hd
    | some q =>
      rw [hl] at hd
      cases hd
      have hq := h.kept q (List.mem_of_getLast? hl)
      exact ⟨h.L, ⟨hq.n, hq.z⟩, h.first, fun x hx => h.kept x (List.dropLast_subset _ hx)⟩
  rw [if_neg k10] at hd
  cases hd
  exact h
theorem tr_ops {b : Bool} : ∀ {l : List Oq} {t t' : Tb}, Tr t → opsM b t l = some t' → Tr t'
  | [], t, t', h, hd => by cases hd; exact h
  | o :: l, t, t', h, hd => by
    simp only [opsM] at hd
    cases ho : oneM b t o with
    | none => rw [ho] at hd; cases hd
    | some t1 =>
      rw [ho] at hd
      obtain ⟨hm, _, hx⟩ := oneM_some ho
      exact tr_ops (tr_do h hm hx) hd
theorem tr_tab {i l : List Oq} {size : Int} {t : Tb} (h : tabM i l size = some t) : Tr t := by
  unfold tabM begM at h
  cases ho : opsM true (tbNew size) i with
  | none => rw [ho] at h; cases h
  | some t1 =>
    rw [ho] at h
    have h1 := tr_ops (tr_new size) ho
    dsimp only at h
    by_cases hr : 0 ≤ t1.now.r
    · rw [if_pos hr] at h
      exact tr_ops (t := ⟨t1.L, t1.now, t1.now, t1.kept, t1.size⟩) ⟨h1.L, h1.now, h1.now, h1.kept⟩ h
    · rw [if_neg hr] at h; cases h

/-- A row whose numbers are ints. -/
structure Rk (x : Rw) : Prop where
  p : (Lit.int .i64 x.p).wf = true
  r : (Lit.int .i64 x.r).wf = true
  n : (Lit.int .i64 x.n).wf = true
  z : ∀ q ∈ x.z, (Lit.int .i64 q.1).wf = true ∧ (Lit.int .i64 q.2).wf = true
  wf : Wf x
theorem wf64 {m : Int} (h0 : -9223372036854775808 ≤ m) (h7 : m ≤ 9223372036854775807) : (Lit.int .i64 m).wf = true := by
  simp [Lit.wf, IntKind.min, IntKind.max, IntKind.signed, IntKind.bits]; omega
theorem rk_rows {i l : List Oq} {size : Int} (h : rowsE i l size = 0) : ∀ x ∈ rowsL i l size, Rk x := by
  obtain ⟨t, ht, hr, hs, _, _⟩ := rows_ok h
  obtain ⟨g, e⟩ := tab_ok hs.1 ht
  have tw := tw_tab ht
  have tr := tr_tab ht
  rw [hr]
  intro x hx
  have hz : Rz x := by
    rcases List.mem_append.1 hx with h1 | h1
    · exact tr.L x h1
    · simp at h1; subst h1; exact tr.now
  have hw : Wf x := by
    rcases List.mem_append.1 hx with h1 | h1
    · exact tw.L x h1
    · simp at h1; subst h1; exact tw.now
  have ho : RowOk x := by
    rcases List.mem_append.1 hx with h1 | h1
    · exact g.L x h1
    · simp at h1; subst h1; exact g.now
  have hp1 := good_top g x hx
  have hp0 : 0 ≤ x.p := by
    have hz0 := g.zero
    have hup := g.up
    cases hL : t.L ++ [t.now] with
    | nil => simp at hL
    | cons y ys =>
      have hy : y.p = 0 := by
        have : (t.L ++ [t.now]).head (by simp) = y := by simp [hL]
        rw [this] at hz0
        exact hz0
      rw [hL] at hx hup
      rcases List.mem_cons.1 hx with rfl | h1
      · omega
      · have := (List.pairwise_cons.1 hup).1 x h1
        omega
  have ht2 := g.top
  obtain ⟨o1, o2⟩ := ho
  refine ⟨wf64 (by omega) (by omega), wf64 (by omega) (by omega), wf64 (by have := hz.n; omega) (by have := hz.n; omega), fun q hq => ?_, hw⟩
  obtain ⟨⟨a1, a2⟩, b1, b2⟩ := hz.z q hq
  exact ⟨wf64 (by omega) (by omega), wf64 (by omega) (by omega)⟩

theorem mapM_some' {α β : Type} {f : α → Option β} {g : α → β} : ∀ (l : List α), (∀ x ∈ l, f x = some (g x)) → l.mapM f = some (l.map g)
  | [], _ => rfl
  | x :: l, h => by
    rw [List.mapM_cons, h x (by simp), mapM_some' l (fun y hy => h y (by simp [hy]))]
    rfl
def zl (z : List (Int × Int)) : List Lit := z.flatMap fun q => [.int .i64 q.1, .int .i64 q.2]
theorem cellsRule : Tryd.prog.cellsOf 35 = 2 := by kernel_rfl
theorem cellsRules : Tryd.prog.cellsOf 36 = 34 := by kernel_rfl
theorem cellsRow : Tryd.prog.cellsOf 38 = 37 := by kernel_rfl
theorem cellsInt : Tryd.prog.cellsOf 3 = 1 := by kernel_rfl
theorem lits_int {d : Nat} {m : Int} (h : (Lit.int .i64 m).wf = true) : Tryd.prog.keyLits (d + 1) 3 [Value.int .i64 m] = some [Lit.int .i64 m] := by
  unfold Program.keyLits
  simp [Tryd.underlying3, h]
theorem lits_rule {q : Int × Int} (h1 : (Lit.int .i64 q.1).wf = true) (h2 : (Lit.int .i64 q.2).wf = true) : Tryd.prog.keyLits 2 35 [.int .i64 q.1, .int .i64 q.2] = some [.int .i64 q.1, .int .i64 q.2] := by
  have l1 := lits_int (d := 0) h1
  have l2 := lits_int (d := 0) h2
  unfold Program.keyLits
  simp only [Tryd.underlying35, cellsRule]
  simp [l1, l2, cellsInt, List.mapM_cons]
theorem zc_piece (z : List (Int × Int)) (i : Nat) (hi : i < z.length) : ((zc z).drop (i * 2)).take 2 = [.int .i64 (z.getD i (0, 0)).1, .int .i64 (z.getD i (0, 0)).2] := by
  have h := zc_at z i hi
  have hl := zc_len z
  rw [List.drop_eq_getElem_cons (by omega), List.drop_eq_getElem_cons (by omega)]
  have e1 : (zc z)[i * 2]'(by omega) = .int .i64 (z.getD i (0, 0)).1 := by
    have := h.1
    rw [List.getElem?_eq_getElem (by omega)] at this
    exact Option.some.inj this
  have e2 : (zc z)[i * 2 + 1]'(by omega) = .int .i64 (z.getD i (0, 0)).2 := by
    have := h.2
    rw [List.getElem?_eq_getElem (by omega)] at this
    exact Option.some.inj this
  simp [e1, e2]
theorem zl_flat (z : List (Int × Int)) : (((List.range z.length).map (fun i => [Lit.int .i64 (z.getD i (0, 0)).1, Lit.int .i64 (z.getD i (0, 0)).2])).flatten) = zl z := by
  unfold zl
  rw [List.flatMap_def]
  congr 1
  apply List.ext_getElem
  · simp
  · intro i h1 h2
    have : i < z.length := by simpa using h2
    simp [this]
theorem lits_rules {z : List (Int × Int)} (hz : ∀ q ∈ z, (Lit.int .i64 q.1).wf = true ∧ (Lit.int .i64 q.2).wf = true) (hl : z.length = 17) : Tryd.prog.keyLits 3 36 (zc z) = some (zl z) := by
  have hp : ∀ i, i < 17 → Tryd.prog.keyLits 2 35 (((zc z).drop (i * 2)).take 2) = some [.int .i64 (z.getD i (0, 0)).1, .int .i64 (z.getD i (0, 0)).2] := fun i hi => by
    rw [zc_piece z i (by omega)]
    have hm : z.getD i (0, 0) ∈ z := by
      have : z.getD i (0, 0) = z[i]'(by omega) := by simp [show i < z.length by omega]
      rw [this]
      exact List.getElem_mem _
    exact lits_rule (hz _ hm).1 (hz _ hm).2
  have hzl := zc_len z
  unfold Program.keyLits
  simp only [Tryd.underlying36, cellsRules, cellsRule]
  rw [if_pos (by omega), mapM_some' (g := fun i => [Lit.int .i64 (z.getD i (0, 0)).1, Lit.int .i64 (z.getD i (0, 0)).2]) _ (fun i hi => hp i (by simpa using hi)), Option.map_some]
  rw [← zl_flat z, hl]
theorem lits_row {x : Rw} (h : Rk x) : Tryd.prog.keyLits 4 38 x.cells = some (.int .i64 x.p :: .int .i64 x.r :: .int .i64 x.n :: zl x.z) := by
  have l0 := lits_int (d := 2) h.p
  have l1 := lits_int (d := 2) h.r
  have l2 := lits_int (d := 2) h.n
  have l3 := lits_rules h.z h.wf
  have hzl := zc_len x.z
  have hw : x.z.length = 17 := h.wf
  unfold Program.keyLits
  simp only [Tryd.underlying38, Rw.cells, cellsRow]
  simp [hzl, hw, l0, l1, l2, cellsInt, cellsRules, List.mapM_cons]
  rw [List.take_of_length_le (by omega), l3]
  simp
/-- A row is itself. -/
theorem neq_row {x : Rw} (h : Rk x) (W : World) : (binOp .neq 38 (.agg x.cells.toArray) (.agg x.cells.toArray)).run Tryd.prog W = .ok (.bool false) W := by
  have fx : (Value.agg x.cells.toArray).formed Tryd.prog 38 = true := by
    have := Rw.cells_len h.wf
    simp [Value.formed, Tryd.underlying38, cellsRow, this]
  obtain ⟨r, hr, hiff⟩ := run_equalIn_deep (P := Tryd.prog) 9996 4 38 (by kernel_rfl) W 4 4 _ _ _ _ fx fx (lits_row h) (lits_row h)
  have he : (Op.equal 38 (.agg x.cells.toArray) (.agg x.cells.toArray)).run Tryd.prog W = .ok r W := hr
  have hd : r = true := hiff.2 rfl
  subst hd
  simp only [binOp]
  simp [he]
end Go.Proofs.YtgldijohpfihaabDoor
