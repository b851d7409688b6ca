/- An op is done, by its kind. Every op: may it be, and what does it. -/
import Derived.Test.YtpbnldfekadalaaDoorCMayP
namespace Go.Proofs.YtpbnldfekadalaaDoor
open Go.ChangeShapes Go.WideShapes Go.ChangeAt Go.RowKit
set_option linter.unusedVariables false
set_option linter.unusedSimpArgs false
variable {X : Nat → Option Obj}

/-- The methods, by their kind. -/
def fidL : List FuncId := [36, 37, 38, 39, 40, 41, 42, 43, 44, 45, 46]
abbrev fv (f : FuncId) : Value := .func (.func f) #[] #[]
/-- An op is done, in the beginning or behind it. -/
def dM (bg : Bool) (t : Tb) (o : Oq) : Option Tb := if bg = false ∧ notB o = true then none else doM t o
/-- What holds of a table while it is built. -/
structure Pl (m : Nat) (bg : Bool) (t : Tb) : Prop where
  p0 : 0 ≤ t.now.p
  p1 : t.now.p ≤ t.size
  s : t.size ≤ 1048576
  L : t.L.length ≤ m
  K : t.kept.length ≤ 64
  k0 : bg = false → t.kept = []
  r : t.now.r = -1 ∨ 0 ≤ t.now.r
  kr : ∀ q ∈ t.kept, q.r = -1 ∨ 0 ≤ q.r
theorem may_kind {o : Oq} (h : mayB o = true) : ∃ k : Nat, k < 11 ∧ o.k = (k : Int) := by
  by_cases hk : o.k < 0 ∨ 11 ≤ o.k
  · rw [may_out hk] at h; cases h
  · exact ⟨o.k.toNat, by omega, by omega⟩
theorem pl_do {m : Nat} {bg : Bool} {t t' : Tb} {o : Oq} (h : Pl m bg t) (hm : mayB o = true) (hd : dM bg t o = some t') : Pl (m + 1) bg t' := by
  unfold dM at hd
  by_cases hb : bg = false ∧ notB o = true
  · rw [if_pos hb] at hd; cases hd
  rw [if_neg hb] at hd
  have hkk : bg = false → o.k ≠ 9 := fun e e9 => hb ⟨e, by simp [notB, e9]⟩
  unfold doM at hd
  by_cases k1 : o.k = 1
  · rw [if_pos k1] at hd
    split at hd
    · rename_i hp
      cases hd
      unfold advM at hp ⊢
      split at hp
      · rename_i h0
        rw [if_pos h0]
        exact ⟨by have := h.p0; show 0 ≤ t.now.p + o.n; omega, hp, h.s, by have := h.L; simp; omega, h.K, h.k0, h.r, h.kr⟩
      · rename_i h0
        rw [if_neg h0]
        exact ⟨h.p0, h.p1, h.s, by have := h.L; omega, h.K, h.k0, h.r, h.kr⟩
    · cases hd
  rw [if_neg k1] at hd
  have put : ∀ {x : Rw} {f : Rw}, x.p = t.now.p → (x.r = -1 ∨ 0 ≤ x.r) → Pl (m + 1) bg ⟨t.L, x, f, t.kept, t.size⟩ := fun {x f} e1 e2 => ⟨by rw [e1]; exact h.p0, by rw [e1]; exact h.p1, h.s, by have := h.L; show t.L.length ≤ m + 1; omega, h.K, h.k0, e2, h.kr⟩
  by_cases k2 : o.k = 2
  · rw [if_pos k2] at hd; cases hd; exact put rfl (.inr (may_reg hm (.inl k2)).1)
  rw [if_neg k2] at hd
  by_cases k3 : o.k = 3
  · rw [if_pos k3] at hd
    split at hd
    · cases hd; exact put rfl h.r
    · cases hd
  rw [if_neg k3] at hd
  by_cases k4 : o.k = 4
  · rw [if_pos k4] at hd
    split at hd
    · cases hd; exact put rfl (.inr (may_reg hm (.inr (.inl k4))).1)
    · cases hd
  rw [if_neg k4] at hd
  by_cases k9 : o.k = 9
  · rw [if_neg (by omega), if_neg (by omega), if_neg (by omega), if_neg (by omega), if_pos k9] at hd
    split at hd
    · rename_i h64
      cases hd
      refine ⟨h.p0, h.p1, h.s, by have := h.L; show t.L.length ≤ m + 1; omega, by simpa using h64, fun e => absurd k9 (hkk e), h.r, fun q hq => ?_⟩
      rcases List.mem_append.1 hq with hq | hq
      · exact h.kr q hq
      · simp at hq; subst hq; exact h.r
    · cases hd
  by_cases k10 : o.k = 10
  · rw [if_neg (by omega), if_neg (by omega), if_neg (by omega), if_neg (by omega), if_neg k9, if_pos k10] at hd
    unfold recM at hd
    cases hl : t.kept.getLast? with
    | none => rw [hl] at hd; cases hd
    | some q =>
      rw [hl] at hd
      cases hd
      refine ⟨h.p0, h.p1, h.s, by have := h.L; show t.L.length ≤ m + 1; omega, by have := h.K; simp; omega, fun e => by rw [h.k0 e]; rfl, h.kr q (List.mem_of_getLast? hl), fun q hq => h.kr q (List.dropLast_subset _ hq)⟩
  repeat' (split at hd)
  all_goals first
    | (cases hd; exact put rfl h.r)
    | (exfalso; omega)
    | (cases hd; exact ⟨h.p0, h.p1, h.s, by have := h.L; omega, h.K, h.k0, h.r, h.kr⟩)

set_option maxRecDepth 10000 in
theorem doer_any (k : Nat) (hk : k < 11) (w : World) : Calls Tryd.prog 35 #[.int .i64 (k : Int)] w fun e w' => e = .returned (fv (fidL.getD k 0)) ∧ w' = w := by
  have : k = 0 ∨ k = 1 ∨ k = 2 ∨ k = 3 ∨ k = 4 ∨ k = 5 ∨ k = 6 ∨ k = 7 ∨ k = 8 ∨ k = 9 ∨ k = 10 := by omega
  rcases this with rfl | rfl | rfl | rfl | rfl | rfl | rfl | rfl | rfl | rfl | rfl
  · show Calls Tryd.prog 35 #[.int .i64 0] w fun e w' => e = .returned (fv 36) ∧ w' = w
    go_enter Tryd.func35, Tryd.ntmps35
    go_upto_region 1 with fail
    iterate 1 go_step
    refine wpList_val (v := .agg #[fv 36, fv 37, fv 38, fv 39, fv 40, fv 41, fv 42, fv 43, fv 44, fv 45, fv 46]) (w' := w) (by kernel_rfl) (by kernel_rfl) ?_
    simp only [Act.put, List.getElem_toArray, List.getElem_cons_succ, List.getElem_cons_zero, List.setIfInBounds_toArray, List.set_cons_zero, List.set_cons_succ]
    refine wpList_val (v := .int .i64 0) (w' := w) (by kernel_rfl) (by kernel_rfl) ?_
    simp only [Act.put, List.getElem_toArray, List.getElem_cons_succ, List.getElem_cons_zero, List.setIfInBounds_toArray, List.set_cons_zero, List.set_cons_succ]
    refine wpList_val (v := fv 36) (w' := w) (by kernel_rfl) (by kernel_rfl) ?_
    simp only [Act.put, List.getElem_toArray, List.getElem_cons_succ, List.getElem_cons_zero, List.setIfInBounds_toArray, List.set_cons_zero, List.set_cons_succ]
    refine wpList_val (v := fv 36) (w' := w) (by kernel_rfl) (by kernel_rfl) ?_
    simp only [Act.put, List.getElem_toArray, List.getElem_cons_succ, List.getElem_cons_zero, List.setIfInBounds_toArray, List.set_cons_zero, List.set_cons_succ]
    refine wpList_nil ?_
    go_wp2_with fail
    go_ret
    exact ⟨rfl, rfl⟩
  · show Calls Tryd.prog 35 #[.int .i64 1] w fun e w' => e = .returned (fv 37) ∧ w' = w
    go_enter Tryd.func35, Tryd.ntmps35
    go_upto_region 1 with fail
    iterate 1 go_step
    refine wpList_val (v := .agg #[fv 36, fv 37, fv 38, fv 39, fv 40, fv 41, fv 42, fv 43, fv 44, fv 45, fv 46]) (w' := w) (by kernel_rfl) (by kernel_rfl) ?_
    simp only [Act.put, List.getElem_toArray, List.getElem_cons_succ, List.getElem_cons_zero, List.setIfInBounds_toArray, List.set_cons_zero, List.set_cons_succ]
    refine wpList_val (v := .int .i64 1) (w' := w) (by kernel_rfl) (by kernel_rfl) ?_
    simp only [Act.put, List.getElem_toArray, List.getElem_cons_succ, List.getElem_cons_zero, List.setIfInBounds_toArray, List.set_cons_zero, List.set_cons_succ]
    refine wpList_val (v := fv 37) (w' := w) (by kernel_rfl) (by kernel_rfl) ?_
    simp only [Act.put, List.getElem_toArray, List.getElem_cons_succ, List.getElem_cons_zero, List.setIfInBounds_toArray, List.set_cons_zero, List.set_cons_succ]
    refine wpList_val (v := fv 37) (w' := w) (by kernel_rfl) (by kernel_rfl) ?_
    simp only [Act.put, List.getElem_toArray, List.getElem_cons_succ, List.getElem_cons_zero, List.setIfInBounds_toArray, List.set_cons_zero, List.set_cons_succ]
    refine wpList_nil ?_
    go_wp2_with fail
    go_ret
    exact ⟨rfl, rfl⟩
  · show Calls Tryd.prog 35 #[.int .i64 2] w fun e w' => e = .returned (fv 38) ∧ w' = w
    go_enter Tryd.func35, Tryd.ntmps35
    go_upto_region 1 with fail
    iterate 1 go_step
    refine wpList_val (v := .agg #[fv 36, fv 37, fv 38, fv 39, fv 40, fv 41, fv 42, fv 43, fv 44, fv 45, fv 46]) (w' := w) (by kernel_rfl) (by kernel_rfl) ?_
    simp only [Act.put, List.getElem_toArray, List.getElem_cons_succ, List.getElem_cons_zero, List.setIfInBounds_toArray, List.set_cons_zero, List.set_cons_succ]
    refine wpList_val (v := .int .i64 2) (w' := w) (by kernel_rfl) (by kernel_rfl) ?_
    simp only [Act.put, List.getElem_toArray, List.getElem_cons_succ, List.getElem_cons_zero, List.setIfInBounds_toArray, List.set_cons_zero, List.set_cons_succ]
    refine wpList_val (v := fv 38) (w' := w) (by kernel_rfl) (by kernel_rfl) ?_
    simp only [Act.put, List.getElem_toArray, List.getElem_cons_succ, List.getElem_cons_zero, List.setIfInBounds_toArray, List.set_cons_zero, List.set_cons_succ]
    refine wpList_val (v := fv 38) (w' := w) (by kernel_rfl) (by kernel_rfl) ?_
    simp only [Act.put, List.getElem_toArray, List.getElem_cons_succ, List.getElem_cons_zero, List.setIfInBounds_toArray, List.set_cons_zero, List.set_cons_succ]
    refine wpList_nil ?_
    go_wp2_with fail
    go_ret
    exact ⟨rfl, rfl⟩
  · show Calls Tryd.prog 35 #[.int .i64 3] w fun e w' => e = .returned (fv 39) ∧ w' = w
    go_enter Tryd.func35, Tryd.ntmps35
    go_upto_region 1 with fail
    iterate 1 go_step
    refine wpList_val (v := .agg #[fv 36, fv 37, fv 38, fv 39, fv 40, fv 41, fv 42, fv 43, fv 44, fv 45, fv 46]) (w' := w) (by kernel_rfl) (by kernel_rfl) ?_
    simp only [Act.put, List.getElem_toArray, List.getElem_cons_succ, List.getElem_cons_zero, List.setIfInBounds_toArray, List.set_cons_zero, List.set_cons_succ]
    refine wpList_val (v := .int .i64 3) (w' := w) (by kernel_rfl) (by kernel_rfl) ?_
    simp only [Act.put, List.getElem_toArray, List.getElem_cons_succ, List.getElem_cons_zero, List.setIfInBounds_toArray, List.set_cons_zero, List.set_cons_succ]
    refine wpList_val (v := fv 39) (w' := w) (by kernel_rfl) (by kernel_rfl) ?_
    simp only [Act.put, List.getElem_toArray, List.getElem_cons_succ, List.getElem_cons_zero, List.setIfInBounds_toArray, List.set_cons_zero, List.set_cons_succ]
    refine wpList_val (v := fv 39) (w' := w) (by kernel_rfl) (by kernel_rfl) ?_
    simp only [Act.put, List.getElem_toArray, List.getElem_cons_succ, List.getElem_cons_zero, List.setIfInBounds_toArray, List.set_cons_zero, List.set_cons_succ]
    refine wpList_nil ?_
    go_wp2_with fail
    go_ret
    exact ⟨rfl, rfl⟩
  · show Calls Tryd.prog 35 #[.int .i64 4] w fun e w' => e = .returned (fv 40) ∧ w' = w
    go_enter Tryd.func35, Tryd.ntmps35
    go_upto_region 1 with fail
    iterate 1 go_step
    refine wpList_val (v := .agg #[fv 36, fv 37, fv 38, fv 39, fv 40, fv 41, fv 42, fv 43, fv 44, fv 45, fv 46]) (w' := w) (by kernel_rfl) (by kernel_rfl) ?_
    simp only [Act.put, List.getElem_toArray, List.getElem_cons_succ, List.getElem_cons_zero, List.setIfInBounds_toArray, List.set_cons_zero, List.set_cons_succ]
    refine wpList_val (v := .int .i64 4) (w' := w) (by kernel_rfl) (by kernel_rfl) ?_
    simp only [Act.put, List.getElem_toArray, List.getElem_cons_succ, List.getElem_cons_zero, List.setIfInBounds_toArray, List.set_cons_zero, List.set_cons_succ]
    refine wpList_val (v := fv 40) (w' := w) (by kernel_rfl) (by kernel_rfl) ?_
    simp only [Act.put, List.getElem_toArray, List.getElem_cons_succ, List.getElem_cons_zero, List.setIfInBounds_toArray, List.set_cons_zero, List.set_cons_succ]
    refine wpList_val (v := fv 40) (w' := w) (by kernel_rfl) (by kernel_rfl) ?_
    simp only [Act.put, List.getElem_toArray, List.getElem_cons_succ, List.getElem_cons_zero, List.setIfInBounds_toArray, List.set_cons_zero, List.set_cons_succ]
    refine wpList_nil ?_
    go_wp2_with fail
    go_ret
    exact ⟨rfl, rfl⟩
  · show Calls Tryd.prog 35 #[.int .i64 5] w fun e w' => e = .returned (fv 41) ∧ w' = w
    go_enter Tryd.func35, Tryd.ntmps35
    go_upto_region 1 with fail
    iterate 1 go_step
    refine wpList_val (v := .agg #[fv 36, fv 37, fv 38, fv 39, fv 40, fv 41, fv 42, fv 43, fv 44, fv 45, fv 46]) (w' := w) (by kernel_rfl) (by kernel_rfl) ?_
    simp only [Act.put, List.getElem_toArray, List.getElem_cons_succ, List.getElem_cons_zero, List.setIfInBounds_toArray, List.set_cons_zero, List.set_cons_succ]
    refine wpList_val (v := .int .i64 5) (w' := w) (by kernel_rfl) (by kernel_rfl) ?_
    simp only [Act.put, List.getElem_toArray, List.getElem_cons_succ, List.getElem_cons_zero, List.setIfInBounds_toArray, List.set_cons_zero, List.set_cons_succ]
    refine wpList_val (v := fv 41) (w' := w) (by kernel_rfl) (by kernel_rfl) ?_
    simp only [Act.put, List.getElem_toArray, List.getElem_cons_succ, List.getElem_cons_zero, List.setIfInBounds_toArray, List.set_cons_zero, List.set_cons_succ]
    refine wpList_val (v := fv 41) (w' := w) (by kernel_rfl) (by kernel_rfl) ?_
    simp only [Act.put, List.getElem_toArray, List.getElem_cons_succ, List.getElem_cons_zero, List.setIfInBounds_toArray, List.set_cons_zero, List.set_cons_succ]
    refine wpList_nil ?_
    go_wp2_with fail
    go_ret
    exact ⟨rfl, rfl⟩
  · show Calls Tryd.prog 35 #[.int .i64 6] w fun e w' => e = .returned (fv 42) ∧ w' = w
    go_enter Tryd.func35, Tryd.ntmps35
    go_upto_region 1 with fail
    iterate 1 go_step
    refine wpList_val (v := .agg #[fv 36, fv 37, fv 38, fv 39, fv 40, fv 41, fv 42, fv 43, fv 44, fv 45, fv 46]) (w' := w) (by kernel_rfl) (by kernel_rfl) ?_
    simp only [Act.put, List.getElem_toArray, List.getElem_cons_succ, List.getElem_cons_zero, List.setIfInBounds_toArray, List.set_cons_zero, List.set_cons_succ]
    refine wpList_val (v := .int .i64 6) (w' := w) (by kernel_rfl) (by kernel_rfl) ?_
    simp only [Act.put, List.getElem_toArray, List.getElem_cons_succ, List.getElem_cons_zero, List.setIfInBounds_toArray, List.set_cons_zero, List.set_cons_succ]
    refine wpList_val (v := fv 42) (w' := w) (by kernel_rfl) (by kernel_rfl) ?_
    simp only [Act.put, List.getElem_toArray, List.getElem_cons_succ, List.getElem_cons_zero, List.setIfInBounds_toArray, List.set_cons_zero, List.set_cons_succ]
    refine wpList_val (v := fv 42) (w' := w) (by kernel_rfl) (by kernel_rfl) ?_
    simp only [Act.put, List.getElem_toArray, List.getElem_cons_succ, List.getElem_cons_zero, List.setIfInBounds_toArray, List.set_cons_zero, List.set_cons_succ]
    refine wpList_nil ?_
    go_wp2_with fail
    go_ret
    exact ⟨rfl, rfl⟩
  · show Calls Tryd.prog 35 #[.int .i64 7] w fun e w' => e = .returned (fv 43) ∧ w' = w
    go_enter Tryd.func35, Tryd.ntmps35
    go_upto_region 1 with fail
    iterate 1 go_step
    refine wpList_val (v := .agg #[fv 36, fv 37, fv 38, fv 39, fv 40, fv 41, fv 42, fv 43, fv 44, fv 45, fv 46]) (w' := w) (by kernel_rfl) (by kernel_rfl) ?_
    simp only [Act.put, List.getElem_toArray, List.getElem_cons_succ, List.getElem_cons_zero, List.setIfInBounds_toArray, List.set_cons_zero, List.set_cons_succ]
    refine wpList_val (v := .int .i64 7) (w' := w) (by kernel_rfl) (by kernel_rfl) ?_
    simp only [Act.put, List.getElem_toArray, List.getElem_cons_succ, List.getElem_cons_zero, List.setIfInBounds_toArray, List.set_cons_zero, List.set_cons_succ]
    refine wpList_val (v := fv 43) (w' := w) (by kernel_rfl) (by kernel_rfl) ?_
    simp only [Act.put, List.getElem_toArray, List.getElem_cons_succ, List.getElem_cons_zero, List.setIfInBounds_toArray, List.set_cons_zero, List.set_cons_succ]
    refine wpList_val (v := fv 43) (w' := w) (by kernel_rfl) (by kernel_rfl) ?_
    simp only [Act.put, List.getElem_toArray, List.getElem_cons_succ, List.getElem_cons_zero, List.setIfInBounds_toArray, List.set_cons_zero, List.set_cons_succ]
    refine wpList_nil ?_
    go_wp2_with fail
    go_ret
    exact ⟨rfl, rfl⟩
  · show Calls Tryd.prog 35 #[.int .i64 8] w fun e w' => e = .returned (fv 44) ∧ w' = w
    go_enter Tryd.func35, Tryd.ntmps35
    go_upto_region 1 with fail
    iterate 1 go_step
    refine wpList_val (v := .agg #[fv 36, fv 37, fv 38, fv 39, fv 40, fv 41, fv 42, fv 43, fv 44, fv 45, fv 46]) (w' := w) (by kernel_rfl) (by kernel_rfl) ?_
    simp only [Act.put, List.getElem_toArray, List.getElem_cons_succ, List.getElem_cons_zero, List.setIfInBounds_toArray, List.set_cons_zero, List.set_cons_succ]
    refine wpList_val (v := .int .i64 8) (w' := w) (by kernel_rfl) (by kernel_rfl) ?_
    simp only [Act.put, List.getElem_toArray, List.getElem_cons_succ, List.getElem_cons_zero, List.setIfInBounds_toArray, List.set_cons_zero, List.set_cons_succ]
    refine wpList_val (v := fv 44) (w' := w) (by kernel_rfl) (by kernel_rfl) ?_
    simp only [Act.put, List.getElem_toArray, List.getElem_cons_succ, List.getElem_cons_zero, List.setIfInBounds_toArray, List.set_cons_zero, List.set_cons_succ]
    refine wpList_val (v := fv 44) (w' := w) (by kernel_rfl) (by kernel_rfl) ?_
    simp only [Act.put, List.getElem_toArray, List.getElem_cons_succ, List.getElem_cons_zero, List.setIfInBounds_toArray, List.set_cons_zero, List.set_cons_succ]
    refine wpList_nil ?_
    go_wp2_with fail
    go_ret
    exact ⟨rfl, rfl⟩
  · show Calls Tryd.prog 35 #[.int .i64 9] w fun e w' => e = .returned (fv 45) ∧ w' = w
    go_enter Tryd.func35, Tryd.ntmps35
    go_upto_region 1 with fail
    iterate 1 go_step
    refine wpList_val (v := .agg #[fv 36, fv 37, fv 38, fv 39, fv 40, fv 41, fv 42, fv 43, fv 44, fv 45, fv 46]) (w' := w) (by kernel_rfl) (by kernel_rfl) ?_
    simp only [Act.put, List.getElem_toArray, List.getElem_cons_succ, List.getElem_cons_zero, List.setIfInBounds_toArray, List.set_cons_zero, List.set_cons_succ]
    refine wpList_val (v := .int .i64 9) (w' := w) (by kernel_rfl) (by kernel_rfl) ?_
    simp only [Act.put, List.getElem_toArray, List.getElem_cons_succ, List.getElem_cons_zero, List.setIfInBounds_toArray, List.set_cons_zero, List.set_cons_succ]
    refine wpList_val (v := fv 45) (w' := w) (by kernel_rfl) (by kernel_rfl) ?_
    simp only [Act.put, List.getElem_toArray, List.getElem_cons_succ, List.getElem_cons_zero, List.setIfInBounds_toArray, List.set_cons_zero, List.set_cons_succ]
    refine wpList_val (v := fv 45) (w' := w) (by kernel_rfl) (by kernel_rfl) ?_
    simp only [Act.put, List.getElem_toArray, List.getElem_cons_succ, List.getElem_cons_zero, List.setIfInBounds_toArray, List.set_cons_zero, List.set_cons_succ]
    refine wpList_nil ?_
    go_wp2_with fail
    go_ret
    exact ⟨rfl, rfl⟩
  · show Calls Tryd.prog 35 #[.int .i64 10] w fun e w' => e = .returned (fv 46) ∧ w' = w
    go_enter Tryd.func35, Tryd.ntmps35
    go_upto_region 1 with fail
    iterate 1 go_step
    refine wpList_val (v := .agg #[fv 36, fv 37, fv 38, fv 39, fv 40, fv 41, fv 42, fv 43, fv 44, fv 45, fv 46]) (w' := w) (by kernel_rfl) (by kernel_rfl) ?_
    simp only [Act.put, List.getElem_toArray, List.getElem_cons_succ, List.getElem_cons_zero, List.setIfInBounds_toArray, List.set_cons_zero, List.set_cons_succ]
    refine wpList_val (v := .int .i64 10) (w' := w) (by kernel_rfl) (by kernel_rfl) ?_
    simp only [Act.put, List.getElem_toArray, List.getElem_cons_succ, List.getElem_cons_zero, List.setIfInBounds_toArray, List.set_cons_zero, List.set_cons_succ]
    refine wpList_val (v := fv 46) (w' := w) (by kernel_rfl) (by kernel_rfl) ?_
    simp only [Act.put, List.getElem_toArray, List.getElem_cons_succ, List.getElem_cons_zero, List.setIfInBounds_toArray, List.set_cons_zero, List.set_cons_succ]
    refine wpList_val (v := fv 46) (w' := w) (by kernel_rfl) (by kernel_rfl) ?_
    simp only [Act.put, List.getElem_toArray, List.getElem_cons_succ, List.getElem_cons_zero, List.setIfInBounds_toArray, List.set_cons_zero, List.set_cons_succ]
    refine wpList_nil ?_
    go_wp2_with fail
    go_ret
    exact ⟨rfl, rfl⟩
theorem dM_of {bg : Bool} {t : Tb} {o : Oq} (h : notB o = false) : dM bg t o = doM t o := by unfold dM; rw [if_neg (by simp [h])]
/-- Every op that may be, by its method. -/
theorem meth_any {base tb m : Nat} {w : World} {bg : Bool} {t : Tb} {vr vk : Value} (h : TA X base w tb bg t vr vk) (hp : Pl m bg t) (hm : m ≤ 90000) (o : Oq) (ho : mayB o = true) :
    ∃ k : Nat, k < 11 ∧ o.k = (k : Int) ∧ Calls Tryd.prog (fidL.getD k 0) #[.pointer (some ⟨tb, 0, none⟩), o.val] w fun e w' => e = .returned (.bool (dM bg t o).isSome) ∧ TEnd X base tb bg w w' (dM bg t o) := by
  obtain ⟨k, hk, e⟩ := may_kind ho
  refine ⟨k, hk, e, ?_⟩
  have hr : (t.now.r != -1) = decide (0 ≤ t.now.r) := by rw [Bool.eq_iff_iff]; simp; have := hp.r; omega
  have hL := hp.L
  have : k = 0 ∨ k = 1 ∨ k = 2 ∨ k = 3 ∨ k = 4 ∨ k = 5 ∨ k = 6 ∨ k = 7 ∨ k = 8 ∨ k = 9 ∨ k = 10 := by omega
  rcases this with rfl | rfl | rfl | rfl | rfl | rfl | rfl | rfl | rfl | rfl | rfl
  · show Calls Tryd.prog 36 _ _ _
    have hd : dM bg t o = some t := by
      rw [dM_of (by simp [notB, e])]; simp [doM, e]
    rw [hd]
    exact (nop_tb h o)
  · show Calls Tryd.prog 37 _ _ _
    have hn := may_adv ho e
    have hd : dM bg t o = (if bg = true ∧ (advM t o.n).now.p ≤ t.size then some (advM t o.n) else none) := by
      unfold dM
      cases bg with
      | false => rw [if_pos ⟨rfl, by simp [notB, e]⟩, if_neg (by simp)]
      | true =>
        rw [if_neg (by simp)]
        unfold doM
        rw [if_pos (show o.k = 1 from e)]
        by_cases h1 : (advM t o.n).now.p ≤ t.size
        · rw [if_pos h1, if_pos ⟨rfl, h1⟩]
        · rw [if_neg h1, if_neg (fun x => h1 x.2)]
    have hs : (dM bg t o).isSome = (bg && decide ((advM t o.n).now.p ≤ t.size)) := by
      rw [hd]
      by_cases h1 : (advM t o.n).now.p ≤ t.size <;> cases bg <;> simp [h1]
    rw [hs, hd]
    exact advance_tb h o hn.1 hn.2 hp.p0 hp.p1 hp.s (by omega)
  · show Calls Tryd.prog 38 _ _ _
    have hd : dM bg t o = some ⟨t.L, ⟨t.now.p, o.r, o.n, t.now.z⟩, t.first, t.kept, t.size⟩ := by
      rw [dM_of (by simp [notB, e])]; simp [doM, e]
    rw [hd]
    exact (defCfa_tb h o)
  · show Calls Tryd.prog 39 _ _ _
    have hd : dM bg t o = (if t.now.r != -1 then some ⟨t.L, ⟨t.now.p, t.now.r, o.n, t.now.z⟩, t.first, t.kept, t.size⟩ else none) := by
      rw [dM_of (by simp [notB, e]), hr]; simp [doM, e]
    have hs : (dM bg t o).isSome = (t.now.r != -1) := by
      rw [hd]
      cases (t.now.r != -1) <;> rfl
    rw [hs, hd]
    exact defOffset_tb h o
  · show Calls Tryd.prog 40 _ _ _
    have hd : dM bg t o = (if t.now.r != -1 then some ⟨t.L, ⟨t.now.p, o.r, t.now.n, t.now.z⟩, t.first, t.kept, t.size⟩ else none) := by
      rw [dM_of (by simp [notB, e]), hr]; simp [doM, e]
    have hs : (dM bg t o).isSome = (t.now.r != -1) := by
      rw [hd]
      cases (t.now.r != -1) <;> rfl
    rw [hs, hd]
    exact defRegister_tb h o
  · show Calls Tryd.prog 41 _ _ _
    have hd : dM bg t o = some ⟨t.L, t.now.set o.r (2, o.n), t.first, t.kept, t.size⟩ := by
      rw [dM_of (by simp [notB, e])]; simp [doM, e]
    rw [hd]
    exact (offset_tb h o (may_reg ho (by rw [e]; omega)).1 (may_reg ho (by rw [e]; omega)).2)
  · show Calls Tryd.prog 42 _ _ _
    have hd : dM bg t o = (if bg = true then some ⟨t.L, t.now.set o.r (t.first.z.getD o.r.toNat (0, 0)), t.first, t.kept, t.size⟩ else none) := by
      unfold dM
      cases bg with
      | false => rw [if_pos ⟨rfl, by simp [notB, e]⟩, if_neg (by simp)]
      | true => rw [if_neg (by simp), if_pos rfl]; simp [doM, e]
    have hs : (dM bg t o).isSome = bg := by
      rw [hd]
      cases bg <;> rfl
    rw [hs, hd]
    exact restore_tb h o (may_reg ho (by rw [e]; omega)).1 (may_reg ho (by rw [e]; omega)).2
  · show Calls Tryd.prog 43 _ _ _
    have hd : dM bg t o = some ⟨t.L, t.now.set o.r (1, 0), t.first, t.kept, t.size⟩ := by
      rw [dM_of (by simp [notB, e])]; simp [doM, e]
    rw [hd]
    exact (undefined_tb h o (may_reg ho (by rw [e]; omega)).1 (may_reg ho (by rw [e]; omega)).2)
  · show Calls Tryd.prog 44 _ _ _
    have hd : dM bg t o = some ⟨t.L, t.now.set o.r (0, 0), t.first, t.kept, t.size⟩ := by
      rw [dM_of (by simp [notB, e])]; simp [doM, e]
    rw [hd]
    exact (sameValue_tb h o (may_reg ho (by rw [e]; omega)).1 (may_reg ho (by rw [e]; omega)).2)
  · show Calls Tryd.prog 45 _ _ _
    have hd : dM bg t o = (if bg = true ∧ t.kept.length + 1 ≤ 64 then some ⟨t.L, t.now, t.first, t.kept ++ [t.now], t.size⟩ else none) := by
      unfold dM
      cases bg with
      | false => rw [if_pos ⟨rfl, by simp [notB, e]⟩, if_neg (by simp)]
      | true =>
        rw [if_neg (by simp)]
        simp [doM, e]
    have hs : (dM bg t o).isSome = (bg && decide (t.kept.length + 1 ≤ 64)) := by
      rw [hd]
      by_cases h1 : t.kept.length + 1 ≤ 64 <;> cases bg <;> simp [h1]
    rw [hs, hd]
    exact remember_tb h o hp.K
  · show Calls Tryd.prog 46 _ _ _
    have hd : dM bg t o = recM t := by
      unfold dM
      cases bg with
      | false => rw [if_pos ⟨rfl, by simp [notB, e]⟩]; unfold recM; rw [hp.k0 rfl]; rfl
      | true =>
        rw [if_neg (by simp)]
        simp [doM, e]
    rw [hd]
    exact recall_tb h o hp.K


theorem oneM_d {bg : Bool} {t : Tb} {o : Oq} (h : mayB o = true) : oneM (!bg) t o = dM bg t o := by
  unfold oneM dM
  cases bg <;> simp [h]
theorem exec_nop {o : Oper} {a : Act} {w : World} {v1 v2 : Value} (ho : o.op = .call { callee := .value (.tmp 10), args := #[.tmp 11, .tmp 12], argTypes := #[45, 64] }) (h10 : a.eval (.tmp 10) = fv 36) (h11 : a.eval (.tmp 11) = v1) (h12 : a.eval (.tmp 12) = v2) :
    (execOp a.eval o).run Tryd.prog w = .ok (.enter 36 #[v1, v2]) w := by
  unfold execOp
  simp only [ho, resolve, List.map_toArray, List.map_cons, List.map_nil, h10, h11, h12]
  kernel_rfl
theorem exec_advance {o : Oper} {a : Act} {w : World} {v1 v2 : Value} (ho : o.op = .call { callee := .value (.tmp 10), args := #[.tmp 11, .tmp 12], argTypes := #[45, 64] }) (h10 : a.eval (.tmp 10) = fv 37) (h11 : a.eval (.tmp 11) = v1) (h12 : a.eval (.tmp 12) = v2) :
    (execOp a.eval o).run Tryd.prog w = .ok (.enter 37 #[v1, v2]) w := by
  unfold execOp
  simp only [ho, resolve, List.map_toArray, List.map_cons, List.map_nil, h10, h11, h12]
  kernel_rfl
theorem exec_defCfa {o : Oper} {a : Act} {w : World} {v1 v2 : Value} (ho : o.op = .call { callee := .value (.tmp 10), args := #[.tmp 11, .tmp 12], argTypes := #[45, 64] }) (h10 : a.eval (.tmp 10) = fv 38) (h11 : a.eval (.tmp 11) = v1) (h12 : a.eval (.tmp 12) = v2) :
    (execOp a.eval o).run Tryd.prog w = .ok (.enter 38 #[v1, v2]) w := by
  unfold execOp
  simp only [ho, resolve, List.map_toArray, List.map_cons, List.map_nil, h10, h11, h12]
  kernel_rfl
theorem exec_defOffset {o : Oper} {a : Act} {w : World} {v1 v2 : Value} (ho : o.op = .call { callee := .value (.tmp 10), args := #[.tmp 11, .tmp 12], argTypes := #[45, 64] }) (h10 : a.eval (.tmp 10) = fv 39) (h11 : a.eval (.tmp 11) = v1) (h12 : a.eval (.tmp 12) = v2) :
    (execOp a.eval o).run Tryd.prog w = .ok (.enter 39 #[v1, v2]) w := by
  unfold execOp
  simp only [ho, resolve, List.map_toArray, List.map_cons, List.map_nil, h10, h11, h12]
  kernel_rfl
theorem exec_defRegister {o : Oper} {a : Act} {w : World} {v1 v2 : Value} (ho : o.op = .call { callee := .value (.tmp 10), args := #[.tmp 11, .tmp 12], argTypes := #[45, 64] }) (h10 : a.eval (.tmp 10) = fv 40) (h11 : a.eval (.tmp 11) = v1) (h12 : a.eval (.tmp 12) = v2) :
    (execOp a.eval o).run Tryd.prog w = .ok (.enter 40 #[v1, v2]) w := by
  unfold execOp
  simp only [ho, resolve, List.map_toArray, List.map_cons, List.map_nil, h10, h11, h12]
  kernel_rfl
theorem exec_offset {o : Oper} {a : Act} {w : World} {v1 v2 : Value} (ho : o.op = .call { callee := .value (.tmp 10), args := #[.tmp 11, .tmp 12], argTypes := #[45, 64] }) (h10 : a.eval (.tmp 10) = fv 41) (h11 : a.eval (.tmp 11) = v1) (h12 : a.eval (.tmp 12) = v2) :
    (execOp a.eval o).run Tryd.prog w = .ok (.enter 41 #[v1, v2]) w := by
  unfold execOp
  simp only [ho, resolve, List.map_toArray, List.map_cons, List.map_nil, h10, h11, h12]
  kernel_rfl
theorem exec_restore {o : Oper} {a : Act} {w : World} {v1 v2 : Value} (ho : o.op = .call { callee := .value (.tmp 10), args := #[.tmp 11, .tmp 12], argTypes := #[45, 64] }) (h10 : a.eval (.tmp 10) = fv 42) (h11 : a.eval (.tmp 11) = v1) (h12 : a.eval (.tmp 12) = v2) :
    (execOp a.eval o).run Tryd.prog w = .ok (.enter 42 #[v1, v2]) w := by
  unfold execOp
  simp only [ho, resolve, List.map_toArray, List.map_cons, List.map_nil, h10, h11, h12]
  kernel_rfl
theorem exec_undefined {o : Oper} {a : Act} {w : World} {v1 v2 : Value} (ho : o.op = .call { callee := .value (.tmp 10), args := #[.tmp 11, .tmp 12], argTypes := #[45, 64] }) (h10 : a.eval (.tmp 10) = fv 43) (h11 : a.eval (.tmp 11) = v1) (h12 : a.eval (.tmp 12) = v2) :
    (execOp a.eval o).run Tryd.prog w = .ok (.enter 43 #[v1, v2]) w := by
  unfold execOp
  simp only [ho, resolve, List.map_toArray, List.map_cons, List.map_nil, h10, h11, h12]
  kernel_rfl
theorem exec_sameValue {o : Oper} {a : Act} {w : World} {v1 v2 : Value} (ho : o.op = .call { callee := .value (.tmp 10), args := #[.tmp 11, .tmp 12], argTypes := #[45, 64] }) (h10 : a.eval (.tmp 10) = fv 44) (h11 : a.eval (.tmp 11) = v1) (h12 : a.eval (.tmp 12) = v2) :
    (execOp a.eval o).run Tryd.prog w = .ok (.enter 44 #[v1, v2]) w := by
  unfold execOp
  simp only [ho, resolve, List.map_toArray, List.map_cons, List.map_nil, h10, h11, h12]
  kernel_rfl
theorem exec_remember {o : Oper} {a : Act} {w : World} {v1 v2 : Value} (ho : o.op = .call { callee := .value (.tmp 10), args := #[.tmp 11, .tmp 12], argTypes := #[45, 64] }) (h10 : a.eval (.tmp 10) = fv 45) (h11 : a.eval (.tmp 11) = v1) (h12 : a.eval (.tmp 12) = v2) :
    (execOp a.eval o).run Tryd.prog w = .ok (.enter 45 #[v1, v2]) w := by
  unfold execOp
  simp only [ho, resolve, List.map_toArray, List.map_cons, List.map_nil, h10, h11, h12]
  kernel_rfl
theorem exec_recall {o : Oper} {a : Act} {w : World} {v1 v2 : Value} (ho : o.op = .call { callee := .value (.tmp 10), args := #[.tmp 11, .tmp 12], argTypes := #[45, 64] }) (h10 : a.eval (.tmp 10) = fv 46) (h11 : a.eval (.tmp 11) = v1) (h12 : a.eval (.tmp 12) = v2) :
    (execOp a.eval o).run Tryd.prog w = .ok (.enter 46 #[v1, v2]) w := by
  unfold execOp
  simp only [ho, resolve, List.map_toArray, List.map_cons, List.map_nil, h10, h11, h12]
  kernel_rfl
theorem exec_fv (k : Nat) (hk : k < 11) {o : Oper} {a : Act} {w : World} {v1 v2 : Value} (ho : o.op = .call { callee := .value (.tmp 10), args := #[.tmp 11, .tmp 12], argTypes := #[45, 64] }) (h10 : a.eval (.tmp 10) = fv (fidL.getD k 0)) (h11 : a.eval (.tmp 11) = v1) (h12 : a.eval (.tmp 12) = v2) :
    (execOp a.eval o).run Tryd.prog w = .ok (.enter (fidL.getD k 0) #[v1, v2]) w := by
  have : k = 0 ∨ k = 1 ∨ k = 2 ∨ k = 3 ∨ k = 4 ∨ k = 5 ∨ k = 6 ∨ k = 7 ∨ k = 8 ∨ k = 9 ∨ k = 10 := by omega
  rcases this with rfl | rfl | rfl | rfl | rfl | rfl | rfl | rfl | rfl | rfl | rfl
  · exact exec_nop ho h10 h11 h12
  · exact exec_advance ho h10 h11 h12
  · exact exec_defCfa ho h10 h11 h12
  · exact exec_defOffset ho h10 h11 h12
  · exact exec_defRegister ho h10 h11 h12
  · exact exec_offset ho h10 h11 h12
  · exact exec_restore ho h10 h11 h12
  · exact exec_undefined ho h10 h11 h12
  · exact exec_sameValue ho h10 h11 h12
  · exact exec_remember ho h10 h11 h12
  · exact exec_recall ho h10 h11 h12
theorem oneM_n {bg : Bool} {t : Tb} {o : Oq} (h : mayB o = false) : oneM bg t o = none := by
  unfold oneM
  simp [h]

set_option maxRecDepth 10000 in
set_option maxHeartbeats 1000000 in
theorem do_tb {base tb : Nat} {w : World} {bg : Bool} {t : Tb} {vr vk : Value} (h : TA X base w tb bg t vr vk) (o : Oq) {m : Nat} (hp : Pl m bg t) (hm : m ≤ 90000) (hf : Fz w) (hb0 : 0 < base) :
    Calls Tryd.prog 28 #[.pointer (some ⟨tb, 0, none⟩), o.val] w fun e w' => e = .returned (.bool (oneM (!bg) t o).isSome) ∧ TEnd X base tb bg w w' (oneM (!bg) t o) := by
  have HB : Below w.heap.size w (w.alloc (.cells #[.int .i64 o.k, .int .i64 o.r, .int .i64 o.n] 64)) := (Below.refl _ _).alloc (Nat.le_refl _) _
  have HT := h.bel HB
  have HTd := h.bel HB.drew
  have HO : Bk (w.alloc (.cells #[.int .i64 o.k, .int .i64 o.r, .int .i64 o.n] 64)).drew w.heap.size 64 #[.int .i64 o.k, .int .i64 o.r, .int .i64 o.n] := (Bk.new w _ _).of rfl
  have hne : w.heap.size ≠ tb := by have := h.bk.lt; omega
  have hbs : base ≤ w.heap.size := Nat.le_trans h.lo (Nat.le_of_lt h.bk.lt)
  have HBb := HB.mono hbs
  have HBd := HB.drew.mono hbs
  have hfd : Fz (w.alloc (.cells #[.int .i64 o.k, .int .i64 o.r, .int .i64 o.n] 64)).drew := hf.bel HB.drew hf.z
  cases hmay : mayB o with
  | false =>
    rw [oneM_n hmay]
    have HM := mayBe_any o _ hfd
    rw [hmay] at HM
    go_enter Tryd.func28, Tryd.ntmps28
    go_upto_region 1 with fail
    refine wp_region_held_drew (S := fun u => True) (by kernel_rfl) trivial (fun hS => ?_)
    generalize (w.alloc (.cells #[.int .i64 o.k, .int .i64 o.r, .int .i64 o.n] 64)).drew = W at *
    refine wpAnyH_ready (rs := [0]) (by kernel_rfl) (by simp) ?_
    refine AllReadyH.cons rfl (fun K hK => ?_) AllReadyH.nil
    simp only [List.getElem_toArray, List.getElem_cons_succ, List.getElem_cons_zero]
    refine wp_if (by kernel_rfl) ?_
    refine wp_val (v := o.val) (w' := W) (exec_loadV (t := 64) (p := ⟨w.heap.size, 0, none⟩) rfl (by kernel_rfl) (load_op HO)) ?_
    refine hK.out _ _ trivial (fun hS => ?_)
    clear hK
    simp only [Act.put, List.getElem_toArray, List.getElem_cons_succ, List.getElem_cons_zero, List.setIfInBounds_toArray, List.set_cons_zero, List.set_cons_succ]
    refine wpAnyH_ready (rs := [1]) (by kernel_rfl) (by simp) ?_
    refine AllReadyH.cons rfl (fun K hK => ?_) AllReadyH.nil
    simp only [List.getElem_toArray, List.getElem_cons_succ, List.getElem_cons_zero]
    refine wp_if (by kernel_rfl) ?_
    refine wp_enter (f := 34) (args := #[o.val]) (by kernel_rfl) HM ?_
    rintro e w2 ⟨rfl, hb2⟩
    refine ⟨_, rfl, ?_⟩
    refine hK.out _ _ trivial (fun hS => ?_)
    clear hK
    simp only [Act.put, List.getElem_toArray, List.getElem_cons_succ, List.getElem_cons_zero, List.setIfInBounds_toArray, List.set_cons_zero, List.set_cons_succ]
    refine wpAnyH_take (i := 2) (v := .bool false) rfl (by kernel_rfl) (by kernel_rfl) (by kernel_rfl) (fun _ _ _ h => h) (Or.inl ⟨by kernel_rfl, fun u hu => by kernel_rfl⟩) hS ?_
    simp only [Act.put, List.getElem_toArray, List.getElem_cons_succ, List.getElem_cons_zero, List.setIfInBounds_toArray, List.set_cons_zero, List.set_cons_succ]
    refine wpAnyH_take (i := 3) (v := undef) rfl (by kernel_rfl) (by kernel_rfl) (by kernel_rfl) (fun _ _ _ h => h) (Or.inr ⟨by kernel_rfl, rfl⟩) hS ?_
    simp only [Act.put, List.getElem_toArray, List.getElem_cons_succ, List.getElem_cons_zero, List.setIfInBounds_toArray, List.set_cons_zero, List.set_cons_succ]
    refine wpAnyH_take (i := 4) (v := undef) rfl (by kernel_rfl) (by kernel_rfl) (by kernel_rfl) (fun _ _ _ h => h) (Or.inr ⟨by kernel_rfl, rfl⟩) hS ?_
    simp only [Act.put, List.getElem_toArray, List.getElem_cons_succ, List.getElem_cons_zero, List.setIfInBounds_toArray, List.set_cons_zero, List.set_cons_succ]
    refine wpAnyH_take (i := 5) (v := undef) rfl (by kernel_rfl) (by kernel_rfl) (by kernel_rfl) (fun _ _ _ h => h) (Or.inr ⟨by kernel_rfl, rfl⟩) hS ?_
    simp only [Act.put, List.getElem_toArray, List.getElem_cons_succ, List.getElem_cons_zero, List.setIfInBounds_toArray, List.set_cons_zero, List.set_cons_succ]
    refine wpAnyH_take (i := 6) (v := undef) rfl (by kernel_rfl) (by kernel_rfl) (by kernel_rfl) (fun _ _ _ h => h) (Or.inr ⟨by kernel_rfl, rfl⟩) hS ?_
    simp only [Act.put, List.getElem_toArray, List.getElem_cons_succ, List.getElem_cons_zero, List.setIfInBounds_toArray, List.set_cons_zero, List.set_cons_succ]
    refine wpAnyH_take (i := 7) (v := undef) rfl (by kernel_rfl) (by kernel_rfl) (by kernel_rfl) (fun _ _ _ h => h) (Or.inr ⟨by kernel_rfl, rfl⟩) hS ?_
    simp only [Act.put, List.getElem_toArray, List.getElem_cons_succ, List.getElem_cons_zero, List.setIfInBounds_toArray, List.set_cons_zero, List.set_cons_succ]
    refine wpAnyH_take (i := 8) (v := undef) rfl (by kernel_rfl) (by kernel_rfl) (by kernel_rfl) (fun _ _ _ h => h) (Or.inr ⟨by kernel_rfl, rfl⟩) hS ?_
    simp only [Act.put, List.getElem_toArray, List.getElem_cons_succ, List.getElem_cons_zero, List.setIfInBounds_toArray, List.set_cons_zero, List.set_cons_succ]
    refine wpAnyH_take (i := 9) (v := .bool false) rfl (by kernel_rfl) (by kernel_rfl) (by kernel_rfl) (fun _ _ _ h => h) (Or.inl ⟨by kernel_rfl, fun u hu => by kernel_rfl⟩) hS ?_
    simp only [Act.put, List.getElem_toArray, List.getElem_cons_succ, List.getElem_cons_zero, List.setIfInBounds_toArray, List.set_cons_zero, List.set_cons_succ]
    refine wpAnyH_take (i := 10) (v := .bool false) rfl (by kernel_rfl) (by kernel_rfl) (by kernel_rfl) (fun _ _ _ h => h) (Or.inl ⟨by kernel_rfl, fun u hu => by kernel_rfl⟩) hS ?_
    simp only [Act.put, List.getElem_toArray, List.getElem_cons_succ, List.getElem_cons_zero, List.setIfInBounds_toArray, List.set_cons_zero, List.set_cons_succ]
    refine wpAnyH_done (by kernel_rfl) ?_ _
    go_wp2_with fail
    go_ret
    exact ⟨rfl, HBd.trans (hb2.mono (Nat.le_trans h.lo (Nat.le_of_lt HTd.bk.lt))), fun t' ht => by cases ht⟩
  | true =>
    rw [oneM_d hmay]
    have HM := mayBe_any o _ hfd
    rw [hmay] at HM
    generalize hR : dM bg t o = R
    obtain ⟨b, hbb⟩ : ∃ b, R.isSome = b := ⟨_, rfl⟩
    rw [hbb]
    go_enter Tryd.func28, Tryd.ntmps28
    go_upto_region 1 with fail
    refine wp_region_held_drew (S := fun u => True) (by kernel_rfl) trivial (fun hS => ?_)
    generalize (w.alloc (.cells #[.int .i64 o.k, .int .i64 o.r, .int .i64 o.n] 64)).drew = W at *
    refine wpAnyH_ready (rs := [0]) (by kernel_rfl) (by simp) ?_
    refine AllReadyH.cons rfl (fun K hK => ?_) AllReadyH.nil
    simp only [List.getElem_toArray, List.getElem_cons_succ, List.getElem_cons_zero]
    refine wp_if (by kernel_rfl) ?_
    refine wp_val (v := o.val) (w' := W) (exec_loadV (t := 64) (p := ⟨w.heap.size, 0, none⟩) rfl (by kernel_rfl) (load_op HO)) ?_
    refine hK.out _ _ trivial (fun hS => ?_)
    clear hK
    simp only [Act.put, List.getElem_toArray, List.getElem_cons_succ, List.getElem_cons_zero, List.setIfInBounds_toArray, List.set_cons_zero, List.set_cons_succ]
    refine wpAnyH_ready (rs := [1]) (by kernel_rfl) (by simp) ?_
    refine AllReadyH.cons rfl (fun K hK => ?_) AllReadyH.nil
    simp only [List.getElem_toArray, List.getElem_cons_succ, List.getElem_cons_zero]
    refine wp_if (by kernel_rfl) ?_
    refine wp_enter (f := 34) (args := #[o.val]) (by kernel_rfl) HM ?_
    rintro e w2 ⟨rfl, hb2⟩
    refine ⟨_, rfl, ?_⟩
    refine hK.out _ _ trivial (fun hS => ?_)
    clear hK
    simp only [Act.put, List.getElem_toArray, List.getElem_cons_succ, List.getElem_cons_zero, List.setIfInBounds_toArray, List.set_cons_zero, List.set_cons_succ]
    have H2 := HTd.bel hb2
    have O2 := HO.bel hb2 HO.lt
    have B2 := HBd.trans (hb2.mono (Nat.le_trans h.lo (Nat.le_of_lt HTd.bk.lt)))
    obtain ⟨k, hk, ek, HC⟩ := meth_any H2 hp hm o hmay
    have HD := doer_any k hk w2
    rw [hR, hbb] at HC

    refine wpAnyH_take (i := 2) (v := .bool true) rfl (by kernel_rfl) (by kernel_rfl) (by kernel_rfl) (fun _ _ _ h => h) (Or.inl ⟨by kernel_rfl, fun u hu => by kernel_rfl⟩) hS ?_
    simp only [Act.put, List.getElem_toArray, List.getElem_cons_succ, List.getElem_cons_zero, List.setIfInBounds_toArray, List.set_cons_zero, List.set_cons_succ]
    refine wpAnyH_take (i := 3) (v := .pointer (some ⟨w.heap.size, 0, none⟩)) rfl (by kernel_rfl) (by kernel_rfl) (by kernel_rfl) (fun _ _ _ h => h) (Or.inl ⟨by kernel_rfl, fun u hu => by kernel_rfl⟩) hS ?_
    simp only [Act.put, List.getElem_toArray, List.getElem_cons_succ, List.getElem_cons_zero, List.setIfInBounds_toArray, List.set_cons_zero, List.set_cons_succ]
    refine wpAnyH_take (i := 6) (v := .pointer (some ⟨tb, 0, none⟩)) rfl (by kernel_rfl) (by kernel_rfl) (by kernel_rfl) (fun _ _ _ h => h) (Or.inl ⟨by kernel_rfl, fun u hu => by kernel_rfl⟩) hS ?_
    simp only [Act.put, List.getElem_toArray, List.getElem_cons_succ, List.getElem_cons_zero, List.setIfInBounds_toArray, List.set_cons_zero, List.set_cons_succ]
    refine wpAnyH_ready (rs := [4, 7]) (by kernel_rfl) (by simp) ?_
    refine AllReadyH.cons rfl (fun K hK => ?_) (AllReadyH.cons rfl (fun K hK => ?_) AllReadyH.nil)
    · simp only [List.getElem_toArray, List.getElem_cons_succ, List.getElem_cons_zero]
      refine wp_if (by kernel_rfl) ?_
      refine wp_val (v := .int .i64 (k : Int)) (w' := w2) (exec_loadV (t := 3) (p := ⟨w.heap.size, 0, none⟩) rfl (by kernel_rfl) (load_i64 (by rw [← ek]; exact O2.cell 0 rfl))) ?_
      refine hK.out _ _ trivial (fun hS => ?_)
      clear hK
      simp only [Act.put, List.getElem_toArray, List.getElem_cons_succ, List.getElem_cons_zero, List.setIfInBounds_toArray, List.set_cons_zero, List.set_cons_succ]
      refine wpAnyH_ready (rs := [5, 7]) (by kernel_rfl) (by simp) ?_
      refine AllReadyH.cons rfl (fun K hK => ?_) (AllReadyH.cons rfl (fun K hK => ?_) AllReadyH.nil)
      · simp only [List.getElem_toArray, List.getElem_cons_succ, List.getElem_cons_zero]
        refine wp_if (by kernel_rfl) ?_
        refine wp_enter (f := 35) (args := #[.int .i64 (k : Int)]) (by kernel_rfl) HD ?_
        rintro e w3 ⟨rfl, e3⟩
        rw [e3]
        clear e3 w3
        refine ⟨_, rfl, ?_⟩
        refine hK.out _ _ trivial (fun hS => ?_)
        clear hK
        simp only [Act.put, List.getElem_toArray, List.getElem_cons_succ, List.getElem_cons_zero, List.setIfInBounds_toArray, List.set_cons_zero, List.set_cons_succ]
        refine wpAnyH_ready (rs := [7]) (by kernel_rfl) (by simp) ?_
        refine AllReadyH.cons rfl (fun K hK => ?_) AllReadyH.nil
        simp only [List.getElem_toArray, List.getElem_cons_succ, List.getElem_cons_zero]
        refine wp_if (by kernel_rfl) ?_
        refine wp_val (v := o.val) (w' := w2) (exec_loadV (t := 64) (p := ⟨w.heap.size, 0, none⟩) rfl (by kernel_rfl) (load_op O2)) ?_
        refine hK.out _ _ trivial (fun hS => ?_)
        clear hK
        simp only [Act.put, List.getElem_toArray, List.getElem_cons_succ, List.getElem_cons_zero, List.setIfInBounds_toArray, List.set_cons_zero, List.set_cons_succ]
        refine wpAnyH_ready (rs := [8]) (by kernel_rfl) (by simp) ?_
        refine AllReadyH.cons rfl (fun K hK => ?_) AllReadyH.nil
        simp only [List.getElem_toArray, List.getElem_cons_succ, List.getElem_cons_zero]
        refine wp_if (by kernel_rfl) ?_
        refine wp_enter (f := fidL.getD k 0) (args := #[.pointer (some ⟨tb, 0, none⟩), o.val]) (exec_fv k hk rfl (by kernel_rfl) (by kernel_rfl) (by kernel_rfl)) HC ?_
        rintro e w4 ⟨rfl, hb4, ht4⟩
        refine ⟨_, rfl, ?_⟩
        refine hK.out _ _ trivial (fun hS => ?_)
        clear hK
        simp only [Act.put, List.getElem_toArray, List.getElem_cons_succ, List.getElem_cons_zero, List.setIfInBounds_toArray, List.set_cons_zero, List.set_cons_succ]
        refine wpAnyH_take (i := 9) (v := .bool b) rfl (by kernel_rfl) (by kernel_rfl) (by kernel_rfl) (fun _ _ _ h => h) (Or.inl ⟨by kernel_rfl, fun u hu => by kernel_rfl⟩) hS ?_
        simp only [Act.put, List.getElem_toArray, List.getElem_cons_succ, List.getElem_cons_zero, List.setIfInBounds_toArray, List.set_cons_zero, List.set_cons_succ]
        refine wpAnyH_take (i := 10) (v := .bool b) rfl (by kernel_rfl) (by kernel_rfl) (by kernel_rfl) (fun _ _ _ h => h) (Or.inl ⟨by kernel_rfl, fun u hu => by kernel_rfl⟩) hS ?_
        simp only [Act.put, List.getElem_toArray, List.getElem_cons_succ, List.getElem_cons_zero, List.setIfInBounds_toArray, List.set_cons_zero, List.set_cons_succ]
        refine wpAnyH_done (by kernel_rfl) ?_ _
        go_wp2_with fail
        go_ret
        exact ⟨rfl, B2.trans hb4, ht4⟩
      · simp only [List.getElem_toArray, List.getElem_cons_succ, List.getElem_cons_zero]
        refine wp_if (by kernel_rfl) ?_
        refine wp_val (v := o.val) (w' := w2) (exec_loadV (t := 64) (p := ⟨w.heap.size, 0, none⟩) rfl (by kernel_rfl) (load_op O2)) ?_
        refine hK.out _ _ trivial (fun hS => ?_)
        clear hK
        simp only [Act.put, List.getElem_toArray, List.getElem_cons_succ, List.getElem_cons_zero, List.setIfInBounds_toArray, List.set_cons_zero, List.set_cons_succ]
        refine wpAnyH_ready (rs := [5]) (by kernel_rfl) (by simp) ?_
        refine AllReadyH.cons rfl (fun K hK => ?_) AllReadyH.nil
        simp only [List.getElem_toArray, List.getElem_cons_succ, List.getElem_cons_zero]
        refine wp_if (by kernel_rfl) ?_
        refine wp_enter (f := 35) (args := #[.int .i64 (k : Int)]) (by kernel_rfl) HD ?_
        rintro e w3 ⟨rfl, e3⟩
        rw [e3]
        clear e3 w3
        refine ⟨_, rfl, ?_⟩
        refine hK.out _ _ trivial (fun hS => ?_)
        clear hK
        simp only [Act.put, List.getElem_toArray, List.getElem_cons_succ, List.getElem_cons_zero, List.setIfInBounds_toArray, List.set_cons_zero, List.set_cons_succ]
        refine wpAnyH_ready (rs := [8]) (by kernel_rfl) (by simp) ?_
        refine AllReadyH.cons rfl (fun K hK => ?_) AllReadyH.nil
        simp only [List.getElem_toArray, List.getElem_cons_succ, List.getElem_cons_zero]
        refine wp_if (by kernel_rfl) ?_
        refine wp_enter (f := fidL.getD k 0) (args := #[.pointer (some ⟨tb, 0, none⟩), o.val]) (exec_fv k hk rfl (by kernel_rfl) (by kernel_rfl) (by kernel_rfl)) HC ?_
        rintro e w4 ⟨rfl, hb4, ht4⟩
        refine ⟨_, rfl, ?_⟩
        refine hK.out _ _ trivial (fun hS => ?_)
        clear hK
        simp only [Act.put, List.getElem_toArray, List.getElem_cons_succ, List.getElem_cons_zero, List.setIfInBounds_toArray, List.set_cons_zero, List.set_cons_succ]
        refine wpAnyH_take (i := 9) (v := .bool b) rfl (by kernel_rfl) (by kernel_rfl) (by kernel_rfl) (fun _ _ _ h => h) (Or.inl ⟨by kernel_rfl, fun u hu => by kernel_rfl⟩) hS ?_
        simp only [Act.put, List.getElem_toArray, List.getElem_cons_succ, List.getElem_cons_zero, List.setIfInBounds_toArray, List.set_cons_zero, List.set_cons_succ]
        refine wpAnyH_take (i := 10) (v := .bool b) rfl (by kernel_rfl) (by kernel_rfl) (by kernel_rfl) (fun _ _ _ h => h) (Or.inl ⟨by kernel_rfl, fun u hu => by kernel_rfl⟩) hS ?_
        simp only [Act.put, List.getElem_toArray, List.getElem_cons_succ, List.getElem_cons_zero, List.setIfInBounds_toArray, List.set_cons_zero, List.set_cons_succ]
        refine wpAnyH_done (by kernel_rfl) ?_ _
        go_wp2_with fail
        go_ret
        exact ⟨rfl, B2.trans hb4, ht4⟩
    · simp only [List.getElem_toArray, List.getElem_cons_succ, List.getElem_cons_zero]
      refine wp_if (by kernel_rfl) ?_
      refine wp_val (v := o.val) (w' := w2) (exec_loadV (t := 64) (p := ⟨w.heap.size, 0, none⟩) rfl (by kernel_rfl) (load_op O2)) ?_
      refine hK.out _ _ trivial (fun hS => ?_)
      clear hK
      simp only [Act.put, List.getElem_toArray, List.getElem_cons_succ, List.getElem_cons_zero, List.setIfInBounds_toArray, List.set_cons_zero, List.set_cons_succ]
      refine wpAnyH_ready (rs := [4]) (by kernel_rfl) (by simp) ?_
      refine AllReadyH.cons rfl (fun K hK => ?_) AllReadyH.nil
      simp only [List.getElem_toArray, List.getElem_cons_succ, List.getElem_cons_zero]
      refine wp_if (by kernel_rfl) ?_
      refine wp_val (v := .int .i64 (k : Int)) (w' := w2) (exec_loadV (t := 3) (p := ⟨w.heap.size, 0, none⟩) rfl (by kernel_rfl) (load_i64 (by rw [← ek]; exact O2.cell 0 rfl))) ?_
      refine hK.out _ _ trivial (fun hS => ?_)
      clear hK
      simp only [Act.put, List.getElem_toArray, List.getElem_cons_succ, List.getElem_cons_zero, List.setIfInBounds_toArray, List.set_cons_zero, List.set_cons_succ]
      refine wpAnyH_ready (rs := [5]) (by kernel_rfl) (by simp) ?_
      refine AllReadyH.cons rfl (fun K hK => ?_) AllReadyH.nil
      simp only [List.getElem_toArray, List.getElem_cons_succ, List.getElem_cons_zero]
      refine wp_if (by kernel_rfl) ?_
      refine wp_enter (f := 35) (args := #[.int .i64 (k : Int)]) (by kernel_rfl) HD ?_
      rintro e w3 ⟨rfl, e3⟩
      rw [e3]
      clear e3 w3
      refine ⟨_, rfl, ?_⟩
      refine hK.out _ _ trivial (fun hS => ?_)
      clear hK
      simp only [Act.put, List.getElem_toArray, List.getElem_cons_succ, List.getElem_cons_zero, List.setIfInBounds_toArray, List.set_cons_zero, List.set_cons_succ]
      refine wpAnyH_ready (rs := [8]) (by kernel_rfl) (by simp) ?_
      refine AllReadyH.cons rfl (fun K hK => ?_) AllReadyH.nil
      simp only [List.getElem_toArray, List.getElem_cons_succ, List.getElem_cons_zero]
      refine wp_if (by kernel_rfl) ?_
      refine wp_enter (f := fidL.getD k 0) (args := #[.pointer (some ⟨tb, 0, none⟩), o.val]) (exec_fv k hk rfl (by kernel_rfl) (by kernel_rfl) (by kernel_rfl)) HC ?_
      rintro e w4 ⟨rfl, hb4, ht4⟩
      refine ⟨_, rfl, ?_⟩
      refine hK.out _ _ trivial (fun hS => ?_)
      clear hK
      simp only [Act.put, List.getElem_toArray, List.getElem_cons_succ, List.getElem_cons_zero, List.setIfInBounds_toArray, List.set_cons_zero, List.set_cons_succ]
      refine wpAnyH_take (i := 9) (v := .bool b) rfl (by kernel_rfl) (by kernel_rfl) (by kernel_rfl) (fun _ _ _ h => h) (Or.inl ⟨by kernel_rfl, fun u hu => by kernel_rfl⟩) hS ?_
      simp only [Act.put, List.getElem_toArray, List.getElem_cons_succ, List.getElem_cons_zero, List.setIfInBounds_toArray, List.set_cons_zero, List.set_cons_succ]
      refine wpAnyH_take (i := 10) (v := .bool b) rfl (by kernel_rfl) (by kernel_rfl) (by kernel_rfl) (fun _ _ _ h => h) (Or.inl ⟨by kernel_rfl, fun u hu => by kernel_rfl⟩) hS ?_
      simp only [Act.put, List.getElem_toArray, List.getElem_cons_succ, List.getElem_cons_zero, List.setIfInBounds_toArray, List.set_cons_zero, List.set_cons_succ]
      refine wpAnyH_done (by kernel_rfl) ?_ _
      go_wp2_with fail
      go_ret
      exact ⟨rfl, B2.trans hb4, ht4⟩
end Go.Proofs.YtpbnldfekadalaaDoor
