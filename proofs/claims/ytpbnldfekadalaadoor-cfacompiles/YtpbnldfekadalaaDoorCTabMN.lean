/- The table's methods, each by itself. The table's methods, those that ask or grow. -/
import Derived.Test.YtpbnldfekadalaaDoorCTab
namespace Go.Proofs.YtpbnldfekadalaaDoor
open Go.ChangeShapes Go.WideShapes Go.ChangeAt Go.RowKit
set_option linter.unusedVariables false
set_option linter.unusedSimpArgs false
variable {X : Nat → Option Obj}


theorem zc_append (a b : List (Int × Int)) : zc (a ++ b) = zc a ++ zc b := by simp [zc]
theorem rule_split {x : Rw} (hx : Wf x) (r : Nat) (hr : r < 17) (q : Int × Int) : ∃ A M B, x.cells = A ++ (M ++ B) ∧ (x.set (r : Int) q).cells = A ++ ([.int .i64 q.1, .int .i64 q.2] ++ B) ∧ M.length = 2 ∧ A.length = 3 + r * 2 := by
  have hl : r < x.z.length := by rw [hx]; exact hr
  have e1 : x.z = x.z.take r ++ x.z[r] :: x.z.drop (r + 1) := by simp
  refine ⟨.int .i64 x.p :: .int .i64 x.r :: .int .i64 x.n :: zc (x.z.take r), [.int .i64 x.z[r].1, .int .i64 x.z[r].2], zc (x.z.drop (r + 1)), ?_, ?_, rfl, ?_⟩
  · show _ :: _ :: _ :: zc x.z = _
    conv => lhs; rw [e1]
    rw [zc_append]
    rfl
  · show _ :: _ :: _ :: zc (x.z.set (r : Int).toNat q) = _
    rw [Int.toNat_natCast, List.set_eq_take_append_cons_drop, if_pos hl, zc_append]
    rfl
  · have : x.z.length = 17 := hx
    simp [zc_len]; omega
theorem ix_rule (tb o : Nat) (r : Nat) (hr : r < 17) (W : World) : (Instr.indexAt 69 (.pointer (some ⟨tb, o, none⟩)) (.int .i64 (r : Int))).run Tryd.prog W = .ok (.pointer (some ⟨tb, o + r * 2, none⟩)) W := by
  have hs := sizeRule
  cases hq : Tryd.prog.info? 68 with
  | none => rw [hq] at hs; cases hs
  | some i =>
    have hi1 : i.size = 2 := by rw [hq] at hs; simpa using hs
    simp [Instr.indexAt, run_underlying Tryd.underlying69, asIntOf, sizeOf, typeInfo, hq, hi1, caddr_add, Instr.sureAddr, hr]
theorem load_rule {w : World} {b : Nat} {k n : Int} (h : Bk w b 68 #[.int .i64 k, .int .i64 n]) : (loadVar 68 ⟨b, 0, none⟩).run Tryd.prog w = .ok (.agg #[.int .i64 k, .int .i64 n]) w :=
  run_loadVar_row w b _ _ _ _ _ h.hp Tryd.underlying68 rfl (by rw [sizeRule]; rfl)
theorem load_op {w : World} {b : Nat} {o : Oq} (h : Bk w b 64 #[.int .i64 o.k, .int .i64 o.r, .int .i64 o.n]) : (loadVar 64 ⟨b, 0, none⟩).run Tryd.prog w = .ok o.val w :=
  run_loadVar_row w b _ _ _ _ _ h.hp Tryd.underlying64 rfl (by rw [sizeOp]; rfl)

set_option maxRecDepth 10000 in
/-- A rule is put. -/
theorem rule_any {base tb : Nat} {w : World} {bg : Bool} {t : Tb} {vr vk : Value} (h : TA X base w tb bg t vr vk) (r : Nat) (hr : r < 17) (k n : Int) :
    Calls Tryd.prog 47 #[.pointer (some ⟨tb, 0, none⟩), .int .i64 (r : Int), .agg #[.int .i64 k, .int .i64 n]] w fun e w' => e = .returned (.bool true) ∧ TEnd X base tb bg w w' (some ⟨t.L, t.now.set (r : Int) (k, n), t.first, t.kept, t.size⟩) ∧ ∀ k, k < w.heap.size → k ≠ tb → w'.heap[k]? = w.heap[k]? := by
  go_enter Tryd.func47, Tryd.ntmps47
  go_upto_region 1 with fail
  have HB : Below w.heap.size w (w.alloc (.cells #[.int .i64 k, .int .i64 n] 68)) := (Below.refl _ _).alloc (Nat.le_refl _) _
  have HT : TA X base (w.alloc (.cells #[.int .i64 k, .int .i64 n] 68)).drew tb bg t vr vk := h.bel HB.drew
  have HK : Bk (w.alloc (.cells #[.int .i64 k, .int .i64 n] 68)).drew w.heap.size 68 #[.int .i64 k, .int .i64 n] := (Bk.new w _ _).of rfl
  have hne : w.heap.size ≠ tb := by have := h.bk.lt; omega
  have HBd : Below base w (w.alloc (.cells #[.int .i64 k, .int .i64 n] 68)).drew := HB.drew.mono (Nat.le_trans h.lo (Nat.le_of_lt h.bk.lt))
  obtain ⟨A, M, B, e1, e2, e3, e4⟩ := rule_split h.wf.now r hr (k, n)
  refine wp_region_held_drew (S := fun u => Bk u w.heap.size 68 #[.int .i64 k, .int .i64 n]) (by kernel_rfl) HK (fun hS => ?_)
  refine wpAnyH_take (i := 0) (v := .pointer (some ⟨tb, 0, none⟩)) rfl (by kernel_rfl) (by kernel_rfl) (by kernel_rfl) (fun _ _ _ h => h) (Or.inl ⟨by kernel_rfl, fun u hu => by kernel_rfl⟩) hS ?_
  simp only [Act.put, List.getElem_toArray, List.getElem_cons_succ, List.getElem_cons_zero, List.setIfInBounds_toArray, List.set_cons_zero, List.set_cons_succ]
  refine wpAnyH_take (i := 1) (v := .int .i64 (r : Int)) rfl (by kernel_rfl) (by kernel_rfl) (by kernel_rfl) (fun _ _ _ h => h) (Or.inl ⟨by kernel_rfl, fun u hu => by kernel_rfl⟩) hS ?_
  simp only [Act.put, List.getElem_toArray, List.getElem_cons_succ, List.getElem_cons_zero, List.setIfInBounds_toArray, List.set_cons_zero, List.set_cons_succ]
  refine wpAnyH_take (i := 2) (v := .agg #[.int .i64 k, .int .i64 n]) rfl (by kernel_rfl) (by kernel_rfl) (by kernel_rfl) (fun _ _ _ h => h) (Or.inl ⟨by kernel_rfl, fun u hu => exec_loadV (t := 68) (p := ⟨w.heap.size, 0, none⟩) rfl (by kernel_rfl) (load_rule hu)⟩) hS ?_
  simp only [Act.put, List.getElem_toArray, List.getElem_cons_succ, List.getElem_cons_zero, List.setIfInBounds_toArray, List.set_cons_zero, List.set_cons_succ]
  refine wpAnyH_take (i := 3) (v := .pointer (some ⟨tb, 0, none⟩)) rfl (by kernel_rfl) (by kernel_rfl) (by kernel_rfl) (fun _ _ _ h => h) (Or.inl ⟨by kernel_rfl, fun u hu => by kernel_rfl⟩) hS ?_
  simp only [Act.put, List.getElem_toArray, List.getElem_cons_succ, List.getElem_cons_zero, List.setIfInBounds_toArray, List.set_cons_zero, List.set_cons_succ]
  refine wpAnyH_take (i := 4) (v := .pointer (some ⟨tb, 39, none⟩)) rfl (by kernel_rfl) (by kernel_rfl) (by kernel_rfl) (fun _ _ _ h => h) (Or.inl ⟨by kernel_rfl, fun u hu => by kernel_rfl⟩) hS ?_
  simp only [Act.put, List.getElem_toArray, List.getElem_cons_succ, List.getElem_cons_zero, List.setIfInBounds_toArray, List.set_cons_zero, List.set_cons_succ]
  refine wpAnyH_take (i := 5) (v := .pointer (some ⟨tb, 42, none⟩)) rfl (by kernel_rfl) (by kernel_rfl) (by kernel_rfl) (fun _ _ _ h => h) (Or.inl ⟨by kernel_rfl, fun u hu => by kernel_rfl⟩) hS ?_
  simp only [Act.put, List.getElem_toArray, List.getElem_cons_succ, List.getElem_cons_zero, List.setIfInBounds_toArray, List.set_cons_zero, List.set_cons_succ]
  refine wpAnyH_take (i := 6) (v := .pointer (some ⟨tb, 42 + r * 2, none⟩)) rfl (by kernel_rfl) (by kernel_rfl) (by kernel_rfl) (fun _ _ _ h => h) (Or.inl ⟨by kernel_rfl, fun u hu => exec_ix rfl (by kernel_rfl) (by kernel_rfl) (ix_rule tb 42 r hr u)⟩) hS ?_
  simp only [Act.put, List.getElem_toArray, List.getElem_cons_succ, List.getElem_cons_zero, List.setIfInBounds_toArray, List.set_cons_zero, List.set_cons_succ]
  refine wpAnyH_ready (rs := [7]) (by kernel_rfl) (by simp) ?_
  refine AllReadyH.cons rfl (fun K hK => ?_) AllReadyH.nil
  simp only [List.getElem_toArray, List.getElem_cons_succ, List.getElem_cons_zero]
  refine wp_if (by kernel_rfl) ?_
  have hp := put_now (bg := bg) (vr := vr) (vk := vk) HT.wf (t.now.set (r : Int) (k, n)) A M [.int .i64 k, .int .i64 n] B e1 e2 e3 (42 + r * 2) (by omega)
  refine wp_part (g := tb) (off := 42 + r * 2) (val := .agg #[.int .i64 k, .int .i64 n]) rfl (by kernel_rfl) (by kernel_rfl) HT.bk (by rw [sizeRule]; rfl) (by rw [HT.len]; show 42 + r * 2 + 2 ≤ 78; omega) (fun u hu => by simp [Value.cells] at hu; rcases hu with rfl | rfl <;> rfl) hp ?_
  refine hK.out _ _ (HK.setO hne _) (fun _ => ?_)
  clear hK
  refine wpAnyH_done (by kernel_rfl) ?_ _
  go_wp2_with fail
  go_ret
  refine ⟨rfl, ⟨HBd.trans (below_set _ tb _ h.lo), fun t' ht => ?_⟩, fun k hk hkt => (setRow_other _ _ _ _ hkt).trans (HB.drew.block k hk)⟩
  cases ht
  exact ⟨vr, vk, HT.put (t' := ⟨t.L, t.now.set (r : Int) (k, n), t.first, t.kept, t.size⟩) rfl rfl ⟨h.wf.L, wf_set h.wf.now _ _, h.wf.first, h.wf.kept⟩ rfl⟩

/-- Is the frame told? -/
theorem hasFrame_any {base tb : Nat} {w : World} {bg : Bool} {t : Tb} {vr vk : Value} (h : TA X base w tb bg t vr vk) :
    Calls Tryd.prog 29 #[.pointer (some ⟨tb, 0, none⟩)] w fun e w' => e = .returned (.bool (t.now.r != -1)) ∧ w' = w := by
  have c1 := h.r
  go_enter Tryd.func29, Tryd.ntmps29
  go_wp2
  go_ret
  exact ⟨rfl, rfl⟩

theorem nop_tb {base tb : Nat} {w : World} {bg : Bool} {t : Tb} {vr vk : Value} (h : TA X base w tb bg t vr vk) (o : Oq) :
    Calls Tryd.prog 36 #[.pointer (some ⟨tb, 0, none⟩), o.val] w fun e w' => e = .returned (.bool true) ∧ TEnd X base tb bg w w' (some t) := by
  have HB : Below w.heap.size w (w.alloc (.cells #[.int .i64 o.k, .int .i64 o.r, .int .i64 o.n] 64)) := (Below.refl _ _).alloc (Nat.le_refl _) _
  have HT := h.bel HB
  have HTd := h.bel HB.drew
  have HO : Bk (w.alloc (.cells #[.int .i64 o.k, .int .i64 o.r, .int .i64 o.n] 64)).drew w.heap.size 64 #[.int .i64 o.k, .int .i64 o.r, .int .i64 o.n] := (Bk.new w _ _).of rfl
  have hne : w.heap.size ≠ tb := by have := h.bk.lt; omega
  have hbs : base ≤ w.heap.size := Nat.le_trans h.lo (Nat.le_of_lt h.bk.lt)
  have HBb := HB.mono hbs
  have HBd := HB.drew.mono hbs
  go_enter Tryd.func36, Tryd.ntmps36
  go_wp2
  go_ret
  refine ⟨rfl, HBb, fun t' ht => ?_⟩
  cases ht
  exact ⟨vr, vk, HT⟩

theorem cells_rn (x : Rw) (r : Int) : x.cells = [.int .i64 x.p] ++ ([.int .i64 x.r] ++ (.int .i64 x.n :: zc x.z)) ∧ (⟨x.p, r, x.n, x.z⟩ : Rw).cells = [.int .i64 x.p] ++ ([.int .i64 r] ++ (.int .i64 x.n :: zc x.z)) := ⟨rfl, rfl⟩
theorem one_cells (k : Int) : ∀ u ∈ (Value.int .i64 k).cells.toList, u.oneCell' = true := fun u hu => by simp [Value.cells] at hu; subst hu; rfl
section
variable {bg : Bool} {t : Tb} {vr vk : Value}
theorem put_p (h : Tw t) (p : Int) : putAt (tC bg t vr vk).toArray 39 [.int .i64 p] = (tC bg ⟨t.L, ⟨p, t.now.r, t.now.n, t.now.z⟩, t.first, t.kept, t.size⟩ vr vk).toArray :=
  put_now h ⟨p, t.now.r, t.now.n, t.now.z⟩ [] [.int .i64 t.now.p] [.int .i64 p] (.int .i64 t.now.r :: .int .i64 t.now.n :: zc t.now.z) rfl rfl rfl 39 rfl
theorem put_rr (h : Tw t) (r : Int) : putAt (tC bg t vr vk).toArray 40 [.int .i64 r] = (tC bg ⟨t.L, ⟨t.now.p, r, t.now.n, t.now.z⟩, t.first, t.kept, t.size⟩ vr vk).toArray :=
  put_now h ⟨t.now.p, r, t.now.n, t.now.z⟩ [.int .i64 t.now.p] [.int .i64 t.now.r] [.int .i64 r] (.int .i64 t.now.n :: zc t.now.z) rfl rfl rfl 40 rfl
theorem put_nn (h : Tw t) (n : Int) : putAt (tC bg t vr vk).toArray 41 [.int .i64 n] = (tC bg ⟨t.L, ⟨t.now.p, t.now.r, n, t.now.z⟩, t.first, t.kept, t.size⟩ vr vk).toArray :=
  put_now h ⟨t.now.p, t.now.r, n, t.now.z⟩ [.int .i64 t.now.p, .int .i64 t.now.r] [.int .i64 t.now.n] [.int .i64 n] (zc t.now.z) rfl rfl rfl 41 rfl
end
variable {base : Nat} {w : World} {tb : Nat} {bg : Bool} {t : Tb} {vr vk : Value} in
theorem TA.setP (h : TA X base w tb bg t vr vk) (p : Int) : TA X base (w.setRow tb (putAt (tC bg t vr vk).toArray 39 [.int .i64 p])) tb bg ⟨t.L, ⟨p, t.now.r, t.now.n, t.now.z⟩, t.first, t.kept, t.size⟩ vr vk :=
  h.put (t' := ⟨t.L, ⟨p, t.now.r, t.now.n, t.now.z⟩, t.first, t.kept, t.size⟩) rfl rfl ⟨h.wf.L, h.wf.now, h.wf.first, h.wf.kept⟩ (put_p h.wf p)
variable {base : Nat} {w : World} {tb : Nat} {bg : Bool} {t : Tb} {vr vk : Value} in
theorem TA.setRr (h : TA X base w tb bg t vr vk) (r : Int) : TA X base (w.setRow tb (putAt (tC bg t vr vk).toArray 40 [.int .i64 r])) tb bg ⟨t.L, ⟨t.now.p, r, t.now.n, t.now.z⟩, t.first, t.kept, t.size⟩ vr vk :=
  h.put (t' := ⟨t.L, ⟨t.now.p, r, t.now.n, t.now.z⟩, t.first, t.kept, t.size⟩) rfl rfl ⟨h.wf.L, h.wf.now, h.wf.first, h.wf.kept⟩ (put_rr h.wf r)
variable {base : Nat} {w : World} {tb : Nat} {bg : Bool} {t : Tb} {vr vk : Value} in
theorem TA.setN (h : TA X base w tb bg t vr vk) (n : Int) : TA X base (w.setRow tb (putAt (tC bg t vr vk).toArray 41 [.int .i64 n])) tb bg ⟨t.L, ⟨t.now.p, t.now.r, n, t.now.z⟩, t.first, t.kept, t.size⟩ vr vk :=
  h.put (t' := ⟨t.L, ⟨t.now.p, t.now.r, n, t.now.z⟩, t.first, t.kept, t.size⟩) rfl rfl ⟨h.wf.L, h.wf.now, h.wf.first, h.wf.kept⟩ (put_nn h.wf n)

set_option maxRecDepth 10000 in
theorem defCfa_tb {base tb : Nat} {w : World} {bg : Bool} {t : Tb} {vr vk : Value} (h : TA X base w tb bg t vr vk) (o : Oq) :
    Calls Tryd.prog 38 #[.pointer (some ⟨tb, 0, none⟩), o.val] w fun e w' => e = .returned (.bool true) ∧ TEnd X base tb bg w w' (some ⟨t.L, ⟨t.now.p, o.r, o.n, t.now.z⟩, t.first, t.kept, t.size⟩) := by
  have HB : Below w.heap.size w (w.alloc (.cells #[.int .i64 o.k, .int .i64 o.r, .int .i64 o.n] 64)) := (Below.refl _ _).alloc (Nat.le_refl _) _
  have HT := h.bel HB
  have HTd := h.bel HB.drew
  have HO : Bk (w.alloc (.cells #[.int .i64 o.k, .int .i64 o.r, .int .i64 o.n] 64)).drew w.heap.size 64 #[.int .i64 o.k, .int .i64 o.r, .int .i64 o.n] := (Bk.new w _ _).of rfl
  have hne : w.heap.size ≠ tb := by have := h.bk.lt; omega
  have hbs : base ≤ w.heap.size := Nat.le_trans h.lo (Nat.le_of_lt h.bk.lt)
  have HBb := HB.mono hbs
  have HBd := HB.drew.mono hbs
  go_enter Tryd.func38, Tryd.ntmps38
  go_upto_region 1 with fail
  refine wp_region_held_drew (S := fun u => Bk u w.heap.size 64 #[.int .i64 o.k, .int .i64 o.r, .int .i64 o.n]) (by kernel_rfl) HO (fun hS => ?_)
  refine wpAnyH_take (i := 0) (v := .pointer (some ⟨tb, 0, none⟩)) rfl (by kernel_rfl) (by kernel_rfl) (by kernel_rfl) (fun _ _ _ h => h) (Or.inl ⟨by kernel_rfl, fun u hu => by kernel_rfl⟩) hS ?_
  simp only [Act.put, List.getElem_toArray, List.getElem_cons_succ, List.getElem_cons_zero, List.setIfInBounds_toArray, List.set_cons_zero, List.set_cons_succ]
  refine wpAnyH_take (i := 1) (v := .pointer (some ⟨tb, 0, none⟩)) rfl (by kernel_rfl) (by kernel_rfl) (by kernel_rfl) (fun _ _ _ h => h) (Or.inl ⟨by kernel_rfl, fun u hu => by kernel_rfl⟩) hS ?_
  simp only [Act.put, List.getElem_toArray, List.getElem_cons_succ, List.getElem_cons_zero, List.setIfInBounds_toArray, List.set_cons_zero, List.set_cons_succ]
  refine wpAnyH_take (i := 2) (v := .pointer (some ⟨w.heap.size, 1, none⟩)) rfl (by kernel_rfl) (by kernel_rfl) (by kernel_rfl) (fun _ _ _ h => h) (Or.inl ⟨by kernel_rfl, fun u hu => by kernel_rfl⟩) hS ?_
  simp only [Act.put, List.getElem_toArray, List.getElem_cons_succ, List.getElem_cons_zero, List.setIfInBounds_toArray, List.set_cons_zero, List.set_cons_succ]
  refine wpAnyH_take (i := 3) (v := .int .i64 o.r) rfl (by kernel_rfl) (by kernel_rfl) (by kernel_rfl) (fun _ _ _ h => h) (Or.inl ⟨by kernel_rfl, fun u hu => exec_loadV (t := 3) (p := ⟨w.heap.size, 1, none⟩) rfl (by kernel_rfl) (load_i64 (hu.cell 1 rfl))⟩) hS ?_
  simp only [Act.put, List.getElem_toArray, List.getElem_cons_succ, List.getElem_cons_zero, List.setIfInBounds_toArray, List.set_cons_zero, List.set_cons_succ]
  refine wpAnyH_take (i := 4) (v := .pointer (some ⟨w.heap.size, 2, none⟩)) rfl (by kernel_rfl) (by kernel_rfl) (by kernel_rfl) (fun _ _ _ h => h) (Or.inl ⟨by kernel_rfl, fun u hu => by kernel_rfl⟩) hS ?_
  simp only [Act.put, List.getElem_toArray, List.getElem_cons_succ, List.getElem_cons_zero, List.setIfInBounds_toArray, List.set_cons_zero, List.set_cons_succ]
  refine wpAnyH_take (i := 5) (v := .int .i64 o.n) rfl (by kernel_rfl) (by kernel_rfl) (by kernel_rfl) (fun _ _ _ h => h) (Or.inl ⟨by kernel_rfl, fun u hu => exec_loadV (t := 3) (p := ⟨w.heap.size, 2, none⟩) rfl (by kernel_rfl) (load_i64 (hu.cell 2 rfl))⟩) hS ?_
  simp only [Act.put, List.getElem_toArray, List.getElem_cons_succ, List.getElem_cons_zero, List.setIfInBounds_toArray, List.set_cons_zero, List.set_cons_succ]
  refine wpAnyH_take (i := 6) (v := .pointer (some ⟨tb, 0, none⟩)) rfl (by kernel_rfl) (by kernel_rfl) (by kernel_rfl) (fun _ _ _ h => h) (Or.inl ⟨by kernel_rfl, fun u hu => by kernel_rfl⟩) hS ?_
  simp only [Act.put, List.getElem_toArray, List.getElem_cons_succ, List.getElem_cons_zero, List.setIfInBounds_toArray, List.set_cons_zero, List.set_cons_succ]
  refine wpAnyH_take (i := 7) (v := .pointer (some ⟨tb, 39, none⟩)) rfl (by kernel_rfl) (by kernel_rfl) (by kernel_rfl) (fun _ _ _ h => h) (Or.inl ⟨by kernel_rfl, fun u hu => by kernel_rfl⟩) hS ?_
  simp only [Act.put, List.getElem_toArray, List.getElem_cons_succ, List.getElem_cons_zero, List.setIfInBounds_toArray, List.set_cons_zero, List.set_cons_succ]
  refine wpAnyH_take (i := 8) (v := .pointer (some ⟨tb, 40, none⟩)) rfl (by kernel_rfl) (by kernel_rfl) (by kernel_rfl) (fun _ _ _ h => h) (Or.inl ⟨by kernel_rfl, fun u hu => by kernel_rfl⟩) hS ?_
  simp only [Act.put, List.getElem_toArray, List.getElem_cons_succ, List.getElem_cons_zero, List.setIfInBounds_toArray, List.set_cons_zero, List.set_cons_succ]
  refine wpAnyH_ready (rs := [9]) (by kernel_rfl) (by simp) ?_
  refine AllReadyH.cons rfl (fun K hK => ?_) AllReadyH.nil
  simp only [List.getElem_toArray, List.getElem_cons_succ, List.getElem_cons_zero]
  refine wp_if (by kernel_rfl) ?_
  refine wp_part (g := tb) (off := 40) (val := .int .i64 o.r) rfl (by kernel_rfl) (by kernel_rfl) HTd.bk (by rw [sizeInt]; rfl) (by rw [HTd.len]; show 40 + 1 ≤ 78; omega) (one_cells _) rfl ?_
  have H1 := HTd.setRr o.r
  have B1 := HBd.trans (below_set _ tb (putAt (tC bg t vr vk).toArray 40 [.int .i64 o.r]) h.lo)
  have O1 := HO.setO hne (putAt (tC bg t vr vk).toArray 40 [.int .i64 o.r])
  refine hK.out _ _ O1 (fun hS => ?_)
  clear hK
  simp only [Act.put, List.getElem_toArray, List.getElem_cons_succ, List.getElem_cons_zero, List.setIfInBounds_toArray, List.set_cons_zero, List.set_cons_succ]
  refine wpAnyH_take (i := 10) (v := .pointer (some ⟨tb, 0, none⟩)) rfl (by kernel_rfl) (by kernel_rfl) (by kernel_rfl) (fun _ _ _ h => h) (Or.inl ⟨by kernel_rfl, fun u hu => by kernel_rfl⟩) hS ?_
  simp only [Act.put, List.getElem_toArray, List.getElem_cons_succ, List.getElem_cons_zero, List.setIfInBounds_toArray, List.set_cons_zero, List.set_cons_succ]
  refine wpAnyH_take (i := 11) (v := .pointer (some ⟨tb, 39, none⟩)) rfl (by kernel_rfl) (by kernel_rfl) (by kernel_rfl) (fun _ _ _ h => h) (Or.inl ⟨by kernel_rfl, fun u hu => by kernel_rfl⟩) hS ?_
  simp only [Act.put, List.getElem_toArray, List.getElem_cons_succ, List.getElem_cons_zero, List.setIfInBounds_toArray, List.set_cons_zero, List.set_cons_succ]
  refine wpAnyH_take (i := 12) (v := .pointer (some ⟨tb, 41, none⟩)) rfl (by kernel_rfl) (by kernel_rfl) (by kernel_rfl) (fun _ _ _ h => h) (Or.inl ⟨by kernel_rfl, fun u hu => by kernel_rfl⟩) hS ?_
  simp only [Act.put, List.getElem_toArray, List.getElem_cons_succ, List.getElem_cons_zero, List.setIfInBounds_toArray, List.set_cons_zero, List.set_cons_succ]
  refine wpAnyH_ready (rs := [13]) (by kernel_rfl) (by simp) ?_
  refine AllReadyH.cons rfl (fun K hK => ?_) AllReadyH.nil
  simp only [List.getElem_toArray, List.getElem_cons_succ, List.getElem_cons_zero]
  refine wp_if (by kernel_rfl) ?_
  refine wp_part (g := tb) (off := 41) (val := .int .i64 o.n) rfl (by kernel_rfl) (by kernel_rfl) H1.bk (by rw [sizeInt]; rfl) (by rw [H1.len]; show 41 + 1 ≤ 78; omega) (one_cells _) rfl ?_
  have H2 := H1.setN o.n
  have B2 := B1.trans (below_set _ tb (putAt (tC bg ⟨t.L, ⟨t.now.p, o.r, t.now.n, t.now.z⟩, t.first, t.kept, t.size⟩ vr vk).toArray 41 [.int .i64 o.n]) h.lo)
  refine hK.out _ _ (O1.setO hne _) (fun _ => ?_)
  clear hK
  simp only [Act.put, List.getElem_toArray, List.getElem_cons_succ, List.getElem_cons_zero, List.setIfInBounds_toArray, List.set_cons_zero, List.set_cons_succ]
  refine wpAnyH_done (by kernel_rfl) ?_ _
  go_wp2_with fail
  go_ret
  refine ⟨rfl, B2, fun t' ht => ?_⟩
  cases ht
  exact ⟨vr, vk, H2⟩


theorem wp_val {o : Oper} {a : Act} {w w' : World} {K : Act → World → Prop} {Q : Exit → Act → World → Prop} {v : Value} (hx : (execOp a.eval o).run Tryd.prog w = .ok (.value v) w') (h : K (a.put o.dst v) w') : o.wp Tryd.prog a w K Q := by
  unfold Oper.wp
  rw [hx, Oper.upon_value]
  exact h
theorem wp_enter {o : Oper} {a : Act} {w : World} {K : Act → World → Prop} {Q : Exit → Act → World → Prop} {f : FuncId} {args : Array Value} {R : Ending → World → Prop}
    (hx : (execOp a.eval o).run Tryd.prog w = .ok (.enter f args) w) (hc : Calls Tryd.prog f args w R) (h : ∀ e w', R e w' → ∃ v, e = .returned v ∧ K (a.put o.dst v) w') : o.wp Tryd.prog a w K Q := by
  unfold Oper.wp
  rw [hx, Oper.upon_enter]
  refine hc.mono ?_
  intro e w' hr
  obtain ⟨v, rfl, hk⟩ := h e w' hr
  exact hk

set_option maxRecDepth 10000 in
theorem defOffset_tb {base tb : Nat} {w : World} {bg : Bool} {t : Tb} {vr vk : Value} (h : TA X base w tb bg t vr vk) (o : Oq) :
    Calls Tryd.prog 39 #[.pointer (some ⟨tb, 0, none⟩), o.val] w fun e w' => e = .returned (.bool (t.now.r != -1)) ∧ TEnd X base tb bg w w' (if t.now.r != -1 then some ⟨t.L, ⟨t.now.p, t.now.r, o.n, t.now.z⟩, t.first, t.kept, t.size⟩ else none) := by
  have HB : Below w.heap.size w (w.alloc (.cells #[.int .i64 o.k, .int .i64 o.r, .int .i64 o.n] 64)) := (Below.refl _ _).alloc (Nat.le_refl _) _
  have HT := h.bel HB
  have HTd := h.bel HB.drew
  have HO : Bk (w.alloc (.cells #[.int .i64 o.k, .int .i64 o.r, .int .i64 o.n] 64)).drew w.heap.size 64 #[.int .i64 o.k, .int .i64 o.r, .int .i64 o.n] := (Bk.new w _ _).of rfl
  have hne : w.heap.size ≠ tb := by have := h.bk.lt; omega
  have hbs : base ≤ w.heap.size := Nat.le_trans h.lo (Nat.le_of_lt h.bk.lt)
  have HBb := HB.mono hbs
  have HBd := HB.drew.mono hbs
  have H1 := HT.setN o.n
  have B1 := HBb.trans (below_set _ tb (putAt (tC bg t vr vk).toArray 41 [.int .i64 o.n]) h.lo)
  have HF : Hid _ := ⟨hasFrame_any H1⟩
  go_enter Tryd.func39, Tryd.ntmps39
  go_upto_region 2 with (refine wpList_part (g := tb) (off := 41) (val := .int .i64 o.n) rfl rfl (by rfl) (by rfl) HT.bk (by rw [sizeInt]; rfl) (by rw [HT.len]; show 41 + 1 ≤ 78; omega) (one_cells _) rfl ?_)
  go_wp2_with (go_at_call 29; (with_reducible refine HF.out.mono ?_); rintro e wn ⟨he, hwn⟩; subst he; subst wn)
  all_goals go_ret
  all_goals refine ⟨rfl, B1, fun t' ht => ?_⟩
  all_goals first
    | (cases ht; exact ⟨vr, vk, H1⟩)
    | cases ht

set_option maxRecDepth 10000 in
theorem defRegister_tb {base tb : Nat} {w : World} {bg : Bool} {t : Tb} {vr vk : Value} (h : TA X base w tb bg t vr vk) (o : Oq) :
    Calls Tryd.prog 40 #[.pointer (some ⟨tb, 0, none⟩), o.val] w fun e w' => e = .returned (.bool (t.now.r != -1)) ∧ TEnd X base tb bg w w' (if t.now.r != -1 then some ⟨t.L, ⟨t.now.p, o.r, t.now.n, t.now.z⟩, t.first, t.kept, t.size⟩ else none) := by
  have HB : Below w.heap.size w (w.alloc (.cells #[.int .i64 o.k, .int .i64 o.r, .int .i64 o.n] 64)) := (Below.refl _ _).alloc (Nat.le_refl _) _
  have HT := h.bel HB
  have HTd := h.bel HB.drew
  have HO : Bk (w.alloc (.cells #[.int .i64 o.k, .int .i64 o.r, .int .i64 o.n] 64)).drew w.heap.size 64 #[.int .i64 o.k, .int .i64 o.r, .int .i64 o.n] := (Bk.new w _ _).of rfl
  have hne : w.heap.size ≠ tb := by have := h.bk.lt; omega
  have hbs : base ≤ w.heap.size := Nat.le_trans h.lo (Nat.le_of_lt h.bk.lt)
  have HBb := HB.mono hbs
  have HBd := HB.drew.mono hbs
  have H1 := HT.setRr o.r
  have B1 := HBb.trans (below_set _ tb (putAt (tC bg t vr vk).toArray 40 [.int .i64 o.r]) h.lo)
  have HF : Hid _ := ⟨hasFrame_any HT⟩
  cases hr : (t.now.r != -1) with
  | false =>
    rw [hr] at HF
    go_enter Tryd.func40, Tryd.ntmps40
    go_wp2_with (go_at_call 29; (with_reducible refine HF.out.mono ?_); rintro e wn ⟨he, hwn⟩; subst he; subst wn)
    go_ret
    exact ⟨rfl, HBb, fun t' ht => by cases ht⟩
  | true =>
    rw [hr] at HF
    go_enter Tryd.func40, Tryd.ntmps40
    go_upto_region 4 with (first
      | (go_at_call 29; (with_reducible refine HF.out.mono ?_); rintro e wn ⟨he, hwn⟩; subst he; subst wn)
      | (refine wpList_part (g := tb) (off := 40) (val := .int .i64 o.r) rfl rfl (by rfl) (by rfl) HT.bk (by rw [sizeInt]; rfl) (by rw [HT.len]; show 40 + 1 ≤ 78; omega) (one_cells _) rfl ?_))
    go_wp2
    go_ret
    refine ⟨rfl, B1, fun t' ht => ?_⟩
    cases ht
    exact ⟨vr, vk, H1⟩

theorem offset_tb {base tb : Nat} {w : World} {bg : Bool} {t : Tb} {vr vk : Value} (h : TA X base w tb bg t vr vk) (o : Oq) (hr0 : 0 ≤ o.r) (hr1 : o.r ≤ 16) :
    Calls Tryd.prog 41 #[.pointer (some ⟨tb, 0, none⟩), o.val] w fun e w' => e = .returned (.bool true) ∧ TEnd X base tb bg w w' (some ⟨t.L, t.now.set o.r (2, o.n), t.first, t.kept, t.size⟩) := by
  have HB : Below w.heap.size w (w.alloc (.cells #[.int .i64 o.k, .int .i64 o.r, .int .i64 o.n] 64)) := (Below.refl _ _).alloc (Nat.le_refl _) _
  have HT := h.bel HB
  have HTd := h.bel HB.drew
  have HO : Bk (w.alloc (.cells #[.int .i64 o.k, .int .i64 o.r, .int .i64 o.n] 64)).drew w.heap.size 64 #[.int .i64 o.k, .int .i64 o.r, .int .i64 o.n] := (Bk.new w _ _).of rfl
  have hne : w.heap.size ≠ tb := by have := h.bk.lt; omega
  have hbs : base ≤ w.heap.size := Nat.le_trans h.lo (Nat.le_of_lt h.bk.lt)
  have HBb := HB.mono hbs
  have HBd := HB.drew.mono hbs
  obtain ⟨ok, orr, on⟩ := o
  dsimp only at *
  obtain ⟨r, rfl⟩ : ∃ r : Nat, orr = (r : Int) := ⟨orr.toNat, by omega⟩
  have HR : Hid _ := ⟨rule_any HT r (by omega) 2 on⟩
  go_enter Tryd.func41, Tryd.ntmps41
  go_wp2_with (go_at_call 47; (with_reducible refine HR.out.mono ?_); rintro e wn ⟨he, ⟨hb, hx⟩, _⟩; subst he; have H1 : Hid _ := ⟨hx⟩; have H2 : Hid _ := ⟨hb⟩; clear hx hb)
  go_ret
  exact ⟨rfl, HBb.trans H2.out, H1.out⟩

theorem undefined_tb {base tb : Nat} {w : World} {bg : Bool} {t : Tb} {vr vk : Value} (h : TA X base w tb bg t vr vk) (o : Oq) (hr0 : 0 ≤ o.r) (hr1 : o.r ≤ 16) :
    Calls Tryd.prog 43 #[.pointer (some ⟨tb, 0, none⟩), o.val] w fun e w' => e = .returned (.bool true) ∧ TEnd X base tb bg w w' (some ⟨t.L, t.now.set o.r (1, 0), t.first, t.kept, t.size⟩) := by
  have HB : Below w.heap.size w (w.alloc (.cells #[.int .i64 o.k, .int .i64 o.r, .int .i64 o.n] 64)) := (Below.refl _ _).alloc (Nat.le_refl _) _
  have HT := h.bel HB
  have HTd := h.bel HB.drew
  have HO : Bk (w.alloc (.cells #[.int .i64 o.k, .int .i64 o.r, .int .i64 o.n] 64)).drew w.heap.size 64 #[.int .i64 o.k, .int .i64 o.r, .int .i64 o.n] := (Bk.new w _ _).of rfl
  have hne : w.heap.size ≠ tb := by have := h.bk.lt; omega
  have hbs : base ≤ w.heap.size := Nat.le_trans h.lo (Nat.le_of_lt h.bk.lt)
  have HBb := HB.mono hbs
  have HBd := HB.drew.mono hbs
  obtain ⟨ok, orr, on⟩ := o
  dsimp only at *
  obtain ⟨r, rfl⟩ : ∃ r : Nat, orr = (r : Int) := ⟨orr.toNat, by omega⟩
  have HR : Hid _ := ⟨rule_any HT r (by omega) 1 0⟩
  go_enter Tryd.func43, Tryd.ntmps43
  go_wp2_with (go_at_call 47; (with_reducible refine HR.out.mono ?_); rintro e wn ⟨he, ⟨hb, hx⟩, _⟩; subst he; have H1 : Hid _ := ⟨hx⟩; have H2 : Hid _ := ⟨hb⟩; clear hx hb)
  go_ret
  exact ⟨rfl, HBb.trans H2.out, H1.out⟩

theorem sameValue_tb {base tb : Nat} {w : World} {bg : Bool} {t : Tb} {vr vk : Value} (h : TA X base w tb bg t vr vk) (o : Oq) (hr0 : 0 ≤ o.r) (hr1 : o.r ≤ 16) :
    Calls Tryd.prog 44 #[.pointer (some ⟨tb, 0, none⟩), o.val] w fun e w' => e = .returned (.bool true) ∧ TEnd X base tb bg w w' (some ⟨t.L, t.now.set o.r (0, 0), t.first, t.kept, t.size⟩) := by
  have HB : Below w.heap.size w (w.alloc (.cells #[.int .i64 o.k, .int .i64 o.r, .int .i64 o.n] 64)) := (Below.refl _ _).alloc (Nat.le_refl _) _
  have HT := h.bel HB
  have HTd := h.bel HB.drew
  have HO : Bk (w.alloc (.cells #[.int .i64 o.k, .int .i64 o.r, .int .i64 o.n] 64)).drew w.heap.size 64 #[.int .i64 o.k, .int .i64 o.r, .int .i64 o.n] := (Bk.new w _ _).of rfl
  have hne : w.heap.size ≠ tb := by have := h.bk.lt; omega
  have hbs : base ≤ w.heap.size := Nat.le_trans h.lo (Nat.le_of_lt h.bk.lt)
  have HBb := HB.mono hbs
  have HBd := HB.drew.mono hbs
  obtain ⟨ok, orr, on⟩ := o
  dsimp only at *
  obtain ⟨r, rfl⟩ : ∃ r : Nat, orr = (r : Int) := ⟨orr.toNat, by omega⟩
  have HR : Hid _ := ⟨rule_any HT r (by omega) 0 0⟩
  go_enter Tryd.func44, Tryd.ntmps44
  go_wp2_with (go_at_call 47; (with_reducible refine HR.out.mono ?_); rintro e wn ⟨he, ⟨hb, hx⟩, _⟩; subst he; have H1 : Hid _ := ⟨hx⟩; have H2 : Hid _ := ⟨hb⟩; clear hx hb)
  go_ret
  exact ⟨rfl, HBb.trans H2.out, H1.out⟩

theorem load_rmid {w : World} {b o : Nat} {k n : Int} (h : w.rangeAt b o [.int .i64 k, .int .i64 n]) : (loadVar 68 ⟨b, o, none⟩).run Tryd.prog w = .ok (.agg #[.int .i64 k, .int .i64 n]) w :=
  run_loadVar_mid w b o _ _ _ h Tryd.underlying68 rfl (by rw [sizeRule]; rfl)
theorem TA.rule {base : Nat} {w : World} {tb : Nat} {bg : Bool} {t : Tb} {vr vk : Value} (h : TA X base w tb bg t vr vk) (r : Nat) (hr : r < 17) : w.rangeAt tb (5 + r * 2) [.int .i64 (t.first.z.getD r (0, 0)).1, .int .i64 (t.first.z.getD r (0, 0)).2] := by
  have hz : t.first.z.length = 17 := h.wf.first
  have ha := zc_at t.first.z r (by omega)
  have hc : ∀ j, t.first.cells[3 + j]? = (zc t.first.z)[j]? := fun j => by show (_ :: _ :: _ :: zc t.first.z)[3 + j]? = _; rw [show 3 + j = j + 1 + 1 + 1 by omega]; simp
  intro j v hv
  have hj : j = 0 ∨ j = 1 := by have := (List.getElem?_eq_some_iff.1 hv).1; simp at this; omega
  rcases hj with rfl | rfl
  · have := h.rfirst (3 + r * 2) v ((hc _).trans (ha.1.trans hv))
    rwa [show 2 + (3 + r * 2) = 5 + r * 2 + 0 by omega] at this
  · have := h.rfirst (3 + (r * 2 + 1)) v ((hc _).trans (ha.2.trans hv))
    rwa [show 2 + (3 + (r * 2 + 1)) = 5 + r * 2 + 1 by omega] at this

set_option maxRecDepth 10000 in
theorem restore_tb {base tb : Nat} {w : World} {bg : Bool} {t : Tb} {vr vk : Value} (h : TA X base w tb bg t vr vk) (o : Oq) (hr0 : 0 ≤ o.r) (hr1 : o.r ≤ 16) :
    Calls Tryd.prog 42 #[.pointer (some ⟨tb, 0, none⟩), o.val] w fun e w' => e = .returned (.bool bg) ∧ TEnd X base tb bg w w' (if bg = true then some ⟨t.L, t.now.set o.r (t.first.z.getD o.r.toNat (0, 0)), t.first, t.kept, t.size⟩ else none) := by
  have HB : Below w.heap.size w (w.alloc (.cells #[.int .i64 o.k, .int .i64 o.r, .int .i64 o.n] 64)) := (Below.refl _ _).alloc (Nat.le_refl _) _
  have HT := h.bel HB
  have HTd := h.bel HB.drew
  have HO : Bk (w.alloc (.cells #[.int .i64 o.k, .int .i64 o.r, .int .i64 o.n] 64)).drew w.heap.size 64 #[.int .i64 o.k, .int .i64 o.r, .int .i64 o.n] := (Bk.new w _ _).of rfl
  have hne : w.heap.size ≠ tb := by have := h.bk.lt; omega
  have hbs : base ≤ w.heap.size := Nat.le_trans h.lo (Nat.le_of_lt h.bk.lt)
  have HBb := HB.mono hbs
  have HBd := HB.drew.mono hbs
  obtain ⟨ok, orr, on⟩ := o
  dsimp only at *
  obtain ⟨r, rfl⟩ : ∃ r : Nat, orr = (r : Int) := ⟨orr.toNat, by omega⟩
  have hr : r < 17 := by omega
  rw [Int.toNat_natCast]
  cases bg with
  | false =>
    go_enter Tryd.func42, Tryd.ntmps42
    go_upto_region 1 with fail
    refine wp_region_held_drew (S := fun u => u.cell? ⟨tb, 1, none⟩ = some (.bool false)) (by kernel_rfl) HTd.begun (fun hS => ?_)
    refine wpAnyH_take (i := 0) (v := .pointer (some ⟨tb, 0, none⟩)) rfl (by kernel_rfl) (by kernel_rfl) (by kernel_rfl) (fun _ _ _ h => h) (Or.inl ⟨by kernel_rfl, fun u hu => by kernel_rfl⟩) hS ?_
    simp only [Act.put, List.getElem_toArray, List.getElem_cons_succ, List.getElem_cons_zero, List.setIfInBounds_toArray, List.set_cons_zero, List.set_cons_succ]
    refine wpAnyH_take (i := 1) (v := .pointer (some ⟨tb, 0, none⟩)) rfl (by kernel_rfl) (by kernel_rfl) (by kernel_rfl) (fun _ _ _ h => h) (Or.inl ⟨by kernel_rfl, fun u hu => by kernel_rfl⟩) hS ?_
    simp only [Act.put, List.getElem_toArray, List.getElem_cons_succ, List.getElem_cons_zero, List.setIfInBounds_toArray, List.set_cons_zero, List.set_cons_succ]
    refine wpAnyH_take (i := 2) (v := .pointer (some ⟨tb, 1, none⟩)) rfl (by kernel_rfl) (by kernel_rfl) (by kernel_rfl) (fun _ _ _ h => h) (Or.inl ⟨by kernel_rfl, fun u hu => by kernel_rfl⟩) hS ?_
    simp only [Act.put, List.getElem_toArray, List.getElem_cons_succ, List.getElem_cons_zero, List.setIfInBounds_toArray, List.set_cons_zero, List.set_cons_succ]
    refine wpAnyH_take (i := 3) (v := .bool false) rfl (by kernel_rfl) (by kernel_rfl) (by kernel_rfl) (fun _ _ _ h => h) (Or.inl ⟨by kernel_rfl, fun u hu => exec_loadV (t := 4) (p := ⟨tb, 1, none⟩) rfl (by kernel_rfl) (load_bool hu)⟩) hS ?_
    simp only [Act.put, List.getElem_toArray, List.getElem_cons_succ, List.getElem_cons_zero, List.setIfInBounds_toArray, List.set_cons_zero, List.set_cons_succ]
    refine wpAnyH_take (i := 4) (v := .bool false) rfl (by kernel_rfl) (by kernel_rfl) (by kernel_rfl) (fun _ _ _ h => h) (Or.inl ⟨by kernel_rfl, fun u hu => by kernel_rfl⟩) hS ?_
    simp only [Act.put, List.getElem_toArray, List.getElem_cons_succ, List.getElem_cons_zero, List.setIfInBounds_toArray, List.set_cons_zero, List.set_cons_succ]
    refine wpAnyH_take (i := 5) (v := undef) rfl (by kernel_rfl) (by kernel_rfl) (by kernel_rfl) (fun _ _ _ h => h) (Or.inr ⟨by kernel_rfl, rfl⟩) hS ?_
    simp only [Act.put, List.getElem_toArray, List.getElem_cons_succ, List.getElem_cons_zero, List.setIfInBounds_toArray, List.set_cons_zero, List.set_cons_succ]
    refine wpAnyH_take (i := 6) (v := undef) rfl (by kernel_rfl) (by kernel_rfl) (by kernel_rfl) (fun _ _ _ h => h) (Or.inr ⟨by kernel_rfl, rfl⟩) hS ?_
    simp only [Act.put, List.getElem_toArray, List.getElem_cons_succ, List.getElem_cons_zero, List.setIfInBounds_toArray, List.set_cons_zero, List.set_cons_succ]
    refine wpAnyH_take (i := 7) (v := undef) rfl (by kernel_rfl) (by kernel_rfl) (by kernel_rfl) (fun _ _ _ h => h) (Or.inr ⟨by kernel_rfl, rfl⟩) hS ?_
    simp only [Act.put, List.getElem_toArray, List.getElem_cons_succ, List.getElem_cons_zero, List.setIfInBounds_toArray, List.set_cons_zero, List.set_cons_succ]
    refine wpAnyH_take (i := 8) (v := undef) rfl (by kernel_rfl) (by kernel_rfl) (by kernel_rfl) (fun _ _ _ h => h) (Or.inr ⟨by kernel_rfl, rfl⟩) hS ?_
    simp only [Act.put, List.getElem_toArray, List.getElem_cons_succ, List.getElem_cons_zero, List.setIfInBounds_toArray, List.set_cons_zero, List.set_cons_succ]
    refine wpAnyH_take (i := 9) (v := undef) rfl (by kernel_rfl) (by kernel_rfl) (by kernel_rfl) (fun _ _ _ h => h) (Or.inr ⟨by kernel_rfl, rfl⟩) hS ?_
    simp only [Act.put, List.getElem_toArray, List.getElem_cons_succ, List.getElem_cons_zero, List.setIfInBounds_toArray, List.set_cons_zero, List.set_cons_succ]
    refine wpAnyH_take (i := 10) (v := undef) rfl (by kernel_rfl) (by kernel_rfl) (by kernel_rfl) (fun _ _ _ h => h) (Or.inr ⟨by kernel_rfl, rfl⟩) hS ?_
    simp only [Act.put, List.getElem_toArray, List.getElem_cons_succ, List.getElem_cons_zero, List.setIfInBounds_toArray, List.set_cons_zero, List.set_cons_succ]
    refine wpAnyH_take (i := 11) (v := undef) rfl (by kernel_rfl) (by kernel_rfl) (by kernel_rfl) (fun _ _ _ h => h) (Or.inr ⟨by kernel_rfl, rfl⟩) hS ?_
    simp only [Act.put, List.getElem_toArray, List.getElem_cons_succ, List.getElem_cons_zero, List.setIfInBounds_toArray, List.set_cons_zero, List.set_cons_succ]
    refine wpAnyH_take (i := 12) (v := undef) rfl (by kernel_rfl) (by kernel_rfl) (by kernel_rfl) (fun _ _ _ h => h) (Or.inr ⟨by kernel_rfl, rfl⟩) hS ?_
    simp only [Act.put, List.getElem_toArray, List.getElem_cons_succ, List.getElem_cons_zero, List.setIfInBounds_toArray, List.set_cons_zero, List.set_cons_succ]
    refine wpAnyH_take (i := 13) (v := undef) rfl (by kernel_rfl) (by kernel_rfl) (by kernel_rfl) (fun _ _ _ h => h) (Or.inr ⟨by kernel_rfl, rfl⟩) hS ?_
    simp only [Act.put, List.getElem_toArray, List.getElem_cons_succ, List.getElem_cons_zero, List.setIfInBounds_toArray, List.set_cons_zero, List.set_cons_succ]
    refine wpAnyH_take (i := 14) (v := undef) rfl (by kernel_rfl) (by kernel_rfl) (by kernel_rfl) (fun _ _ _ h => h) (Or.inr ⟨by kernel_rfl, rfl⟩) hS ?_
    simp only [Act.put, List.getElem_toArray, List.getElem_cons_succ, List.getElem_cons_zero, List.setIfInBounds_toArray, List.set_cons_zero, List.set_cons_succ]
    refine wpAnyH_take (i := 15) (v := undef) rfl (by kernel_rfl) (by kernel_rfl) (by kernel_rfl) (fun _ _ _ h => h) (Or.inr ⟨by kernel_rfl, rfl⟩) hS ?_
    simp only [Act.put, List.getElem_toArray, List.getElem_cons_succ, List.getElem_cons_zero, List.setIfInBounds_toArray, List.set_cons_zero, List.set_cons_succ]
    refine wpAnyH_take (i := 16) (v := undef) rfl (by kernel_rfl) (by kernel_rfl) (by kernel_rfl) (fun _ _ _ h => h) (Or.inr ⟨by kernel_rfl, rfl⟩) hS ?_
    simp only [Act.put, List.getElem_toArray, List.getElem_cons_succ, List.getElem_cons_zero, List.setIfInBounds_toArray, List.set_cons_zero, List.set_cons_succ]
    refine wpAnyH_take (i := 17) (v := .bool false) rfl (by kernel_rfl) (by kernel_rfl) (by kernel_rfl) (fun _ _ _ h => h) (Or.inl ⟨by kernel_rfl, fun u hu => by kernel_rfl⟩) hS ?_
    simp only [Act.put, List.getElem_toArray, List.getElem_cons_succ, List.getElem_cons_zero, List.setIfInBounds_toArray, List.set_cons_zero, List.set_cons_succ]
    refine wpAnyH_take (i := 18) (v := .bool false) rfl (by kernel_rfl) (by kernel_rfl) (by kernel_rfl) (fun _ _ _ h => h) (Or.inl ⟨by kernel_rfl, fun u hu => by kernel_rfl⟩) hS ?_
    simp only [Act.put, List.getElem_toArray, List.getElem_cons_succ, List.getElem_cons_zero, List.setIfInBounds_toArray, List.set_cons_zero, List.set_cons_succ]
    refine wpAnyH_done (by kernel_rfl) ?_ _
    go_wp2_with fail
    go_ret
    exact ⟨rfl, HBd, fun t' ht => by cases ht⟩
  | true =>
    obtain ⟨k0, hk0⟩ : ∃ k0, (t.first.z.getD r (0, 0)).1 = k0 := ⟨_, rfl⟩
    obtain ⟨n0, hn0⟩ : ∃ n0, (t.first.z.getD r (0, 0)).2 = n0 := ⟨_, rfl⟩
    have HR0 := HTd.rule r hr
    rw [hk0, hn0] at HR0
    have hpair : t.first.z.getD r (0, 0) = (k0, n0) := by rw [← hk0, ← hn0]
    rw [hpair]
    go_enter Tryd.func42, Tryd.ntmps42
    go_upto_region 1 with fail
    refine wp_region_held_drew (S := fun u => Bk u w.heap.size 64 #[.int .i64 ok, .int .i64 (r : Int), .int .i64 on] ∧ u.cell? ⟨tb, 1, none⟩ = some (.bool true) ∧ u.rangeAt tb (5 + r * 2) [.int .i64 k0, .int .i64 n0]) (by kernel_rfl) ⟨HO, HTd.begun, HR0⟩ (fun hS => ?_)
    refine wpAnyH_take (i := 0) (v := .pointer (some ⟨tb, 0, none⟩)) rfl (by kernel_rfl) (by kernel_rfl) (by kernel_rfl) (fun _ _ _ h => h) (Or.inl ⟨by kernel_rfl, fun u hu => by kernel_rfl⟩) hS ?_
    simp only [Act.put, List.getElem_toArray, List.getElem_cons_succ, List.getElem_cons_zero, List.setIfInBounds_toArray, List.set_cons_zero, List.set_cons_succ]
    refine wpAnyH_take (i := 1) (v := .pointer (some ⟨tb, 0, none⟩)) rfl (by kernel_rfl) (by kernel_rfl) (by kernel_rfl) (fun _ _ _ h => h) (Or.inl ⟨by kernel_rfl, fun u hu => by kernel_rfl⟩) hS ?_
    simp only [Act.put, List.getElem_toArray, List.getElem_cons_succ, List.getElem_cons_zero, List.setIfInBounds_toArray, List.set_cons_zero, List.set_cons_succ]
    refine wpAnyH_take (i := 2) (v := .pointer (some ⟨tb, 1, none⟩)) rfl (by kernel_rfl) (by kernel_rfl) (by kernel_rfl) (fun _ _ _ h => h) (Or.inl ⟨by kernel_rfl, fun u hu => by kernel_rfl⟩) hS ?_
    simp only [Act.put, List.getElem_toArray, List.getElem_cons_succ, List.getElem_cons_zero, List.setIfInBounds_toArray, List.set_cons_zero, List.set_cons_succ]
    refine wpAnyH_take (i := 3) (v := .bool true) rfl (by kernel_rfl) (by kernel_rfl) (by kernel_rfl) (fun _ _ _ h => h) (Or.inl ⟨by kernel_rfl, fun u hu => exec_loadV (t := 4) (p := ⟨tb, 1, none⟩) rfl (by kernel_rfl) (load_bool hu.2.1)⟩) hS ?_
    simp only [Act.put, List.getElem_toArray, List.getElem_cons_succ, List.getElem_cons_zero, List.setIfInBounds_toArray, List.set_cons_zero, List.set_cons_succ]
    refine wpAnyH_take (i := 4) (v := .bool true) rfl (by kernel_rfl) (by kernel_rfl) (by kernel_rfl) (fun _ _ _ h => h) (Or.inl ⟨by kernel_rfl, fun u hu => by kernel_rfl⟩) hS ?_
    simp only [Act.put, List.getElem_toArray, List.getElem_cons_succ, List.getElem_cons_zero, List.setIfInBounds_toArray, List.set_cons_zero, List.set_cons_succ]
    refine wpAnyH_take (i := 5) (v := .pointer (some ⟨tb, 0, none⟩)) rfl (by kernel_rfl) (by kernel_rfl) (by kernel_rfl) (fun _ _ _ h => h) (Or.inl ⟨by kernel_rfl, fun u hu => by kernel_rfl⟩) hS ?_
    simp only [Act.put, List.getElem_toArray, List.getElem_cons_succ, List.getElem_cons_zero, List.setIfInBounds_toArray, List.set_cons_zero, List.set_cons_succ]
    refine wpAnyH_take (i := 6) (v := .pointer (some ⟨w.heap.size, 1, none⟩)) rfl (by kernel_rfl) (by kernel_rfl) (by kernel_rfl) (fun _ _ _ h => h) (Or.inl ⟨by kernel_rfl, fun u hu => by kernel_rfl⟩) hS ?_
    simp only [Act.put, List.getElem_toArray, List.getElem_cons_succ, List.getElem_cons_zero, List.setIfInBounds_toArray, List.set_cons_zero, List.set_cons_succ]
    refine wpAnyH_take (i := 7) (v := .int .i64 (r : Int)) rfl (by kernel_rfl) (by kernel_rfl) (by kernel_rfl) (fun _ _ _ h => h) (Or.inl ⟨by kernel_rfl, fun u hu => exec_loadV (t := 3) (p := ⟨w.heap.size, 1, none⟩) rfl (by kernel_rfl) (load_i64 (hu.1.cell 1 rfl))⟩) hS ?_
    simp only [Act.put, List.getElem_toArray, List.getElem_cons_succ, List.getElem_cons_zero, List.setIfInBounds_toArray, List.set_cons_zero, List.set_cons_succ]
    refine wpAnyH_take (i := 8) (v := .pointer (some ⟨tb, 0, none⟩)) rfl (by kernel_rfl) (by kernel_rfl) (by kernel_rfl) (fun _ _ _ h => h) (Or.inl ⟨by kernel_rfl, fun u hu => by kernel_rfl⟩) hS ?_
    simp only [Act.put, List.getElem_toArray, List.getElem_cons_succ, List.getElem_cons_zero, List.setIfInBounds_toArray, List.set_cons_zero, List.set_cons_succ]
    refine wpAnyH_take (i := 9) (v := .pointer (some ⟨w.heap.size, 1, none⟩)) rfl (by kernel_rfl) (by kernel_rfl) (by kernel_rfl) (fun _ _ _ h => h) (Or.inl ⟨by kernel_rfl, fun u hu => by kernel_rfl⟩) hS ?_
    simp only [Act.put, List.getElem_toArray, List.getElem_cons_succ, List.getElem_cons_zero, List.setIfInBounds_toArray, List.set_cons_zero, List.set_cons_succ]
    refine wpAnyH_take (i := 10) (v := .int .i64 (r : Int)) rfl (by kernel_rfl) (by kernel_rfl) (by kernel_rfl) (fun _ _ _ h => h) (Or.inl ⟨by kernel_rfl, fun u hu => exec_loadV (t := 3) (p := ⟨w.heap.size, 1, none⟩) rfl (by kernel_rfl) (load_i64 (hu.1.cell 1 rfl))⟩) hS ?_
    simp only [Act.put, List.getElem_toArray, List.getElem_cons_succ, List.getElem_cons_zero, List.setIfInBounds_toArray, List.set_cons_zero, List.set_cons_succ]
    refine wpAnyH_take (i := 11) (v := .pointer (some ⟨tb, 0, none⟩)) rfl (by kernel_rfl) (by kernel_rfl) (by kernel_rfl) (fun _ _ _ h => h) (Or.inl ⟨by kernel_rfl, fun u hu => by kernel_rfl⟩) hS ?_
    simp only [Act.put, List.getElem_toArray, List.getElem_cons_succ, List.getElem_cons_zero, List.setIfInBounds_toArray, List.set_cons_zero, List.set_cons_succ]
    refine wpAnyH_take (i := 12) (v := .pointer (some ⟨tb, 2, none⟩)) rfl (by kernel_rfl) (by kernel_rfl) (by kernel_rfl) (fun _ _ _ h => h) (Or.inl ⟨by kernel_rfl, fun u hu => by kernel_rfl⟩) hS ?_
    simp only [Act.put, List.getElem_toArray, List.getElem_cons_succ, List.getElem_cons_zero, List.setIfInBounds_toArray, List.set_cons_zero, List.set_cons_succ]
    refine wpAnyH_take (i := 13) (v := .pointer (some ⟨tb, 5, none⟩)) rfl (by kernel_rfl) (by kernel_rfl) (by kernel_rfl) (fun _ _ _ h => h) (Or.inl ⟨by kernel_rfl, fun u hu => by kernel_rfl⟩) hS ?_
    simp only [Act.put, List.getElem_toArray, List.getElem_cons_succ, List.getElem_cons_zero, List.setIfInBounds_toArray, List.set_cons_zero, List.set_cons_succ]
    refine wpAnyH_take (i := 14) (v := .pointer (some ⟨tb, 5 + r * 2, none⟩)) rfl (by kernel_rfl) (by kernel_rfl) (by kernel_rfl) (fun _ _ _ h => h) (Or.inl ⟨by kernel_rfl, fun u hu => exec_ix rfl (by kernel_rfl) (by kernel_rfl) (ix_rule tb 5 r hr u)⟩) hS ?_
    simp only [Act.put, List.getElem_toArray, List.getElem_cons_succ, List.getElem_cons_zero, List.setIfInBounds_toArray, List.set_cons_zero, List.set_cons_succ]
    refine wpAnyH_take (i := 15) (v := .agg #[.int .i64 k0, .int .i64 n0]) rfl (by kernel_rfl) (by kernel_rfl) (by kernel_rfl) (fun _ _ _ h => h) (Or.inl ⟨by kernel_rfl, fun u hu => exec_loadV (t := 68) (p := ⟨tb, 5 + r * 2, none⟩) rfl (by kernel_rfl) (load_rmid hu.2.2)⟩) hS ?_
    simp only [Act.put, List.getElem_toArray, List.getElem_cons_succ, List.getElem_cons_zero, List.setIfInBounds_toArray, List.set_cons_zero, List.set_cons_succ]
    refine wpAnyH_ready (rs := [16]) (by kernel_rfl) (by simp) ?_
    refine AllReadyH.cons rfl (fun K hK => ?_) AllReadyH.nil
    simp only [List.getElem_toArray, List.getElem_cons_succ, List.getElem_cons_zero]
    refine wp_if (by kernel_rfl) ?_
    refine wp_enter (f := 47) (args := #[.pointer (some ⟨tb, 0, none⟩), .int .i64 (r : Int), .agg #[.int .i64 k0, .int .i64 n0]]) (by kernel_rfl) (rule_any HTd r hr k0 n0) ?_
    rintro e w' ⟨rfl, ⟨hb, hx⟩, hkeep⟩
    refine ⟨_, rfl, ?_⟩
    obtain ⟨vr', vk', hT'⟩ := hx _ rfl
    have hR1 := hT'.rule r hr
    dsimp only at hR1
    rw [hk0, hn0] at hR1
    refine hK.out _ _ ⟨HO.of (hkeep _ HO.lt hne), hT'.begun, hR1⟩ (fun hS => ?_)
    clear hK
    simp only [Act.put, List.getElem_toArray, List.getElem_cons_succ, List.getElem_cons_zero, List.setIfInBounds_toArray, List.set_cons_zero, List.set_cons_succ]
    refine wpAnyH_take (i := 17) (v := .bool true) rfl (by kernel_rfl) (by kernel_rfl) (by kernel_rfl) (fun _ _ _ h => h) (Or.inl ⟨by kernel_rfl, fun u hu => by kernel_rfl⟩) hS ?_
    simp only [Act.put, List.getElem_toArray, List.getElem_cons_succ, List.getElem_cons_zero, List.setIfInBounds_toArray, List.set_cons_zero, List.set_cons_succ]
    refine wpAnyH_take (i := 18) (v := .bool true) rfl (by kernel_rfl) (by kernel_rfl) (by kernel_rfl) (fun _ _ _ h => h) (Or.inl ⟨by kernel_rfl, fun u hu => by kernel_rfl⟩) hS ?_
    simp only [Act.put, List.getElem_toArray, List.getElem_cons_succ, List.getElem_cons_zero, List.setIfInBounds_toArray, List.set_cons_zero, List.set_cons_succ]
    refine wpAnyH_done (by kernel_rfl) ?_ _
    go_wp2_with fail
    go_ret
    refine ⟨rfl, HBd.trans hb, fun t' ht => ?_⟩
    cases ht
    exact ⟨vr', vk', hT'⟩

end Go.Proofs.YtpbnldfekadalaaDoor
