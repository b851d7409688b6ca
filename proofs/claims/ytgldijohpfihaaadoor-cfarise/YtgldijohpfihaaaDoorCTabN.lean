/- The table's methods, those that ask or grow. -/
import Derived.Test.YtgldijohpfihaaaDoorCTabM
namespace Go.Proofs.YtgldijohpfihaaaDoor
open Go.ChangeShapes Go.WideShapes Go.ChangeAt Go.RowKit
set_option linter.unusedVariables false
set_option linter.unusedSimpArgs false

theorem wp_val {o : Oper} {a : Act} {w w' : World} {K : Act → World → Prop} {Q : Exit → Act → World → Prop} {v : Value} (hx : (execOp a.eval o).run Tryd.prog w = .ok (.value v) w') (h : K (a.put o.dst v) w') : o.wp Tryd.prog a w K Q := by
  unfold Oper.wp
  rw [hx, Oper.upon_value]
  exact h
theorem wp_enter {o : Oper} {a : Act} {w : World} {K : Act → World → Prop} {Q : Exit → Act → World → Prop} {f : FuncId} {args : Array Value} {R : Ending → World → Prop}
    (hx : (execOp a.eval o).run Tryd.prog w = .ok (.enter f args) w) (hc : Calls Tryd.prog f args w R) (h : ∀ e w', R e w' → ∃ v, e = .returned v ∧ K (a.put o.dst v) w') : o.wp Tryd.prog a w K Q := by
  unfold Oper.wp
  rw [hx, Oper.upon_enter]
  refine hc.mono ?_
  intro e w' hr
  obtain ⟨v, rfl, hk⟩ := h e w' hr
  exact hk

set_option maxRecDepth 10000 in
theorem defOffset_tb {base tb : Nat} {w : World} {bg : Bool} {t : Tb} {vr vk : Value} (h : TA base w tb bg t vr vk) (o : Oq) :
    Calls Tryd.prog 95 #[.pointer (some ⟨tb, 0, none⟩), o.val] w fun e w' => e = .returned (.bool (t.now.r != -1)) ∧ TEnd base tb bg w w' (if t.now.r != -1 then some ⟨t.L, ⟨t.now.p, t.now.r, o.n, t.now.z⟩, t.first, t.kept, t.size⟩ else none) := by
  have HB : Below w.heap.size w (w.alloc (.cells #[.int .i64 o.k, .int .i64 o.r, .int .i64 o.n] 75)) := (Below.refl _ _).alloc (Nat.le_refl _) _
  have HT := h.bel HB
  have HTd := h.bel HB.drew
  have HO : Bk (w.alloc (.cells #[.int .i64 o.k, .int .i64 o.r, .int .i64 o.n] 75)).drew w.heap.size 75 #[.int .i64 o.k, .int .i64 o.r, .int .i64 o.n] := (Bk.new w _ _).of rfl
  have hne : w.heap.size ≠ tb := by have := h.bk.lt; omega
  have hbs : base ≤ w.heap.size := Nat.le_trans h.lo (Nat.le_of_lt h.bk.lt)
  have HBb := HB.mono hbs
  have HBd := HB.drew.mono hbs
  have H1 := HT.setN o.n
  have B1 := HBb.trans (below_set _ tb (putAt (tC bg t vr vk).toArray 41 [.int .i64 o.n]) h.lo)
  have HF : Hid _ := ⟨hasFrame_any H1⟩
  go_enter Tryd.func95, Tryd.ntmps95
  go_upto_region 2 with (refine wpList_part (g := tb) (off := 41) (val := .int .i64 o.n) rfl rfl (by rfl) (by rfl) HT.bk (by rw [sizeInt]; rfl) (by rw [HT.len]; show 41 + 1 ≤ 78; omega) (one_cells _) rfl ?_)
  go_wp2_with (go_at_call 62; (with_reducible refine HF.out.mono ?_); rintro e wn ⟨he, hwn⟩; subst he; subst wn)
  all_goals go_ret
  all_goals refine ⟨rfl, B1, fun t' ht => ?_⟩
  all_goals first
    | (cases ht; exact ⟨vr, vk, H1⟩)
    | cases ht

set_option maxRecDepth 10000 in
theorem defRegister_tb {base tb : Nat} {w : World} {bg : Bool} {t : Tb} {vr vk : Value} (h : TA base w tb bg t vr vk) (o : Oq) :
    Calls Tryd.prog 96 #[.pointer (some ⟨tb, 0, none⟩), o.val] w fun e w' => e = .returned (.bool (t.now.r != -1)) ∧ TEnd base tb bg w w' (if t.now.r != -1 then some ⟨t.L, ⟨t.now.p, o.r, t.now.n, t.now.z⟩, t.first, t.kept, t.size⟩ else none) := by
  have HB : Below w.heap.size w (w.alloc (.cells #[.int .i64 o.k, .int .i64 o.r, .int .i64 o.n] 75)) := (Below.refl _ _).alloc (Nat.le_refl _) _
  have HT := h.bel HB
  have HTd := h.bel HB.drew
  have HO : Bk (w.alloc (.cells #[.int .i64 o.k, .int .i64 o.r, .int .i64 o.n] 75)).drew w.heap.size 75 #[.int .i64 o.k, .int .i64 o.r, .int .i64 o.n] := (Bk.new w _ _).of rfl
  have hne : w.heap.size ≠ tb := by have := h.bk.lt; omega
  have hbs : base ≤ w.heap.size := Nat.le_trans h.lo (Nat.le_of_lt h.bk.lt)
  have HBb := HB.mono hbs
  have HBd := HB.drew.mono hbs
  have H1 := HT.setRr o.r
  have B1 := HBb.trans (below_set _ tb (putAt (tC bg t vr vk).toArray 40 [.int .i64 o.r]) h.lo)
  have HF : Hid _ := ⟨hasFrame_any HT⟩
  cases hr : (t.now.r != -1) with
  | false =>
    rw [hr] at HF
    go_enter Tryd.func96, Tryd.ntmps96
    go_wp2_with (go_at_call 62; (with_reducible refine HF.out.mono ?_); rintro e wn ⟨he, hwn⟩; subst he; subst wn)
    go_ret
    exact ⟨rfl, HBb, fun t' ht => by cases ht⟩
  | true =>
    rw [hr] at HF
    go_enter Tryd.func96, Tryd.ntmps96
    go_upto_region 4 with (first
      | (go_at_call 62; (with_reducible refine HF.out.mono ?_); rintro e wn ⟨he, hwn⟩; subst he; subst wn)
      | (refine wpList_part (g := tb) (off := 40) (val := .int .i64 o.r) rfl rfl (by rfl) (by rfl) HT.bk (by rw [sizeInt]; rfl) (by rw [HT.len]; show 40 + 1 ≤ 78; omega) (one_cells _) rfl ?_))
    go_wp2
    go_ret
    refine ⟨rfl, B1, fun t' ht => ?_⟩
    cases ht
    exact ⟨vr, vk, H1⟩

theorem offset_tb {base tb : Nat} {w : World} {bg : Bool} {t : Tb} {vr vk : Value} (h : TA base w tb bg t vr vk) (o : Oq) (hr0 : 0 ≤ o.r) (hr1 : o.r ≤ 16) :
    Calls Tryd.prog 97 #[.pointer (some ⟨tb, 0, none⟩), o.val] w fun e w' => e = .returned (.bool true) ∧ TEnd base tb bg w w' (some ⟨t.L, t.now.set o.r (2, o.n), t.first, t.kept, t.size⟩) := by
  have HB : Below w.heap.size w (w.alloc (.cells #[.int .i64 o.k, .int .i64 o.r, .int .i64 o.n] 75)) := (Below.refl _ _).alloc (Nat.le_refl _) _
  have HT := h.bel HB
  have HTd := h.bel HB.drew
  have HO : Bk (w.alloc (.cells #[.int .i64 o.k, .int .i64 o.r, .int .i64 o.n] 75)).drew w.heap.size 75 #[.int .i64 o.k, .int .i64 o.r, .int .i64 o.n] := (Bk.new w _ _).of rfl
  have hne : w.heap.size ≠ tb := by have := h.bk.lt; omega
  have hbs : base ≤ w.heap.size := Nat.le_trans h.lo (Nat.le_of_lt h.bk.lt)
  have HBb := HB.mono hbs
  have HBd := HB.drew.mono hbs
  obtain ⟨ok, orr, on⟩ := o
  dsimp only at *
  obtain ⟨r, rfl⟩ : ∃ r : Nat, orr = (r : Int) := ⟨orr.toNat, by omega⟩
  have HR : Hid _ := ⟨rule_any HT r (by omega) 2 on⟩
  go_enter Tryd.func97, Tryd.ntmps97
  go_wp2_with (go_at_call 111; (with_reducible refine HR.out.mono ?_); rintro e wn ⟨he, ⟨hb, hx⟩, _⟩; subst he; have H1 : Hid _ := ⟨hx⟩; have H2 : Hid _ := ⟨hb⟩; clear hx hb)
  go_ret
  exact ⟨rfl, HBb.trans H2.out, H1.out⟩

theorem undefined_tb {base tb : Nat} {w : World} {bg : Bool} {t : Tb} {vr vk : Value} (h : TA base w tb bg t vr vk) (o : Oq) (hr0 : 0 ≤ o.r) (hr1 : o.r ≤ 16) :
    Calls Tryd.prog 99 #[.pointer (some ⟨tb, 0, none⟩), o.val] w fun e w' => e = .returned (.bool true) ∧ TEnd base tb bg w w' (some ⟨t.L, t.now.set o.r (1, 0), t.first, t.kept, t.size⟩) := by
  have HB : Below w.heap.size w (w.alloc (.cells #[.int .i64 o.k, .int .i64 o.r, .int .i64 o.n] 75)) := (Below.refl _ _).alloc (Nat.le_refl _) _
  have HT := h.bel HB
  have HTd := h.bel HB.drew
  have HO : Bk (w.alloc (.cells #[.int .i64 o.k, .int .i64 o.r, .int .i64 o.n] 75)).drew w.heap.size 75 #[.int .i64 o.k, .int .i64 o.r, .int .i64 o.n] := (Bk.new w _ _).of rfl
  have hne : w.heap.size ≠ tb := by have := h.bk.lt; omega
  have hbs : base ≤ w.heap.size := Nat.le_trans h.lo (Nat.le_of_lt h.bk.lt)
  have HBb := HB.mono hbs
  have HBd := HB.drew.mono hbs
  obtain ⟨ok, orr, on⟩ := o
  dsimp only at *
  obtain ⟨r, rfl⟩ : ∃ r : Nat, orr = (r : Int) := ⟨orr.toNat, by omega⟩
  have HR : Hid _ := ⟨rule_any HT r (by omega) 1 0⟩
  go_enter Tryd.func99, Tryd.ntmps99
  go_wp2_with (go_at_call 111; (with_reducible refine HR.out.mono ?_); rintro e wn ⟨he, ⟨hb, hx⟩, _⟩; subst he; have H1 : Hid _ := ⟨hx⟩; have H2 : Hid _ := ⟨hb⟩; clear hx hb)
  go_ret
  exact ⟨rfl, HBb.trans H2.out, H1.out⟩

theorem sameValue_tb {base tb : Nat} {w : World} {bg : Bool} {t : Tb} {vr vk : Value} (h : TA base w tb bg t vr vk) (o : Oq) (hr0 : 0 ≤ o.r) (hr1 : o.r ≤ 16) :
    Calls Tryd.prog 100 #[.pointer (some ⟨tb, 0, none⟩), o.val] w fun e w' => e = .returned (.bool true) ∧ TEnd base tb bg w w' (some ⟨t.L, t.now.set o.r (0, 0), t.first, t.kept, t.size⟩) := by
  have HB : Below w.heap.size w (w.alloc (.cells #[.int .i64 o.k, .int .i64 o.r, .int .i64 o.n] 75)) := (Below.refl _ _).alloc (Nat.le_refl _) _
  have HT := h.bel HB
  have HTd := h.bel HB.drew
  have HO : Bk (w.alloc (.cells #[.int .i64 o.k, .int .i64 o.r, .int .i64 o.n] 75)).drew w.heap.size 75 #[.int .i64 o.k, .int .i64 o.r, .int .i64 o.n] := (Bk.new w _ _).of rfl
  have hne : w.heap.size ≠ tb := by have := h.bk.lt; omega
  have hbs : base ≤ w.heap.size := Nat.le_trans h.lo (Nat.le_of_lt h.bk.lt)
  have HBb := HB.mono hbs
  have HBd := HB.drew.mono hbs
  obtain ⟨ok, orr, on⟩ := o
  dsimp only at *
  obtain ⟨r, rfl⟩ : ∃ r : Nat, orr = (r : Int) := ⟨orr.toNat, by omega⟩
  have HR : Hid _ := ⟨rule_any HT r (by omega) 0 0⟩
  go_enter Tryd.func100, Tryd.ntmps100
  go_wp2_with (go_at_call 111; (with_reducible refine HR.out.mono ?_); rintro e wn ⟨he, ⟨hb, hx⟩, _⟩; subst he; have H1 : Hid _ := ⟨hx⟩; have H2 : Hid _ := ⟨hb⟩; clear hx hb)
  go_ret
  exact ⟨rfl, HBb.trans H2.out, H1.out⟩

theorem load_rmid {w : World} {b o : Nat} {k n : Int} (h : w.rangeAt b o [.int .i64 k, .int .i64 n]) : (loadVar 38 ⟨b, o, none⟩).run Tryd.prog w = .ok (.agg #[.int .i64 k, .int .i64 n]) w :=
  run_loadVar_mid w b o _ _ _ h Tryd.underlying38 rfl (by rw [sizeRule]; rfl)
theorem TA.rule {base : Nat} {w : World} {tb : Nat} {bg : Bool} {t : Tb} {vr vk : Value} (h : TA base w tb bg t vr vk) (r : Nat) (hr : r < 17) : w.rangeAt tb (5 + r * 2) [.int .i64 (t.first.z.getD r (0, 0)).1, .int .i64 (t.first.z.getD r (0, 0)).2] := by
  have hz : t.first.z.length = 17 := h.wf.first
  have ha := zc_at t.first.z r (by omega)
  have hc : ∀ j, t.first.cells[3 + j]? = (zc t.first.z)[j]? := fun j => by show (_ :: _ :: _ :: zc t.first.z)[3 + j]? = _; rw [show 3 + j = j + 1 + 1 + 1 by omega]; simp
  intro j v hv
  have hj : j = 0 ∨ j = 1 := by have := (List.getElem?_eq_some_iff.1 hv).1; simp at this; omega
  rcases hj with rfl | rfl
  · have := h.rfirst (3 + r * 2) v ((hc _).trans (ha.1.trans hv))
    rwa [show 2 + (3 + r * 2) = 5 + r * 2 + 0 by omega] at this
  · have := h.rfirst (3 + (r * 2 + 1)) v ((hc _).trans (ha.2.trans hv))
    rwa [show 2 + (3 + (r * 2 + 1)) = 5 + r * 2 + 1 by omega] at this

set_option maxRecDepth 10000 in
theorem restore_tb {base tb : Nat} {w : World} {bg : Bool} {t : Tb} {vr vk : Value} (h : TA base w tb bg t vr vk) (o : Oq) (hr0 : 0 ≤ o.r) (hr1 : o.r ≤ 16) :
    Calls Tryd.prog 98 #[.pointer (some ⟨tb, 0, none⟩), o.val] w fun e w' => e = .returned (.bool bg) ∧ TEnd base tb bg w w' (if bg = true then some ⟨t.L, t.now.set o.r (t.first.z.getD o.r.toNat (0, 0)), t.first, t.kept, t.size⟩ else none) := by
  have HB : Below w.heap.size w (w.alloc (.cells #[.int .i64 o.k, .int .i64 o.r, .int .i64 o.n] 75)) := (Below.refl _ _).alloc (Nat.le_refl _) _
  have HT := h.bel HB
  have HTd := h.bel HB.drew
  have HO : Bk (w.alloc (.cells #[.int .i64 o.k, .int .i64 o.r, .int .i64 o.n] 75)).drew w.heap.size 75 #[.int .i64 o.k, .int .i64 o.r, .int .i64 o.n] := (Bk.new w _ _).of rfl
  have hne : w.heap.size ≠ tb := by have := h.bk.lt; omega
  have hbs : base ≤ w.heap.size := Nat.le_trans h.lo (Nat.le_of_lt h.bk.lt)
  have HBb := HB.mono hbs
  have HBd := HB.drew.mono hbs
  obtain ⟨ok, orr, on⟩ := o
  dsimp only at *
  obtain ⟨r, rfl⟩ : ∃ r : Nat, orr = (r : Int) := ⟨orr.toNat, by omega⟩
  have hr : r < 17 := by omega
  rw [Int.toNat_natCast]
  cases bg with
  | false =>
    go_enter Tryd.func98, Tryd.ntmps98
    go_upto_region 1 with fail
    refine wp_region_held_drew (S := fun u => u.cell? ⟨tb, 1, none⟩ = some (.bool false)) (by kernel_rfl) HTd.begun (fun hS => ?_)
    refine wpAnyH_take (i := 0) (v := .pointer (some ⟨tb, 0, none⟩)) rfl (by kernel_rfl) (by kernel_rfl) (by kernel_rfl) (fun _ _ _ h => h) (Or.inl ⟨by kernel_rfl, fun u hu => by kernel_rfl⟩) hS ?_
    simp only [Act.put, List.getElem_toArray, List.getElem_cons_succ, List.getElem_cons_zero, List.setIfInBounds_toArray, List.set_cons_zero, List.set_cons_succ]
    refine wpAnyH_take (i := 1) (v := .pointer (some ⟨tb, 0, none⟩)) rfl (by kernel_rfl) (by kernel_rfl) (by kernel_rfl) (fun _ _ _ h => h) (Or.inl ⟨by kernel_rfl, fun u hu => by kernel_rfl⟩) hS ?_
    simp only [Act.put, List.getElem_toArray, List.getElem_cons_succ, List.getElem_cons_zero, List.setIfInBounds_toArray, List.set_cons_zero, List.set_cons_succ]
    refine wpAnyH_take (i := 2) (v := .pointer (some ⟨tb, 1, none⟩)) rfl (by kernel_rfl) (by kernel_rfl) (by kernel_rfl) (fun _ _ _ h => h) (Or.inl ⟨by kernel_rfl, fun u hu => by kernel_rfl⟩) hS ?_
    simp only [Act.put, List.getElem_toArray, List.getElem_cons_succ, List.getElem_cons_zero, List.setIfInBounds_toArray, List.set_cons_zero, List.set_cons_succ]
    refine wpAnyH_take (i := 3) (v := .bool false) rfl (by kernel_rfl) (by kernel_rfl) (by kernel_rfl) (fun _ _ _ h => h) (Or.inl ⟨by kernel_rfl, fun u hu => exec_loadV (t := 4) (p := ⟨tb, 1, none⟩) rfl (by kernel_rfl) (load_bool hu)⟩) hS ?_
    simp only [Act.put, List.getElem_toArray, List.getElem_cons_succ, List.getElem_cons_zero, List.setIfInBounds_toArray, List.set_cons_zero, List.set_cons_succ]
    refine wpAnyH_take (i := 4) (v := .bool false) rfl (by kernel_rfl) (by kernel_rfl) (by kernel_rfl) (fun _ _ _ h => h) (Or.inl ⟨by kernel_rfl, fun u hu => by kernel_rfl⟩) hS ?_
    simp only [Act.put, List.getElem_toArray, List.getElem_cons_succ, List.getElem_cons_zero, List.setIfInBounds_toArray, List.set_cons_zero, List.set_cons_succ]
    refine wpAnyH_take (i := 5) (v := undef) rfl (by kernel_rfl) (by kernel_rfl) (by kernel_rfl) (fun _ _ _ h => h) (Or.inr ⟨by kernel_rfl, rfl⟩) hS ?_
    simp only [Act.put, List.getElem_toArray, List.getElem_cons_succ, List.getElem_cons_zero, List.setIfInBounds_toArray, List.set_cons_zero, List.set_cons_succ]
    refine wpAnyH_take (i := 6) (v := undef) rfl (by kernel_rfl) (by kernel_rfl) (by kernel_rfl) (fun _ _ _ h => h) (Or.inr ⟨by kernel_rfl, rfl⟩) hS ?_
    simp only [Act.put, List.getElem_toArray, List.getElem_cons_succ, List.getElem_cons_zero, List.setIfInBounds_toArray, List.set_cons_zero, List.set_cons_succ]
    refine wpAnyH_take (i := 7) (v := undef) rfl (by kernel_rfl) (by kernel_rfl) (by kernel_rfl) (fun _ _ _ h => h) (Or.inr ⟨by kernel_rfl, rfl⟩) hS ?_
    simp only [Act.put, List.getElem_toArray, List.getElem_cons_succ, List.getElem_cons_zero, List.setIfInBounds_toArray, List.set_cons_zero, List.set_cons_succ]
    refine wpAnyH_take (i := 8) (v := undef) rfl (by kernel_rfl) (by kernel_rfl) (by kernel_rfl) (fun _ _ _ h => h) (Or.inr ⟨by kernel_rfl, rfl⟩) hS ?_
    simp only [Act.put, List.getElem_toArray, List.getElem_cons_succ, List.getElem_cons_zero, List.setIfInBounds_toArray, List.set_cons_zero, List.set_cons_succ]
    refine wpAnyH_take (i := 9) (v := undef) rfl (by kernel_rfl) (by kernel_rfl) (by kernel_rfl) (fun _ _ _ h => h) (Or.inr ⟨by kernel_rfl, rfl⟩) hS ?_
    simp only [Act.put, List.getElem_toArray, List.getElem_cons_succ, List.getElem_cons_zero, List.setIfInBounds_toArray, List.set_cons_zero, List.set_cons_succ]
    refine wpAnyH_take (i := 10) (v := undef) rfl (by kernel_rfl) (by kernel_rfl) (by kernel_rfl) (fun _ _ _ h => h) (Or.inr ⟨by kernel_rfl, rfl⟩) hS ?_
    simp only [Act.put, List.getElem_toArray, List.getElem_cons_succ, List.getElem_cons_zero, List.setIfInBounds_toArray, List.set_cons_zero, List.set_cons_succ]
    refine wpAnyH_take (i := 11) (v := undef) rfl (by kernel_rfl) (by kernel_rfl) (by kernel_rfl) (fun _ _ _ h => h) (Or.inr ⟨by kernel_rfl, rfl⟩) hS ?_
    simp only [Act.put, List.getElem_toArray, List.getElem_cons_succ, List.getElem_cons_zero, List.setIfInBounds_toArray, List.set_cons_zero, List.set_cons_succ]
    refine wpAnyH_take (i := 12) (v := undef) rfl (by kernel_rfl) (by kernel_rfl) (by kernel_rfl) (fun _ _ _ h => h) (Or.inr ⟨by kernel_rfl, rfl⟩) hS ?_
    simp only [Act.put, List.getElem_toArray, List.getElem_cons_succ, List.getElem_cons_zero, List.setIfInBounds_toArray, List.set_cons_zero, List.set_cons_succ]
    refine wpAnyH_take (i := 13) (v := undef) rfl (by kernel_rfl) (by kernel_rfl) (by kernel_rfl) (fun _ _ _ h => h) (Or.inr ⟨by kernel_rfl, rfl⟩) hS ?_
    simp only [Act.put, List.getElem_toArray, List.getElem_cons_succ, List.getElem_cons_zero, List.setIfInBounds_toArray, List.set_cons_zero, List.set_cons_succ]
    refine wpAnyH_take (i := 14) (v := undef) rfl (by kernel_rfl) (by kernel_rfl) (by kernel_rfl) (fun _ _ _ h => h) (Or.inr ⟨by kernel_rfl, rfl⟩) hS ?_
    simp only [Act.put, List.getElem_toArray, List.getElem_cons_succ, List.getElem_cons_zero, List.setIfInBounds_toArray, List.set_cons_zero, List.set_cons_succ]
    refine wpAnyH_take (i := 15) (v := undef) rfl (by kernel_rfl) (by kernel_rfl) (by kernel_rfl) (fun _ _ _ h => h) (Or.inr ⟨by kernel_rfl, rfl⟩) hS ?_
    simp only [Act.put, List.getElem_toArray, List.getElem_cons_succ, List.getElem_cons_zero, List.setIfInBounds_toArray, List.set_cons_zero, List.set_cons_succ]
    refine wpAnyH_take (i := 16) (v := undef) rfl (by kernel_rfl) (by kernel_rfl) (by kernel_rfl) (fun _ _ _ h => h) (Or.inr ⟨by kernel_rfl, rfl⟩) hS ?_
    simp only [Act.put, List.getElem_toArray, List.getElem_cons_succ, List.getElem_cons_zero, List.setIfInBounds_toArray, List.set_cons_zero, List.set_cons_succ]
    refine wpAnyH_take (i := 17) (v := .bool false) rfl (by kernel_rfl) (by kernel_rfl) (by kernel_rfl) (fun _ _ _ h => h) (Or.inl ⟨by kernel_rfl, fun u hu => by kernel_rfl⟩) hS ?_
    simp only [Act.put, List.getElem_toArray, List.getElem_cons_succ, List.getElem_cons_zero, List.setIfInBounds_toArray, List.set_cons_zero, List.set_cons_succ]
    refine wpAnyH_take (i := 18) (v := .bool false) rfl (by kernel_rfl) (by kernel_rfl) (by kernel_rfl) (fun _ _ _ h => h) (Or.inl ⟨by kernel_rfl, fun u hu => by kernel_rfl⟩) hS ?_
    simp only [Act.put, List.getElem_toArray, List.getElem_cons_succ, List.getElem_cons_zero, List.setIfInBounds_toArray, List.set_cons_zero, List.set_cons_succ]
    refine wpAnyH_done (by kernel_rfl) ?_ _
    go_wp2_with fail
    go_ret
    exact ⟨rfl, HBd, fun t' ht => by cases ht⟩
  | true =>
    obtain ⟨k0, hk0⟩ : ∃ k0, (t.first.z.getD r (0, 0)).1 = k0 := ⟨_, rfl⟩
    obtain ⟨n0, hn0⟩ : ∃ n0, (t.first.z.getD r (0, 0)).2 = n0 := ⟨_, rfl⟩
    have HR0 := HTd.rule r hr
    rw [hk0, hn0] at HR0
    have hpair : t.first.z.getD r (0, 0) = (k0, n0) := by rw [← hk0, ← hn0]
    rw [hpair]
    go_enter Tryd.func98, Tryd.ntmps98
    go_upto_region 1 with fail
    refine wp_region_held_drew (S := fun u => Bk u w.heap.size 75 #[.int .i64 ok, .int .i64 (r : Int), .int .i64 on] ∧ u.cell? ⟨tb, 1, none⟩ = some (.bool true) ∧ u.rangeAt tb (5 + r * 2) [.int .i64 k0, .int .i64 n0]) (by kernel_rfl) ⟨HO, HTd.begun, HR0⟩ (fun hS => ?_)
    refine wpAnyH_take (i := 0) (v := .pointer (some ⟨tb, 0, none⟩)) rfl (by kernel_rfl) (by kernel_rfl) (by kernel_rfl) (fun _ _ _ h => h) (Or.inl ⟨by kernel_rfl, fun u hu => by kernel_rfl⟩) hS ?_
    simp only [Act.put, List.getElem_toArray, List.getElem_cons_succ, List.getElem_cons_zero, List.setIfInBounds_toArray, List.set_cons_zero, List.set_cons_succ]
    refine wpAnyH_take (i := 1) (v := .pointer (some ⟨tb, 0, none⟩)) rfl (by kernel_rfl) (by kernel_rfl) (by kernel_rfl) (fun _ _ _ h => h) (Or.inl ⟨by kernel_rfl, fun u hu => by kernel_rfl⟩) hS ?_
    simp only [Act.put, List.getElem_toArray, List.getElem_cons_succ, List.getElem_cons_zero, List.setIfInBounds_toArray, List.set_cons_zero, List.set_cons_succ]
    refine wpAnyH_take (i := 2) (v := .pointer (some ⟨tb, 1, none⟩)) rfl (by kernel_rfl) (by kernel_rfl) (by kernel_rfl) (fun _ _ _ h => h) (Or.inl ⟨by kernel_rfl, fun u hu => by kernel_rfl⟩) hS ?_
    simp only [Act.put, List.getElem_toArray, List.getElem_cons_succ, List.getElem_cons_zero, List.setIfInBounds_toArray, List.set_cons_zero, List.set_cons_succ]
    refine wpAnyH_take (i := 3) (v := .bool true) rfl (by kernel_rfl) (by kernel_rfl) (by kernel_rfl) (fun _ _ _ h => h) (Or.inl ⟨by kernel_rfl, fun u hu => exec_loadV (t := 4) (p := ⟨tb, 1, none⟩) rfl (by kernel_rfl) (load_bool hu.2.1)⟩) hS ?_
    simp only [Act.put, List.getElem_toArray, List.getElem_cons_succ, List.getElem_cons_zero, List.setIfInBounds_toArray, List.set_cons_zero, List.set_cons_succ]
    refine wpAnyH_take (i := 4) (v := .bool true) rfl (by kernel_rfl) (by kernel_rfl) (by kernel_rfl) (fun _ _ _ h => h) (Or.inl ⟨by kernel_rfl, fun u hu => by kernel_rfl⟩) hS ?_
    simp only [Act.put, List.getElem_toArray, List.getElem_cons_succ, List.getElem_cons_zero, List.setIfInBounds_toArray, List.set_cons_zero, List.set_cons_succ]
    refine wpAnyH_take (i := 5) (v := .pointer (some ⟨tb, 0, none⟩)) rfl (by kernel_rfl) (by kernel_rfl) (by kernel_rfl) (fun _ _ _ h => h) (Or.inl ⟨by kernel_rfl, fun u hu => by kernel_rfl⟩) hS ?_
    simp only [Act.put, List.getElem_toArray, List.getElem_cons_succ, List.getElem_cons_zero, List.setIfInBounds_toArray, List.set_cons_zero, List.set_cons_succ]
    refine wpAnyH_take (i := 6) (v := .pointer (some ⟨w.heap.size, 1, none⟩)) rfl (by kernel_rfl) (by kernel_rfl) (by kernel_rfl) (fun _ _ _ h => h) (Or.inl ⟨by kernel_rfl, fun u hu => by kernel_rfl⟩) hS ?_
    simp only [Act.put, List.getElem_toArray, List.getElem_cons_succ, List.getElem_cons_zero, List.setIfInBounds_toArray, List.set_cons_zero, List.set_cons_succ]
    refine wpAnyH_take (i := 7) (v := .int .i64 (r : Int)) rfl (by kernel_rfl) (by kernel_rfl) (by kernel_rfl) (fun _ _ _ h => h) (Or.inl ⟨by kernel_rfl, fun u hu => exec_loadV (t := 3) (p := ⟨w.heap.size, 1, none⟩) rfl (by kernel_rfl) (load_i64 (hu.1.cell 1 rfl))⟩) hS ?_
    simp only [Act.put, List.getElem_toArray, List.getElem_cons_succ, List.getElem_cons_zero, List.setIfInBounds_toArray, List.set_cons_zero, List.set_cons_succ]
    refine wpAnyH_take (i := 8) (v := .pointer (some ⟨tb, 0, none⟩)) rfl (by kernel_rfl) (by kernel_rfl) (by kernel_rfl) (fun _ _ _ h => h) (Or.inl ⟨by kernel_rfl, fun u hu => by kernel_rfl⟩) hS ?_
    simp only [Act.put, List.getElem_toArray, List.getElem_cons_succ, List.getElem_cons_zero, List.setIfInBounds_toArray, List.set_cons_zero, List.set_cons_succ]
    refine wpAnyH_take (i := 9) (v := .pointer (some ⟨w.heap.size, 1, none⟩)) rfl (by kernel_rfl) (by kernel_rfl) (by kernel_rfl) (fun _ _ _ h => h) (Or.inl ⟨by kernel_rfl, fun u hu => by kernel_rfl⟩) hS ?_
    simp only [Act.put, List.getElem_toArray, List.getElem_cons_succ, List.getElem_cons_zero, List.setIfInBounds_toArray, List.set_cons_zero, List.set_cons_succ]
    refine wpAnyH_take (i := 10) (v := .int .i64 (r : Int)) rfl (by kernel_rfl) (by kernel_rfl) (by kernel_rfl) (fun _ _ _ h => h) (Or.inl ⟨by kernel_rfl, fun u hu => exec_loadV (t := 3) (p := ⟨w.heap.size, 1, none⟩) rfl (by kernel_rfl) (load_i64 (hu.1.cell 1 rfl))⟩) hS ?_
    simp only [Act.put, List.getElem_toArray, List.getElem_cons_succ, List.getElem_cons_zero, List.setIfInBounds_toArray, List.set_cons_zero, List.set_cons_succ]
    refine wpAnyH_take (i := 11) (v := .pointer (some ⟨tb, 0, none⟩)) rfl (by kernel_rfl) (by kernel_rfl) (by kernel_rfl) (fun _ _ _ h => h) (Or.inl ⟨by kernel_rfl, fun u hu => by kernel_rfl⟩) hS ?_
    simp only [Act.put, List.getElem_toArray, List.getElem_cons_succ, List.getElem_cons_zero, List.setIfInBounds_toArray, List.set_cons_zero, List.set_cons_succ]
    refine wpAnyH_take (i := 12) (v := .pointer (some ⟨tb, 2, none⟩)) rfl (by kernel_rfl) (by kernel_rfl) (by kernel_rfl) (fun _ _ _ h => h) (Or.inl ⟨by kernel_rfl, fun u hu => by kernel_rfl⟩) hS ?_
    simp only [Act.put, List.getElem_toArray, List.getElem_cons_succ, List.getElem_cons_zero, List.setIfInBounds_toArray, List.set_cons_zero, List.set_cons_succ]
    refine wpAnyH_take (i := 13) (v := .pointer (some ⟨tb, 5, none⟩)) rfl (by kernel_rfl) (by kernel_rfl) (by kernel_rfl) (fun _ _ _ h => h) (Or.inl ⟨by kernel_rfl, fun u hu => by kernel_rfl⟩) hS ?_
    simp only [Act.put, List.getElem_toArray, List.getElem_cons_succ, List.getElem_cons_zero, List.setIfInBounds_toArray, List.set_cons_zero, List.set_cons_succ]
    refine wpAnyH_take (i := 14) (v := .pointer (some ⟨tb, 5 + r * 2, none⟩)) rfl (by kernel_rfl) (by kernel_rfl) (by kernel_rfl) (fun _ _ _ h => h) (Or.inl ⟨by kernel_rfl, fun u hu => exec_ix rfl (by kernel_rfl) (by kernel_rfl) (ix_rule tb 5 r hr u)⟩) hS ?_
    simp only [Act.put, List.getElem_toArray, List.getElem_cons_succ, List.getElem_cons_zero, List.setIfInBounds_toArray, List.set_cons_zero, List.set_cons_succ]
    refine wpAnyH_take (i := 15) (v := .agg #[.int .i64 k0, .int .i64 n0]) rfl (by kernel_rfl) (by kernel_rfl) (by kernel_rfl) (fun _ _ _ h => h) (Or.inl ⟨by kernel_rfl, fun u hu => exec_loadV (t := 38) (p := ⟨tb, 5 + r * 2, none⟩) rfl (by kernel_rfl) (load_rmid hu.2.2)⟩) hS ?_
    simp only [Act.put, List.getElem_toArray, List.getElem_cons_succ, List.getElem_cons_zero, List.setIfInBounds_toArray, List.set_cons_zero, List.set_cons_succ]
    refine wpAnyH_ready (rs := [16]) (by kernel_rfl) (by simp) ?_
    refine AllReadyH.cons rfl (fun K hK => ?_) AllReadyH.nil
    simp only [List.getElem_toArray, List.getElem_cons_succ, List.getElem_cons_zero]
    refine wp_if (by kernel_rfl) ?_
    refine wp_enter (f := 111) (args := #[.pointer (some ⟨tb, 0, none⟩), .int .i64 (r : Int), .agg #[.int .i64 k0, .int .i64 n0]]) (by kernel_rfl) (rule_any HTd r hr k0 n0) ?_
    rintro e w' ⟨rfl, ⟨hb, hx⟩, hkeep⟩
    refine ⟨_, rfl, ?_⟩
    obtain ⟨vr', vk', hT'⟩ := hx _ rfl
    have hR1 := hT'.rule r hr
    dsimp only at hR1
    rw [hk0, hn0] at hR1
    refine hK.out _ _ ⟨HO.of (hkeep _ HO.lt hne), hT'.begun, hR1⟩ (fun hS => ?_)
    clear hK
    simp only [Act.put, List.getElem_toArray, List.getElem_cons_succ, List.getElem_cons_zero, List.setIfInBounds_toArray, List.set_cons_zero, List.set_cons_succ]
    refine wpAnyH_take (i := 17) (v := .bool true) rfl (by kernel_rfl) (by kernel_rfl) (by kernel_rfl) (fun _ _ _ h => h) (Or.inl ⟨by kernel_rfl, fun u hu => by kernel_rfl⟩) hS ?_
    simp only [Act.put, List.getElem_toArray, List.getElem_cons_succ, List.getElem_cons_zero, List.setIfInBounds_toArray, List.set_cons_zero, List.set_cons_succ]
    refine wpAnyH_take (i := 18) (v := .bool true) rfl (by kernel_rfl) (by kernel_rfl) (by kernel_rfl) (fun _ _ _ h => h) (Or.inl ⟨by kernel_rfl, fun u hu => by kernel_rfl⟩) hS ?_
    simp only [Act.put, List.getElem_toArray, List.getElem_cons_succ, List.getElem_cons_zero, List.setIfInBounds_toArray, List.set_cons_zero, List.set_cons_succ]
    refine wpAnyH_done (by kernel_rfl) ?_ _
    go_wp2_with fail
    go_ret
    refine ⟨rfl, HBd.trans hb, fun t' ht => ?_⟩
    cases ht
    exact ⟨vr', vk', hT'⟩

end Go.Proofs.YtgldijohpfihaaaDoor
