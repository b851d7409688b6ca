/- The reader as a whole: its steps; newReader. -/
import Derived.Test.YtljmbgflcidokaaGreatDoorXOper
namespace Go.Proofs.YtljmbgflcidokaaGreatDoor
open Go.ChangeShapes Go.WideShapes Go.ChangeAt Go.RowKit Go.Maps
set_option linter.unusedVariables false
set_option linter.unusedSimpArgs false

theorem xexpr (g : Gx) (hN : NameC g) (d : Nat) (inner : Nat → Res) (hF : Fwd g.L inner) (hB : BrC g d inner) :
    StepC g 63 #[.pointer (some ⟨g.rb + 3 + 3 * 2, 0, none⟩), .pointer (some ⟨g.rb + 1 + 3 * 2, 0, none⟩), .pointer (some ⟨g.rb + 2 + 3 * 2, 0, none⟩)] d (exprOf g.K g.L inner) := by
  have s0 := xoperand_any g d inner hF (xatom_any g d inner hB hN)
  have f0 := oper_fwd (K := g.K) hF
  have s1 := xlev_0 g d _ f0 s0
  have f1 := lev_fwd (n := 0) f0
  have s2 := xlev_S g 0 (by omega) d _ f1 s1
  have f2 := lev_fwd (n := 1) f1
  exact xlev_S g 1 (by omega) d _ f2 s2
theorem xinner (g : Gx) (hN : NameC g) : ∀ d, BrC g d (innerM g.K g.L d)
  | 0 => xbracket_0 g _ (fun a => rfl)
  | d + 1 => xbracket_S g d _ (expr_fwd (inner_fwd g.K g.L d)) (xexpr g hN d _ (inner_fwd g.K g.L d) (xinner g hN d))
/-- The whole of an expression. -/
theorem xeval (g : Gx) (hN : NameC g) : StepC g 63 #[.pointer (some ⟨g.rb + 3 + 3 * 2, 0, none⟩), .pointer (some ⟨g.rb + 1 + 3 * 2, 0, none⟩), .pointer (some ⟨g.rb + 2 + 3 * 2, 0, none⟩)] 50 (evalM g.K g.L) :=
  xexpr g hN 50 _ (inner_fwd g.K g.L 50) (xinner g hN 50)
theorem eval_fwd (K : List Dx) (L : List TL) : Fwd L (evalM K L) := expr_fwd (inner_fwd K L 50)

theorem withOps_any (rb n : Nat) (fn : Fn) (f c : Array Value) (w : World) : Calls Tryz.prog 37 #[.pointer (some ⟨rb, 0, none⟩), .int .i64 n, .func fn f c] w fun e w' => e = .returned (.func (.func 63) #[] #[.pointer (some ⟨w.heap.size + 1 + 1, 0, none⟩), .pointer (some ⟨w.heap.size, 0, none⟩), .pointer (some ⟨w.heap.size + 1, 0, none⟩)]) ∧ w' = ((w.alloc (.cells #[.pointer (some ⟨rb, 0, none⟩)] 61)).alloc (.cells #[.int .i64 n] 3)).alloc (.cells #[.func fn f c] 68) := by
  have hmf : ∀ (fn : Fn) (first cap : Array Value) (w : World), (Instr.makeFunc fn first cap).run Tryz.prog w = .ok (.func fn first cap) w := by intros; rfl
  go_enter Tryz.func37, Tryz.ntmps37
  go_wp2
  go_ret
  exact ⟨rfl, rfl⟩

/-- A reader as it is made: its block, and i of its steps. -/
structure NR (w : World) (rb mb : Nat) (tv kv : Value) (a i : Nat) (W : World) : Prop where
  c0 : W.cell? ⟨rb, 0, none⟩ = some tv
  c1 : W.cell? ⟨rb, 1, none⟩ = some (.int .i64 a)
  c2 : W.cell? ⟨rb, 2, none⟩ = some (.int .i64 0)
  c3 : W.cell? ⟨rb, 3, none⟩ = some kv
  c4 : W.cell? ⟨rb, 4, none⟩ = some (.int .i64 0)
  c5 : W.cell? ⟨rb, 5, none⟩ = some (.map none)
  c6 : W.cell? ⟨rb, 6, none⟩ = some (.map (some mb))
  c7 : W.cell? ⟨rb, 7, none⟩ = some (stepF rb i)
  fz : ∀ j, W.frozen? ⟨rb, j, none⟩ = false
  st : ∀ k, k < i → StepAt W rb k
  sz : W.heap.size = rb + 1 + 3 * i
  op : OpM W mb
  mlt : mb + 8 ≤ rb
  bel : Below w.heap.size w W
  wlt : w.heap.size ≤ rb
/-- The same, when the next step's variables are there. -/
structure NM (w W0 : World) (rb mb : Nat) (tv kv : Value) (a i : Nat) (W : World) : Prop where
  nr : NR w rb mb tv kv a i W0
  bl : Below W0.heap.size W0 W
  st : StepAt W rb i
  sz : W.heap.size = rb + 1 + 3 * (i + 1)
section
variable {w W W0 : World} {rb mb a i : Nat} {tv kv : Value}
theorem NM.cell (h : NM w W0 rb mb tv kv a i W) (o : Nat) : W.cell? ⟨rb, o, none⟩ = W0.cell? ⟨rb, o, none⟩ := h.bl.cell (p := ⟨rb, o, none⟩) (by have := h.nr.sz; show rb < _; omega)
theorem NM.fz (h : NM w W0 rb mb tv kv a i W) (o : Nat) : W.frozen? ⟨rb, o, none⟩ = false := (World.frozen?_of_block (w := W0) (h.bl.block rb (by have := h.nr.sz; omega))).trans (h.nr.fz o)
theorem NM.set (h : NM w W0 rb mb tv kv a i W) (fv : Value) (hf : fv = stepF rb (i + 1)) : NR w rb mb tv kv a (i + 1) (W.setCell ⟨rb, 7, none⟩ fv) := by
  subst hf
  have ht : Turn (fun k => k = rb) W (W.setCell ⟨rb, 7, none⟩ (stepF rb (i + 1))) := Turn.setCell (S := fun k => k = rb) (Turn.refl _ W) ⟨rb, 7, none⟩ rfl _
  have hn := h.nr
  have e := h.cell
  refine ⟨?_, ?_, ?_, ?_, ?_, ?_, ?_, ?_, fun j => (World.frozen?_setCell _ _ _ _).trans (h.fz j), fun k hk => ?_, ?_, ?_, hn.mlt, ?_, hn.wlt⟩
  · simp [go_sem, e, hn.c0]
  · simp [go_sem, e, hn.c1]
  · simp [go_sem, e, hn.c2]
  · simp [go_sem, e, hn.c3]
  · simp [go_sem, e, hn.c4]
  · simp [go_sem, e, hn.c5]
  · simp [go_sem, e, hn.c6]
  · simp [go_sem, e, hn.c7]
  · refine StepAt.turn ?_ ht (fun k e => .inl (by omega))
    by_cases hki : k = i
    · subst hki; exact h.st
    · exact (hn.st k (by omega)).turn (Turn.of_below h.bl (fun _ => False)) (fun _ e => e.elim)
  · show (W.setCell ⟨rb, 7, none⟩ (stepF rb (i + 1))).heap.size = _
    have := h.sz
    simpa [World.setCell] using this
  · exact (hn.op.turn (Turn.of_below h.bl (fun _ => False)) (fun _ e => e.elim)).turn ht (fun k e => by have := hn.mlt; omega)
  · exact (bel_trans hn.bel h.bl).setCell (by dsimp only; exact hn.wlt) _
theorem step_one (h : NR w rb mb tv kv a i W) (fn : Fn) (f c : Array Value) (hf : .func fn f c = stepF rb i) : Calls Tryz.prog 37 #[.pointer (some ⟨rb, 0, none⟩), .int .i64 (i : Int), .func fn f c] W fun e w' => e = .returned (stepF rb (i + 1)) ∧ NM w W rb mb tv kv a i w' := by
  refine (withOps_any rb i fn f c W).mono ?_
  rintro e w' ⟨rfl, rfl⟩
  have hs := h.sz
  refine ⟨?_, ⟨h, bel_alloc (bel_alloc (bel_alloc (Below.refl _ _) _) _) _, ⟨?_, ?_, ?_⟩, ?_⟩⟩
  · unfold stepF
    rw [hs]
    rw [show rb + 1 + 3 * i + 1 + 1 = rb + 3 + 3 * i by omega, show rb + 1 + 3 * i + 1 = rb + 2 + 3 * i by omega]
  · exact up_alloc (up_alloc (by rw [← hs]; simp) _) _
  · refine up_alloc ?_ _
    rw [show rb + 2 + 3 * i = (W.alloc (.cells #[.pointer (some ⟨rb, 0, none⟩)] 61)).heap.size by simp; omega]
    simp only [World.cell?]
    rw [heap_alloc_new]
    rfl
  · rw [show rb + 3 + 3 * i = ((W.alloc (.cells #[.pointer (some ⟨rb, 0, none⟩)] 61)).alloc (.cells #[.int .i64 (i : Int)] 3)).heap.size by simp; omega, ← hf]
    simp only [World.cell?]
    rw [heap_alloc_new]
    rfl
  · simp; omega
theorem store7 (fv x : Value) (v : World) (hc : v.cell? ⟨rb, 7, none⟩ = some x) (hz : v.frozen? ⟨rb, 7, none⟩ = false) (hf : fv.oneCell' = true) : Sem.run Tryz.prog (store ⟨rb, 7, none⟩ fv) v = .ok () (v.setCell ⟨rb, 7, none⟩ fv) := by
  rw [run_store Tryz.prog _ _ _ _ hf, hc]
  simp [hz]
theorem step_0 (h : NR w rb mb tv kv a 0 W) : Calls Tryz.prog 37 #[.pointer (some ⟨rb, 0, none⟩), .int .i64 0, .func (.func 36) #[.pointer (some ⟨rb, 0, none⟩)] #[]] W fun e w' => e = .returned (.func (.func 63) #[] #[.pointer (some ⟨rb + 3, 0, none⟩), .pointer (some ⟨rb + 1, 0, none⟩), .pointer (some ⟨rb + 2, 0, none⟩)]) ∧ NM w W rb mb tv kv a 0 w' := step_one h _ _ _ rfl
theorem step_1 (h : NR w rb mb tv kv a 1 W) : Calls Tryz.prog 37 #[.pointer (some ⟨rb, 0, none⟩), .int .i64 1, .func (.func 63) #[] #[.pointer (some ⟨rb + 3, 0, none⟩), .pointer (some ⟨rb + 1, 0, none⟩), .pointer (some ⟨rb + 2, 0, none⟩)]] W fun e w' => e = .returned (.func (.func 63) #[] #[.pointer (some ⟨rb + 6, 0, none⟩), .pointer (some ⟨rb + 4, 0, none⟩), .pointer (some ⟨rb + 5, 0, none⟩)]) ∧ NM w W rb mb tv kv a 1 w' := step_one h _ _ _ rfl
theorem step_2 (h : NR w rb mb tv kv a 2 W) : Calls Tryz.prog 37 #[.pointer (some ⟨rb, 0, none⟩), .int .i64 2, .func (.func 63) #[] #[.pointer (some ⟨rb + 6, 0, none⟩), .pointer (some ⟨rb + 4, 0, none⟩), .pointer (some ⟨rb + 5, 0, none⟩)]] W fun e w' => e = .returned (.func (.func 63) #[] #[.pointer (some ⟨rb + 9, 0, none⟩), .pointer (some ⟨rb + 7, 0, none⟩), .pointer (some ⟨rb + 8, 0, none⟩)]) ∧ NM w W rb mb tv kv a 2 w' := step_one h _ _ _ rfl
end
set_option maxHeartbeats 4000000 in
set_option maxRecDepth 10000 in
theorem newReader_x (ao : Option Addr) (len cp : Nat) (ko : Option Addr) (klen kcp : Nat) (a : Nat) (w : World) : Calls Tryz.prog 25 #[.slice ao len cp, .int .i64 a, .slice ko klen kcp] w fun e w' => e = .returned (.pointer (some ⟨w.heap.size + 8, 0, none⟩)) ∧ NR w (w.heap.size + 8) w.heap.size (.slice ao len cp) (.slice ko klen kcp) a 3 w' := by
  have hmf : ∀ (fn : Fn) (first cap : Array Value) (w : World), (Instr.makeFunc fn first cap).run Tryz.prog w = .ok (.func fn first cap) w := by intros; rfl
  have HO : Hid _ := ⟨operators_at w w.heap.size rfl⟩
  generalize hrb : w.heap.size + 8 = rb at *
  have HST0 : ∀ w1 : World, w1.heap.size = rb → Sem.run Tryz.prog (store ⟨rb, 7, none⟩ (.func (.func 36) #[.pointer (some ⟨rb, 0, none⟩)] #[])) (w1.alloc (.cells #[.slice ao len cp, .int .i64 a, .int .i64 0, .slice ko klen kcp, .int .i64 0, .map none, .map (some w.heap.size), .nilFunc] 70)) = .ok () (w1.alloc (.cells #[.slice ao len cp, .int .i64 a, .int .i64 0, .slice ko klen kcp, .int .i64 0, .map none, .map (some w.heap.size), .func (.func 36) #[.pointer (some ⟨rb, 0, none⟩)] #[]] 70)) := by
    intro w1 h1
    rw [store7 (rb := rb) _ .nilFunc _ (by rw [← h1]; simp) (by rw [← h1]; simp only [World.frozen?]; rw [heap_alloc_new]; rfl) rfl, ← h1, World.setCell_alloc_new]
    rfl
  go_enter Tryz.func25, Tryz.ntmps25
  go_wp2_with (first
    | (go_at_call 29; (with_reducible refine HO.out.mono ?_); rintro e w1 ⟨he, hO, hb1, hs1⟩; subst he; have hs2 : w1.heap.size = rb := hs1; clear hs1; have HS0 := HST0 w1 hs2; have HO1 : Hid (OpM w1 w.heap.size ∧ Below w.heap.size w w1 ∧ w1.heap.size = rb) := ⟨hO, hb1, hs2⟩; clear hO hb1 HST0))
  have N0 : NR w rb w.heap.size (.slice ao len cp) (.slice ko klen kcp) a 0 (w1.alloc (.cells #[.slice ao len cp, .int .i64 a, .int .i64 0, .slice ko klen kcp, .int .i64 0, .map none, .map (some w.heap.size), .func (.func 36) #[.pointer (some ⟨rb, 0, none⟩)] #[]] 70)) := by
    obtain ⟨hO, hb, hs⟩ := HO1.out
    subst hs
    exact ⟨by simp, by simp, by simp, by simp, by simp, by simp, by simp, by simp; rfl, fun j => by simp only [World.frozen?]; rw [heap_alloc_new]; rfl, fun k hk => by omega, by simp, hO.turn ((Turn.refl (fun _ => False) _).alloc _) (fun _ e => e.elim), by omega, bel_alloc hb _, by omega⟩
  have HN0 : Hid _ := ⟨N0⟩
  clear N0 HO1 HS0 HO
  generalize w1.alloc (.cells #[.slice ao len cp, .int .i64 a, .int .i64 0, .slice ko klen kcp, .int .i64 0, .map none, .map (some w.heap.size), .func (.func 36) #[.pointer (some ⟨rb, 0, none⟩)] #[]] 70) = W0 at *
  have c7 : W0.cell? ⟨rb, 7, none⟩ = some (.func (.func 36) #[.pointer (some ⟨rb, 0, none⟩)] #[]) := HN0.out.c7
  refine wp_loop_rounds 4 ?_
  rw [rounds_succ]
  go_wp2_with (go_at_call 37; (with_reducible refine (step_0 HN0.out).mono ?_); rintro e W1 ⟨he, hn⟩; subst he; have HM1 : Hid _ := ⟨hn⟩; have ST := store7 (rb := rb) (.func (.func 63) #[] #[.pointer (some ⟨rb + 3, 0, none⟩), .pointer (some ⟨rb + 1, 0, none⟩), .pointer (some ⟨rb + 2, 0, none⟩)]) _ W1 ((HM1.out.cell 7).trans HN0.out.c7) (HM1.out.fz 7) rfl; clear hn c7)
  have HN1 : Hid _ := ⟨HM1.out.set (.func (.func 63) #[] #[.pointer (some ⟨rb + 3, 0, none⟩), .pointer (some ⟨rb + 1, 0, none⟩), .pointer (some ⟨rb + 2, 0, none⟩)]) rfl⟩
  generalize W1.setCell ⟨rb, 7, none⟩ (.func (.func 63) #[] #[.pointer (some ⟨rb + 3, 0, none⟩), .pointer (some ⟨rb + 1, 0, none⟩), .pointer (some ⟨rb + 2, 0, none⟩)]) = V1 at *
  have c7 : V1.cell? ⟨rb, 7, none⟩ = some (.func (.func 63) #[] #[.pointer (some ⟨rb + 3, 0, none⟩), .pointer (some ⟨rb + 1, 0, none⟩), .pointer (some ⟨rb + 2, 0, none⟩)]) := HN1.out.c7
  clear ST
  rw [rounds_succ]
  go_wp2_with (go_at_call 37; (with_reducible refine (step_1 HN1.out).mono ?_); rintro e W2 ⟨he, hn⟩; subst he; have HM2 : Hid _ := ⟨hn⟩; have ST := store7 (rb := rb) (.func (.func 63) #[] #[.pointer (some ⟨rb + 6, 0, none⟩), .pointer (some ⟨rb + 4, 0, none⟩), .pointer (some ⟨rb + 5, 0, none⟩)]) _ W2 ((HM2.out.cell 7).trans HN1.out.c7) (HM2.out.fz 7) rfl; clear hn c7)
  have HN2 : Hid _ := ⟨HM2.out.set (.func (.func 63) #[] #[.pointer (some ⟨rb + 6, 0, none⟩), .pointer (some ⟨rb + 4, 0, none⟩), .pointer (some ⟨rb + 5, 0, none⟩)]) rfl⟩
  generalize W2.setCell ⟨rb, 7, none⟩ (.func (.func 63) #[] #[.pointer (some ⟨rb + 6, 0, none⟩), .pointer (some ⟨rb + 4, 0, none⟩), .pointer (some ⟨rb + 5, 0, none⟩)]) = V2 at *
  have c7 : V2.cell? ⟨rb, 7, none⟩ = some (.func (.func 63) #[] #[.pointer (some ⟨rb + 6, 0, none⟩), .pointer (some ⟨rb + 4, 0, none⟩), .pointer (some ⟨rb + 5, 0, none⟩)]) := HN2.out.c7
  clear ST
  rw [rounds_succ]
  go_wp2_with (go_at_call 37; (with_reducible refine (step_2 HN2.out).mono ?_); rintro e W3 ⟨he, hn⟩; subst he; have HM3 : Hid _ := ⟨hn⟩; have ST := store7 (rb := rb) (.func (.func 63) #[] #[.pointer (some ⟨rb + 9, 0, none⟩), .pointer (some ⟨rb + 7, 0, none⟩), .pointer (some ⟨rb + 8, 0, none⟩)]) _ W3 ((HM3.out.cell 7).trans HN2.out.c7) (HM3.out.fz 7) rfl; clear hn c7)
  have HN3 : Hid _ := ⟨HM3.out.set (.func (.func 63) #[] #[.pointer (some ⟨rb + 9, 0, none⟩), .pointer (some ⟨rb + 7, 0, none⟩), .pointer (some ⟨rb + 8, 0, none⟩)]) rfl⟩
  generalize W3.setCell ⟨rb, 7, none⟩ (.func (.func 63) #[] #[.pointer (some ⟨rb + 9, 0, none⟩), .pointer (some ⟨rb + 7, 0, none⟩), .pointer (some ⟨rb + 8, 0, none⟩)]) = V3 at *
  clear ST
  rw [rounds_succ]
  go_wp2
  go_ret
  exact ⟨rfl, HN3.out⟩
end Go.Proofs.YtljmbgflcidokaaGreatDoor
