/- The law CfaTogether, walked. -/
import Derived.Test.YtgldijohpfihaabDoorCFind
import Derived.Test.YtgldijohpfihaabDoorCJoin
namespace Go.Proofs.YtgldijohpfihaabDoor
open Go.ChangeShapes Go.WideShapes Go.ChangeAt Go.RowKit
set_option linter.unusedVariables false
set_option linter.unusedSimpArgs false

theorem kknows : PKnows := cknows_any prows pfind pusual
theorem guard_neq (x y : Operand) (C1 C2 : Array Value) (w : World) : (eqGuard .neq 38 x y (.agg C1) (.agg C2)).run Tryd.prog w = .ok () w := by kernel_rfl
theorem exec_neqr {w : World} {a : Act} {o : Oper} {t' : TypeId} {x y : Operand} {C1 C2 : Array Value} {v : Value} (ho : o.op = .binOp .neq 38 x y t') (hx : a.eval x = .agg C1) (hy : a.eval y = .agg C2) (hl : (binOp .neq 38 (.agg C1) (.agg C2)).run Tryd.prog w = .ok v w) : (execOp a.eval o).run Tryd.prog w = .ok (.value v) w := by
  unfold execOp
  simp only [ho, hx, hy]
  simp [hl, guard_neq]
theorem Rws.range {w : World} {ao : Option Addr} {l : List Rw} (h : Rws w ao l) (hw : ∀ x ∈ l, Wf x) (h0 : 0 < l.length) : ∃ b off, ao = some ⟨b, off, none⟩ ∧ (∀ k, k < l.length → w.rangeAt b (off + k * 37) (l.getD k Rw.zero).cells) ∧ ∀ k, k < l.length → w.cell? ⟨b, off + k * 37, none⟩ = some (.int .i64 (l.getD k Rw.zero).p) := by
  rcases h with h | ⟨b, off, e, hat⟩
  · rw [h] at h0; simp at h0
  · refine ⟨b, off, e, fun k hk j v hv => ?_, fun k hk => (hat k hk).p⟩
    have hq : Wf (l.getD k Rw.zero) := hw _ (row_in hk)
    have hj : j < 37 := by have := (List.getElem?_eq_some_iff.1 hv).1; rw [Rw.cells_len hq] at this; exact this
    exact (hat k hk j hj).trans hv

theorem own_bel4 {w3 w4 w6 w7 : World} {v : Value} {i : List Oq} (h : OwnP w6 w3.heap.size v i) (hb : Below w4.heap.size w6 w7) (h4 : OwnP w4 w3.heap.size v i ∧ Below w3.heap.size w3 w4 ∧ True) : OwnP w7 w3.heap.size v i := by
  refine ⟨h.1, ?_⟩
  rcases h.2 with hn | ⟨g, cap, cur, rfl, h1, h2, h3⟩
  · exact .inl hn
  · refine .inr ⟨g, cap, cur, rfl, h1, ?_, h3⟩
    rw [hb.block g (h4.1.lt g rfl).2]
    exact h2

set_option maxRecDepth 10000 in
set_option maxHeartbeats 4000000 in
theorem cfaTogether_wk (a1 : Option Addr) (c1 : Nat) (i : List Oq) (a2 : Option Addr) (c2 : Nat) (l : List Oq) (a3 : Option Addr) (c3 : Nat) (m : List Oq) (size : Int) (w : World) (hI1 : IsOq w a1 c1 i) (h1 : i.length ≤ 1048576) (hI2 : IsOq w a2 c2 l) (h2 : l.length ≤ 1048576) (hI3 : IsOq w a3 c3 m) (h3 : m.length ≤ 1048576) (hs : (Lit.int .i64 size).wf = true) (hf : Fz w) :
    Calls Tryd.prog 4 #[.slice a1 i.length c1, .slice a2 l.length c2, .slice a3 m.length c3, .int .i64 size] w fun e w' => e = .returned (.bool true) ∧ Below w.heap.size w w' := by
  have hsz : -9223372036854775808 ≤ size ∧ size ≤ 9223372036854775807 := by
    simp [Lit.wf, IntKind.min, IntKind.max, IntKind.signed, IntKind.bits] at hs
    omega
  have HKk : Hid (∀ W : World, Below w.heap.size w W → Calls Tryd.prog 8 #[] W fun e w' => e = .returned (.bool true) ∧ Below W.heap.size W w') := ⟨fun W hb => kknows W (hf.bel hb hf.z)⟩
  have HO1 : Hid (∀ w1, Below w.heap.size w w1 → Calls Tryd.prog 6 #[.slice a1 i.length c1] w1 fun e w' => ∃ v, e = .returned v ∧ OwnP w' w1.heap.size v i ∧ Below w1.heap.size w1 w') := ⟨fun w1 hb => ops_any a1 c1 i w1 (by omega) (hI1.ops.bel hb)⟩
  have HO2 : Hid (∀ w1, Below w.heap.size w w1 → Calls Tryd.prog 6 #[.slice a2 l.length c2] w1 fun e w' => ∃ v, e = .returned v ∧ OwnP w' w1.heap.size v l ∧ Below w1.heap.size w1 w') := ⟨fun w1 hb => ops_any a2 c2 l w1 (by omega) (hI2.ops.bel hb)⟩
  have HO3 : Hid (∀ w1, Below w.heap.size w w1 → Calls Tryd.prog 6 #[.slice a3 m.length c3] w1 fun e w' => ∃ v, e = .returned v ∧ OwnP w' w1.heap.size v m ∧ Below w1.heap.size w1 w') := ⟨fun w1 hb => ops_any a3 c3 m w1 (by omega) (hI3.ops.bel hb)⟩
  have HPr : Hid (∀ (v1 v2 : Value) (w1 : World) (b1 b2 : Nat), OwnP w1 b1 v1 i → OwnP w1 b2 v2 l → Below w.heap.size w w1 → Calls Tryd.prog 5 #[v1, v2, .int .i64 size] w1 fun e w' => ∃ v, e = .returned (.tuple #[v, .int .i64 (rowsE i l size)]) ∧ OwnW w' w1.heap.size v (rowsL i l size) ∧ Below w1.heap.size w1 w') := ⟨fun v1 v2 w1 b1 b2 ho1 ho2 hbw => by
    obtain ⟨d1, e1, rfl, hi1⟩ := ho1.is
    obtain ⟨d2, e2, rfl, hi2⟩ := ho2.is
    exact prows d1 e1 i d2 e2 l size w1 (by omega) (by omega) hsz hi1 hi2 (hf.bel hbw hf.z)⟩
  have HPq : Hid (∀ (v1 v2 : Value) (w1 : World) (b1 b2 : Nat), OwnP w1 b1 v1 i → OwnP w1 b2 v2 (l ++ m) → Below w.heap.size w w1 → Calls Tryd.prog 5 #[v1, v2, .int .i64 size] w1 fun e w' => ∃ v, e = .returned (.tuple #[v, .int .i64 (rowsE i (l ++ m) size)]) ∧ OwnW w' w1.heap.size v (rowsL i (l ++ m) size) ∧ Below w1.heap.size w1 w') := ⟨fun v1 v2 w1 b1 b2 ho1 ho2 hbw => by
    obtain ⟨d1, e1, rfl, hi1⟩ := ho1.is
    obtain ⟨d2, e2, rfl, hi2⟩ := ho2.is
    exact prows d1 e1 i d2 e2 (l ++ m) size w1 (by omega) (by rw [List.length_append]; omega) hsz hi1 hi2 (hf.bel hbw hf.z)⟩
  have HLm : Hid (l.length + m.length ≤ 4398046511104) := ⟨by omega⟩
  have HTn : Hid (rowsE i l size ≠ 0 → rowsE i (l ++ m) size ≠ 0) := ⟨together_no⟩
  have HTg : Hid (rowsE i l size = 0 → rowsE i (l ++ m) size = 0 → (∃ A y x R, rowsL i l size = A ++ [y] ∧ rowsL i (l ++ m) size = A ++ x :: R ∧ x.p = y.p) ∧ (∀ x ∈ rowsL i l size, Rk x) ∧ (rowsL i l size).length ≤ 4001 ∧ (rowsL i (l ++ m) size).length ≤ 4001) := ⟨fun e1 e2 => ⟨together e1 e2, rk_rows e1, rows_len e1, rows_len e2⟩⟩
  clear hI1 hI2 hI3 h1 h2 h3 hs hsz hf
  obtain ⟨E1, hE1⟩ : ∃ E, rowsE i l size = E := ⟨_, rfl⟩
  obtain ⟨E2, hE2⟩ : ∃ E, rowsE i (l ++ m) size = E := ⟨_, rfl⟩
  obtain ⟨R1, hR1⟩ : ∃ R, rowsL i l size = R := ⟨_, rfl⟩
  obtain ⟨R2, hR2⟩ : ∃ R, rowsL i (l ++ m) size = R := ⟨_, rfl⟩
  rw [hE1, hR1] at HPr
  rw [hE2, hR2] at HPq
  rw [hE1, hE2] at HTn
  rw [hE1, hE2, hR1, hR2] at HTg
  clear hE1 hE2 hR1 hR2
  go_enter Tryd.func4, Tryd.ntmps4
  go_upto_region 2 with (first
    | (go_at_call 6; (with_reducible refine (HO1.out _ (Below.refl _ _)).mono ?_); rintro e w1 ⟨v1, he, ho1, hb1⟩; subst he; have H1 : Hid _ := ⟨ho1⟩; have HB1 : Hid _ := ⟨hb1⟩; clear ho1 hb1)
    | (go_at_call 6; (with_reducible refine (HO2.out _ HB1.out).mono ?_); rintro e w2 ⟨v2, he, ho2, hb2⟩; subst he; have H2 : Hid (OwnP w2 w.heap.size v1 i ∧ OwnP w2 w1.heap.size v2 l ∧ Below w.heap.size w w2) := ⟨H1.out.bel hb2, ho2, HB1.out.trans (hb2.mono HB1.out.size)⟩; clear ho2 hb2)
    | (go_at_call 5; (with_reducible refine (HPr.out _ _ _ _ _ H2.out.1 H2.out.2.1 H2.out.2.2).mono ?_); rintro e w3 ⟨v3, he, ho3, hb3⟩; subst he; have H3 : Hid _ := ⟨ho3⟩; have HB3 : Hid (Below w.heap.size w w3) := ⟨H2.out.2.2.trans (hb3.mono H2.out.2.2.size)⟩; clear ho3 hb3))
  go_upto_region 3 with (first
    | (go_at_call 6; (with_reducible refine (HO1.out _ HB3.out).mono ?_); rintro e w4 ⟨v4, he, ho4, hb4⟩; subst he; have H4 : Hid (OwnP w4 w3.heap.size v4 i ∧ Below w3.heap.size w3 w4 ∧ Below w.heap.size w w4) := ⟨ho4, hb4, HB3.out.trans (hb4.mono HB3.out.size)⟩; clear ho4 hb4)
    | (go_at_call 6; (with_reducible refine (HO2.out _ H4.out.2.2).mono ?_); rintro e w5 ⟨v5, he, ho5, hb5⟩; subst he; have H5 : Hid (OwnP w5 w3.heap.size v4 i ∧ OwnP w5 w4.heap.size v5 l ∧ Below w3.heap.size w3 w5 ∧ Below w.heap.size w w5) := ⟨H4.out.1.bel hb5, ho5, H4.out.2.1.trans (hb5.mono H4.out.2.1.size), H4.out.2.2.trans (hb5.mono H4.out.2.2.size)⟩; have HZ5 : Hid (w4.heap.size ≤ w5.heap.size) := ⟨hb5.size⟩; clear ho5 hb5)
    | (go_at_call 6; (with_reducible refine (HO3.out _ H5.out.2.2.2).mono ?_); rintro e w6 ⟨v6, he, ho6, hb6⟩; subst he; have H6 : Hid (OwnP w6 w3.heap.size v4 i ∧ OwnP w6 w4.heap.size v5 l ∧ OwnP w6 w5.heap.size v6 m ∧ Below w3.heap.size w3 w6 ∧ Below w.heap.size w w6 ∧ w4.heap.size ≤ w6.heap.size) := ⟨H5.out.1.bel hb6, H5.out.2.1.bel hb6, ho6, H5.out.2.2.1.trans (hb6.mono H5.out.2.2.1.size), H5.out.2.2.2.trans (hb6.mono H5.out.2.2.2.size), Nat.le_trans HZ5.out hb6.size⟩; clear ho6 hb6; obtain ⟨d6, f6, hv6, hi6⟩ := H6.out.2.2.1.is; subst hv6; have HI6 : Hid _ := ⟨hi6⟩; clear hi6)
    | (at_builtin; refine append_opsP w6 rfl _ _ rfl w4.heap.size v5 l rfl H6.out.2.1 d6 f6 m rfl HI6.out.ops HI6.out.nil HLm.out H6.out.2.2.2.2.2 ?_; intro v7 w7 ho7 hb7; have H7 : Hid (OwnP w7 w4.heap.size v7 (l ++ m) ∧ Below w4.heap.size w6 w7) := ⟨ho7, hb7⟩; clear ho7 hb7)
    | (go_at_call 5; (with_reducible refine (HPq.out _ _ _ w3.heap.size w4.heap.size (own_bel4 H6.out.1 H7.out.2 ⟨H4.out.1, H4.out.2.1, trivial⟩) H7.out.1 (H6.out.2.2.2.2.1.trans (H7.out.2.mono H4.out.2.2.size))).mono ?_); rintro e w8 ⟨v8, he, ho8, hb8⟩; subst he; have H8 : Hid _ := ⟨ho8⟩; have HB8 : Hid (Below w3.heap.size w3 w8 ∧ Below w.heap.size w w8) := ⟨(H6.out.2.2.2.1.trans (H7.out.2.mono H4.out.2.1.size)).trans (hb8.mono (Nat.le_trans H6.out.2.2.2.1.size H7.out.2.size)), (H6.out.2.2.2.2.1.trans (H7.out.2.mono H4.out.2.2.size)).trans (hb8.mono (Nat.le_trans H6.out.2.2.2.2.1.size H7.out.2.size))⟩; clear ho8 hb8))
  have b0 : True := trivial
  by_cases e1 : E1 = 0
  rotate_left
  · have e2 := HTn.out e1
    have g1 : (E1 != 0) = true := by simpa using e1
    have g2 : (E1 == 0) = false := by simpa using e1
    have g3 : (E2 != 0) = true := by simpa using e2
    go_wp2_with (first
      | (go_at_call 7; (with_reducible refine (cnum_any _ _).mono ?_); rintro e wn ⟨he, hwn⟩; subst he; subst wn)
      | (go_at_call 8; (with_reducible refine (HKk.out _ HB8.out.2).mono ?_); rintro e w9 ⟨he, hb9⟩; subst he; have HB9 : Hid (Below w.heap.size w w9) := ⟨HB8.out.2.trans (hb9.mono HB8.out.2.size)⟩; clear hb9))
    go_ret
    exact ⟨rfl, HB9.out⟩
  subst e1
  by_cases e2 : E2 = 0
  rotate_left
  · have g3 : (E2 != 0) = true := by simpa using e2
    go_wp2_with (first
      | (go_at_call 7; (with_reducible refine (cnum_any _ _).mono ?_); rintro e wn ⟨he, hwn⟩; subst he; subst wn)
      | (go_at_call 8; (with_reducible refine (HKk.out _ HB8.out.2).mono ?_); rintro e w9 ⟨he, hb9⟩; subst he; have HB9 : Hid (Below w.heap.size w w9) := ⟨HB8.out.2.trans (hb9.mono HB8.out.2.size)⟩; clear hb9))
    go_ret
    exact ⟨rfl, HB9.out⟩
  subst e2
  go_upto_region 5 with (first
    | (go_at_call 7; (with_reducible refine (cnum_any _ _).mono ?_); rintro e wn ⟨he, hwn⟩; subst he; subst wn)
    | (go_at_call 8; (with_reducible refine (HKk.out _ HB8.out.2).mono ?_); rintro e w9 ⟨he, hb9⟩; subst he; have HB9 : Hid (Below w.heap.size w w9 ∧ Below w3.heap.size w3 w9 ∧ Below w8.heap.size w8 w9) := ⟨HB8.out.2.trans (hb9.mono HB8.out.2.size), HB8.out.1.trans (hb9.mono HB8.out.1.size), hb9⟩; clear hb9))
  obtain ⟨⟨A, y, x, R, hr1, hr2, hxy⟩, hrk, hl1, hl2⟩ := HTg.out (by first | rfl | trivial) (by first | rfl | trivial)
  have o1 := H3.out.bel HB9.out.2.1
  have o2 := H8.out.bel HB9.out.2.2
  have hw1 := o1.1
  have hw2 := o2.1
  obtain ⟨q1, f1, hv3, _, _, hrw1, _⟩ := o1.any
  obtain ⟨q2, f2, hv8, _, _, hrw2, _⟩ := o2.any
  have hn1 : R1.length = A.length + 1 := by rw [hr1]; simp
  have hn2 : R2.length = A.length + 1 + R.length := by rw [hr2]; simp; omega
  obtain ⟨d1, s1, rfl, hg1, hp1⟩ := hrw1.range hw1 (by omega)
  obtain ⟨d2, s2, rfl, hg2, hp2⟩ := hrw2.range hw2 (by omega)
  subst hv3 hv8
  have hA1 : ∀ k, k < A.length → R1.getD k Rw.zero = A.getD k Rw.zero := fun k hk => by rw [hr1]; simp [List.getD, List.getElem?_append_left hk]
  have hA2 : ∀ k, k < A.length → R2.getD k Rw.zero = A.getD k Rw.zero := fun k hk => by rw [hr2]; simp [List.getD, List.getElem?_append_left hk]
  have hy : (R1.getD A.length Rw.zero).p = y.p := by rw [hr1]; simp
  have hx : (R2.getD A.length Rw.zero).p = y.p := by rw [hr2, ← hxy]; simp
  have HX : Hid ((∀ k, k < A.length → w9.rangeAt d1 (s1 + k * 37) (A.getD k Rw.zero).cells ∧ w9.rangeAt d2 (s2 + k * 37) (A.getD k Rw.zero).cells ∧ Rk (A.getD k Rw.zero)) ∧ w9.cell? ⟨d1, s1 + A.length * 37, none⟩ = some (.int .i64 y.p) ∧ w9.cell? ⟨d2, s2 + A.length * 37, none⟩ = some (.int .i64 y.p)) := ⟨fun k hk => ⟨by rw [← hA1 k hk]; exact hg1 k (by omega), by rw [← hA2 k hk]; exact hg2 k (by omega), by rw [← hA1 k hk]; exact hrk _ (row_in (by omega))⟩, by rw [← hy]; exact hp1 _ (by omega), by rw [← hx]; exact hp2 _ (by omega)⟩
  have HL : Hid (A.length ≤ 4000) := ⟨by omega⟩
  obtain ⟨n1, hn1'⟩ : ∃ n, R1.length = n := ⟨_, rfl⟩
  obtain ⟨n2, hn2'⟩ : ∃ n, R2.length = n := ⟨_, rfl⟩
  rw [hn1', hn2']
  have hc1 : n1 = A.length + 1 := by omega
  have hc2 : n1 ≤ n2 := by omega
  have hc2i : ¬ (n2 : Int) < (n1 : Int) := by omega
  have hcn : n2 ≤ 4001 := by omega
  generalize y.p = yp at *
  clear hr1 hr2 hxy hrk hl1 hl2 o1 o2 hw1 hw2 hrw1 hrw2 hn1 hn2 hg1 hg2 hp1 hp2 hA1 hA2 hy hx hn1' hn2' HTn HTg HPr HPq HO1 HO2 HO3 H3 H8 H7 H6 H5 H4 HI6 HZ5 HLm
  obtain ⟨na, hna⟩ : ∃ n, A.length = n := ⟨_, rfl⟩
  rw [hna] at HX HL hc1
  have hnaI : (n1 : Int) = (na : Int) + 1 := by omega
  have hna4 : (na : Int) ≤ 4000 := by have := HL.out; omega
  have HC : Hid (n1 = na + 1 ∧ n1 ≤ n2 ∧ (n1 : Int) = (na : Int) + 1) := ⟨hc1, hc2, hnaI⟩
  clear hna hc1 hc2 hnaI
  go_wp2
  go_loopw [13] (fun iv wr => ∃ k : Nat, k ≤ na ∧ iv = .int .i64 k ∧ Hid (Below w9.heap.size w9 wr)) (fun iv _ => na - (intOf iv).toNat)
  case atStart => exact ⟨0, by omega, rfl, ⟨Below.refl _ _⟩⟩
  case round =>
    obtain ⟨k, hk, rfl, HW⟩ := hrel
    by_cases hlt : k < na
    · have g1 : (k : Int) + 1 < (n1 : Int) := by have := HC.out; omega
      obtain ⟨r1, r2, hrk⟩ := HX.out.1 k hlt
      have hwf : Wf (A.getD k Rw.zero) := hrk.wf
      have r1' : wr.drew.rangeAt d1 (s1 + k * 37) (A.getD k Rw.zero).cells := fun j v hv => (HW.out.drew.cell (p := ⟨d1, s1 + k * 37 + j, none⟩) (World.block_lt_of_cell? _ _ (r1 j v hv))).trans (r1 j v hv)
      have r2' : wr.drew.rangeAt d2 (s2 + k * 37) (A.getD k Rw.zero).cells := fun j v hv => (HW.out.drew.cell (p := ⟨d2, s2 + k * 37 + j, none⟩) (World.block_lt_of_cell? _ _ (r2 j v hv))).trans (r2 j v hv)
      have hk1 : k < n1 := by have := HC.out; omega
      have hk2 : k < n2 := by have := HC.out; omega
      generalize A.getD k Rw.zero = q at *
      clear r1 r2
      go_upto_region 10 with fail
      refine wp_region_held_drew (S := fun u => u.rangeAt d1 (s1 + k * 37) q.cells ∧ u.rangeAt d2 (s2 + k * 37) q.cells) (by kernel_rfl) ⟨r1', r2'⟩ (fun hS => ?_)
      refine wpAnyH_take (i := 0) (v := .slice (some ⟨d1, s1, none⟩) n1 f1) rfl (by kernel_rfl) (by kernel_rfl) (by kernel_rfl) (fun _ _ _ h => h) (Or.inl ⟨by kernel_rfl, fun u hu => by kernel_rfl⟩) hS ?_
      simp only [Act.put, List.getElem_toArray, List.getElem_cons_succ, List.getElem_cons_zero, List.setIfInBounds_toArray, List.set_cons_zero, List.set_cons_succ]
      refine wpAnyH_take (i := 1) (v := .int .i64 (k : Int)) rfl (by kernel_rfl) (by kernel_rfl) (by kernel_rfl) (fun _ _ _ h => h) (Or.inl ⟨by kernel_rfl, fun u hu => by kernel_rfl⟩) hS ?_
      simp only [Act.put, List.getElem_toArray, List.getElem_cons_succ, List.getElem_cons_zero, List.setIfInBounds_toArray, List.set_cons_zero, List.set_cons_succ]
      refine wpAnyH_take (i := 2) (v := .pointer (some ⟨d1, s1 + k * 37, none⟩)) rfl (by kernel_rfl) (by kernel_rfl) (by kernel_rfl) (fun _ _ _ h => h) (Or.inl ⟨by kernel_rfl, fun u hu => exec_ix rfl (by kernel_rfl) (by kernel_rfl) (ix_rowo d1 s1 n1 f1 k hk1 u)⟩) hS ?_
      simp only [Act.put, List.getElem_toArray, List.getElem_cons_succ, List.getElem_cons_zero, List.setIfInBounds_toArray, List.set_cons_zero, List.set_cons_succ]
      refine wpAnyH_take (i := 3) (v := .agg q.cells.toArray) rfl (by kernel_rfl) (by kernel_rfl) (by kernel_rfl) (fun _ _ _ h => h) (Or.inl ⟨by kernel_rfl, fun u hu => exec_loadV (t := 38) (p := ⟨d1, s1 + k * 37, none⟩) rfl (by kernel_rfl) (load_row hwf hu.1)⟩) hS ?_
      simp only [Act.put, List.getElem_toArray, List.getElem_cons_succ, List.getElem_cons_zero, List.setIfInBounds_toArray, List.set_cons_zero, List.set_cons_succ]
      refine wpAnyH_take (i := 4) (v := .slice (some ⟨d2, s2, none⟩) n2 f2) rfl (by kernel_rfl) (by kernel_rfl) (by kernel_rfl) (fun _ _ _ h => h) (Or.inl ⟨by kernel_rfl, fun u hu => by kernel_rfl⟩) hS ?_
      simp only [Act.put, List.getElem_toArray, List.getElem_cons_succ, List.getElem_cons_zero, List.setIfInBounds_toArray, List.set_cons_zero, List.set_cons_succ]
      refine wpAnyH_take (i := 5) (v := .int .i64 (k : Int)) rfl (by kernel_rfl) (by kernel_rfl) (by kernel_rfl) (fun _ _ _ h => h) (Or.inl ⟨by kernel_rfl, fun u hu => by kernel_rfl⟩) hS ?_
      simp only [Act.put, List.getElem_toArray, List.getElem_cons_succ, List.getElem_cons_zero, List.setIfInBounds_toArray, List.set_cons_zero, List.set_cons_succ]
      refine wpAnyH_take (i := 6) (v := .pointer (some ⟨d2, s2 + k * 37, none⟩)) rfl (by kernel_rfl) (by kernel_rfl) (by kernel_rfl) (fun _ _ _ h => h) (Or.inl ⟨by kernel_rfl, fun u hu => exec_ix rfl (by kernel_rfl) (by kernel_rfl) (ix_rowo d2 s2 n2 f2 k hk2 u)⟩) hS ?_
      simp only [Act.put, List.getElem_toArray, List.getElem_cons_succ, List.getElem_cons_zero, List.setIfInBounds_toArray, List.set_cons_zero, List.set_cons_succ]
      refine wpAnyH_take (i := 7) (v := .agg q.cells.toArray) rfl (by kernel_rfl) (by kernel_rfl) (by kernel_rfl) (fun _ _ _ h => h) (Or.inl ⟨by kernel_rfl, fun u hu => exec_loadV (t := 38) (p := ⟨d2, s2 + k * 37, none⟩) rfl (by kernel_rfl) (load_row hwf hu.2)⟩) hS ?_
      simp only [Act.put, List.getElem_toArray, List.getElem_cons_succ, List.getElem_cons_zero, List.setIfInBounds_toArray, List.set_cons_zero, List.set_cons_succ]
      refine wpAnyH_take (i := 8) (v := .bool false) rfl (by kernel_rfl) (by kernel_rfl) (by kernel_rfl) (fun _ _ _ h => h) (Or.inl ⟨by kernel_rfl, fun u hu => exec_neqr rfl (by kernel_rfl) (by kernel_rfl) (neq_row hrk u)⟩) hS ?_
      simp only [Act.put, List.getElem_toArray, List.getElem_cons_succ, List.getElem_cons_zero, List.setIfInBounds_toArray, List.set_cons_zero, List.set_cons_succ]
      refine wpAnyH_done (by kernel_rfl) ?_ _
      clear r1' r2' hS
      go_wp2_with fail
      go_roundw
      case rel => exact ⟨k + 1, by omega, by go_num, ⟨HW.out.drew⟩⟩
      case measure => simp [intOf]; omega
    · obtain rfl : k = na := by omega
      have g1 : ¬ (k : Int) + 1 < (n1 : Int) := by have := HC.out; omega
      have c1 := (HW.out.cell (p := ⟨d1, s1 + k * 37, none⟩) (World.block_lt_of_cell? _ _ HX.out.2.1)).trans HX.out.2.1
      have c2 := (HW.out.cell (p := ⟨d2, s2 + k * 37, none⟩) (World.block_lt_of_cell? _ _ HX.out.2.2)).trans HX.out.2.2
      have hm1 : (n1 : Int) - 1 = (k : Int) := by have := HC.out; omega
      have hk0 : (0 : Int) ≤ (k : Int) := by omega
      have hk1 : (k : Int) < (n1 : Int) := by have := HC.out; omega
      have hk2 : (k : Int) < (n2 : Int) := by have := HC.out; omega
      have hyy : (yp == yp) = true := by simp
      go_wp2
      go_quiet (fail)
      go_wp2
      go_ret
      exact ⟨rfl, HB9.out.1.trans ((cbelow_drewN HW.out _).mono HB9.out.1.size)⟩
end Go.Proofs.YtgldijohpfihaabDoor
