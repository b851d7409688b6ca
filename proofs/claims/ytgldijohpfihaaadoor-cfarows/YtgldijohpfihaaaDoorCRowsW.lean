/- The law CfaRows, walked. -/
import Derived.Test.YtgldijohpfihaaaDoorCD12
import Derived.Test.YtgldijohpfihaaaDoorCPCheck
namespace Go.Proofs.YtgldijohpfihaaaDoor
open Go.ChangeShapes Go.WideShapes Go.ChangeAt Go.RowKit
set_option linter.unusedVariables false
set_option linter.unusedSimpArgs false

theorem rws_range {w : World} {ao : Option Addr} {l : List Rw} (h : Rws w ao l) (hw : ∀ x ∈ l, Wf x) (h0 : 0 < l.length) : ∃ b off, ao = some ⟨b, off, none⟩ ∧ ∀ k, k < l.length → w.rangeAt b (off + k * 37) (l.getD k Rw.zero).cells := by
  rcases h with h | ⟨b, off, e, hat⟩
  · rw [h] at h0; simp at h0
  · refine ⟨b, off, e, fun k hk j v hv => ?_⟩
    have hq : Wf (l.getD k Rw.zero) := hw _ (row_in hk)
    have hj : j < 37 := by have := (List.getElem?_eq_some_iff.1 hv).1; rw [Rw.cells_len hq] at this; exact this
    exact (hat k hk j hj).trans hv
theorem find_wf {l : List Rw} (hw : ∀ y ∈ l, Wf y) (x : Int) : Wf ((findM l x).getD Rw.zero) := by
  unfold findM
  by_cases h : x < 0
  · rw [if_pos h]; exact Wf0
  · rw [if_neg h]
    cases hg : (l.takeWhile (fun q => decide (q.p ≤ x))).getLast? with
    | none => exact Wf0
    | some y => exact hw y ((List.takeWhile_sublist _).subset (List.mem_of_getLast? hg))
theorem rknows : PKnows := cknows_any prows pfind pusual
set_option maxRecDepth 10000 in
set_option maxHeartbeats 4000000 in
theorem cfaRows_wk (a1 : Option Addr) (c1 : Nat) (i : List Oq) (a2 : Option Addr) (c2 : Nat) (l : List Oq) (size x : Int) (w : World) (hI1 : IsOq w a1 c1 i) (h1 : i.length ≤ 5864062014634) (hI2 : IsOq w a2 c2 l) (h2 : l.length ≤ 5864062014634) (hs : (Lit.int .i64 size).wf = true) (hx : (Lit.int .i64 x).wf = true) (hf : Fz w) :
    Calls Tryd.prog 3 #[.slice a1 i.length c1, .slice a2 l.length c2, .int .i64 size, .int .i64 x] w fun e w' => e = .returned (.bool true) ∧ Below w.heap.size w w' := by
  have hsz : -9223372036854775808 ≤ size ∧ size ≤ 9223372036854775807 := by
    simp [Lit.wf, IntKind.min, IntKind.max, IntKind.signed, IntKind.bits] at hs
    omega
  have hxz : -9223372036854775808 ≤ x ∧ x ≤ 9223372036854775807 := by
    simp [Lit.wf, IntKind.min, IntKind.max, IntKind.signed, IntKind.bits] at hx
    omega
  have HKk : Hid (∀ W : World, Below w.heap.size w W → Calls Tryd.prog 15 #[] W fun e w' => e = .returned (.bool true) ∧ Below W.heap.size W w') := ⟨fun W hb => rknows W (hf.bel hb hf.z)⟩
  have HO1 : Hid (∀ w1, Below w.heap.size w w1 → Calls Tryd.prog 9 #[.slice a1 i.length c1] w1 fun e w' => ∃ v, e = .returned v ∧ OwnP w' w1.heap.size v i ∧ Below w1.heap.size w1 w') := ⟨fun w1 hb => ops_any a1 c1 i w1 h1 (hI1.ops.bel hb)⟩
  have HO2 : Hid (∀ w1, Below w.heap.size w w1 → Calls Tryd.prog 9 #[.slice a2 l.length c2] w1 fun e w' => ∃ v, e = .returned v ∧ OwnP w' w1.heap.size v l ∧ Below w1.heap.size w1 w') := ⟨fun w1 hb => ops_any a2 c2 l w1 h2 (hI2.ops.bel hb)⟩
  have HPr : Hid (∀ (d1 : Option Addr) (e1 : Nat) (d2 : Option Addr) (e2 : Nat) (w1 : World), IsOq w1 d1 e1 i → IsOq w1 d2 e2 l → Below w.heap.size w w1 → Calls Tryd.prog 10 #[.slice d1 i.length e1, .slice d2 l.length e2, .int .i64 size] w1 fun e w' => ∃ v, e = .returned (.tuple #[v, .int .i64 (rowsE i l size)]) ∧ OwnW w' w1.heap.size v (rowsL i l size) ∧ Below w1.heap.size w1 w') := ⟨fun d1 e1 d2 e2 w1 hi1 hi2 hbw => prows d1 e1 i d2 e2 l size w1 h1 (by omega) hsz hi1 hi2 (hf.bel hbw hf.z)⟩
  have HPc : Hid (∀ (d1 : Option Addr) (e1 : Nat) (d2 : Option Addr) (e2 : Nat) (w1 : World), IsOq w1 d1 e1 i → IsOq w1 d2 e2 l → Below w.heap.size w w1 → Calls Tryd.prog 13 #[.slice d1 i.length e1, .slice d2 l.length e2, .int .i64 size] w1 fun e w' => e = .returned (.int .i64 (rowsE i l size)) ∧ Below w1.heap.size w1 w') := ⟨fun d1 e1 d2 e2 w1 hi1 hi2 hbw => pcheck d1 e1 i d2 e2 l size w1 h1 (by omega) hsz hi1 hi2 (hf.bel hbw hf.z)⟩
  have HRr : Hid (∀ (w1 : World), Below w.heap.size w w1 → Calls Tryd.prog 11 #[.slice a1 i.length c1, .slice a2 l.length c2, .int .i64 size] w1 fun e w' => ∃ v, e = .returned (.tuple #[v, .int .i64 (rowsE i l size)]) ∧ OwnV w' w1.heap.size v (rowsL i l size) ∧ Below w1.heap.size w1 w') := ⟨fun w1 hbw => rrows_any a1 c1 i a2 c2 l size w1 h1 (by omega) hsz (hI1.ops.bel hbw) (hI2.ops.bel hbw)⟩
  have HSi : Hid (∀ (d1 : Option Addr) (e1 : Nat) (w1 : World), IsOq w1 d1 e1 i → Below w.heap.size w w1 → Calls Tryd.prog 14 #[.slice d1 i.length e1, .slice a1 i.length c1] w1 fun e w' => e = .returned (.bool true) ∧ Below w1.heap.size w1 w') := ⟨fun d1 e1 w1 hi hbw => same_any d1 a1 e1 c1 i w1 (by omega) hi.ops (hI1.ops.bel hbw)⟩
  have HSl : Hid (∀ (d1 : Option Addr) (e1 : Nat) (w1 : World), IsOq w1 d1 e1 l → Below w.heap.size w w1 → Calls Tryd.prog 14 #[.slice d1 l.length e1, .slice a2 l.length c2] w1 fun e w' => e = .returned (.bool true) ∧ Below w1.heap.size w1 w') := ⟨fun d1 e1 w1 hi hbw => same_any d1 a2 e1 c2 l w1 (by omega) hi.ops (hI2.ops.bel hbw)⟩
  have HXz : Hid _ := ⟨hxz⟩
  have HRn : Hid ((rowsL i l size).length ≤ 4001) := ⟨by
    by_cases e : rowsE i l size = 0
    · exact rows_len e
    · rw [rows_no e]; decide⟩
  clear hI1 hI2 h1 h2 hs hx hsz hxz hf
  obtain ⟨E, hE⟩ : ∃ E, rowsE i l size = E := ⟨_, rfl⟩
  obtain ⟨R, hR⟩ : ∃ R, rowsL i l size = R := ⟨_, rfl⟩
  rw [hE, hR] at HPr HRr
  rw [hE] at HPc
  rw [hR] at HRn
  clear hE hR
  have g1 : ((R.length : Int) != (R.length : Int)) = false := by simp
  have g2 : (E != E) = false := by simp
  go_enter Tryd.func3, Tryd.ntmps3
  go_wp2_with (first
    | (go_at_call 9; (with_reducible refine (HO1.out _ (Below.refl _ _)).mono ?_); rintro e w1 ⟨v1, he, ho1, hb1⟩; subst he; have H1 : Hid _ := ⟨ho1⟩; have HB1 : Hid _ := ⟨hb1⟩; clear ho1 hb1)
    | (go_at_call 9; (with_reducible refine (HO2.out _ HB1.out).mono ?_); rintro e w2 ⟨v2, he, ho2, hb2⟩; subst he; obtain ⟨d1, e1, hv1, hi1⟩ := (H1.out.bel hb2).is; obtain ⟨d2, e2, hv2, hi2⟩ := ho2.is; subst hv1 hv2; have H2 : Hid (IsOq w2 d1 e1 i ∧ IsOq w2 d2 e2 l) := ⟨hi1, hi2⟩; have HB2 : Hid (Below w.heap.size w w2) := ⟨HB1.out.trans (hb2.mono HB1.out.size)⟩; clear ho2 hb2 hi1 hi2 H1)
    | (go_at_call 10; (with_reducible refine (HPr.out _ _ _ _ _ H2.out.1 H2.out.2 HB2.out).mono ?_); rintro e w3 ⟨v3, he, ho3, hb3⟩; subst he; have H3 : Hid (OwnW w3 w2.heap.size v3 R ∧ Below w2.heap.size w2 w3) := ⟨ho3, hb3⟩; have HB3 : Hid (Below w.heap.size w w3) := ⟨HB2.out.trans (hb3.mono HB2.out.size)⟩; clear ho3 hb3)
    | (go_at_call 11; (with_reducible refine (HRr.out _ HB3.out).mono ?_); rintro e w4 ⟨v4, he, ho4, hb4⟩; subst he; obtain ⟨q3, f3, hv3, _⟩ := H3.out.1.any; obtain ⟨q4, f4, hv4, _⟩ := ho4.any; subst hv3 hv4; have H4 : Hid (OwnW w4 w2.heap.size (.slice q3 R.length f3) R ∧ OwnV w4 w3.heap.size (.slice q4 R.length f4) R ∧ Below w2.heap.size w2 w4) := ⟨H3.out.1.bel hb4, ho4, H3.out.2.trans (hb4.mono H3.out.2.size)⟩; have HB4 : Hid (Below w.heap.size w w4) := ⟨HB3.out.trans (hb4.mono HB3.out.size)⟩; clear ho4 hb4)
    | (go_at_call 12; (with_reducible refine (cnum_any _ _).mono ?_); rintro e wn ⟨he, hwn⟩; subst he; subst wn)
    | (go_at_call 13; (with_reducible refine (HPc.out _ _ _ _ _ (H2.out.1.bel H4.out.2.2) (H2.out.2.bel H4.out.2.2) HB4.out).mono ?_); rintro e w5 ⟨he, hb5⟩; subst he; have H5 : Hid (OwnW w5 w2.heap.size (.slice q3 R.length f3) R ∧ OwnV w5 w3.heap.size (.slice q4 R.length f4) R ∧ Below w2.heap.size w2 w5) := ⟨H4.out.1.bel hb5, H4.out.2.1.bel hb5, H4.out.2.2.trans (hb5.mono H4.out.2.2.size)⟩; have HB5 : Hid (Below w.heap.size w w5) := ⟨HB4.out.trans (hb5.mono HB4.out.size)⟩; clear hb5)
    | (go_at_call 14; (with_reducible refine (HSi.out _ _ _ (H2.out.1.bel H5.out.2.2) HB5.out).mono ?_); rintro e w6 ⟨he, hb6⟩; subst he; have H6 : Hid (OwnW w6 w2.heap.size (.slice q3 R.length f3) R ∧ OwnV w6 w3.heap.size (.slice q4 R.length f4) R ∧ Below w2.heap.size w2 w6) := ⟨H5.out.1.bel hb6, H5.out.2.1.bel hb6, H5.out.2.2.trans (hb6.mono H5.out.2.2.size)⟩; have HB6 : Hid (Below w.heap.size w w6) := ⟨HB5.out.trans (hb6.mono HB5.out.size)⟩; clear hb6 HSi)
    | (go_at_call 14; (with_reducible refine (HSl.out _ _ _ (H2.out.2.bel H6.out.2.2) HB6.out).mono ?_); rintro e w7 ⟨he, hb7⟩; subst he; have H7 : Hid (OwnW w7 w2.heap.size (.slice q3 R.length f3) R ∧ OwnV w7 w3.heap.size (.slice q4 R.length f4) R) := ⟨H6.out.1.bel hb7, H6.out.2.1.bel hb7⟩; have HB7 : Hid (Below w.heap.size w w7) := ⟨HB6.out.trans (hb7.mono HB6.out.size)⟩; clear hb7)
    | (go_at_call 15; (with_reducible refine (HKk.out _ HB7.out).mono ?_); rintro e w8 ⟨he, hb8⟩; subst he; have H8 : Hid (OwnW w8 w2.heap.size (.slice q3 R.length f3) R ∧ OwnV w8 w3.heap.size (.slice q4 R.length f4) R) := ⟨H7.out.1.bel hb8, H7.out.2.bel hb8⟩; have HB8 : Hid (Below w.heap.size w w8) := ⟨HB7.out.trans (hb8.mono HB7.out.size)⟩; clear hb8))
  clear H2 H3 H4 H5 H6 H7 HB1 HB2 HB3 HB4 HB5 HB6 HB7 HO1 HO2 HPr HPc HRr HSl HKk
  have hw1 := H8.out.1.1
  obtain ⟨q3', f3', hv3, _, _, hrw1, _⟩ := H8.out.1.any
  obtain ⟨q4', f4', hv4, _, _, hrw2, _⟩ := H8.out.2.any
  simp only [Value.slice.injEq, true_and] at hv3 hv4
  obtain ⟨rfl, rfl⟩ := hv3
  obtain ⟨rfl, rfl⟩ := hv4
  have HRw1 : Hid _ := ⟨hrw1⟩
  have HRw2 : Hid _ := ⟨hrw2⟩
  have HWf : Hid _ := ⟨hw1⟩
  clear hrw1 hrw2 hw1 H8
  obtain ⟨n, hn⟩ : ∃ n, R.length = n := ⟨_, rfl⟩
  rw [hn]
  have hn4 : n ≤ 4001 := by have := HRn.out; omega
  have HNn : Hid _ := ⟨hn⟩
  have hnI : (n : Int) ≤ 4001 := by omega
  clear hn g1
  go_loopw [15] (fun iv wr => ∃ k : Nat, k ≤ n ∧ iv = .int .i64 k ∧ Hid (Below w8.heap.size w8 wr)) (fun iv _ => n - (intOf iv).toNat)
  case atStart => exact ⟨0, by omega, rfl, ⟨Below.refl _ _⟩⟩
  case round =>
    obtain ⟨k, hk, rfl, HW⟩ := hrel
    by_cases hlt : k < n
    · have hlti : (k : Int) < (n : Int) := by omega
      have hkR : k < R.length := by rw [HNn.out]; exact hlt
      obtain ⟨b1, s1, rfl, hg1⟩ := rws_range HRw1.out HWf.out (by omega)
      obtain ⟨b2, s2, rfl, hg2⟩ := rws_range HRw2.out HWf.out (by omega)
      have r1 := hg1 k hkR
      have r2 := hg2 k hkR
      have hwf : Wf (R.getD k Rw.zero) := HWf.out _ (row_in hkR)
      have r1' : wr.drew.rangeAt b1 (s1 + k * 37) (R.getD k Rw.zero).cells := fun j v hv => (HW.out.drew.cell (p := ⟨b1, s1 + k * 37 + j, none⟩) (World.block_lt_of_cell? _ _ (r1 j v hv))).trans (r1 j v hv)
      have r2' : wr.drew.rangeAt b2 (s2 + k * 37) (R.getD k Rw.zero).cells := fun j v hv => (HW.out.drew.cell (p := ⟨b2, s2 + k * 37 + j, none⟩) (World.block_lt_of_cell? _ _ (r2 j v hv))).trans (r2 j v hv)
      clear r1 r2 hg1 hg2 hkR
      generalize R.getD k Rw.zero = q at *
      go_upto_region 10 with fail
      refine wp_region_held_drew (S := fun u => u.rangeAt b1 (s1 + k * 37) q.cells ∧ u.rangeAt b2 (s2 + k * 37) q.cells) (by kernel_rfl) ⟨r1', r2'⟩ (fun hS => ?_)
      refine wpAnyH_take (i := 0) (v := .slice (some ⟨b1, s1, none⟩) n f3) rfl (by kernel_rfl) (by kernel_rfl) (by kernel_rfl) (fun _ _ _ h => h) (Or.inl ⟨by kernel_rfl, fun u hu => by kernel_rfl⟩) hS ?_
      simp only [Act.put, List.getElem_toArray, List.getElem_cons_succ, List.getElem_cons_zero, List.setIfInBounds_toArray, List.set_cons_zero, List.set_cons_succ]
      refine wpAnyH_take (i := 1) (v := .int .i64 (k : Int)) rfl (by kernel_rfl) (by kernel_rfl) (by kernel_rfl) (fun _ _ _ h => h) (Or.inl ⟨by kernel_rfl, fun u hu => by kernel_rfl⟩) hS ?_
      simp only [Act.put, List.getElem_toArray, List.getElem_cons_succ, List.getElem_cons_zero, List.setIfInBounds_toArray, List.set_cons_zero, List.set_cons_succ]
      refine wpAnyH_take (i := 2) (v := .pointer (some ⟨b1, s1 + k * 37, none⟩)) rfl (by kernel_rfl) (by kernel_rfl) (by kernel_rfl) (fun _ _ _ h => h) (Or.inl ⟨by kernel_rfl, fun u hu => exec_ix rfl (by kernel_rfl) (by kernel_rfl) (ix_rowo b1 s1 n f3 k hlt u)⟩) hS ?_
      simp only [Act.put, List.getElem_toArray, List.getElem_cons_succ, List.getElem_cons_zero, List.setIfInBounds_toArray, List.set_cons_zero, List.set_cons_succ]
      refine wpAnyH_take (i := 3) (v := .agg q.cells.toArray) rfl (by kernel_rfl) (by kernel_rfl) (by kernel_rfl) (fun _ _ _ h => h) (Or.inl ⟨by kernel_rfl, fun u hu => exec_loadV (t := 41) (p := ⟨b1, s1 + k * 37, none⟩) rfl (by kernel_rfl) (load_row hwf hu.1)⟩) hS ?_
      simp only [Act.put, List.getElem_toArray, List.getElem_cons_succ, List.getElem_cons_zero, List.setIfInBounds_toArray, List.set_cons_zero, List.set_cons_succ]
      refine wpAnyH_take (i := 4) (v := .slice (some ⟨b2, s2, none⟩) n f4) rfl (by kernel_rfl) (by kernel_rfl) (by kernel_rfl) (fun _ _ _ h => h) (Or.inl ⟨by kernel_rfl, fun u hu => by kernel_rfl⟩) hS ?_
      simp only [Act.put, List.getElem_toArray, List.getElem_cons_succ, List.getElem_cons_zero, List.setIfInBounds_toArray, List.set_cons_zero, List.set_cons_succ]
      refine wpAnyH_take (i := 5) (v := .int .i64 (k : Int)) rfl (by kernel_rfl) (by kernel_rfl) (by kernel_rfl) (fun _ _ _ h => h) (Or.inl ⟨by kernel_rfl, fun u hu => by kernel_rfl⟩) hS ?_
      simp only [Act.put, List.getElem_toArray, List.getElem_cons_succ, List.getElem_cons_zero, List.setIfInBounds_toArray, List.set_cons_zero, List.set_cons_succ]
      refine wpAnyH_take (i := 6) (v := .pointer (some ⟨b2, s2 + k * 37, none⟩)) rfl (by kernel_rfl) (by kernel_rfl) (by kernel_rfl) (fun _ _ _ h => h) (Or.inl ⟨by kernel_rfl, fun u hu => exec_ix rfl (by kernel_rfl) (by kernel_rfl) (ix_rowoD b2 s2 n f4 k hlt u)⟩) hS ?_
      simp only [Act.put, List.getElem_toArray, List.getElem_cons_succ, List.getElem_cons_zero, List.setIfInBounds_toArray, List.set_cons_zero, List.set_cons_succ]
      refine wpAnyH_take (i := 7) (v := .agg q.cells.toArray) rfl (by kernel_rfl) (by kernel_rfl) (by kernel_rfl) (fun _ _ _ h => h) (Or.inl ⟨by kernel_rfl, fun u hu => exec_loadV (t := 45) (p := ⟨b2, s2 + k * 37, none⟩) rfl (by kernel_rfl) (load_rowD hwf hu.2)⟩) hS ?_
      simp only [Act.put, List.getElem_toArray, List.getElem_cons_succ, List.getElem_cons_zero, List.setIfInBounds_toArray, List.set_cons_zero, List.set_cons_succ]
      refine wpAnyH_ready (rs := [8]) (by kernel_rfl) (by simp) ?_
      refine AllReadyH.cons rfl (fun K hK => ?_) AllReadyH.nil
      simp only [List.getElem_toArray, List.getElem_cons_succ, List.getElem_cons_zero]
      refine wp_if (by kernel_rfl) ?_
      refine wp_enter (f := 16) (args := #[.agg q.cells.toArray, .agg q.cells.toArray]) (by kernel_rfl) (lrow_any q hwf wr.drew) ?_
      rintro e w9 ⟨rfl, hb9⟩
      refine ⟨_, rfl, ?_⟩
      refine hK.out _ _ ⟨fun j v hv => (hb9.cell (p := ⟨b1, s1 + k * 37 + j, none⟩) (World.block_lt_of_cell? _ _ (r1' j v hv))).trans (r1' j v hv), fun j v hv => (hb9.cell (p := ⟨b2, s2 + k * 37 + j, none⟩) (World.block_lt_of_cell? _ _ (r2' j v hv))).trans (r2' j v hv)⟩ (fun hS => ?_)
      clear hK
      simp only [Act.put, List.getElem_toArray, List.getElem_cons_succ, List.getElem_cons_zero, List.setIfInBounds_toArray, List.set_cons_zero, List.set_cons_succ]
      refine wpAnyH_take (i := 9) (v := .bool false) rfl (by kernel_rfl) (by kernel_rfl) (by kernel_rfl) (fun _ _ _ h => h) (Or.inl ⟨by kernel_rfl, fun u hu => by kernel_rfl⟩) hS ?_
      simp only [Act.put, List.getElem_toArray, List.getElem_cons_succ, List.getElem_cons_zero, List.setIfInBounds_toArray, List.set_cons_zero, List.set_cons_succ]
      refine wpAnyH_done (by kernel_rfl) ?_ _
      have B9 : Below w8.heap.size w8 w9 := HW.out.drew.trans (hb9.mono (by have := HW.out.size; simpa using this))
      have HB9 : Hid _ := ⟨B9⟩
      clear hS r1' r2' hb9 B9
      go_wp2_with fail
      go_roundw
      case rel => exact ⟨k + 1, hlt, by go_num, ⟨HB9.out⟩⟩
      case measure => simp [intOf]; omega
    · obtain rfl : k = n := by omega
      have HBw : Hid (Below w.heap.size w wr) := ⟨HB8.out.trans (HW.out.mono HB8.out.size)⟩
      have HF1 : Hid _ := ⟨pfind q3 f3 R x wr HWf.out HRn.out HXz.out (HRw1.out.bel HW.out)⟩
      have HF2 : Hid (∀ W, Below wr.heap.size wr W → Calls Tryd.prog 18 #[.slice q4 R.length f4, .int .i64 x] W fun e w' => e = .returned (.tuple #[.agg ((findM R x).getD Rw.zero).cells.toArray, .bool (findM R x).isSome]) ∧ Below W.heap.size W w') := ⟨fun W hb => rfind_any q4 f4 R x W HWf.out (by have := HRn.out; omega) HXz.out ((HRw2.out.bel HW.out).bel hb)⟩
      have hwf : Wf ((findM R x).getD Rw.zero) := find_wf HWf.out x
      have HR : Hid _ := ⟨fun W => lrow_any _ hwf W⟩
      rw [HNn.out] at HF1 HF2
      have HCs : Hid (((findM R x).getD Rw.zero).cells.toArray.size = 37) := ⟨by simpa using Rw.cells_len hwf⟩
      have HC1 : Hid (((findM R x).getD Rw.zero).cells.toArray.all (·.oneCell') = true) := ⟨by
        rw [Array.all_eq_true_iff_forall_mem]
        intro u hu
        exact rw_one _ u (by simpa using hu)⟩
      have HLd : Hid (∀ (W : World) (b : Nat), Bk W b 41 ((findM R x).getD Rw.zero).cells.toArray → (loadVar 41 ⟨b, 0, none⟩).run Tryd.prog W = .ok (.agg ((findM R x).getD Rw.zero).cells.toArray) W) := ⟨fun W b h => load_rowb hwf h⟩
      have HLe : Hid (∀ (W : World) (b : Nat), Bk W b 45 ((findM R x).getD Rw.zero).cells.toArray → (loadVar 45 ⟨b, 0, none⟩).run Tryd.prog W = .ok (.agg ((findM R x).getD Rw.zero).cells.toArray) W) := ⟨fun W b h => load_rowbD hwf h⟩
      clear hwf
      obtain ⟨C, hC⟩ : ∃ C, ((findM R x).getD Rw.zero).cells.toArray = C := ⟨_, rfl⟩
      rw [hC] at HF1 HF2 HR HCs HC1
      simp only [hC] at HLd HLe
      clear hC
      generalize (findM R x).isSome = fb at *
      have e0 : (fb == fb) = true := by simp
      go_upto_region 13 with (first
        | (go_at_call 17; (with_reducible refine HF1.out.mono ?_); rintro e w9 ⟨he, hb9⟩; subst he; have HB9 : Hid _ := ⟨hb9⟩; clear hb9)
        | (refine wpList_store_row rfl 41 (.tmp 16) (.tmp 94) rfl w9.heap.size C ?h6 ?h7 41 _ (heap_alloc_new w9 _) (by rw [size41, HCs.out]) (by rw [HCs.out]; rfl) HC1.out ?_; (case h6 => rfl); (case h7 => rfl)))
      change Code.wp _ _ _ _ ((w9.alloc (.cells Z37 41)).setRow w9.heap.size C)
      have N10 : Bk ((w9.alloc (.cells Z37 41)).setRow w9.heap.size C) w9.heap.size 41 C := (Bk.new w9 Z37 41).setR C
      have B10 : Below wr.heap.size wr ((w9.alloc (.cells Z37 41)).setRow w9.heap.size C) := HB9.out.trans ((set_bel w9 Z37 C 41).mono HB9.out.size)
      have HN10 : Hid _ := ⟨N10⟩
      have HB10 : Hid _ := ⟨B10⟩
      clear N10 B10
      generalize (w9.alloc (.cells Z37 41)).setRow w9.heap.size C = W10 at *
      generalize w9.heap.size = ga at *
      go_upto_region 14 with (first
        | (go_at_call 18; (with_reducible refine (HF2.out _ HB10.out).mono ?_); rintro e w11 ⟨he, hb11⟩; subst he; have HB11 : Hid _ := ⟨hb11⟩; clear hb11)
        | (refine wpList_store_row rfl 45 (.tmp 18) (.tmp 100) rfl w11.heap.size C ?h6 ?h7 45 _ (heap_alloc_new w11 _) (by rw [sizeRowD, HCs.out]) (by rw [HCs.out]; rfl) HC1.out ?_; (case h6 => rfl); (case h7 => rfl)))
      change Code.wp _ _ _ _ ((w11.alloc (.cells Z37 45)).setRow w11.heap.size C)
      have B12 : Below W10.heap.size W10 ((w11.alloc (.cells Z37 45)).setRow w11.heap.size C) := HB11.out.trans ((set_bel w11 Z37 C 45).mono HB11.out.size)
      have N12 : Bk ((w11.alloc (.cells Z37 45)).setRow w11.heap.size C) w11.heap.size 45 C := (Bk.new w11 Z37 45).setR C
      have M12 := HN10.out.bel B12 HN10.out.lt
      have Bw12 : Below w.heap.size w ((w11.alloc (.cells Z37 45)).setRow w11.heap.size C) := (HBw.out.trans (HB10.out.mono HBw.out.size)).trans (B12.mono (Nat.le_trans HBw.out.size HB10.out.size))
      generalize (w11.alloc (.cells Z37 45)).setRow w11.heap.size C = W12 at *
      generalize w11.heap.size = gb at *
      have HM12 : Hid _ := ⟨M12⟩
      have HN12 : Hid _ := ⟨N12⟩
      have HBw12 : Hid _ := ⟨Bw12⟩
      clear M12 N12 Bw12 B12 HB11 HB10 HN10 HB9 HF1 HF2 HRw1 HRw2 HWf
      go_wp2_with (first
        | (refine wpList_val (v := .agg C) (w' := W12) (by kernel_rfl) (exec_loadV (t := 41) (p := ⟨ga, 0, none⟩) rfl (by kernel_rfl) (HLd.out _ _ HM12.out)) ?_; simp only [Act.put, List.getElem_toArray, List.getElem_cons_succ, List.getElem_cons_zero, List.setIfInBounds_toArray, List.set_cons_zero, List.set_cons_succ])
        | (refine wpList_val (v := .agg C) (w' := W12) (by kernel_rfl) (exec_loadV (t := 45) (p := ⟨gb, 0, none⟩) rfl (by kernel_rfl) (HLe.out _ _ HN12.out)) ?_; simp only [Act.put, List.getElem_toArray, List.getElem_cons_succ, List.getElem_cons_zero, List.setIfInBounds_toArray, List.set_cons_zero, List.set_cons_succ])
        | (go_at_call 16; (with_reducible refine (HR.out _).mono ?_); rintro e w13 ⟨he, hb13⟩; subst he; have HB13 : Hid (Below w.heap.size w w13) := ⟨HBw12.out.trans (hb13.mono HBw12.out.size)⟩; clear hb13))
      go_ret
      exact ⟨rfl, HB13.out⟩
end Go.Proofs.YtgldijohpfihaaaDoor
