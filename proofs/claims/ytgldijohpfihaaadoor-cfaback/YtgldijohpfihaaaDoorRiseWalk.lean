/- The law CfaRise, walked. -/
import Derived.Test.YtgldijohpfihaaaDoorCFind
namespace Go.Proofs.YtgldijohpfihaaaDoor
open Go.ChangeShapes Go.WideShapes Go.ChangeAt Go.RowKit
set_option linter.unusedVariables false
set_option linter.unusedSimpArgs false

set_option maxHeartbeats 4000000 in
set_option maxRecDepth 10000 in
theorem cfaRise_walk (hP : PRows) (hFd : PFind) (hK : PKnows) (a1 : Option Addr) (c1 : Nat) (i : List Oq) (a2 : Option Addr) (c2 : Nat) (l : List Oq) (size x : Int) (w : World) (hI1 : IsOq w a1 c1 i) (hI2 : IsOq w a2 c2 l) (h1 : i.length ≤ 5864062014634) (h2 : l.length ≤ 5864062014634) (hs : -9223372036854775808 ≤ size ∧ size ≤ 9223372036854775807) (hx : -9223372036854775808 ≤ x ∧ x ≤ 9223372036854775807) (hf : Fz w) :
    Calls Tryd.prog 8 #[.slice a1 i.length c1, .slice a2 l.length c2, .int .i64 size, .int .i64 x] w fun e w' => e = .returned (.bool true) ∧ Below w.heap.size w w' := by
  have HKk : Hid (∀ W : World, Below w.heap.size w W → Calls Tryd.prog 15 #[] W fun e w' => e = .returned (.bool true) ∧ Below W.heap.size W w') := ⟨fun W hb => hK W (hf.bel hb hf.z)⟩
  have HO1 : Hid _ := ⟨ops_any a1 c1 i w h1 hI1.ops⟩
  have HO2 : Hid (∀ w1, Below w.heap.size w w1 → Calls Tryd.prog 9 #[.slice a2 l.length c2] w1 fun e w' => ∃ v, e = .returned v ∧ OwnP w' w1.heap.size v l ∧ Below w1.heap.size w1 w') := ⟨fun w1 hb => ops_any a2 c2 l w1 h2 (hI2.ops.bel hb)⟩
  have HPr : Hid (∀ (v1 v2 : Value) (w1 : World) (b1 b2 : Nat), OwnP w1 b1 v1 i → OwnP w1 b2 v2 l → Below w.heap.size w w1 → Calls Tryd.prog 10 #[v1, v2, .int .i64 size] w1 fun e w' => ∃ v, e = .returned (.tuple #[v, .int .i64 (rowsE i l size)]) ∧ OwnW w' w1.heap.size v (rowsL i l size) ∧ Below w1.heap.size w1 w') := ⟨fun v1 v2 w1 b1 b2 ho1 ho2 hbw => by
    obtain ⟨d1, e1, rfl, hi1⟩ := ho1.is
    obtain ⟨d2, e2, rfl, hi2⟩ := ho2.is
    exact hP d1 e1 i d2 e2 l size w1 h1 (by omega) hs hi1 hi2 (hf.bel hbw hf.z)⟩
  have HFk : Hid _ := ⟨hFd⟩
  have HX : Hid (-9223372036854775808 ≤ x ∧ x ≤ 9223372036854775807) := ⟨hx⟩
  clear hI1 hI2 hP hFd hK h1 h2 hs hx hf
  obtain ⟨E, hE⟩ : ∃ E, rowsE i l size = E := ⟨_, rfl⟩
  obtain ⟨R, hR⟩ : ∃ R, rowsL i l size = R := ⟨_, rfl⟩
  rw [hE, hR] at HPr
  have tk : True := trivial
  by_cases e0 : E = 0
  rotate_left
  · have b1 : (E == 0) = false := by simpa using e0
    have b2 : (E != 0) = true := by simpa using e0
    obtain rfl : R = [] := by rw [← hR]; exact rows_no (by rw [hE]; exact e0)
    go_enter Tryd.func8, Tryd.ntmps8
    go_upto_region 2 with (first
      | (go_at_call 9; have _t := tk; (with_reducible refine HO1.out.mono ?_); rintro e w1 ⟨v1, he, ho1, hb1⟩; subst he; clear tk _t; have H1 : Hid _ := ⟨ho1⟩; have HB1 : Hid _ := ⟨hb1⟩; clear ho1 hb1)
      | (go_at_call 9; (with_reducible refine (HO2.out _ HB1.out).mono ?_); rintro e w2 ⟨v2, he, ho2, hb2⟩; subst he; have H2 : Hid (OwnP w2 w.heap.size v1 i ∧ OwnP w2 w1.heap.size v2 l ∧ Below w.heap.size w w2) := ⟨H1.out.bel hb2, ho2, HB1.out.trans (hb2.mono HB1.out.size)⟩; clear ho2 hb2)
      | (go_at_call 10; (with_reducible refine (HPr.out _ _ _ _ _ H2.out.1 H2.out.2.1 H2.out.2.2).mono ?_); rintro e w3 ⟨v3, he, ho3, hb3⟩; subst he; have H3 : Hid _ := ⟨ho3⟩; have HB3 : Hid (Below w.heap.size w w3) := ⟨H2.out.2.2.trans (hb3.mono H2.out.2.2.size)⟩; clear ho3 hb3))
    obtain ⟨a3, d3, hv3, _⟩ := H3.out.any
    have hv3' : v3 = .slice a3 0 d3 := hv3
    subst hv3'
    go_wp2_with (first
      | (go_at_call 12; (with_reducible refine (cnum_any _ _).mono ?_); rintro e wn ⟨he, hwn⟩; subst he; subst wn)
      | (go_at_call 15; (with_reducible refine (HKk.out _ HB3.out).mono ?_); rintro e w4 ⟨he, hb4⟩; subst he; have HB4 : Hid (Below w.heap.size w w4) := ⟨HB3.out.trans (hb4.mono HB3.out.size)⟩; clear hb4))
    go_ret
    exact ⟨rfl, HB4.out⟩
  subst e0
  have HRi : Hid (Rising R size ∧ R.length ≤ 4001) := ⟨by rw [← hR]; exact rising_of hE, by rw [← hR]; exact rows_len hE⟩
  clear hE hR
  go_enter Tryd.func8, Tryd.ntmps8
  go_upto_region 4 with (first
    | (go_at_call 9; have _t := tk; (with_reducible refine HO1.out.mono ?_); rintro e w1 ⟨v1, he, ho1, hb1⟩; subst he; clear tk _t; have H1 : Hid _ := ⟨ho1⟩; have HB1 : Hid _ := ⟨hb1⟩; clear ho1 hb1)
    | (go_at_call 9; (with_reducible refine (HO2.out _ HB1.out).mono ?_); rintro e w2 ⟨v2, he, ho2, hb2⟩; subst he; have H2 : Hid (OwnP w2 w.heap.size v1 i ∧ OwnP w2 w1.heap.size v2 l ∧ Below w.heap.size w w2) := ⟨H1.out.bel hb2, ho2, HB1.out.trans (hb2.mono HB1.out.size)⟩; clear ho2 hb2)
    | (go_at_call 10; (with_reducible refine (HPr.out _ _ _ _ _ H2.out.1 H2.out.2.1 H2.out.2.2).mono ?_); rintro e w3 ⟨v3, he, ho3, hb3⟩; subst he; have H3 : Hid _ := ⟨ho3⟩; have HB3 : Hid (Below w.heap.size w w3) := ⟨H2.out.2.2.trans (hb3.mono H2.out.2.2.size)⟩; clear ho3 hb3)
    | (go_at_call 12; (with_reducible refine (cnum_any _ _).mono ?_); rintro e wn ⟨he, hwn⟩; subst he; subst wn)
    | (go_at_call 15; (with_reducible refine (HKk.out _ HB3.out).mono ?_); rintro e w4 ⟨he, hb4⟩; subst he; have HB4 : Hid (Below w.heap.size w w4 ∧ OwnW w4 w2.heap.size v3 R) := ⟨HB3.out.trans (hb4.mono HB3.out.size), H3.out.bel hb4⟩; clear hb4))
  obtain ⟨a3, d3, hv3, _, _, hrw, _⟩ := HB4.out.2.any
  subst hv3
  have HRw : Hid (Rws w4 a3 R) := ⟨hrw⟩
  clear hrw HO1 HO2 HPr
  have hRl : (R.length : Int) ≤ 4001 := by have := HRi.out.2; omega
  go_wp2
  go_loopw [11] (fun iv wr => ∃ k : Nat, k ≤ R.length ∧ iv = .int .i64 k ∧ Hid (Below w4.heap.size w4 wr)) (fun iv _ => R.length - (intOf iv).toNat)
  case atStart => exact ⟨0, by omega, rfl, ⟨Below.refl _ _⟩⟩
  case round =>
    obtain ⟨k, hk, rfl, HW⟩ := hrel
    by_cases hlt : k < R.length
    · obtain ⟨b, off, rfl, hat⟩ : ∃ b off, a3 = some ⟨b, off, none⟩ ∧ ∀ j, j < R.length → RwAt wr b (off + j * 37) (R.getD j Rw.zero) := by
        rcases HRw.out.bel HW.out with h | h
        · rw [h] at hlt; simp at hlt
        · exact h
      have p1 := (hat k hlt).p
      have p2 := (hat k hlt).r
      have q1 : (k : Int) < (R.length : Int) := by omega
      have q0 : (0 : Int) ≤ (k : Int) := by omega
      have hin := row_in hlt
      have t1 := HRi.out.1.top _ hin
      have t2 := (HRi.out.1.ok _ hin).1
      have t3 := (HRi.out.1.ok _ hin).2
      by_cases hk0 : k = 0
      · subst hk0
        have t0 : (R.getD 0 Rw.zero).p = 0 := HRi.out.1.zero _ (by
          cases hR : R with
          | nil => rw [hR] at hlt; simp at hlt
          | cons y ys => simp)
        clear hat hin
        generalize R.getD 0 Rw.zero = y at *
        obtain ⟨yp, yr, yn, yz⟩ := y
        dsimp only at p1 p2 t1 t2 t3 t0
        subst t0
        have u1 : decide (size < 0) = false := by simpa using t1
        have u2 : decide (yr < 0) = false := by simp; omega
        have u3 : decide (16 < yr) = false := by simp; omega
        simp only [Nat.zero_mul, Nat.add_zero] at p1 p2
        go_wp2
        go_quiet (fail)
        go_wp2
        go_roundw
        case rel => exact ⟨1, by omega, by go_num, ⟨cbelow_drewN HW.out _⟩⟩
        case measure => simp [intOf]; omega
      · obtain ⟨j, hj⟩ : ∃ j, k = j + 1 := ⟨k - 1, by omega⟩
        have p3 := (hat j (by omega)).p
        have t4 := row_up HRi.out.1.up (j := j) (by omega)
        rw [← hj] at t4
        have hjk : (k : Int) - 1 = (j : Int) := by omega
        have u6 : (j : Int) < (R.length : Int) := by omega
        have u7 : (0 : Int) ≤ (j : Int) := by omega
        have HJ : Hid (k = j + 1) := ⟨hj⟩
        clear hat hin hj
        generalize R.getD k Rw.zero = y at *
        generalize R.getD j Rw.zero = z at *
        obtain ⟨yp, yr, yn, yz⟩ := y
        obtain ⟨zp, zr, zn, zz⟩ := z
        dsimp only at p1 p2 p3 t1 t2 t3 t4
        have u0 : ((k : Int) == 0) = false := by simp; omega
        have u1 : decide (size < yp) = false := by simpa using t1
        have u2 : decide (yr < 0) = false := by simp; omega
        have u3 : decide (16 < yr) = false := by simp; omega
        have u4 : decide (yp ≤ zp) = false := by simp; omega
        have u5 : (0 : Int) < (k : Int) := by omega
        have u5a : 0 < k := by omega
        have u5b : decide (0 < k) = true := by simpa using u5a
        have u5c : decide ((0 : Int) < (k : Int)) = true := by simpa using u5
        go_wp2
        go_quiet (fail)
        go_wp2
        go_roundw
        case rel => exact ⟨k + 1, by omega, by go_num, ⟨cbelow_drewN HW.out _⟩⟩
        case measure => simp [intOf]; omega
    · obtain rfl : k = R.length := by omega
      have q1 : ¬ (R.length : Int) < (R.length : Int) := by omega
      have HF := HFk.out a3 d3 R x wr HRi.out.1.wf HRi.out.2 HX.out (HRw.out.bel HW.out)
      have HBw : Hid (Below w.heap.size w wr) := ⟨HB4.out.1.trans (HW.out.mono HB4.out.1.size)⟩
      obtain ⟨C, hC⟩ : ∃ C, ((findM R x).getD Rw.zero).cells.toArray = C := ⟨_, rfl⟩
      obtain ⟨ok, hok⟩ : ∃ ok, (findM R x).isSome = ok := ⟨_, rfl⟩
      rw [hC, hok] at HF
      have HFF : Hid _ := ⟨HF⟩
      clear HF
      go_upto_region 9 with (fail)
      have HCs : Hid (C.size = 37) := ⟨by
        rw [← hC]
        have : Wf ((findM R x).getD Rw.zero) := by
          cases hf : findM R x with
          | none => rfl
          | some q =>
            refine HRi.out.1.wf q ?_
            unfold findM at hf
            split at hf
            · cases hf
            · exact List.takeWhile_subset _ (List.mem_of_getLast? hf)
        simpa using Rw.cells_len this⟩
      have HC1 : Hid (C.all (·.oneCell') = true) := ⟨by
        rw [← hC, Array.all_eq_true_iff_forall_mem]
        intro u hu
        exact rw_one _ u (by simpa using hu)⟩
      have HC0 : Hid (C[0]? = some (.int .i64 ((findM R x).getD Rw.zero).p)) := ⟨by rw [← hC]; rfl⟩
      go_upto_region 10 with (first
        | (go_at_call 17; (with_reducible refine HFF.out.mono ?_); rintro e w5 ⟨he, hb5⟩; subst he; have HB5 : Hid _ := ⟨hb5⟩; clear hb5)
        | (refine wpList_store_row rfl 41 (.tmp 12) (.tmp 100) rfl w5.heap.size C ?h6 ?h7 41 _ (heap_alloc_new w5 _) (by rw [size41, HCs.out]) (by rw [HCs.out]; rfl) HC1.out ?_; (case h6 => rfl); (case h7 => rfl)))
      change Code.wp _ _ _ _ ((w5.alloc (.cells Z37 41)).setRow w5.heap.size C)
      have HB6 : Hid (Below wr.heap.size wr ((w5.alloc (.cells Z37 41)).setRow w5.heap.size C)) := ⟨HB5.out.trans ((set_bel w5 Z37 C 41).mono HB5.out.size)⟩
      have d0 := (set_cell w5 Z37 C 41).trans HC0.out
      generalize (w5.alloc (.cells Z37 41)).setRow w5.heap.size C = W6 at *
      generalize w5.heap.size = g6 at *
      have HB7 : Hid (Below w.heap.size w W6) := ⟨HBw.out.trans (HB6.out.mono HBw.out.size)⟩
      have HRw6 : Hid (Rws W6 a3 R) := ⟨(HRw.out.bel HW.out).bel HB6.out⟩
      clear HFF hC HCs HC1 HC0
      have hne : (0 : Int) < (R.length : Int) := by
        have := HRi.out.1.ne
        have : 0 < R.length := List.length_pos_iff.2 this
        omega
      cases hf : findM R x with
      | none =>
        rw [hf] at hok d0
        have hx0 : x < 0 := Classical.byContradiction fun c => HRi.out.1.ne (find_none (by omega) HRi.out.1.zero hf)
        have hok' : ok = false := hok.symm
        subst hok'
        have hne2 : 0 < R.length := by omega
        go_wp2
        go_ret
        exact ⟨rfl, HB7.out⟩
      | some q =>
        rw [hf] at hok d0
        have hok' : ok = true := hok.symm
        subst hok'
        have d1 : W6.cell? ⟨g6, 0, none⟩ = some (.int .i64 q.p) := d0
        obtain ⟨hx0, hq, hlast⟩ := find_last HRi.out.1.up hf
        have HLast : Hid (∀ y ∈ R, y.p ≤ x → y.p ≤ q.p) := ⟨hlast⟩
        obtain ⟨qp, hqp⟩ : ∃ qp, q.p = qp := ⟨_, rfl⟩
        rw [hqp] at d1 hq HLast
        clear d0 hlast hf hqp hok
        have hx1 : ¬ x < 0 := by omega
        have hq1 : ¬ x < qp := by omega
        go_wp2
        go_loopw [14] (fun iv wr2 => ∃ k : Nat, k ≤ R.length ∧ iv = .int .i64 k ∧ Hid (Below W6.heap.size W6 wr2)) (fun iv _ => R.length - (intOf iv).toNat)
        case atStart => exact ⟨0, by omega, rfl, ⟨Below.refl _ _⟩⟩
        case round =>
          obtain ⟨k, hk, rfl, HW2⟩ := hrel
          by_cases hlt : k < R.length
          · obtain ⟨b, off, rfl, hat⟩ : ∃ b off, a3 = some ⟨b, off, none⟩ ∧ ∀ j, j < R.length → RwAt wr b (off + j * 37) (R.getD j Rw.zero) := by
              rcases HRw6.out.bel HW2.out with h | h
              · rw [h] at hlt; simp at hlt
              · exact h
            have p1 := (hat k hlt).p
            have p2 := (HW2.out.cell (p := ⟨g6, 0, none⟩) (World.block_lt_of_cell? _ _ d1)).trans d1
            have q1 : (k : Int) < (R.length : Int) := by omega
            have q0 : (0 : Int) ≤ (k : Int) := by omega
            have hin := row_in hlt
            have hl9 := HLast.out _ hin
            clear hat hin
            generalize R.getD k Rw.zero = y at *
            obtain ⟨yp, yr, yn, yz⟩ := y
            dsimp only at p1 hl9
            by_cases hle : yp ≤ x
            · have u1 : decide (qp < yp) = false := by have := hl9 hle; simp; omega
              have u2 : decide (yp ≤ x) = true := by simpa using hle
              clear hl9
              go_wp2
              go_quiet (fail)
              go_wp2
              go_roundw
              case rel => exact ⟨k + 1, by omega, by go_num, ⟨cbelow_drewN HW2.out _⟩⟩
              case measure => simp [intOf]; omega
            · have u2 : decide (yp ≤ x) = false := by simpa using hle
              clear hl9
              go_wp2
              go_quiet (fail)
              go_wp2
              go_roundw
              case rel => exact ⟨k + 1, by omega, by go_num, ⟨cbelow_drewN HW2.out _⟩⟩
              case measure => simp [intOf]; omega
          · obtain rfl : k = R.length := by omega
            go_wp2
            go_ret
            exact ⟨rfl, HB7.out.trans (HW2.out.mono HB7.out.size)⟩
theorem pknows : PKnows := cknows_any prows pfind pusual
theorem lit_in {x : Int} (h : (Lit.int .i64 x).wf = true) : -9223372036854775808 ≤ x ∧ x ≤ 9223372036854775807 := by
  simp [Lit.wf, IntKind.min, IntKind.max, IntKind.signed, IntKind.bits] at h
  omega
theorem cfaRise_wk (a1 : Option Addr) (c1 : Nat) (i : List Oq) (a2 : Option Addr) (c2 : Nat) (l : List Oq) (size x : Int) (w : World) (hI1 : IsOq w a1 c1 i) (h1 : i.length ≤ 5864062014634) (hI2 : IsOq w a2 c2 l) (h2 : l.length ≤ 5864062014634) (hs : (Lit.int .i64 size).wf = true) (hx : (Lit.int .i64 x).wf = true) (hf : Fz w) :
    Calls Tryd.prog 8 #[.slice a1 i.length c1, .slice a2 l.length c2, .int .i64 size, .int .i64 x] w fun e w' => e = .returned (.bool true) ∧ Below w.heap.size w w' :=
  cfaRise_walk prows pfind pknows a1 c1 i a2 c2 l size x w hI1 hI2 h1 h2 (lit_in hs) (lit_in hx) hf
end Go.Proofs.YtgldijohpfihaaaDoor
