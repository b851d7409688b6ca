/- The contract of the document's own good. -/
import Derived.Test.YtpdcbokcoaienaaDoorSRNamed
import Derived.Deep.CutRange
namespace Go.Proofs.YtpdcbokcoaienaaDoor
open Go.ChangeShapes Go.WideShapes Go.ChangeAt Go.RowKit Go.Maps
set_option linter.unusedVariables false
set_option linter.unusedSimpArgs false

theorem good_no (zz sec b t ev ez R : Bool) (h : (zz || (!sec || (!ev || !ez))) = true) : (sec && (if zz || (!b || (!t || (!ev || !ez))) then false else R)) = false := by
  cases zz <;> cases sec <;> cases ev <;> cases ez <;> cases b <;> cases t <;> simp_all
theorem good_yes (zz sec b t ev ez R : Bool) (h : (zz || (!sec || (!ev || !ez))) = false) : (sec && (if zz || (!b || (!t || (!ev || !ez))) then false else R)) = (b && (t && R)) := by
  cases zz <;> cases sec <;> cases ev <;> cases ez <;> cases b <;> cases t <;> simp_all

set_option maxHeartbeats 8000000 in
set_option maxRecDepth 10000 in
theorem rgood_any (s : Sym) (a2 : Option Addr) (c2 : Nat) (ss : List ByteArray) (m : ByteArray → Option Int) (w : World) (hl : ss.length ≤ 8796093022208) (hr : Strs w a2 ss) (hi : NI ss ss.length m) (hnm : s.nm.size ≤ 9223372036854775807) :
    Calls Tryd.prog 28 #[s.val, .slice a2 ss.length c2] w fun e w' => e = .returned (.bool ((m s.sc).isSome && rightB s)) ∧ Below w.heap.size w w' := by
  obtain ⟨nm, sc, v, z, bd, ty⟩ := s
  dsimp only [Sym.val] at *
  have BW : Below w.heap.size w (w.alloc (.cells #[.string nm, .string sc, .int .i64 v, .int .i64 z, .int .i64 bd, .int .i64 ty] 43)) := (Below.refl _ _).alloc (Nat.le_refl _) _
  have HZ : Hid (∀ w', Calls Tryd.prog 43 #[.string nm] w' fun e w'' => e = .returned (.bool (zeroB nm)) ∧ w'' = w') := ⟨fun w' => rzero_any nm w' hnm⟩
  have HP : Hid (∀ w', Below w.heap.size w w' → Calls Tryd.prog 23 #[.slice a2 ss.length c2, .string sc] w' fun e w'' => e = .returned (.int .i64 (pl ss sc)) ∧ w'' = w') := ⟨fun w' h => rplace_any a2 c2 ss sc w' (by omega) (hr.below h (Nat.le_refl _))⟩
  have HIS := hi.isSome sc
  have hem := decide_eq_emptyBytes sc
  have hsr := emp_tl sc
  have hple : pl ss sc ≤ ss.length := List.findIdx_le_length
  obtain ⟨G, HG⟩ : ∃ G, Hid (((m sc).isSome && rightB ⟨nm, sc, v, z, bd, ty⟩) = G) := ⟨_, ⟨rfl⟩⟩
  rw [HG.out]
  have hG := HG.out
  rw [HIS] at hG
  unfold rightB bindB typeB extB empB at hG
  dsimp only at hG
  generalize pl ss sc = p at *
  generalize decide (sc = ByteArray.empty) = e1 at *
  generalize decide (sc = star) = e2 at *
  generalize zeroB nm = zz at *
  have he1 : sc.toList.isEmpty = e1 := hem.symm
  rw [he1] at hG
  obtain ⟨pf, hpf⟩ : ∃ x, decide (p < ss.length) = x := ⟨_, rfl⟩
  obtain ⟨b0, hb0⟩ : ∃ x, (bd == 0) = x := ⟨_, rfl⟩
  obtain ⟨b1, hb1⟩ : ∃ x, (bd == 1) = x := ⟨_, rfl⟩
  obtain ⟨b2, hb2⟩ : ∃ x, (bd == 2) = x := ⟨_, rfl⟩
  obtain ⟨t0, ht0⟩ : ∃ x, (ty == 0) = x := ⟨_, rfl⟩
  obtain ⟨t1, ht1⟩ : ∃ x, (ty == 1) = x := ⟨_, rfl⟩
  obtain ⟨t2, ht2⟩ : ∃ x, (ty == 2) = x := ⟨_, rfl⟩
  obtain ⟨t6, ht6⟩ : ∃ x, (ty == 6) = x := ⟨_, rfl⟩
  obtain ⟨tA, htA⟩ : ∃ x, (ty == 10) = x := ⟨_, rfl⟩
  obtain ⟨v0, hv0⟩ : ∃ x, (v == 0) = x := ⟨_, rfl⟩
  obtain ⟨z0, hz0⟩ : ∃ x, (z == 0) = x := ⟨_, rfl⟩
  obtain ⟨en, hen⟩ : ∃ x, nm.toList.isEmpty = x := ⟨_, rfl⟩
  obtain ⟨lv, hlv⟩ : ∃ x, decide (0 ≤ v) = x := ⟨_, rfl⟩
  obtain ⟨hv, hhv⟩ : ∃ x, decide (v ≤ 4611686018427387904) = x := ⟨_, rfl⟩
  obtain ⟨lz, hlz⟩ : ∃ x, decide (0 ≤ z) = x := ⟨_, rfl⟩
  obtain ⟨hz, hhz⟩ : ∃ x, decide (z ≤ 4611686018427387904) = x := ⟨_, rfl⟩
  have hv1 : (v != 0) = !v0 := by rw [bne, hv0]
  have hz1 : (z != 0) = !z0 := by rw [bne, hz0]
  rw [hpf, hb0, hb1, hb2, ht0, ht1, ht2, ht6, htA, hv1, hz1, hen, hlv, hhv, hlz, hhz] at hG
  have HGG : Hid _ := ⟨hG⟩
  have HBW : Hid _ := ⟨BW⟩
  have hpe : ((p : Int) == (ss.length : Int)) = !pf := by
    cases pf
    · have := of_decide_eq_false hpf; simp; omega
    · have := of_decide_eq_true hpf; simp; omega
  clear hG HG BW hr hi HIS hem hpf hnm hv1 hz1 hple
  go_enter Tryd.func28, Tryd.ntmps28
  go_upto_region 1 with (fail)
  generalize hV : w.alloc (.cells #[.string nm, .string sc, .int .i64 v, .int .i64 z, .int .i64 bd, .int .i64 ty] 43) = V at *
  have d0 : V.cell? ⟨w.heap.size, 0, none⟩ = some (.string nm) := by rw [← hV]; simp
  have d1 : V.cell? ⟨w.heap.size, 1, none⟩ = some (.string sc) := by rw [← hV]; simp
  have d2 : V.cell? ⟨w.heap.size, 2, none⟩ = some (.int .i64 v) := by rw [← hV]; simp
  have d3 : V.cell? ⟨w.heap.size, 3, none⟩ = some (.int .i64 z) := by rw [← hV]; simp
  have d4 : V.cell? ⟨w.heap.size, 4, none⟩ = some (.int .i64 bd) := by rw [← hV]; simp
  have d5 : V.cell? ⟨w.heap.size, 5, none⟩ = some (.int .i64 ty) := by rw [← hV]; simp
  clear hV
  have nb0 : (bd != 0) = !b0 := by rw [bne, hb0]
  have nb1 : (bd != 1) = !b1 := by rw [bne, hb1]
  have nb2 : (bd != 2) = !b2 := by rw [bne, hb2]
  have nv0 : (v != 0) = !v0 := by rw [bne, hv0]
  have nz0 : (z != 0) = !z0 := by rw [bne, hz0]
  go_cut [46] from 5 to 46 (fun s46 wx => s46 = .bool (zz || (!(e1 || (e2 || pf)) || (!(lv && hv) || !(lz && hz)))) ∧ wx = V)
  case first =>
    cases zz
    · cases e1
      · cases e2
        · cases pf
          · (go_wp2_with (first | (go_at_call 43; (with_reducible refine (HZ.out _).mono ?_); rintro e w' ⟨rfl, hw'⟩; subst w') | (go_at_call 23; (with_reducible refine (HP.out _ HBW.out).mono ?_); rintro e w' ⟨rfl, hw'⟩; subst w')); go_meet; exact ⟨rfl, rfl⟩)
          · skip
            cases lv
            · (have f0 : v < 0 := (by have := of_decide_eq_false hlv; omega); go_wp2_with (first | (go_at_call 43; (with_reducible refine (HZ.out _).mono ?_); rintro e w' ⟨rfl, hw'⟩; subst w') | (go_at_call 23; (with_reducible refine (HP.out _ HBW.out).mono ?_); rintro e w' ⟨rfl, hw'⟩; subst w')); go_meet; exact ⟨rfl, rfl⟩)
            · skip
              cases hv
              · (have f0 : 0 ≤ v := of_decide_eq_true hlv; have f1 : 4611686018427387904 < v := (by have := of_decide_eq_false hhv; omega); go_wp2_with (first | (go_at_call 43; (with_reducible refine (HZ.out _).mono ?_); rintro e w' ⟨rfl, hw'⟩; subst w') | (go_at_call 23; (with_reducible refine (HP.out _ HBW.out).mono ?_); rintro e w' ⟨rfl, hw'⟩; subst w')); go_meet; exact ⟨rfl, rfl⟩)
              · skip
                cases lz
                · (have f0 : 0 ≤ v := of_decide_eq_true hlv; have f1 : v ≤ 4611686018427387904 := of_decide_eq_true hhv; have f2 : z < 0 := (by have := of_decide_eq_false hlz; omega); go_wp2_with (first | (go_at_call 43; (with_reducible refine (HZ.out _).mono ?_); rintro e w' ⟨rfl, hw'⟩; subst w') | (go_at_call 23; (with_reducible refine (HP.out _ HBW.out).mono ?_); rintro e w' ⟨rfl, hw'⟩; subst w')); go_meet; exact ⟨rfl, rfl⟩)
                · skip
                  cases hz
                  · (have f0 : 0 ≤ v := of_decide_eq_true hlv; have f1 : v ≤ 4611686018427387904 := of_decide_eq_true hhv; have f2 : 0 ≤ z := of_decide_eq_true hlz; have f3 : 4611686018427387904 < z := (by have := of_decide_eq_false hhz; omega); go_wp2_with (first | (go_at_call 43; (with_reducible refine (HZ.out _).mono ?_); rintro e w' ⟨rfl, hw'⟩; subst w') | (go_at_call 23; (with_reducible refine (HP.out _ HBW.out).mono ?_); rintro e w' ⟨rfl, hw'⟩; subst w')); go_meet; exact ⟨rfl, rfl⟩)
                  · skip
                    (have f0 : 0 ≤ v := of_decide_eq_true hlv; have f1 : v ≤ 4611686018427387904 := of_decide_eq_true hhv; have f2 : 0 ≤ z := of_decide_eq_true hlz; have f3 : z ≤ 4611686018427387904 := of_decide_eq_true hhz; go_wp2_with (first | (go_at_call 43; (with_reducible refine (HZ.out _).mono ?_); rintro e w' ⟨rfl, hw'⟩; subst w') | (go_at_call 23; (with_reducible refine (HP.out _ HBW.out).mono ?_); rintro e w' ⟨rfl, hw'⟩; subst w')); go_meet; exact ⟨by rw [decide_eq_false (by omega : ¬ v < 0), decide_eq_false (by omega : ¬ 4611686018427387904 < v), decide_eq_false (by omega : ¬ z < 0), decide_eq_false (by omega : ¬ 4611686018427387904 < z)]; rfl, rfl⟩)
        · skip
          cases lv
          · (have f0 : v < 0 := (by have := of_decide_eq_false hlv; omega); go_wp2_with (first | (go_at_call 43; (with_reducible refine (HZ.out _).mono ?_); rintro e w' ⟨rfl, hw'⟩; subst w') | (go_at_call 23; (with_reducible refine (HP.out _ HBW.out).mono ?_); rintro e w' ⟨rfl, hw'⟩; subst w')); go_meet; exact ⟨rfl, rfl⟩)
          · skip
            cases hv
            · (have f0 : 0 ≤ v := of_decide_eq_true hlv; have f1 : 4611686018427387904 < v := (by have := of_decide_eq_false hhv; omega); go_wp2_with (first | (go_at_call 43; (with_reducible refine (HZ.out _).mono ?_); rintro e w' ⟨rfl, hw'⟩; subst w') | (go_at_call 23; (with_reducible refine (HP.out _ HBW.out).mono ?_); rintro e w' ⟨rfl, hw'⟩; subst w')); go_meet; exact ⟨rfl, rfl⟩)
            · skip
              cases lz
              · (have f0 : 0 ≤ v := of_decide_eq_true hlv; have f1 : v ≤ 4611686018427387904 := of_decide_eq_true hhv; have f2 : z < 0 := (by have := of_decide_eq_false hlz; omega); go_wp2_with (first | (go_at_call 43; (with_reducible refine (HZ.out _).mono ?_); rintro e w' ⟨rfl, hw'⟩; subst w') | (go_at_call 23; (with_reducible refine (HP.out _ HBW.out).mono ?_); rintro e w' ⟨rfl, hw'⟩; subst w')); go_meet; exact ⟨rfl, rfl⟩)
              · skip
                cases hz
                · (have f0 : 0 ≤ v := of_decide_eq_true hlv; have f1 : v ≤ 4611686018427387904 := of_decide_eq_true hhv; have f2 : 0 ≤ z := of_decide_eq_true hlz; have f3 : 4611686018427387904 < z := (by have := of_decide_eq_false hhz; omega); go_wp2_with (first | (go_at_call 43; (with_reducible refine (HZ.out _).mono ?_); rintro e w' ⟨rfl, hw'⟩; subst w') | (go_at_call 23; (with_reducible refine (HP.out _ HBW.out).mono ?_); rintro e w' ⟨rfl, hw'⟩; subst w')); go_meet; exact ⟨rfl, rfl⟩)
                · skip
                  (have f0 : 0 ≤ v := of_decide_eq_true hlv; have f1 : v ≤ 4611686018427387904 := of_decide_eq_true hhv; have f2 : 0 ≤ z := of_decide_eq_true hlz; have f3 : z ≤ 4611686018427387904 := of_decide_eq_true hhz; go_wp2_with (first | (go_at_call 43; (with_reducible refine (HZ.out _).mono ?_); rintro e w' ⟨rfl, hw'⟩; subst w') | (go_at_call 23; (with_reducible refine (HP.out _ HBW.out).mono ?_); rintro e w' ⟨rfl, hw'⟩; subst w')); go_meet; exact ⟨by rw [decide_eq_false (by omega : ¬ v < 0), decide_eq_false (by omega : ¬ 4611686018427387904 < v), decide_eq_false (by omega : ¬ z < 0), decide_eq_false (by omega : ¬ 4611686018427387904 < z)]; rfl, rfl⟩)
      · skip
        cases lv
        · (have f0 : v < 0 := (by have := of_decide_eq_false hlv; omega); go_wp2_with (first | (go_at_call 43; (with_reducible refine (HZ.out _).mono ?_); rintro e w' ⟨rfl, hw'⟩; subst w') | (go_at_call 23; (with_reducible refine (HP.out _ HBW.out).mono ?_); rintro e w' ⟨rfl, hw'⟩; subst w')); go_meet; exact ⟨rfl, rfl⟩)
        · skip
          cases hv
          · (have f0 : 0 ≤ v := of_decide_eq_true hlv; have f1 : 4611686018427387904 < v := (by have := of_decide_eq_false hhv; omega); go_wp2_with (first | (go_at_call 43; (with_reducible refine (HZ.out _).mono ?_); rintro e w' ⟨rfl, hw'⟩; subst w') | (go_at_call 23; (with_reducible refine (HP.out _ HBW.out).mono ?_); rintro e w' ⟨rfl, hw'⟩; subst w')); go_meet; exact ⟨rfl, rfl⟩)
          · skip
            cases lz
            · (have f0 : 0 ≤ v := of_decide_eq_true hlv; have f1 : v ≤ 4611686018427387904 := of_decide_eq_true hhv; have f2 : z < 0 := (by have := of_decide_eq_false hlz; omega); go_wp2_with (first | (go_at_call 43; (with_reducible refine (HZ.out _).mono ?_); rintro e w' ⟨rfl, hw'⟩; subst w') | (go_at_call 23; (with_reducible refine (HP.out _ HBW.out).mono ?_); rintro e w' ⟨rfl, hw'⟩; subst w')); go_meet; exact ⟨rfl, rfl⟩)
            · skip
              cases hz
              · (have f0 : 0 ≤ v := of_decide_eq_true hlv; have f1 : v ≤ 4611686018427387904 := of_decide_eq_true hhv; have f2 : 0 ≤ z := of_decide_eq_true hlz; have f3 : 4611686018427387904 < z := (by have := of_decide_eq_false hhz; omega); go_wp2_with (first | (go_at_call 43; (with_reducible refine (HZ.out _).mono ?_); rintro e w' ⟨rfl, hw'⟩; subst w') | (go_at_call 23; (with_reducible refine (HP.out _ HBW.out).mono ?_); rintro e w' ⟨rfl, hw'⟩; subst w')); go_meet; exact ⟨rfl, rfl⟩)
              · skip
                (have f0 : 0 ≤ v := of_decide_eq_true hlv; have f1 : v ≤ 4611686018427387904 := of_decide_eq_true hhv; have f2 : 0 ≤ z := of_decide_eq_true hlz; have f3 : z ≤ 4611686018427387904 := of_decide_eq_true hhz; go_wp2_with (first | (go_at_call 43; (with_reducible refine (HZ.out _).mono ?_); rintro e w' ⟨rfl, hw'⟩; subst w') | (go_at_call 23; (with_reducible refine (HP.out _ HBW.out).mono ?_); rintro e w' ⟨rfl, hw'⟩; subst w')); go_meet; exact ⟨by rw [decide_eq_false (by omega : ¬ v < 0), decide_eq_false (by omega : ¬ 4611686018427387904 < v), decide_eq_false (by omega : ¬ z < 0), decide_eq_false (by omega : ¬ 4611686018427387904 < z)]; rfl, rfl⟩)
    · (go_wp2_with (first | (go_at_call 43; (with_reducible refine (HZ.out _).mono ?_); rintro e w' ⟨rfl, hw'⟩; subst w') | (go_at_call 23; (with_reducible refine (HP.out _ HBW.out).mono ?_); rintro e w' ⟨rfl, hw'⟩; subst w')); go_meet; exact ⟨rfl, rfl⟩)
  case rest =>
  obtain ⟨hs, hwc⟩ := hcut
  have hwc' := hwc.symm
  clear hwc
  subst hwc'
  subst hs
  cases hX : (zz || (!(e1 || (e2 || pf)) || (!(lv && hv) || !(lz && hz))))
  case' true =>
    have HNO : Hid (G = false) := ⟨by rw [← HGG.out]; exact good_no _ _ _ _ _ _ _ hX⟩
    go_wp2
    go_ret
    exact ⟨ret_bool HNO.out.symm, HBW.out⟩
  have hG2 := good_yes _ _ (b0 || (b1 || b2)) (t0 || (t1 || (t2 || (t6 || tA)))) _ _ (if e1 && (b0 || (!v0 || !z0)) then false else !en || b0) hX
  rw [HGG.out] at hG2
  have HG3 : Hid _ := ⟨hG2⟩
  clear hG2 HGG hX HZ HP hpe
  go_upto_region 3 with (fail)
  go_cut [59] from 47 to 59 (fun s59 wx => s59 = .bool (!b0 && (!b1 && !b2)) ∧ wx = V)
  case first =>
    cases b0
    · cases b1
      · cases b2
        all_goals (go_wp2; go_meet; exact ⟨rfl, rfl⟩)
      · (go_wp2; go_meet; exact ⟨rfl, rfl⟩)
    · (go_wp2; go_meet; exact ⟨rfl, rfl⟩)
  case rest =>
  obtain ⟨hs, hwc⟩ := hcut
  have hwc' := hwc.symm
  clear hwc
  subst hwc'
  subst hs
  cases hX : (!b0 && (!b1 && !b2))
  case' true =>
    have HNO : Hid (G = false) := ⟨by rw [HG3.out]; revert hX; cases b0 <;> cases b1 <;> cases b2 <;> simp⟩
    go_wp2
    go_ret
    exact ⟨ret_bool HNO.out.symm, HBW.out⟩
  have HG4 : Hid (G = ((t0 || (t1 || (t2 || (t6 || tA)))) && (if e1 && (b0 || (!v0 || !z0)) then false else !en || b0))) := ⟨by rw [HG3.out]; revert hX; cases b0 <;> cases b1 <;> cases b2 <;> simp⟩
  clear HG3 hX hb1 hb2 nb1 nb2
  cases t0
  · cases t1
    · cases t2
      · cases t6
        · cases tA
          · have HNO : Hid (G = false) := ⟨by rw [HG4.out]; rfl⟩
            go_wp2
            go_ret
            exact ⟨ret_bool HNO.out.symm, HBW.out⟩
          · have HG5 : Hid (G = (if e1 && (b0 || (!v0 || !z0)) then false else !en || b0)) := ⟨by rw [HG4.out]; rfl⟩
            go_upto_region 12 with (fail)
            go_cut [85] from 68 to 85 (fun s85 wx => s85 = .bool (e1 && (b0 || (!v0 || !z0))) ∧ wx = V)
            case first =>
              cases e1
              · (go_wp2; go_meet; exact ⟨rfl, rfl⟩)
              · cases b0
                · cases v0
                  · (go_wp2; go_meet; exact ⟨rfl, rfl⟩)
                  · cases z0
                    all_goals (go_wp2; go_meet; exact ⟨rfl, rfl⟩)
                · (go_wp2; go_meet; exact ⟨rfl, rfl⟩)
            case rest =>
            obtain ⟨hs, hwc⟩ := hcut
            have hwc' := hwc.symm
            clear hwc
            subst hwc'
            subst hs
            cases hY : (e1 && (b0 || (!v0 || !z0)))
            case' true =>
              have HNO : Hid (G = false) := ⟨by rw [HG5.out, hY]; rfl⟩
              go_wp2
              go_ret
              exact ⟨ret_bool HNO.out.symm, HBW.out⟩
            have HG6 : Hid (G = (!en || b0)) := ⟨by rw [HG5.out, hY]; rfl⟩
            clear hY HG5
            cases en
            case' true => cases b0
            all_goals
              go_wp2
              go_ret
              exact ⟨ret_bool (by rw [HG6.out]; rfl), HBW.out⟩
        · have HG5 : Hid (G = (if e1 && (b0 || (!v0 || !z0)) then false else !en || b0)) := ⟨by rw [HG4.out]; rfl⟩
          go_upto_region 12 with (fail)
          go_cut [85] from 68 to 85 (fun s85 wx => s85 = .bool (e1 && (b0 || (!v0 || !z0))) ∧ wx = V)
          case first =>
            cases e1
            · (go_wp2; go_meet; exact ⟨rfl, rfl⟩)
            · cases b0
              · cases v0
                · (go_wp2; go_meet; exact ⟨rfl, rfl⟩)
                · cases z0
                  all_goals (go_wp2; go_meet; exact ⟨rfl, rfl⟩)
              · (go_wp2; go_meet; exact ⟨rfl, rfl⟩)
          case rest =>
          obtain ⟨hs, hwc⟩ := hcut
          have hwc' := hwc.symm
          clear hwc
          subst hwc'
          subst hs
          cases hY : (e1 && (b0 || (!v0 || !z0)))
          case' true =>
            have HNO : Hid (G = false) := ⟨by rw [HG5.out, hY]; rfl⟩
            go_wp2
            go_ret
            exact ⟨ret_bool HNO.out.symm, HBW.out⟩
          have HG6 : Hid (G = (!en || b0)) := ⟨by rw [HG5.out, hY]; rfl⟩
          clear hY HG5
          cases en
          case' true => cases b0
          all_goals
            go_wp2
            go_ret
            exact ⟨ret_bool (by rw [HG6.out]; rfl), HBW.out⟩
      · have HG5 : Hid (G = (if e1 && (b0 || (!v0 || !z0)) then false else !en || b0)) := ⟨by rw [HG4.out]; rfl⟩
        go_upto_region 12 with (fail)
        go_cut [85] from 68 to 85 (fun s85 wx => s85 = .bool (e1 && (b0 || (!v0 || !z0))) ∧ wx = V)
        case first =>
          cases e1
          · (go_wp2; go_meet; exact ⟨rfl, rfl⟩)
          · cases b0
            · cases v0
              · (go_wp2; go_meet; exact ⟨rfl, rfl⟩)
              · cases z0
                all_goals (go_wp2; go_meet; exact ⟨rfl, rfl⟩)
            · (go_wp2; go_meet; exact ⟨rfl, rfl⟩)
        case rest =>
        obtain ⟨hs, hwc⟩ := hcut
        have hwc' := hwc.symm
        clear hwc
        subst hwc'
        subst hs
        cases hY : (e1 && (b0 || (!v0 || !z0)))
        case' true =>
          have HNO : Hid (G = false) := ⟨by rw [HG5.out, hY]; rfl⟩
          go_wp2
          go_ret
          exact ⟨ret_bool HNO.out.symm, HBW.out⟩
        have HG6 : Hid (G = (!en || b0)) := ⟨by rw [HG5.out, hY]; rfl⟩
        clear hY HG5
        cases en
        case' true => cases b0
        all_goals
          go_wp2
          go_ret
          exact ⟨ret_bool (by rw [HG6.out]; rfl), HBW.out⟩
    · have HG5 : Hid (G = (if e1 && (b0 || (!v0 || !z0)) then false else !en || b0)) := ⟨by rw [HG4.out]; rfl⟩
      go_upto_region 12 with (fail)
      go_cut [85] from 68 to 85 (fun s85 wx => s85 = .bool (e1 && (b0 || (!v0 || !z0))) ∧ wx = V)
      case first =>
        cases e1
        · (go_wp2; go_meet; exact ⟨rfl, rfl⟩)
        · cases b0
          · cases v0
            · (go_wp2; go_meet; exact ⟨rfl, rfl⟩)
            · cases z0
              all_goals (go_wp2; go_meet; exact ⟨rfl, rfl⟩)
          · (go_wp2; go_meet; exact ⟨rfl, rfl⟩)
      case rest =>
      obtain ⟨hs, hwc⟩ := hcut
      have hwc' := hwc.symm
      clear hwc
      subst hwc'
      subst hs
      cases hY : (e1 && (b0 || (!v0 || !z0)))
      case' true =>
        have HNO : Hid (G = false) := ⟨by rw [HG5.out, hY]; rfl⟩
        go_wp2
        go_ret
        exact ⟨ret_bool HNO.out.symm, HBW.out⟩
      have HG6 : Hid (G = (!en || b0)) := ⟨by rw [HG5.out, hY]; rfl⟩
      clear hY HG5
      cases en
      case' true => cases b0
      all_goals
        go_wp2
        go_ret
        exact ⟨ret_bool (by rw [HG6.out]; rfl), HBW.out⟩
  · have HG5 : Hid (G = (if e1 && (b0 || (!v0 || !z0)) then false else !en || b0)) := ⟨by rw [HG4.out]; rfl⟩
    go_upto_region 12 with (fail)
    go_cut [85] from 68 to 85 (fun s85 wx => s85 = .bool (e1 && (b0 || (!v0 || !z0))) ∧ wx = V)
    case first =>
      cases e1
      · (go_wp2; go_meet; exact ⟨rfl, rfl⟩)
      · cases b0
        · cases v0
          · (go_wp2; go_meet; exact ⟨rfl, rfl⟩)
          · cases z0
            all_goals (go_wp2; go_meet; exact ⟨rfl, rfl⟩)
        · (go_wp2; go_meet; exact ⟨rfl, rfl⟩)
    case rest =>
    obtain ⟨hs, hwc⟩ := hcut
    have hwc' := hwc.symm
    clear hwc
    subst hwc'
    subst hs
    cases hY : (e1 && (b0 || (!v0 || !z0)))
    case' true =>
      have HNO : Hid (G = false) := ⟨by rw [HG5.out, hY]; rfl⟩
      go_wp2
      go_ret
      exact ⟨ret_bool HNO.out.symm, HBW.out⟩
    have HG6 : Hid (G = (!en || b0)) := ⟨by rw [HG5.out, hY]; rfl⟩
    clear hY HG5
    cases en
    case' true => cases b0
    all_goals
      go_wp2
      go_ret
      exact ⟨ret_bool (by rw [HG6.out]; rfl), HBW.out⟩
end Go.Proofs.YtpdcbokcoaienaaDoor
