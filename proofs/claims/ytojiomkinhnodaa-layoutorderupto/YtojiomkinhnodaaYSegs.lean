/- segments. -/
import Derived.Test.YtojiomkinhnodaaYSeg
namespace Go.Proofs.Ytojiomkinhnodaa
open Go.ChangeShapes Go.WideShapes Go.ChangeAt Go.RowKit Go.Maps
set_option linter.unusedVariables false
set_option linter.unusedSimpArgs false

def kd (k : Nat) : Int := if k = 3 then 7 else 1
def fg (k : Nat) : Int := if k = 1 then 5 else if k = 2 then 6 else 4
def fr (k : Nat) : Nat := if k = 0 then 1 else if k = 1 then 2 else 3
def tt (k : Nat) : Nat := if k = 0 then 1 else if k = 1 then 2 else if k = 2 then 8 else 4
def inK (k : Nat) (o : Ou) : Bool := decide (fr k ≤ grpO o) && decide (grpO o ≤ tt k)
def seg1 (k : Nat) (a : Sg) : Sg := ⟨kd k, fg k, a.ad, a.off, a.sz, a.me, if kd k == 1 then 4096 else a.al⟩
def segK (outs : List Ou) (k : Nat) : List Sg := if outs.filter (inK k) = [] then [] else [seg1 k (arL (outs.filter (inK k)))]
def segsL (outs : List Ou) : List Sg := (List.range 4).flatMap (segK outs)
theorem ix_rows : ∀ (k : Nat), k < 4 → ∀ W : World, (Instr.index 113 (.agg #[.int .i64 1, .int .i64 4, .int .i64 1, .int .i64 1, .int .i64 1, .int .i64 5, .int .i64 2, .int .i64 2, .int .i64 1, .int .i64 6, .int .i64 3, .int .i64 8, .int .i64 7, .int .i64 4, .int .i64 3, .int .i64 4]) (.int .i64 (k : Int))).run Try.prog W = .ok (.agg #[.int .i64 (kd k), .int .i64 (fg k), .int .i64 ((fr k : Nat) : Int), .int .i64 ((tt k : Nat) : Int)]) W
  | 0, _, W => by kernel_rfl
  | 1, _, W => by kernel_rfl
  | 2, _, W => by kernel_rfl
  | 3, _, W => by kernel_rfl
  | k + 4, h, _ => absurd h (by omega)
theorem own_step {w w' : World} {base e s n : Nat} {v : Value} {xs : List Value} (h : w.ownsRow base e s v n xs) {base' e' s' n' : Nat} {u u' : Value} {ys : List Value} (hr : w.ownsRow base' e' s' u n' ys) (hs : Step w w' u u') (he : e ≠ e') : w'.ownsRow base e s v n xs :=
  hs.turn.row h (fun q hq hq2 => by
    obtain ⟨_, _, c1, e1⟩ := own_cells2 h q hq
    obtain ⟨_, _, c2, e2⟩ := own_cells2 hr q hq2
    rw [e1] at e2
    injection e2 with e2
    injection e2 with _ e3 _
    exact absurd e3 he)
theorem bk_step {w w' : World} {b t : Nat} {cs : Array Value} (h : Bk w b t cs) {base' e' s' n' : Nat} {u u' : Value} {ys : List Value} (hr : w.ownsRow base' e' s' u n' ys) (hs : Step w w' u u') (he : t ≠ e') : Bk w' b t cs :=
  h.turn hs.turn (fun e => own_ne_bk hr h he e)
theorem step_bel {w w' : World} {B : Nat} {W : World} (h : Below B W w) {base' e' s' n' : Nat} {u u' : Value} {ys : List Value} (hr : w.ownsRow base' e' s' u n' ys) (hB : B ≤ base') (hs : Step w w' u u') (hBs : B ≤ w.heap.size) : Below B W w' :=
  h.trans (hs.turn.below hBs (fun q hq => Nat.le_trans hB (own_cells2 hr q hq).1))

theorem segsK_len (outs : List Ou) : ∀ k : Nat, k ≤ 8 → ((List.range k).flatMap (segK outs)).length ≤ 8 := fun k hk => by
  have h : ∀ n, ((List.range n).flatMap (segK outs)).length ≤ n := fun n => by
    induction n with
    | zero => simp
    | succ n ih =>
      rw [List.range_succ, List.flatMap_append, List.length_append]
      have : ((List.flatMap (segK outs) [n])).length ≤ 1 := by
        simp only [List.flatMap_cons, List.flatMap_nil, List.append_nil]
        unfold segK
        split <;> simp
      omega
  exact Nat.le_trans (h k) hk
set_option maxHeartbeats 16000000 in
set_option maxRecDepth 20000 in
theorem segments_any (ao : Option Addr) (c : Nat) (outs : List Ou) (w : World) (hb : OuB outs) (hn : outs.length ≤ 2097152) (h : Outs w ao outs) :
    Calls Try.prog 41 #[.slice ao outs.length c] w fun e w' => ∃ ga gc, e = .returned (.slice ga (segsL outs).length gc) ∧ OwnR 57 7 encG w' w.heap.size (.slice ga (segsL outs).length gc) (segsL outs) ∧ Below w.heap.size w w' := by
  obtain ⟨B, hB⟩ : ∃ B, w.heap.size = B := ⟨_, rfl⟩
  have HIN : Hid _ := ⟨h⟩
  have HBD : Hid _ := ⟨hb⟩
  have HG : Hid (∀ o W, _) := ⟨groupOf_any⟩
  have hix := ix_rows
  have HB0 : Hid (Below B w (w.alloc (.cells #[.int .i64 1, .int .i64 4, .int .i64 1, .int .i64 1, .int .i64 1, .int .i64 5, .int .i64 2, .int .i64 2, .int .i64 1, .int .i64 6, .int .i64 3, .int .i64 8, .int .i64 7, .int .i64 4, .int .i64 3, .int .i64 4] 113))) := ⟨by rw [← hB]; exact (Below.refl _ _).alloc (Nat.le_refl _) _⟩
  have r16 : (w.alloc (.cells #[.int .i64 1, .int .i64 4, .int .i64 1, .int .i64 1, .int .i64 1, .int .i64 5, .int .i64 2, .int .i64 2, .int .i64 1, .int .i64 6, .int .i64 3, .int .i64 8, .int .i64 7, .int .i64 4, .int .i64 3, .int .i64 4] 113)).heap[B]? = some (.cells #[.int .i64 1, .int .i64 4, .int .i64 1, .int .i64 1, .int .i64 1, .int .i64 5, .int .i64 2, .int .i64 2, .int .i64 1, .int .i64 6, .int .i64 3, .int .i64 8, .int .i64 7, .int .i64 4, .int .i64 3, .int .i64 4] 113 (0, 0)) := by rw [← hB]; exact heap_alloc_new w _
  clear h hb
  go_enter Try.func41, Try.ntmps41
  go_upto_region 2 with (fail)
  generalize w.alloc (.cells #[.int .i64 1, .int .i64 4, .int .i64 1, .int .i64 1, .int .i64 1, .int .i64 5, .int .i64 2, .int .i64 2, .int .i64 1, .int .i64 6, .int .i64 3, .int .i64 8, .int .i64 7, .int .i64 4, .int .i64 3, .int .i64 4] 113) = w0 at *
  have HK16 : Hid (Bk w0 B 113 #[.int .i64 1, .int .i64 4, .int .i64 1, .int .i64 1, .int .i64 1, .int .i64 5, .int .i64 2, .int .i64 2, .int .i64 1, .int .i64 6, .int .i64 3, .int .i64 8, .int .i64 7, .int .i64 4, .int .i64 3, .int .i64 4]) := ⟨⟨r16⟩⟩
  clear r16
  go_upto_region 3 with (fail)
  iterate 1 go_step
  refine wpList_load_of (p := ⟨B, 0, none⟩) (v := .agg #[.int .i64 1, .int .i64 4, .int .i64 1, .int .i64 1, .int .i64 1, .int .i64 5, .int .i64 2, .int .i64 2, .int .i64 1, .int .i64 6, .int .i64 3, .int .i64 8, .int .i64 7, .int .i64 4, .int .i64 3, .int .i64 4]) rfl (by kernel_rfl) (by kernel_rfl) (run_loadVar_row w0 B _ _ #[.int .i64 1, .int .i64 4, .int .i64 1, .int .i64 1, .int .i64 1, .int .i64 5, .int .i64 2, .int .i64 2, .int .i64 1, .int .i64 6, .int .i64 3, .int .i64 8, .int .i64 7, .int .i64 4, .int .i64 3, .int .i64 4] _ _ HK16.out.hp Try.underlying113 rfl (by kernel_rfl)) ?_
  try simp only [Act.put, List.getElem_toArray, List.getElem_cons_succ, List.getElem_cons_zero, List.setIfInBounds_toArray, List.set_cons_zero, List.set_cons_succ]
  refine wpList_val (v := .int .i64 0) (by kernel_rfl) (by kernel_rfl) ?_
  try simp only [Act.put, List.getElem_toArray, List.getElem_cons_succ, List.getElem_cons_zero, List.setIfInBounds_toArray, List.set_cons_zero, List.set_cons_succ]
  refine wpList_nil ?_
  go_upto_region 4 with (fail)
  clear HK16
  go_loopw [4, 18] (fun v4 v18 wr => ∃ k : Nat, k ≤ 4 ∧ v18 = .int .i64 k ∧ Hid (OwnR 57 7 encG wr B v4 ((List.range k).flatMap (segK outs)) ∧ Below B w wr)) (fun _ i _ => 4 - (intOf i).toNat)
  case atStart => exact ⟨0, by omega, rfl, ⟨OwnR.nil _ _, HB0.out⟩⟩
  case round =>
    obtain ⟨k, hk, rfl, HV⟩ := hrel
    by_cases hlt : k < 4
    · have hixk := hix k hlt
      clear hix
      have HRB : Hid (Bk (wr.alloc (.cells #[.int .i64 (kd k), .int .i64 (fg k), .int .i64 ((fr k : Nat) : Int), .int .i64 ((tt k : Nat) : Int)] 112)) wr.heap.size 112 #[.int .i64 (kd k), .int .i64 (fg k), .int .i64 ((fr k : Nat) : Int), .int .i64 ((tt k : Nat) : Int)]) := ⟨Bk.new _ _ _⟩
      have HW1 : Hid (OwnR 57 7 encG (wr.alloc (.cells #[.int .i64 (kd k), .int .i64 (fg k), .int .i64 ((fr k : Nat) : Int), .int .i64 ((tt k : Nat) : Int)] 112)) B u4 ((List.range k).flatMap (segK outs)) ∧ Below B w (wr.alloc (.cells #[.int .i64 (kd k), .int .i64 (fg k), .int .i64 ((fr k : Nat) : Int), .int .i64 ((tt k : Nat) : Int)] 112))) := ⟨World.ownsRow.alloc HV.out.1 _, HV.out.2.alloc (by have := HV.out.2.size; omega) _⟩
      have HSZ1 : Hid ((wr.alloc (.cells #[.int .i64 (kd k), .int .i64 (fg k), .int .i64 ((fr k : Nat) : Int), .int .i64 ((tt k : Nat) : Int)] 112)).heap.size = wr.heap.size + 1) := ⟨by simp⟩
      have HRB0 : Hid (B ≤ wr.heap.size) := ⟨by have := HV.out.2.size; omega⟩
      clear HV
      go_upto_region 6 with (fail)
      obtain ⟨R, hR⟩ : ∃ R, wr.heap.size = R := ⟨_, rfl⟩
      rw [hR] at HRB HSZ1 HRB0 ⊢
      clear hR hixk
      generalize wr.alloc (.cells #[.int .i64 (kd k), .int .i64 (fg k), .int .i64 ((fr k : Nat) : Int), .int .i64 ((tt k : Nat) : Int)] 112) = w1 at *
      go_upto_region 8 with (fail)
      try rw [decide_eq_true (show ((k : Nat) : Int) < 4 by omega)]
      go_loopw [7, 23] (fun v7 v23 wi => ∃ j : Nat, j ≤ outs.length ∧ v23 = .int .i64 j ∧ Hid (OwnR 47 6 encO wi (R + 1) v7 ((outs.take j).filter (inK k)) ∧ Below (R + 1) w1 wi)) (fun _ i _ => outs.length - (intOf i).toNat)
      case atStart => exact ⟨0, by omega, rfl, ⟨OwnR.nil _ _, by have := Below.refl w1.heap.size w1; rwa [HSZ1.out] at this⟩⟩
      case round =>
        obtain ⟨j, hj, rfl, HZ⟩ := hrel
        by_cases hlj : j < outs.length
        · have HKE : Hid (Bk (wr.alloc (.cells (encO outs[j]).toArray 47)) R 112 #[.int .i64 (kd k), .int .i64 (fg k), .int .i64 ((fr k : Nat) : Int), .int .i64 ((tt k : Nat) : Int)]) := ⟨(HRB.out.bel HZ.out.2 (by omega)).alloc _⟩
          obtain ⟨b, off, eao, hat⟩ : ∃ b off, ao = some ⟨b, off, none⟩ ∧ ∀ i, i < outs.length → OutAt wr b (off + i * 6) (outs.getD i Ou.zero) := by
            rcases HIN.out.below (HW1.out.2.trans (HZ.out.2.mono (Nat.le_succ_of_le HRB0.out))) (Nat.le_of_eq hB) with h | h
            · rw [h] at hlj; simp at hlj
            · exact h
          subst eao
          obtain ⟨c0, c1, c2, c3, c4, c5⟩ := hat j hlj
          have hgd : outs.getD j Ou.zero = outs[j] := by simp [hlj]
          rw [hgd] at c0 c1 c2 c3 c4 c5
          clear hat hgd
          have HST : Hid ((outs.take (j + 1)).filter (inK k) = (outs.take j).filter (inK k) ++ (if inK k outs[j] then [outs[j]] else [])) := ⟨by rw [List.take_succ_eq_append_getElem hlj, List.filter_append]; congr 1; simp only [List.filter_cons, List.filter_nil]⟩
          have HFL : Hid (((outs.take j).filter (inK k)).length ≤ 2097152) := ⟨by have := List.length_filter_le (inK k) (outs.take j); simp at this; omega⟩
          have HOA : Hid (OwnR 47 6 encO (wr.alloc (.cells (encO outs[j]).toArray 47)) (R + 1) u7 ((outs.take j).filter (inK k)) ∧ Below (R + 1) w1 (wr.alloc (.cells (encO outs[j]).toArray 47))) := ⟨World.ownsRow.alloc HZ.out.1 _, HZ.out.2.alloc (by have := HZ.out.2.size; have := HSZ1.out; omega) _⟩
          have HO : Hid (Bk (wr.alloc (.cells (encO outs[j]).toArray 47)) wr.heap.size 47 (encO outs[j]).toArray) := ⟨Bk.new _ _ _⟩
          have HQR : Hid (wr.heap.size ≠ R) := ⟨by have := HZ.out.2.size; have := HSZ1.out; omega⟩
          have hIK : inK k outs[j] = (decide (fr k ≤ grpO outs[j]) && decide (grpO outs[j] ≤ tt k)) := rfl
          have HGR : Hid (∀ W, _) := ⟨fun W => HG.out outs[j] W⟩
          clear HZ
          obtain ⟨x, hx⟩ : ∃ x, x = outs[j] := ⟨_, rfl⟩
          rw [← hx] at c0 c1 c2 c3 c4 c5 HST HKE HOA HO hIK HGR
          clear hx
          generalize grpO x = g at *
          obtain ⟨onm, oty, ofl, oal, oad, osz⟩ := x
          dsimp only [encO, Ou.val] at *
          go_upto_region 10 with (fail)
          obtain ⟨Q, hQ⟩ : ∃ Q, wr.heap.size = Q := ⟨_, rfl⟩
          rw [hQ] at HO HQR ⊢
          clear hQ c0 c1 c2 c3 c4 c5
          generalize (wr.alloc (.cells #[.string onm, .int .i64 oty, .int .i64 ofl, .int .i64 oal, .int .i64 oad, .int .i64 osz] 47)) = v1 at *
          have o0 := HO.out.cell 0 rfl
          have o1 := HO.out.cell 1 rfl
          have o2 := HO.out.cell 2 rfl
          have o3 := HO.out.cell 3 rfl
          have o4 := HO.out.cell 4 rfl
          have o5 := HO.out.cell 5 rfl
          go_upto_region 11 with (go_at_call 40; refine (HGR.out _).mono ?_; rintro e v2 ⟨rfl, hb2⟩; have HB2 : Hid _ := ⟨hb2⟩; clear hb2)
          have HKE2 : Hid (Bk v2 R 112 #[.int .i64 (kd k), .int .i64 (fg k), .int .i64 ((fr k : Nat) : Int), .int .i64 ((tt k : Nat) : Int)]) := ⟨HKE.out.bel HB2.out HKE.out.lt⟩
          have HO2 : Hid (Bk v2 Q 47 #[.string onm, .int .i64 oty, .int .i64 ofl, .int .i64 oal, .int .i64 oad, .int .i64 osz]) := ⟨HO.out.bel HB2.out HO.out.lt⟩
          have HOA2 : Hid (OwnR 47 6 encO v2 (R + 1) u7 ((outs.take j).filter (inK k)) ∧ Below (R + 1) w1 v2) := ⟨own_bel HOA.out.1 HB2.out, HOA.out.2.trans (HB2.out.mono (by have := HOA.out.2.size; have := HSZ1.out; omega))⟩
          clear HB2 HKE HO HOA o0 o1 o2 o3 o4 o5
          have r2 := HKE2.out.cell 2 rfl
          have r3 := HKE2.out.cell 3 rfl
          generalize hF : fr k = F at *
          generalize hT : tt k = T at *
          obtain ⟨z1, hz1⟩ : ∃ b, decide (((F : Nat) : Int) ≤ ((g : Nat) : Int)) = b := ⟨_, rfl⟩
          obtain ⟨z2, hz2⟩ : ∃ b, decide (((g : Nat) : Int) ≤ ((T : Nat) : Int)) = b := ⟨_, rfl⟩
          have e1 : decide (F ≤ g) = z1 := by rw [← hz1]; simp
          have e2 : decide (g ≤ T) = z2 := by rw [← hz2]; simp
          rw [e1, e2] at hIK
          rw [hIK] at HST
          clear hIK
          have o0 := HO2.out.cell 0 rfl
          have o1 := HO2.out.cell 1 rfl
          have o2 := HO2.out.cell 2 rfl
          have o3 := HO2.out.cell 3 rfl
          have o4 := HO2.out.cell 4 rfl
          have o5 := HO2.out.cell 5 rfl
          have hR1 : R + 1 ≤ v2.heap.size := by have := HOA2.out.2.size; have := HSZ1.out; omega
          obtain ⟨ua, un, uc, hu7⟩ := own_sl HOA2.out.1
          subst hu7
          have HU : Hid _ := ⟨own_sl HOA2.out.1⟩
          cases z1 <;> cases z2
          · have HN : Hid (OwnR 47 6 encO v2 (R + 1) (.slice ua un uc) ((outs.take (j + 1)).filter (inK k)) ∧ Below (R + 1) w1 v2) := ⟨by rw [show (outs.take (j + 1)).filter (inK k) = (outs.take j).filter (inK k) ++ [] from HST.out, List.append_nil]; exact HOA2.out.1, HOA2.out.2⟩
            go_upto_region 13 with (fail)
            clear HOA2 HST HO2 HKE2
            go_wp2
            subst hF hT
            go_roundw
            case rel => first | exact ⟨j + 1, hlj, by go_num, HN⟩ | exact ⟨_, _, _, _, _, _, _, _, _, _, _, _, _, _, _, _, _, _, _, _, _, _, _, _, ⟨j + 1, hlj, by go_num, HN⟩, rfl⟩
            case measure => simp [intOf]; omega
          · have HN : Hid (OwnR 47 6 encO v2 (R + 1) (.slice ua un uc) ((outs.take (j + 1)).filter (inK k)) ∧ Below (R + 1) w1 v2) := ⟨by rw [show (outs.take (j + 1)).filter (inK k) = (outs.take j).filter (inK k) ++ [] from HST.out, List.append_nil]; exact HOA2.out.1, HOA2.out.2⟩
            go_upto_region 13 with (fail)
            clear HOA2 HST HO2 HKE2
            go_wp2
            subst hF hT
            go_roundw
            case rel => first | exact ⟨j + 1, hlj, by go_num, HN⟩ | exact ⟨_, _, _, _, _, _, _, _, _, _, _, _, _, _, _, _, _, _, _, _, _, _, _, _, ⟨j + 1, hlj, by go_num, HN⟩, rfl⟩
            case measure => simp [intOf]; omega
          · have HN : Hid (OwnR 47 6 encO v2 (R + 1) (.slice ua un uc) ((outs.take (j + 1)).filter (inK k)) ∧ Below (R + 1) w1 v2) := ⟨by rw [show (outs.take (j + 1)).filter (inK k) = (outs.take j).filter (inK k) ++ [] from HST.out, List.append_nil]; exact HOA2.out.1, HOA2.out.2⟩
            go_upto_region 13 with (fail)
            clear HOA2 HST HO2 HKE2
            go_wp2
            subst hF hT
            go_roundw
            case rel => first | exact ⟨j + 1, hlj, by go_num, HN⟩ | exact ⟨_, _, _, _, _, _, _, _, _, _, _, _, _, _, _, _, _, _, _, _, _, _, _, _, ⟨j + 1, hlj, by go_num, HN⟩, rfl⟩
            case measure => simp [intOf]; omega
          · go_upto_region 13 with (at_builtin; refine append_R rfl _ _ 24 (.agg (encO Ou.zero).toArray) 56 rfl Try.underlying24 infoO (by kernel_rfl) (by decide) encO_len encO_one rfl HOA2.out.1 (⟨onm, oty, ofl, oal, oad, osz⟩ : Ou) rfl (by simp) rfl (by have := HFL.out; unfold maxLen; omega) (by have := HFL.out; omega) hR1 ?_; intro v3 w3 hr3 hs3; have HR3 : Hid _ := ⟨hr3⟩; have HS3 : Hid _ := ⟨hs3⟩; clear hr3 hs3; go_frame)
            obtain ⟨ya, yn, yc, hv3⟩ := own_sl HR3.out
            subst hv3
            have HN : Hid (OwnR 47 6 encO w3 (R + 1) (.slice ya yn yc) ((outs.take (j + 1)).filter (inK k)) ∧ Below (R + 1) w1 w3) := ⟨by rw [show (outs.take (j + 1)).filter (inK k) = (outs.take j).filter (inK k) ++ [(⟨onm, oty, ofl, oal, oad, osz⟩ : Ou)] from HST.out]; exact HR3.out, step_bel HOA2.out.2 HOA2.out.1 (Nat.le_refl _) HS3.out hR1⟩
            clear HOA2 HST HO2 HKE2 HR3 HS3
            go_wp2
            subst hF hT
            go_roundw
            case rel => first | exact ⟨j + 1, hlj, by go_num, HN⟩ | exact ⟨_, _, _, _, _, _, _, _, _, _, _, _, _, _, _, _, _, _, _, _, _, _, _, _, ⟨j + 1, hlj, by go_num, HN⟩, rfl⟩
            case measure => simp [intOf]; omega
        · obtain rfl : j = outs.length := by omega
          rw [List.take_of_length_le (Nat.le_refl _)] at HZ
          have HSK : Hid (segK outs k = if outs.filter (inK k) = [] then [] else [seg1 k (arL (outs.filter (inK k)))]) := ⟨rfl⟩
          have HFB : Hid (OuB (outs.filter (inK k))) := ⟨fun o ho => HBD.out o (List.mem_filter.1 ho).1⟩
          have HFN : Hid ((outs.filter (inK k)).length ≤ 2097152) := ⟨Nat.le_trans (List.length_filter_le _ _) hn⟩
          generalize outs.filter (inK k) = fl at *
          obtain ⟨fa, fc, hu7, hfo⟩ := outs_of HZ.out.1
          subst hu7
          have HFO : Hid _ := ⟨hfo⟩
          clear hfo
          have HKE : Hid (Bk wr R 112 #[.int .i64 (kd k), .int .i64 (fg k), .int .i64 ((fr k : Nat) : Int), .int .i64 ((tt k : Nat) : Int)]) := ⟨HRB.out.bel HZ.out.2 (by omega)⟩
          have HW2 : Hid (OwnR 57 7 encG wr B u4 ((List.range k).flatMap (segK outs)) ∧ Below B w wr) := ⟨own_bel HW1.out.1 (by rw [HSZ1.out]; exact HZ.out.2), HW1.out.2.trans (HZ.out.2.mono (Nat.le_succ_of_le HRB0.out))⟩
          have HRL : Hid ((List.range (k + 1)).flatMap (segK outs) = (List.range k).flatMap (segK outs) ++ segK outs k) := ⟨by rw [List.range_succ, List.flatMap_append]; simp⟩
          clear HZ HW1
          obtain ⟨ga, gn', gc, hu4⟩ := own_sl HW2.out.1
          subst hu4
          by_cases hfl : fl = []
          · subst hfl
            rw [HSK.out, if_pos rfl, List.append_nil] at HRL
            simp only [List.length_nil] at *
            go_wp2
            go_roundw
            case rel => first | exact ⟨k + 1, by omega, by go_num, ⟨by rw [HRL.out]; exact HW2.out.1, HW2.out.2⟩⟩ | (trace_state; fail "x")
            case measure => simp [intOf]; omega
          · have hl0 : 0 < fl.length := List.length_pos_iff.2 hfl
            have HAR : Hid _ := ⟨around_any fa fc fl wr hfl HFB.out HFN.out HFO.out⟩
            rw [HSK.out, if_neg hfl] at HRL
            have HSG : Hid (seg1 k (arL fl) = ⟨kd k, fg k, (arL fl).ad, (arL fl).off, (arL fl).sz, (arL fl).me, if kd k == 1 then 4096 else (arL fl).al⟩) := ⟨rfl⟩
            generalize seg1 k (arL fl) = sk at *
            generalize arL fl = sg at *
            obtain ⟨gty, gfl, gad, gof, gsz, gme, gal⟩ := sg
            dsimp only at *
            go_upto_region 16 with (go_at_call 54; refine HAR.out.mono ?_; rintro e v2 ⟨rfl, hb2⟩; have HB2 : Hid _ := ⟨hb2⟩; clear hb2)
            clear HAR HFO
            have HSB : Hid (Bk (v2.alloc (.cells #[.int .i64 gty, .int .i64 gfl, .int .i64 gad, .int .i64 gof, .int .i64 gsz, .int .i64 gme, .int .i64 gal] 57)) v2.heap.size 57 #[.int .i64 gty, .int .i64 gfl, .int .i64 gad, .int .i64 gof, .int .i64 gsz, .int .i64 gme, .int .i64 gal]) := ⟨Bk.new _ _ _⟩
            have HKE2 : Hid (Bk (v2.alloc (.cells #[.int .i64 gty, .int .i64 gfl, .int .i64 gad, .int .i64 gof, .int .i64 gsz, .int .i64 gme, .int .i64 gal] 57)) R 112 #[.int .i64 (kd k), .int .i64 (fg k), .int .i64 ((fr k : Nat) : Int), .int .i64 ((tt k : Nat) : Int)]) := ⟨(HKE.out.bel HB2.out HKE.out.lt).alloc _⟩
            have HW3 : Hid (OwnR 57 7 encG (v2.alloc (.cells #[.int .i64 gty, .int .i64 gfl, .int .i64 gad, .int .i64 gof, .int .i64 gsz, .int .i64 gme, .int .i64 gal] 57)) B (.slice ga gn' gc) ((List.range k).flatMap (segK outs)) ∧ Below B w (v2.alloc (.cells #[.int .i64 gty, .int .i64 gfl, .int .i64 gad, .int .i64 gof, .int .i64 gsz, .int .i64 gme, .int .i64 gal] 57))) := ⟨World.ownsRow.alloc (own_bel HW2.out.1 HB2.out) _, (bt2 hB HW2.out.2 HB2.out).alloc (by have := HW2.out.2.size; have := HB2.out.size; omega) _⟩
            have HQ : Hid (v2.heap.size ≠ R ∧ B ≤ v2.heap.size) := ⟨by have := HKE.out.lt; have := HB2.out.size; omega, by have := HW2.out.2.size; have := HB2.out.size; omega⟩
            have HNB : Hid (Value.ownBlock (.slice ga gn' gc) ≠ some v2.heap.size) := ⟨fun e => by have := (own_cells2 (own_bel HW2.out.1 HB2.out) _ e).2.1; omega⟩
            clear HKE HW2 HB2
            obtain ⟨S, hS⟩ : ∃ S, v2.heap.size = S := ⟨_, rfl⟩
            rw [hS] at HSB HQ HNB ⊢
            clear hS
            generalize v2.alloc (.cells #[.int .i64 gty, .int .i64 gfl, .int .i64 gad, .int .i64 gof, .int .i64 gsz, .int .i64 gme, .int .i64 gal] 57) = v3 at *
            have hQS := HQ.out.1
            have r0 : v3.cell? ⟨R, 0, none⟩ = some (.int .i64 (kd k)) := HKE2.out.cell 0 rfl
            have r1 : v3.cell? ⟨R, 1, none⟩ = some (.int .i64 (fg k)) := HKE2.out.cell 1 rfl
            have s0 : v3.cell? ⟨S, 0, none⟩ = some (.int .i64 gty) := HSB.out.cell 0 rfl
            have s1 : v3.cell? ⟨S, 1, none⟩ = some (.int .i64 gfl) := HSB.out.cell 1 rfl
            have f0 : v3.frozen? ⟨S, 0, none⟩ = false := HSB.out.fro 0
            have f1 : v3.frozen? ⟨S, 1, none⟩ = false := HSB.out.fro 1
            go_region
            have HSB4 : Hid (Bk (((v3.setCell ⟨S, 0, none⟩ (.int .i64 (kd k))).setCell ⟨S, 1, none⟩ (.int .i64 (fg k))).drew) S 57 #[.int .i64 (kd k), .int .i64 (fg k), .int .i64 gad, .int .i64 gof, .int .i64 gsz, .int .i64 gme, .int .i64 gal]) := ⟨⟨((HSB.out.setC 0 (.int .i64 (kd k))).setC 1 (.int .i64 (fg k))).hp⟩⟩
            have HKE4 : Hid (Bk (((v3.setCell ⟨S, 0, none⟩ (.int .i64 (kd k))).setCell ⟨S, 1, none⟩ (.int .i64 (fg k))).drew) R 112 #[.int .i64 (kd k), .int .i64 (fg k), .int .i64 ((fr k : Nat) : Int), .int .i64 ((tt k : Nat) : Int)]) := ⟨⟨((HKE2.out.setCo ⟨S, 0, none⟩ (.int .i64 (kd k)) (fun e => hQS e.symm)).setCo ⟨S, 1, none⟩ (.int .i64 (fg k)) (fun e => hQS e.symm)).hp⟩⟩
            have HW4 : Hid (OwnR 57 7 encG (((v3.setCell ⟨S, 0, none⟩ (.int .i64 (kd k))).setCell ⟨S, 1, none⟩ (.int .i64 (fg k))).drew) B (.slice ga gn' gc) ((List.range k).flatMap (segK outs)) ∧ Below B w (((v3.setCell ⟨S, 0, none⟩ (.int .i64 (kd k))).setCell ⟨S, 1, none⟩ (.int .i64 (fg k))).drew)) := ⟨by
              have o1 := own_setC HW3.out.1 HNB.out 0 (.int .i64 (kd k))
              have o2 := own_setC o1 HNB.out 1 (.int .i64 (fg k))
              exact own_bel o2 (Below.refl _ _).drew, (bel_setC (bel_setC HW3.out.2 ⟨S, 0, none⟩ HQ.out.2 _) ⟨S, 1, none⟩ HQ.out.2 _).drew⟩
            clear HSB HKE2 HW3 r0 r1 s0 s1 f0 f1 hQS
            generalize ((v3.setCell ⟨S, 0, none⟩ (.int .i64 (kd k))).setCell ⟨S, 1, none⟩ (.int .i64 (fg k))).drew = v4 at *
            have HLN : Hid (((List.range k).flatMap (segK outs)).length ≤ 8) := ⟨segsK_len outs k (by omega)⟩
            have hBB : B ≤ v4.heap.size := by have := HW4.out.2.size; omega
            have r0 := HKE4.out.cell 0 rfl
            by_cases hk1 : kd k = 1
            · rw [hk1] at HSG HSB4 r0
              have s6 := HSB4.out.cell 6 rfl
              have f6 := HSB4.out.fro 6
              go_upto_region 19 with (fail)
              have HSB5 : Hid (Bk (v4.setCell ⟨S, 6, none⟩ (.int .i64 4096)) S 57 #[.int .i64 1, .int .i64 (fg k), .int .i64 gad, .int .i64 gof, .int .i64 gsz, .int .i64 gme, .int .i64 4096]) := ⟨HSB4.out.setC 6 (.int .i64 4096)⟩
              have HW5 : Hid (OwnR 57 7 encG (v4.setCell ⟨S, 6, none⟩ (.int .i64 4096)) B (.slice ga gn' gc) ((List.range k).flatMap (segK outs)) ∧ Below B w (v4.setCell ⟨S, 6, none⟩ (.int .i64 4096))) := ⟨own_setC HW4.out.1 HNB.out 6 _, bel_setC HW4.out.2 ⟨S, 6, none⟩ HQ.out.2 _⟩
              clear HW4 HSB4 HKE4 s6 f6 r0 hBB
              generalize v4.setCell ⟨S, 6, none⟩ (.int .i64 4096) = v5 at *
              have hBB : B ≤ v5.heap.size := by have := HW5.out.2.size; omega
              have s0 := HSB5.out.cell 0 rfl
              have s1 := HSB5.out.cell 1 rfl
              have s2 := HSB5.out.cell 2 rfl
              have s3 := HSB5.out.cell 3 rfl
              have s4 := HSB5.out.cell 4 rfl
              have s5 := HSB5.out.cell 5 rfl
              have s6 := HSB5.out.cell 6 rfl
              go_upto_region 20 with (at_builtin; refine append_R rfl _ _ 26 (.agg (encG Sg.zero).toArray) 56 rfl Try.underlying26 infoG (by kernel_rfl) (by decide) encG_len encG_one rfl HW5.out.1 (⟨1, fg k, gad, gof, gsz, gme, 4096⟩ : Sg) rfl (by simp) rfl (by have := HLN.out; unfold maxLen; omega) (by have := HLN.out; omega) hBB ?_; intro v8 w8 hr8 hs8; have HR8 : Hid _ := ⟨hr8⟩; have HS8 : Hid _ := ⟨hs8⟩; clear hr8 hs8; go_frame)
              clear s0 s1 s2 s3 s4 s5 s6 HSB5
              obtain ⟨ya, yn, yc, hv8⟩ := own_sl HR8.out
              subst hv8
              have HN : Hid (OwnR 57 7 encG w8 B (.slice ya yn yc) ((List.range (k + 1)).flatMap (segK outs)) ∧ Below B w w8) := ⟨by rw [HRL.out, HSG.out]; exact HR8.out, step_bel HW5.out.2 HW5.out.1 (Nat.le_refl _) HS8.out hBB⟩
              clear HW5 HR8 HS8 HSG HRL
              go_wp2
              go_roundw
              case rel => first | exact ⟨k + 1, by omega, by go_num, HN⟩ | (trace_state; fail "x")
              case measure => simp [intOf]; omega
            · have h71 : kd k = 7 := by unfold kd at hk1 ⊢; split <;> simp_all
              rw [h71] at HSG HSB4 r0
              have s0 := HSB4.out.cell 0 rfl
              have s1 := HSB4.out.cell 1 rfl
              have s2 := HSB4.out.cell 2 rfl
              have s3 := HSB4.out.cell 3 rfl
              have s4 := HSB4.out.cell 4 rfl
              have s5 := HSB4.out.cell 5 rfl
              have s6 := HSB4.out.cell 6 rfl
              go_upto_region 20 with (at_builtin; refine append_R rfl _ _ 26 (.agg (encG Sg.zero).toArray) 56 rfl Try.underlying26 infoG (by kernel_rfl) (by decide) encG_len encG_one rfl HW4.out.1 (⟨7, fg k, gad, gof, gsz, gme, gal⟩ : Sg) rfl (by simp) rfl (by have := HLN.out; unfold maxLen; omega) (by have := HLN.out; omega) hBB ?_; intro v8 w8 hr8 hs8; have HR8 : Hid _ := ⟨hr8⟩; have HS8 : Hid _ := ⟨hs8⟩; clear hr8 hs8; go_frame)
              clear s0 s1 s2 s3 s4 s5 s6 HSB4 HKE4 r0
              obtain ⟨ya, yn, yc, hv8⟩ := own_sl HR8.out
              subst hv8
              have HN : Hid (OwnR 57 7 encG w8 B (.slice ya yn yc) ((List.range (k + 1)).flatMap (segK outs)) ∧ Below B w w8) := ⟨by rw [HRL.out, HSG.out]; exact HR8.out, step_bel HW4.out.2 HW4.out.1 (Nat.le_refl _) HS8.out hBB⟩
              clear HW4 HR8 HS8 HSG HRL
              go_wp2
              go_roundw
              case rel => first | exact ⟨k + 1, by omega, by go_num, HN⟩ | (trace_state; fail "x")
              case measure => simp [intOf]; omega
    · obtain rfl : k = 4 := by omega
      have HSL : Hid ((List.range 4).flatMap (segK outs) = segsL outs) := ⟨rfl⟩
      rw [HSL.out] at HV
      obtain ⟨ga, gn', gc, hu4⟩ := own_sl HV.out.1
      subst hu4
      obtain ⟨_, _, hv2, _⟩ := HV.out.1.any encG_len
      injection hv2 with e1 e2 e3
      subst e2
      have HFIN : Hid (∃ a c, Value.slice ga (segsL outs).length gc = .slice a (segsL outs).length c ∧ OwnR 57 7 encG wr w.heap.size (.slice a (segsL outs).length c) (segsL outs) ∧ Below w.heap.size w wr) := ⟨⟨_, _, rfl, by rw [hB]; exact HV.out.1, by rw [hB]; exact HV.out.2⟩⟩
      clear HV
      go_wp2_with fail
      exact bodyPost_ret (v := .slice ga (segsL outs).length gc) (by kernel_rfl) rfl (by obtain ⟨a, c2, e, h⟩ := HFIN.out; injection e with e1 e2 e3; subst e1 e3; exact ⟨_, _, rfl, h⟩)
end Go.Proofs.Ytojiomkinhnodaa
