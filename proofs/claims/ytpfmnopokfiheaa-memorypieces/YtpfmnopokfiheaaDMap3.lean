/- The contract of the document's Map, whole. -/
import Derived.Test.YtpfmnopokfiheaaDMap2
import Derived.Deep.DeepMust
namespace Go.Proofs.Ytpfmnopokfiheaa
open Go.ChangeShapes Go.WideShapes Go.ChangeAt Go.RowKit Go.Maps
set_option linter.unusedVariables false
set_option linter.unusedSimpArgs false

theorem OwnP.five {w : World} {base : Nat} {v : Value} {pb : Nat → Nat} {L : List Pz} (h : OwnP w base v pb L) {k : Nat} {c : Array Value} (hk : w.heap[k]? = some (.cells c 5)) : v.ownBlock ≠ some k := fun e => by
  rcases h.2 with ⟨hv', _⟩ | ⟨g, cap, cur, hv', _, hg, _⟩
  · rw [hv'] at e; cases e
  · rw [hv'] at e
    cases e
    rw [hg] at hk
    injection hk with hk
    injection hk with h1 h2
    cases h2

theorem OwnP.sl {w : World} {base : Nat} {v : Value} {pb : Nat → Nat} {L : List Pz} (h : OwnP w base v pb L) : ∃ ao c N, v = .slice ao N c := by
  obtain ⟨ao, c, hv, _⟩ := h.any
  exact ⟨ao, c, _, hv⟩
theorem OwnP.alloc {w : World} {base : Nat} {v : Value} {pb : Nat → Nat} {L : List Pz} (h : OwnP w base v pb L) (o : Obj) : OwnP (w.alloc o) base v pb L := World.ownsRow.alloc h o
theorem alloc_size (w : World) (o : Obj) : (w.alloc o).heap.size = w.heap.size + 1 := by simp
theorem PgS.congr {w : World} {pb pb' : Nat → Nat} {ao : Option Addr} {c : Nat} {m : List Pz} (h : PgS w pb ao c m) (hk : ∀ p ∈ m, pb p.k = pb' p.k) : PgS w pb' ao c m :=
  ⟨h.nil', fun j u hj => h.at' j u (by rw [pzs_congr hk]; exact hj)⟩

set_option maxHeartbeats 4000000 in
set_option maxRecDepth 10000 in
theorem rmap_rest (rb f n : Nat) (lv : Value) (pb : Nat → Nat) (L : List Pz) (may : Int) (w : World) (h : RA w rb lv pb L) (hN : namE (f * 4096) (n : Int) may = 0) (hL : L.length ≤ 1024) :
    Calls Try.prog 29 #[.pointer (some ⟨rb, 0, none⟩), .int .u64 ((f * 4096 : Nat) : Int), .int .i64 n, .int .i64 may] w fun e w' => e = .returned (.int .i64 (mapE L (f * 4096) n may)) ∧ RX w w' rb lv pb L (mapL L (f * 4096) n may) := by
  obtain ⟨p1, p2, p3, p4, p5, p6⟩ := namE_ok hN
  have hfn : f + n ≤ 34359738368 := by omega
  have HN := wrong_any (f * 4096) n may w (by omega) (by omega)
  rw [hN] at HN
  have hE : mapE L (f * 4096) n may = if inN L f (f + n) ≠ 0 then 60 else if 1024 < L.length + n then 6 else 0 := by
    unfold mapE
    rw [if_neg (by simpa using hN), Nat.mul_div_cancel _ (by omega)]
    rfl
  have hML : mapL L (f * 4096) n may = if mapE L (f * 4096) n may = 0 then addL L f n may else L := by
    unfold mapL
    rw [Nat.mul_div_cancel _ (by omega)]
    rfl
  obtain ⟨E, HE0⟩ : ∃ E, mapE L (f * 4096) n may = E := ⟨_, rfl⟩
  obtain ⟨M, HM0⟩ : ∃ M, mapL L (f * 4096) n may = M := ⟨_, rfl⟩
  rw [HE0] at hE hML
  rw [HM0] at hML
  rw [HE0, HM0]
  have HE : Hid _ := ⟨hE⟩
  have HML : Hid _ := ⟨hML⟩
  clear hE hML HE0 HM0 hN
  have c0 := h.rcell
  obtain ⟨ao, cap, hv, hcap1, hcap2⟩ := h.sl
  subst hv
  obtain ⟨x, hx⟩ : ∃ x : Int, ((f * 4096 : Nat) : Int) = x := ⟨_, rfl⟩
  rw [hx] at HN ⊢
  have x0 : 0 ≤ x := by omega
  have x1 : x + (n : Int) * 4096 ≤ 140737488355328 := by omega
  have n1 : (n : Int) ≤ 34359738368 := by omega
  have n2 : (1 : Int) ≤ n := p1
  have l1 : (L.length : Int) ≤ 1024 := by omega
  have HX : Hid (((f * 4096 : Nat) : Int) = x) := ⟨hx⟩
  have HM : Hid _ := ⟨h⟩
  have Hm : Hid (0 ≤ may ∧ may ≤ 7) := ⟨p2, p3⟩
  have fz := h.rfrz
  have hrl := h.rlt
  have hmk := makeP
  clear h hx p1 p2 p3 p4 p5 p6
  go_enter Try.func29, Try.ntmps29
  go_wp2_with (go_at_call 52; with_reducible refine HN.mono ?_; rintro e w1 ⟨he, hw⟩; subst he; subst hw)
  go_loopw [11] (fun i wr => ∃ j : Nat, j ≤ L.length ∧ i = .int .i64 j ∧ wr = w1 ∧ Hid (∀ i (hi : i < L.length), i < j → L[i].k < f)) (fun i _ => L.length - (intOf i).toNat)
  case atStart => exact ⟨0, by omega, rfl, rfl, ⟨fun i _ h => by omega⟩⟩
  case round =>
    obtain ⟨s, hs, rfl, hw, HW⟩ := hrel
    have hw' := hw.symm
    subst hw'
    clear hw
    by_cases hgo : ∃ h : s < L.length, L[s].k < f
    · obtain ⟨hlt, hk⟩ := hgo
      have q1 : (s : Int) < (L.length : Int) := by omega
      obtain ⟨b, cap', hv, _, _, f0, _, _⟩ := HM.out.at' hlt
      cases hv
      have q2 : ((L[s].k * 4096 : Nat) : Int) < x := by have := HX.out; omega
      have HK : Hid (∃ h : s < L.length, L[s].k < f) := ⟨hlt, hk⟩
      generalize ((L[s].k * 4096 : Nat) : Int) = u at *
      clear hk
      go_wp2
      go_roundw
      case rel =>
        refine ⟨s + 1, by omega, by go_num, by trivial, ⟨fun i hi h => ?_⟩⟩
        rcases Nat.lt_or_eq_of_le (Nat.le_of_lt_succ h) with h2 | h2
        · exact HW.out i hi h2
        · subst h2; exact HK.out.2
      case measure => simp [intOf]; omega
    · have h2 : ∀ h : s < L.length, f ≤ L[s].k := fun h => Classical.byContradiction fun c => hgo ⟨h, by omega⟩
      have hin := inN_ne HM.out.mz.up (n := n) HW.out h2
      have hcut := cut_at HM.out.mz.up hs HW.out h2
      by_cases hA : ∃ h : s < L.length, L[s].k < f + n
      · obtain ⟨hlt, hk⟩ := hA
        have HE2 : Hid (E = 60) := ⟨by rw [HE.out, if_pos (hin.2 ⟨hlt, hk⟩)]⟩
        have HM2 : Hid (M = L) := ⟨by rw [HML.out, HE2.out]; rfl⟩
        have q1 : (s : Int) < (L.length : Int) := by omega
        obtain ⟨b, cap', hv, _, _, f0, _, _⟩ := HM.out.at' hlt
        cases hv
        have hge := h2 hlt
        have q2 : ¬ ((L[s].k * 4096 : Nat) : Int) < x := by have := HX.out; omega
        have q3 : ((L[s].k * 4096 : Nat) : Int) - x < (n : Int) * 4096 := by have := HX.out; omega
        have q4 : ((L[s].k * 4096 : Nat) : Int) < 140737488355328 := by have := HX.out; omega
        generalize ((L[s].k * 4096 : Nat) : Int) = u at *
        clear hk hin hcut hgo hge h2
        go_wp2
        go_ret
        exact ⟨by rw [HE2.out]; rfl, by rw [HM2.out]; exact RX.same HM.out (Below.refl _ _)⟩
      · by_cases hlt : s < L.length
        · have q1 : (s : Int) < (L.length : Int) := by omega
          obtain ⟨b, cap', hv, _, _, f0, _, _⟩ := HM.out.at' hlt
          cases hv
          have hge := h2 hlt
          have q2 : ¬ ((L[s].k * 4096 : Nat) : Int) < x := by have := HX.out; omega
          have q3 : ¬ ((L[s].k * 4096 : Nat) : Int) - x < (n : Int) * 4096 := by
            have := HX.out
            have : ¬ L[s].k < f + n := fun c => hA ⟨hlt, c⟩
            omega
          have q4 : ((L[s].k * 4096 : Nat) : Int) < 140737488355328 := by have := (HM.out.mz.ok _ (List.getElem_mem hlt)).k; omega
          generalize ((L[s].k * 4096 : Nat) : Int) = u at *
          clear hge hgo
          by_cases hB : 1024 < L.length + n
          · have HE3 : Hid (E = 6) := ⟨by rw [HE.out, if_neg (fun e => hA (hin.1 e)), if_pos hB]⟩
            have HM3 : Hid (M = L) := ⟨by rw [HML.out, HE3.out]; rfl⟩
            have q5 : (1024 : Int) - (L.length : Int) < (n : Int) := by omega
            clear hA hB hin hcut h2
            go_wp2
            go_ret
            exact ⟨by rw [HE3.out]; rfl, by rw [HM3.out]; exact RX.same HM.out (Below.refl _ _)⟩
          · have HE3 : Hid (E = 0) := ⟨by rw [HE.out, if_neg (fun e => hA (hin.1 e)), if_neg hB]⟩
            have HM3 : Hid (M = addL L f n may) := ⟨by rw [HML.out, if_pos HE3.out]⟩
            have q5 : ¬ (1024 : Int) - (L.length : Int) < (n : Int) := by omega
            have n3 : (n : Int) ≤ 1024 := by omega
            have hno : ∀ p ∈ L, f ≤ p.k → f + n ≤ p.k := inN_zero (Classical.byContradiction fun e => hA (hin.1 e))
            obtain ⟨ao1, c1, hs1, hg1⟩ := HM.out.row.to' (s := s) hs
            obtain ⟨ao2, c2, hs2, hg2⟩ := HM.out.row.from' (s := s) hs
            have HG1 : Hid _ := ⟨hg1⟩
            have HG2 : Hid _ := ⟨hg2⟩
            have HNo : Hid _ := ⟨hno⟩
            have HCut : Hid _ := ⟨hcut⟩
            have Hln : Hid (L.length + n ≤ 1024) := ⟨by omega⟩
            have hl1 : Hid ((L.take s).length = s ∧ (L.drop s).length = L.length - s ∧ (L.take s).length ≤ 1048576) := ⟨by simp; omega, by simp, by simp; omega⟩
            clear hA hB hin hcut hno hg1 hg2 h2
            go_wp2_with (at_builtin; refine append_pgs _ rfl _ _ rfl _ _ pb [] rfl (OwnP.nil _ _ _) _ _ _ _ rfl hl1.out.1.symm HG1.out (by have := hl1.out.2.2; simp; omega) (Nat.le_refl _) ?_; intro v1 w3 ho1 hb1 _)
            go_loopw [12, 10] (fun i v wx => ∃ (j : Nat) (pb' : Nat → Nat), j ≤ n ∧ i = .int .i64 j ∧ Hid (MpJ w1 wx v pb pb' L f s j may)) (fun i _ _ => n - (intOf i).toNat)
            case atStart => exact ⟨0, pb, by omega, rfl, ⟨hb1, by simpa [newP] using ho1, fun _ _ => rfl, fun i h => by omega, fun i h => by omega, fun i i' h => by omega⟩⟩
            case round =>
              obtain ⟨j, pb', hj, rfl, HJ⟩ := hrel
              obtain ⟨ao3, c3, N3, hv3⟩ : ∃ ao3 c3 N3, u10 = .slice ao3 N3 c3 := by
                obtain ⟨ao3, c3, hv3, _⟩ := HJ.out.own.any
                exact ⟨_, _, _, hv3⟩
              subst hv3
              by_cases hjn : j < n
              · have r1 : (j : Int) < (n : Int) := by omega
                have hln : (L.take s ++ newP f j may).length + 1 ≤ 1048576 := by rw [List.length_append, newP_len]; have := hl1.out.1; have := Hln.out; omega
                have hkk : ∀ p ∈ L.take s ++ newP f j may, p.k ≠ f + j := fun p hp => by
                  rcases List.mem_append.1 hp with hp | hp
                  · have := HNo.out p (List.mem_of_mem_take hp); omega
                  · obtain ⟨i, hi, rfl⟩ := newP_mem hp
                    show f + i ≠ f + j
                    omega
                have HKK : Hid _ := ⟨hkk⟩
                have HLN : Hid _ := ⟨hln⟩
                clear hkk hln
                go_wp2_with (at_builtin; go_must (refine append_pg (wr.alloc (.cells zc 5)) rfl _ _ rfl w1.heap.size (.slice ao3 N3 c3) pb' (L.take s ++ newP f j may) rfl (OwnP.alloc HJ.out.own _) ⟨f + j, may, zeroB⟩ wr.heap.size _ _ rfl (by first | rfl | rw [alloc_size]) (by have := HX.out; show _ = (((f + j) * 4096 : Nat) : Int); omega) HKK.out HLN.out (by have := HJ.out.bel.size; rw [alloc_size]; omega) ?_); intro v' w' ho' ht')
                go_roundw
                case rel => exact ⟨j + 1, upd pb' (f + j) wr.heap.size, by omega, by go_num, ⟨HJ.out.step HNo.out hjn ho' ht'⟩⟩
                case measure => simp [intOf]; omega
              · obtain rfl : j = n := by omega
                have k0 := (HJ.out.bel.cell (p := ⟨rb, 0, none⟩) hrl).trans c0
                have kf := (HJ.out.bel.frozen (p := ⟨rb, 0, none⟩) hrl).trans fz
                have hg3 := (HG2.out.below HJ.out.bel).congr (fun p hp => (HJ.out.old p (List.mem_of_mem_drop hp)).symm)
                have HG3 : Hid _ := ⟨hg3⟩
                have hln : (L.take s ++ newP f j may).length + (L.drop s).length ≤ 1048576 := by rw [List.length_append, newP_len]; have := hl1.out.1; have := hl1.out.2.1; have := Hln.out; omega
                have HLN : Hid _ := ⟨hln⟩
                clear hg3 hln
                go_wp2_with (at_builtin; refine append_pgs _ rfl _ _ rfl w1.heap.size _ pb' _ rfl HJ.out.own _ _ _ _ rfl hl1.out.2.1.symm HG3.out HLN.out HJ.out.bel.size ?_; intro v2 w4 ho2 hb2 ht2; have kf2 := (hb2.frozen (p := ⟨rb, 0, none⟩) hrl).trans kf; have k2 := (hb2.cell (p := ⟨rb, 0, none⟩) hrl).trans k0; obtain ⟨ao4, c4, N4, hv4⟩ := ho2.sl; subst hv4; have HO2 : Hid _ := ⟨ho2⟩; clear ho2)
                go_ret
                exact ⟨by rw [HE3.out]; rfl, by rw [HM3.out]; exact MpJ.done HM.out HJ.out HNo.out HCut.out hb2 (fun k c hk => ht2.block k (Array.getElem?_eq_some_iff.1 hk).1 (HJ.out.own.five hk)) HO2.out hfn Hm.out.1 Hm.out.2⟩
        · have q1 : ¬ (s : Int) < (L.length : Int) := by omega
          clear hgo
          by_cases hB : 1024 < L.length + n
          · have HE3 : Hid (E = 6) := ⟨by rw [HE.out, if_neg (fun e => hA (hin.1 e)), if_pos hB]⟩
            have HM3 : Hid (M = L) := ⟨by rw [HML.out, HE3.out]; rfl⟩
            have q5 : (1024 : Int) - (L.length : Int) < (n : Int) := by omega
            clear hA hB hin hcut h2
            go_wp2
            go_ret
            exact ⟨by rw [HE3.out]; rfl, by rw [HM3.out]; exact RX.same HM.out (Below.refl _ _)⟩
          · have HE3 : Hid (E = 0) := ⟨by rw [HE.out, if_neg (fun e => hA (hin.1 e)), if_neg hB]⟩
            have HM3 : Hid (M = addL L f n may) := ⟨by rw [HML.out, if_pos HE3.out]⟩
            have q5 : ¬ (1024 : Int) - (L.length : Int) < (n : Int) := by omega
            have n3 : (n : Int) ≤ 1024 := by omega
            have hno : ∀ p ∈ L, f ≤ p.k → f + n ≤ p.k := inN_zero (Classical.byContradiction fun e => hA (hin.1 e))
            obtain ⟨ao1, c1, hs1, hg1⟩ := HM.out.row.to' (s := s) hs
            obtain ⟨ao2, c2, hs2, hg2⟩ := HM.out.row.from' (s := s) hs
            have HG1 : Hid _ := ⟨hg1⟩
            have HG2 : Hid _ := ⟨hg2⟩
            have HNo : Hid _ := ⟨hno⟩
            have HCut : Hid _ := ⟨hcut⟩
            have Hln : Hid (L.length + n ≤ 1024) := ⟨by omega⟩
            have hl1 : Hid ((L.take s).length = s ∧ (L.drop s).length = L.length - s ∧ (L.take s).length ≤ 1048576) := ⟨by simp; omega, by simp, by simp; omega⟩
            clear hA hB hin hcut hno hg1 hg2 h2
            go_wp2_with (at_builtin; refine append_pgs _ rfl _ _ rfl _ _ pb [] rfl (OwnP.nil _ _ _) _ _ _ _ rfl hl1.out.1.symm HG1.out (by have := hl1.out.2.2; simp; omega) (Nat.le_refl _) ?_; intro v1 w3 ho1 hb1 _)
            go_loopw [12, 10] (fun i v wx => ∃ (j : Nat) (pb' : Nat → Nat), j ≤ n ∧ i = .int .i64 j ∧ Hid (MpJ w1 wx v pb pb' L f s j may)) (fun i _ _ => n - (intOf i).toNat)
            case atStart => exact ⟨0, pb, by omega, rfl, ⟨hb1, by simpa [newP] using ho1, fun _ _ => rfl, fun i h => by omega, fun i h => by omega, fun i i' h => by omega⟩⟩
            case round =>
              obtain ⟨j, pb', hj, rfl, HJ⟩ := hrel
              obtain ⟨ao3, c3, N3, hv3⟩ : ∃ ao3 c3 N3, u10 = .slice ao3 N3 c3 := by
                obtain ⟨ao3, c3, hv3, _⟩ := HJ.out.own.any
                exact ⟨_, _, _, hv3⟩
              subst hv3
              by_cases hjn : j < n
              · have r1 : (j : Int) < (n : Int) := by omega
                have hln : (L.take s ++ newP f j may).length + 1 ≤ 1048576 := by rw [List.length_append, newP_len]; have := hl1.out.1; have := Hln.out; omega
                have hkk : ∀ p ∈ L.take s ++ newP f j may, p.k ≠ f + j := fun p hp => by
                  rcases List.mem_append.1 hp with hp | hp
                  · have := HNo.out p (List.mem_of_mem_take hp); omega
                  · obtain ⟨i, hi, rfl⟩ := newP_mem hp
                    show f + i ≠ f + j
                    omega
                have HKK : Hid _ := ⟨hkk⟩
                have HLN : Hid _ := ⟨hln⟩
                clear hkk hln
                go_wp2_with (at_builtin; go_must (refine append_pg (wr.alloc (.cells zc 5)) rfl _ _ rfl w1.heap.size (.slice ao3 N3 c3) pb' (L.take s ++ newP f j may) rfl (OwnP.alloc HJ.out.own _) ⟨f + j, may, zeroB⟩ wr.heap.size _ _ rfl (by first | rfl | rw [alloc_size]) (by have := HX.out; show _ = (((f + j) * 4096 : Nat) : Int); omega) HKK.out HLN.out (by have := HJ.out.bel.size; rw [alloc_size]; omega) ?_); intro v' w' ho' ht')
                go_roundw
                case rel => exact ⟨j + 1, upd pb' (f + j) wr.heap.size, by omega, by go_num, ⟨HJ.out.step HNo.out hjn ho' ht'⟩⟩
                case measure => simp [intOf]; omega
              · obtain rfl : j = n := by omega
                have k0 := (HJ.out.bel.cell (p := ⟨rb, 0, none⟩) hrl).trans c0
                have kf := (HJ.out.bel.frozen (p := ⟨rb, 0, none⟩) hrl).trans fz
                have hg3 := (HG2.out.below HJ.out.bel).congr (fun p hp => (HJ.out.old p (List.mem_of_mem_drop hp)).symm)
                have HG3 : Hid _ := ⟨hg3⟩
                have hln : (L.take s ++ newP f j may).length + (L.drop s).length ≤ 1048576 := by rw [List.length_append, newP_len]; have := hl1.out.1; have := hl1.out.2.1; have := Hln.out; omega
                have HLN : Hid _ := ⟨hln⟩
                clear hg3 hln
                go_wp2_with (at_builtin; refine append_pgs _ rfl _ _ rfl w1.heap.size _ pb' _ rfl HJ.out.own _ _ _ _ rfl hl1.out.2.1.symm HG3.out HLN.out HJ.out.bel.size ?_; intro v2 w4 ho2 hb2 ht2; have kf2 := (hb2.frozen (p := ⟨rb, 0, none⟩) hrl).trans kf; have k2 := (hb2.cell (p := ⟨rb, 0, none⟩) hrl).trans k0; obtain ⟨ao4, c4, N4, hv4⟩ := ho2.sl; subst hv4; have HO2 : Hid _ := ⟨ho2⟩; clear ho2)
                go_ret
                exact ⟨by rw [HE3.out]; rfl, by rw [HM3.out]; exact MpJ.done HM.out HJ.out HNo.out HCut.out hb2 (fun k c hk => ht2.block k (Array.getElem?_eq_some_iff.1 hk).1 (HJ.out.own.five hk)) HO2.out hfn Hm.out.1 Hm.out.2⟩

theorem rmap_any (rb a : Nat) (lv : Value) (pb : Nat → Nat) (L : List Pz) (pages may : Int) (w : World) (h : RA w rb lv pb L) (ha : a < 18446744073709551616) (hp : -9223372036854775808 ≤ pages ∧ pages ≤ 9223372036854775807) (hL : L.length ≤ 1024) :
    Calls Try.prog 29 #[.pointer (some ⟨rb, 0, none⟩), .int .u64 a, .int .i64 pages, .int .i64 may] w fun e w' => e = .returned (.int .i64 (mapE L a pages may)) ∧ RX w w' rb lv pb L (mapL L a pages may) := by
  by_cases hN : namE a pages may = 0
  · obtain ⟨p1, p2, p3, p4, p5, p6⟩ := namE_ok hN
    have ea : a = a / 4096 * 4096 := by omega
    have ep : pages = ((pages.toNat : Nat) : Int) := by omega
    have := rmap_rest rb (a / 4096) pages.toNat lv pb L may w h (by rw [← ea, ← ep]; exact hN) hL
    rw [← ea, ← ep] at this
    exact this
  · have hE : mapE L a pages may = namE a pages may := by unfold mapE; rw [if_pos hN]
    have hM : mapL L a pages may = L := by unfold mapL; rw [hE, if_neg hN]
    rw [hE, hM]
    refine (rmap_named rb a lv pages may w ha hp hN).mono ?_
    rintro e w' ⟨he, hw⟩
    subst hw
    exact ⟨he, RX.same h (Below.refl _ _)⟩
end Go.Proofs.Ytpfmnopokfiheaa
