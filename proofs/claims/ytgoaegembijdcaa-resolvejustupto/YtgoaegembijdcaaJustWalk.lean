/- ResolveJust: the law's walk. -/
import Derived.Test.YtgoaegembijdcaaRJust
import Derived.BigQuiet
import Derived.Deep.RegionHeld3
namespace Go.Proofs.Ytgoaegembijdcaa
open Go.ChangeShapes Go.WideShapes Go.ChangeAt Go.RowKit Go.Maps
set_option linter.unusedVariables false
set_option linter.unusedSimpArgs false

def JB (l : List Fl) (U : List Oc) (z : Bool) : Prop := z = true ↔ (Clash l ∨ ∃ x ∈ U, badO (occ l) x = true)
theorem JB.nil {l : List Fl} {z : Bool} (h : z = true ↔ Clash l) : JB l [] z := by unfold JB; rw [h]; simp
theorem JB.snoc {l : List Fl} {U : List Oc} {z : Bool} (h : JB l U z) (x : Oc) : JB l (U ++ [x]) (z || badO (occ l) x) := by
  unfold JB at *
  rw [Bool.or_eq_true, h]
  constructor
  · rintro ((a | ⟨y, hy, e⟩) | e)
    · exact .inl a
    · exact .inr ⟨y, List.mem_append_left _ hy, e⟩
    · exact .inr ⟨x, by simp, e⟩
  · rintro (a | ⟨y, hy, e⟩)
    · exact .inl (.inl a)
    · rcases List.mem_append.1 hy with h1 | h1
      · exact .inl (.inr ⟨y, h1, e⟩)
      · simp at h1; subst h1; exact .inr e

set_option maxHeartbeats 16000000 in
set_option maxRecDepth 20000 in
theorem resolveJust_walk (ao : Option Addr) (c : Nat) (l : List Fl) (w : World) (hl : Fls w ao l ∧ FlsC l ∧ (ao = none → c = 0)) :
    Calls Try.prog 5 #[.slice ao l.length c] w fun e w' => e = .returned (.bool true) ∧ Below w.heap.size w w' := by
  obtain ⟨hr, hC, _⟩ := hl
  have hFB := hC.b
  have hoc : (occ l).length ≤ 2097152 := by have := occ_len l; have := hC.sum; omega
  have hln : l.length ≤ 1048576 := hC.n
  have H1 : Hid (∀ W, Below w.heap.size w W → _) := ⟨fun W h => all_s ao c l W hFB (hr.below h (Nat.le_refl _))⟩
  have H2 : Hid (∀ W, Below w.heap.size w W → _) := ⟨fun W h => pcheck_any ao c l W hFB (hr.below h (Nat.le_refl _))⟩
  have HCL : Hid (∀ W, Below w.heap.size w W → _) := ⟨fun W h => clash_any ao c l W hFB (hr.below h (Nat.le_refl _))⟩
  have HST : Hid (∀ n W, Below w.heap.size w W → _) := ⟨fun n W h => strong_any ao c l n W hFB (hr.below h (Nat.le_refl _))⟩
  have HMI : Hid (∀ n W, Below w.heap.size w W → _) := ⟨fun n W h => mixed_any ao c l n W hFB (hr.below h (Nat.le_refl _))⟩
  have HDE : Hid (∀ n W, Below w.heap.size w W → _) := ⟨fun n W h => defd_any ao c l n W hFB (hr.below h (Nat.le_refl _))⟩
  have HFW : Hid (∀ W, Below w.heap.size w W → Fls W ao l) := ⟨fun W h => hr.below h (Nat.le_refl _)⟩
  have HNY : Hid (∀ f ∈ l, f.syms.length ≤ 1048577) := ⟨fun f hf => (hFB.each f hf).ny⟩
  have HSUM : Hid _ := ⟨hFB.sum.1⟩
  have HN : Hid (∀ x W, _) := ⟨num18_any⟩
  have HV : Hid (∀ W, _) := ⟨live18_any⟩
  have HBAD : Hid ((checkL l = 0 → RowsL l) → checkL l = 0 → _) := ⟨fun R h => just_bad (R h) hoc h⟩
  have HENT : Hid ((checkL l = 0 → RowsL l) → _) := ⟨fun R => just_ents R hoc⟩
  have HE0 : Hid (¬ checkL l = 0 → ¬ (AllF l).e = 0) := ⟨fun h e => h ((allF_ok l).1 e).1⟩
  have HT0 : Hid ((AllF l).e ≠ 0 → AllT l = []) := ⟨allT_bad l⟩
  have HL1 : Hid ((checkL l = 0 → RowsL l) → (AllT l).length ≤ 2097152) := ⟨fun h => allT_len h⟩
  have HNS : Hid (∀ n, nS n (occ l) ≤ 2097152) := ⟨fun n => Nat.le_trans (nS_le n _) hoc⟩
  have HF : Hid (Below w.heap.size w w) := ⟨Below.refl _ _⟩
  clear hr hC hFB hoc
  generalize AllT l = T at *
  generalize AllF l = X at *
  generalize hE : checkL l = E at *
  clear hE
  obtain ⟨xe, xn⟩ := X
  dsimp only [Ft.val] at *
  go_enter Try.func5, Try.ntmps5
  go_upto_region 2 with (go_at_call 16; (with_reducible refine (H1.out _ HF.out).mono ?_); rintro e w1 ⟨ta, tc, rfl, hR1, he1, hb1⟩)
  have K2 := Bk.new w1 #[.int .i64 xe, .string xn] 45
  have HB2 : Hid (Below w.heap.size w (w1.alloc (.cells #[.int .i64 xe, .string xn] 45))) := ⟨(HF.out.trans (hb1.mono HF.out.size)).alloc (by have := hb1.size; omega) _⟩
  have HE2 : Hid (Ents (w1.alloc (.cells #[.int .i64 xe, .string xn] 45)) ta T) := ⟨he1.below ((Below.refl _ _).alloc (Nat.le_refl _) _) (Nat.le_refl _)⟩
  have HRR : Hid _ := ⟨hR1⟩
  obtain ⟨QF, hQ⟩ : ∃ Q, w1.heap.size = Q := ⟨_, rfl⟩
  rw [hQ] at K2 ⊢
  have HK2 : Hid _ := ⟨K2⟩
  clear K2 he1 hb1 hQ hR1
  generalize w1.alloc (.cells #[.int .i64 xe, .string xn] 45) = w2 at *
  have HBA : Hid (∀ W, Below w2.heap.size w2 W → Below w.heap.size w W) := ⟨fun W h => HB2.out.trans (h.mono HB2.out.size)⟩
  by_cases hE0 : E = 0
  · subst hE0
    have HBD : Hid _ := ⟨HBAD.out HRR.out rfl⟩
    have HJE : Hid _ := ⟨HENT.out HRR.out⟩
    have hTl := HL1.out HRR.out
    clear HBAD HENT HE0 HT0 HL1 HRR
    go_upto_region 5 with (first
      | (go_at_call 15; (with_reducible refine (H2.out _ HB2.out).mono ?_); rintro e w3 ⟨rfl, hb3⟩)
      | (go_at_call 11; (with_reducible refine (HN.out _ _).mono ?_); rintro e w' ⟨rfl, hw'⟩; subst w')
      | (go_at_call 17; (with_reducible refine (HCL.out _ (HBA.out _ hb3)).mono ?_); rintro e w4 ⟨⟨zc, rfl, hzc⟩, hb4⟩))
    have HB4 : Hid (Below w2.heap.size w2 w4) := ⟨btr hb3 hb4⟩
    have HZC : Hid _ := ⟨hzc⟩
    clear hb3 hb4 hzc
    go_upto_region 6 with (fail)
    go_loopw [5, 6] (fun v i wr => ∃ (k : Nat) (z : Bool), k ≤ l.length ∧ i = .int .i64 k ∧ v = .bool z ∧ Hid (JB l (occ (l.take k)) z ∧ Below w2.heap.size w2 wr)) (fun _ i _ => l.length - (intOf i).toNat)
    case atStart => exact ⟨0, zc, by omega, rfl, rfl, ⟨by simpa [occ] using JB.nil HZC.out, HB4.out⟩⟩
    case round =>
      obtain ⟨k, z, hk, rfl, rfl, HW⟩ := hrel
      by_cases hlt : k < l.length
      · obtain ⟨b, off, rfl, hcell⟩ : ∃ b off, ao = some ⟨b, off, none⟩ ∧ ∀ i, i < l.length → ∀ W, Below w2.heap.size w2 W → FlAt W b (off + i * 2) (l.getD i Fl.zero) := by
          rcases HFW.out w2 HB2.out with h | ⟨b, off, e, h⟩
          · subst h; simp at hlt
          · exact ⟨b, off, e, fun i hi W hW => (h i hi).below hW (Nat.le_refl _)⟩
        have hget : l.getD k Fl.zero = l[k] := by simp [hlt]
        have HAT : Hid (∀ W, Below w2.heap.size w2 W → FlAt W b (off + k * 2) l[k]) := ⟨fun W hW => by have := hcell k hlt W hW; rwa [hget] at this⟩
        have hny := HNY.out _ (List.getElem_mem hlt)
        have HOC : Hid (occ (l.take (k + 1)) = occ (l.take k) ++ ocs k l[k].syms) := ⟨occ_take l k hlt⟩
        clear hcell hget
        have hki : (k : Int) < (l.length : Int) := by omega
        obtain ⟨f, hf⟩ : ∃ f, f = l[k] := ⟨_, rfl⟩
        rw [← hf] at HAT HOC hny
        clear hf
        obtain ⟨sa, sc, secs, ya, yc, syms⟩ := f
        dsimp only at hny HOC
        have HT1 : Hid (∀ W, Below w2.heap.size w2 W → W.cell? ⟨b, off + k * 2 + 1, none⟩ = some (.slice ya syms.length yc)) := ⟨fun W hW => (HAT.out W hW).c1⟩
        have HT2 : Hid (∀ W, Below w2.heap.size w2 W → Syms W ya syms) := ⟨fun W hW => (HAT.out W hW).ins.sy⟩
        clear HAT
        obtain ⟨U1, hU1⟩ : ∃ u, u = occ (l.take (k + 1)) := ⟨_, rfl⟩
        rw [← hU1] at HOC
        have HU1 : Hid _ := ⟨hU1⟩
        clear hU1
        generalize occ (l.take k) = U0 at *
        go_upto_region 9 with (fail)
        go_loopw [5, 7] (fun v i wr => ∃ (j : Nat) (z : Bool), j ≤ syms.length ∧ i = .int .i64 j ∧ v = .bool z ∧ Hid (JB l (U0 ++ ocs k (syms.take j)) z ∧ Below w2.heap.size w2 wr)) (fun _ i _ => syms.length - (intOf i).toNat)
        case atStart => exact ⟨0, z, by omega, rfl, rfl, ⟨by simpa [ocs] using HW.out.1, HW.out.2⟩⟩
        case round =>
          obtain ⟨j, z, hj, rfl, rfl, HV2⟩ := hrel
          have t1 := HT1.out wr HV2.out.2
          by_cases hlj : j < syms.length
          · obtain ⟨b2, off2, rfl, hcell⟩ : ∃ b off, ya = some ⟨b, off, none⟩ ∧ ∀ i, i < syms.length → SymAt wr b (off + i * 6) (syms.getD i Sym.none) := by
              rcases HT2.out wr HV2.out.2 with h | h
              · subst h; simp at hlj
              · exact h
            obtain ⟨c0, c1, c2, c3, c4, c5⟩ := hcell j hlj
            have hget : syms.getD j Sym.none = syms[j] := by simp [hlj]
            rw [hget] at c0 c1 c2 c3 c4 c5
            have hji : (j : Int) < (syms.length : Int) := by omega
            have HTK : Hid (ocs k (syms.take (j + 1)) = ocs k (syms.take j) ++ [⟨k, j, syms[j]⟩]) := ⟨ocs_take k syms j hlj⟩
            clear hcell hget
            obtain ⟨s, hs⟩ : ∃ s, s = syms[j] := ⟨_, rfl⟩
            rw [← hs] at c0 c1 c2 c3 c4 c5 HTK
            clear hs
            have HNX0 : Hid (∀ q, (z || badO (occ l) ⟨k, j, s⟩) = q → JB l (U0 ++ ocs k (syms.take (j + 1))) q) := ⟨fun q e => by rw [HTK.out, ← List.append_assoc, ← e]; exact HV2.out.1.snoc _⟩
            clear HTK
            obtain ⟨nm, sn, sv, sz, bd, ty⟩ := s
            dsimp only at c0 c1 c2 c3 c4 c5
            have K := Bk.new wr #[.string nm, .string sn, .int .i64 sv, .int .i64 sz, .int .i64 bd, .int .i64 ty] 54
            have HBV : Hid (Below w2.heap.size w2 (wr.alloc (.cells #[.string nm, .string sn, .int .i64 sv, .int .i64 sz, .int .i64 bd, .int .i64 ty] 54))) := ⟨bal HV2.out.2 _⟩
            obtain ⟨Q, hQ⟩ : ∃ Q, wr.heap.size = Q := ⟨_, rfl⟩
            rw [hQ] at K
            go_upto_region 12 with (fail)
            try rw [hQ]
            clear c0 c1 c2 c3 c4 c5 t1 hQ
            generalize (wr.alloc (.cells #[.string nm, .string sn, .int .i64 sv, .int .i64 sz, .int .i64 bd, .int .i64 ty] 54)) = v2 at *
            have d0 : v2.cell? ⟨Q, 0, none⟩ = some (.string nm) := K.cell 0 rfl
            have d4 : v2.cell? ⟨Q, 4, none⟩ = some (.int .i64 bd) := K.cell 4 rfl
            obtain ⟨zb, hzb⟩ : ∃ z, (bd == 0) = z := ⟨_, rfl⟩
            have HBO : Hid (badO (occ l) ⟨k, j, ⟨nm, sn, sv, sz, bd, ty⟩⟩ = (!zb && (decide (1 < nS nm (occ l)) || ((mT nm (occ l) && mO nm (occ l)) || ((sn.toList.isEmpty && bd == 1) && !dD nm (occ l)))))) := ⟨by unfold badO empB; dsimp only; rw [hzb]⟩
            cases zb
            · have HMX : Hid (∀ W, Below w2.heap.size w2 W → _) := ⟨fun W h => HMI.out nm W (HBA.out _ h)⟩
              have HDX : Hid (∀ W, Below w2.heap.size w2 W → _) := ⟨fun W h => HDE.out nm W (HBA.out _ h)⟩
              have HSX : Hid (∀ W, Below w2.heap.size w2 W → _) := ⟨fun W h => HST.out nm W (HBA.out _ h)⟩
              have hnl := HNS.out nm
              generalize nS nm (occ l) = NN at *
              generalize (mT nm (occ l) && mO nm (occ l)) = zm at *
              generalize dD nm (occ l) = zd at *
              obtain ⟨zn, hzn⟩ : ∃ z, decide (1 < NN) = z := ⟨_, rfl⟩
              obtain ⟨ze, hze⟩ : ∃ z, sn.toList.isEmpty = z := ⟨_, rfl⟩
              obtain ⟨z1, hz1⟩ : ∃ z, (bd == 1) = z := ⟨_, rfl⟩
              rw [hzn, hze, hz1] at HBO
              have HNX : Hid (∀ q, (z || (!false && (zn || (zm || ((ze && z1) && !zd))))) = q → JB l (U0 ++ ocs k (syms.take (j + 1))) q) := ⟨fun q e => HNX0.out q (by rw [HBO.out]; exact e)⟩
              clear HNX0 HBO
              go_upto_region 14 with (go_at_call 18; (with_reducible refine (HSX.out _ HBV.out).mono ?_); rintro e w5 ⟨rfl, hb5⟩)
              have HB5 : Hid (Below w2.heap.size w2 w5) := ⟨btr HBV.out hb5⟩
              have K5 := K.bel hb5 K.lt
              have g0 : w5.cell? ⟨Q, 0, none⟩ = some (.string nm) := K5.cell 0 rfl
              have g1 : w5.cell? ⟨Q, 1, none⟩ = some (.string sn) := K5.cell 1 rfl
              have g4 : w5.cell? ⟨Q, 4, none⟩ = some (.int .i64 bd) := K5.cell 4 rfl
              clear d0 d4 K hb5
              cases z
              · cases zn
                · have hzi : ¬ (1 : Int) < (NN : Int) := by have := of_decide_eq_false hzn; omega
                  cases zm
                  · cases ze
                    · (go_wp2_with (first
                  | (go_at_call 19; (with_reducible refine (HMX.out _ HB5.out).mono ?_); rintro e w6 ⟨rfl, hb6⟩; have HB6 : Hid (Below w2.heap.size w2 w6) := ⟨btr HB5.out hb6⟩; have K6 := K5.bel hb6 K5.lt; have d0 : w6.cell? ⟨Q, 0, none⟩ = some (.string nm) := K6.cell 0 rfl; have d1 : w6.cell? ⟨Q, 1, none⟩ = some (.string sn) := K6.cell 1 rfl; have d4 : w6.cell? ⟨Q, 4, none⟩ = some (.int .i64 bd) := K6.cell 4 rfl)
                  | (go_at_call 20; (with_reducible refine (HDX.out _ HB6.out).mono ?_); rintro e w7 ⟨rfl, hb7⟩; have HB7 : Hid (Below w2.heap.size w2 w7) := ⟨btr HB6.out hb7⟩)); go_roundw; (case rel => exact ⟨j + 1, _, hlj, by go_num, rfl, ⟨HNX.out _ rfl, HB6.out⟩⟩); (case measure => simp [intOf]; omega))
                    · cases z1
                      · (go_wp2_with (first
                  | (go_at_call 19; (with_reducible refine (HMX.out _ HB5.out).mono ?_); rintro e w6 ⟨rfl, hb6⟩; have HB6 : Hid (Below w2.heap.size w2 w6) := ⟨btr HB5.out hb6⟩; have K6 := K5.bel hb6 K5.lt; have d0 : w6.cell? ⟨Q, 0, none⟩ = some (.string nm) := K6.cell 0 rfl; have d1 : w6.cell? ⟨Q, 1, none⟩ = some (.string sn) := K6.cell 1 rfl; have d4 : w6.cell? ⟨Q, 4, none⟩ = some (.int .i64 bd) := K6.cell 4 rfl)
                  | (go_at_call 20; (with_reducible refine (HDX.out _ HB6.out).mono ?_); rintro e w7 ⟨rfl, hb7⟩; have HB7 : Hid (Below w2.heap.size w2 w7) := ⟨btr HB6.out hb7⟩)); go_roundw; (case rel => exact ⟨j + 1, _, hlj, by go_num, rfl, ⟨HNX.out _ rfl, HB6.out⟩⟩); (case measure => simp [intOf]; omega))
                      · cases zd
                        · (go_wp2_with (first
                  | (go_at_call 19; (with_reducible refine (HMX.out _ HB5.out).mono ?_); rintro e w6 ⟨rfl, hb6⟩; have HB6 : Hid (Below w2.heap.size w2 w6) := ⟨btr HB5.out hb6⟩; have K6 := K5.bel hb6 K5.lt; have d0 : w6.cell? ⟨Q, 0, none⟩ = some (.string nm) := K6.cell 0 rfl; have d1 : w6.cell? ⟨Q, 1, none⟩ = some (.string sn) := K6.cell 1 rfl; have d4 : w6.cell? ⟨Q, 4, none⟩ = some (.int .i64 bd) := K6.cell 4 rfl)
                  | (go_at_call 20; (with_reducible refine (HDX.out _ HB6.out).mono ?_); rintro e w7 ⟨rfl, hb7⟩; have HB7 : Hid (Below w2.heap.size w2 w7) := ⟨btr HB6.out hb7⟩)); go_roundw; (case rel => exact ⟨j + 1, _, hlj, by go_num, rfl, ⟨HNX.out _ rfl, HB7.out⟩⟩); (case measure => simp [intOf]; omega))
                        · (go_wp2_with (first
                  | (go_at_call 19; (with_reducible refine (HMX.out _ HB5.out).mono ?_); rintro e w6 ⟨rfl, hb6⟩; have HB6 : Hid (Below w2.heap.size w2 w6) := ⟨btr HB5.out hb6⟩; have K6 := K5.bel hb6 K5.lt; have d0 : w6.cell? ⟨Q, 0, none⟩ = some (.string nm) := K6.cell 0 rfl; have d1 : w6.cell? ⟨Q, 1, none⟩ = some (.string sn) := K6.cell 1 rfl; have d4 : w6.cell? ⟨Q, 4, none⟩ = some (.int .i64 bd) := K6.cell 4 rfl)
                  | (go_at_call 20; (with_reducible refine (HDX.out _ HB6.out).mono ?_); rintro e w7 ⟨rfl, hb7⟩; have HB7 : Hid (Below w2.heap.size w2 w7) := ⟨btr HB6.out hb7⟩)); go_roundw; (case rel => exact ⟨j + 1, _, hlj, by go_num, rfl, ⟨HNX.out _ rfl, HB7.out⟩⟩); (case measure => simp [intOf]; omega))
                  · (go_wp2_with (first
                  | (go_at_call 19; (with_reducible refine (HMX.out _ HB5.out).mono ?_); rintro e w6 ⟨rfl, hb6⟩; have HB6 : Hid (Below w2.heap.size w2 w6) := ⟨btr HB5.out hb6⟩; have K6 := K5.bel hb6 K5.lt; have d0 : w6.cell? ⟨Q, 0, none⟩ = some (.string nm) := K6.cell 0 rfl; have d1 : w6.cell? ⟨Q, 1, none⟩ = some (.string sn) := K6.cell 1 rfl; have d4 : w6.cell? ⟨Q, 4, none⟩ = some (.int .i64 bd) := K6.cell 4 rfl)
                  | (go_at_call 20; (with_reducible refine (HDX.out _ HB6.out).mono ?_); rintro e w7 ⟨rfl, hb7⟩; have HB7 : Hid (Below w2.heap.size w2 w7) := ⟨btr HB6.out hb7⟩)); go_roundw; (case rel => exact ⟨j + 1, _, hlj, by go_num, rfl, ⟨HNX.out _ rfl, HB6.out⟩⟩); (case measure => simp [intOf]; omega))
                · have hzi : (1 : Int) < (NN : Int) := by have := of_decide_eq_true hzn; omega
                  (go_wp2_with (first
                  | (go_at_call 19; (with_reducible refine (HMX.out _ HB5.out).mono ?_); rintro e w6 ⟨rfl, hb6⟩; have HB6 : Hid (Below w2.heap.size w2 w6) := ⟨btr HB5.out hb6⟩; have K6 := K5.bel hb6 K5.lt; have d0 : w6.cell? ⟨Q, 0, none⟩ = some (.string nm) := K6.cell 0 rfl; have d1 : w6.cell? ⟨Q, 1, none⟩ = some (.string sn) := K6.cell 1 rfl; have d4 : w6.cell? ⟨Q, 4, none⟩ = some (.int .i64 bd) := K6.cell 4 rfl)
                  | (go_at_call 20; (with_reducible refine (HDX.out _ HB6.out).mono ?_); rintro e w7 ⟨rfl, hb7⟩; have HB7 : Hid (Below w2.heap.size w2 w7) := ⟨btr HB6.out hb7⟩)); go_roundw; (case rel => exact ⟨j + 1, _, hlj, by go_num, rfl, ⟨HNX.out _ rfl, HB5.out⟩⟩); (case measure => simp [intOf]; omega))
              · cases zn
                · (go_wp2_with (first
                  | (go_at_call 19; (with_reducible refine (HMX.out _ HB5.out).mono ?_); rintro e w6 ⟨rfl, hb6⟩; have HB6 : Hid (Below w2.heap.size w2 w6) := ⟨btr HB5.out hb6⟩; have K6 := K5.bel hb6 K5.lt; have d0 : w6.cell? ⟨Q, 0, none⟩ = some (.string nm) := K6.cell 0 rfl; have d1 : w6.cell? ⟨Q, 1, none⟩ = some (.string sn) := K6.cell 1 rfl; have d4 : w6.cell? ⟨Q, 4, none⟩ = some (.int .i64 bd) := K6.cell 4 rfl)
                  | (go_at_call 20; (with_reducible refine (HDX.out _ HB6.out).mono ?_); rintro e w7 ⟨rfl, hb7⟩; have HB7 : Hid (Below w2.heap.size w2 w7) := ⟨btr HB6.out hb7⟩)); go_roundw; (case rel => exact ⟨j + 1, _, hlj, by go_num, rfl, ⟨HNX.out _ rfl, HB5.out⟩⟩); (case measure => simp [intOf]; omega))
                · (go_wp2_with (first
                  | (go_at_call 19; (with_reducible refine (HMX.out _ HB5.out).mono ?_); rintro e w6 ⟨rfl, hb6⟩; have HB6 : Hid (Below w2.heap.size w2 w6) := ⟨btr HB5.out hb6⟩; have K6 := K5.bel hb6 K5.lt; have d0 : w6.cell? ⟨Q, 0, none⟩ = some (.string nm) := K6.cell 0 rfl; have d1 : w6.cell? ⟨Q, 1, none⟩ = some (.string sn) := K6.cell 1 rfl; have d4 : w6.cell? ⟨Q, 4, none⟩ = some (.int .i64 bd) := K6.cell 4 rfl)
                  | (go_at_call 20; (with_reducible refine (HDX.out _ HB6.out).mono ?_); rintro e w7 ⟨rfl, hb7⟩; have HB7 : Hid (Below w2.heap.size w2 w7) := ⟨btr HB6.out hb7⟩)); go_roundw; (case rel => exact ⟨j + 1, _, hlj, by go_num, rfl, ⟨HNX.out _ rfl, HB5.out⟩⟩); (case measure => simp [intOf]; omega))
            · have HNX : Hid (∀ q, z = q → JB l (U0 ++ ocs k (syms.take (j + 1))) q) := ⟨fun q e => HNX0.out q (by rw [HBO.out]; simpa using e)⟩
              (go_wp2; go_roundw; (case rel => exact ⟨j + 1, _, hlj, by go_num, rfl, ⟨HNX.out _ rfl, HBV.out⟩⟩); (case measure => simp [intOf]; omega))
          · obtain rfl : j = syms.length := by omega
            have HX : Hid (JB l (occ (l.take (k + 1))) z ∧ Below w2.heap.size w2 wr) := ⟨by have := HV2.out.1; rw [List.take_of_length_le (Nat.le_refl _), ← HOC.out, HU1.out] at this; exact this, HV2.out.2⟩
            go_wp2
            go_roundw
            case rel => exact ⟨k + 1, z, hlt, by go_num, rfl, HX⟩
            case measure => simp [intOf]; omega
      · obtain rfl : k = l.length := by omega
        have HJ : Hid ((z = true ↔ ¬ xe = 0) ∧ Below w2.heap.size w2 wr) := ⟨by
          have := HW.out.1
          rw [List.take_of_length_le (Nat.le_refl _)] at this
          exact this.trans HBD.out, HW.out.2⟩
        clear HW
        have q0 : wr.cell? ⟨QF, 0, none⟩ = some (.int .i64 xe) := (HK2.out.bel HJ.out.2 HK2.out.lt).cell 0 rfl
        have hzx : (xe != 0) = z := by
          by_cases e : xe = 0
          · have h1 : ¬ z = true := fun h => HJ.out.1.1 h e
            rw [e]; simpa using h1
          · have h1 : z = true := HJ.out.1.2 e
            rw [h1]; simpa [bne] using e
        go_upto_region 18 with (go_at_call 11; (with_reducible refine (HN.out _ _).mono ?_); rintro e w' ⟨rfl, hw'⟩; subst w')
        clear q0 hzx
        go_loopw [10] (fun i wr => ∃ k : Nat, k ≤ T.length ∧ i = .int .i64 k ∧ Hid (Below w2.heap.size w2 wr)) (fun i _ => T.length - (intOf i).toNat)
        case atStart => exact ⟨0, by omega, rfl, ⟨HJ.out.2⟩⟩
        case round =>
          obtain ⟨k, hk, rfl, HW⟩ := hrel
          by_cases hlt : k < T.length
          · obtain ⟨b, off, rfl, hat⟩ : ∃ b off, ta = some ⟨b, off, none⟩ ∧ ∀ i, i < T.length → EntAt wr b (off + i * 5) (T.getD i En.zero) := by
              rcases HE2.out.below HW.out (Nat.le_refl _) with h | h
              · rw [h] at hlt; simp at hlt
              · exact h
            obtain ⟨c0, c1, c2, c3, c4⟩ := hat k hlt
            have hje := HJE.out k hlt
            clear hat
            generalize T.getD k En.zero = p at *
            obtain ⟨nm, x1, x2, x3, x4⟩ := p
            unfold JustE at hje
            dsimp only at c0 c1 c2 c3 c4 hje
            have hlti : (k : Int) < (T.length : Int) := by omega
            have K := Bk.new wr #[.string nm, .int .i64 x1, .int .i64 x2, .int .i64 x3, .int .i64 x4] 27
            have HBV : Hid (Below w2.heap.size w2 (wr.alloc (.cells #[.string nm, .int .i64 x1, .int .i64 x2, .int .i64 x3, .int .i64 x4] 27))) := ⟨bal HW.out _⟩
            have HJ3 : Hid _ := ⟨hje⟩
            obtain ⟨Z, hZ⟩ : ∃ Q, wr.heap.size = Q := ⟨_, rfl⟩
            rw [hZ] at K
            clear hje
            go_upto_region 21 with (fail)
            try rw [hZ]
            clear c0 c1 c2 c3 c4 hZ
            generalize wr.alloc (.cells #[.string nm, .int .i64 x1, .int .i64 x2, .int .i64 x3, .int .i64 x4] 27) = v2 at *
            have HKZ : Hid _ := ⟨K⟩
            have e1 : v2.cell? ⟨Z, 1, none⟩ = some (.int .i64 x1) := K.cell 1 rfl
            have e2 : v2.cell? ⟨Z, 2, none⟩ = some (.int .i64 x2) := K.cell 2 rfl
            have e0 : v2.cell? ⟨Z, 0, none⟩ = some (.string nm) := K.cell 0 rfl
            clear K
            rcases HJ3.out with ⟨h1, h2, h3⟩ | ⟨o, kk, ho, hkk, hol, hkl, f1, f2, f3, f4⟩
            · subst h2
              have HDX : Hid _ := ⟨HDE.out nm v2 (HBA.out _ HBV.out)⟩
              rw [h3] at HDX
              clear h3
              go_wp2_with (go_at_call 20; (with_reducible refine HDX.out.mono ?_); rintro e w7 ⟨rfl, hb7⟩)
              go_roundw
              case rel => exact ⟨k + 1, hlt, by go_num, ⟨btr HBV.out hb7⟩⟩
              case measure => simp [intOf]; omega
            · subst ho hkk
              obtain ⟨b, off, rfl, hcell⟩ : ∃ b off, ao = some ⟨b, off, none⟩ ∧ ∀ i, i < l.length → ∀ W, Below w2.heap.size w2 W → FlAt W b (off + i * 2) (l.getD i Fl.zero) := by
                rcases HFW.out w2 HB2.out with h | ⟨b, off, e, h⟩
                · rw [h] at hol; simp at hol
                · exact ⟨b, off, e, fun i hi W hW => (h i hi).below hW (Nat.le_refl _)⟩
              have HAT : Hid (∀ W, Below w2.heap.size w2 W → FlAt W b (off + o * 2) (l.getD o Fl.zero)) := ⟨hcell o hol⟩
              clear hcell
              generalize l.getD o Fl.zero = fl at *
              obtain ⟨sa, sc, secs, ya, yc, syms⟩ := fl
              dsimp only at hkl f1 f2 f3 f4
              have HT1 : Hid (∀ W, Below w2.heap.size w2 W → W.cell? ⟨b, off + o * 2 + 1, none⟩ = some (.slice ya syms.length yc)) := ⟨fun W hW => (HAT.out W hW).c1⟩
              obtain ⟨b2, off2, rfl, hsy⟩ : ∃ b off, ya = some ⟨b, off, none⟩ ∧ ∀ W, Below w2.heap.size w2 W → SymAt W b (off + kk * 6) (syms.getD kk Sym.none) := by
                rcases (HAT.out w2 (Below.refl _ _)).ins.sy with h | ⟨b, off, e, h⟩
                · exfalso; dsimp only at h; subst h; simp at hkl
                · exact ⟨b, off, e, fun W hW => (h kk hkl).below hW (Nat.le_refl _)⟩
              have HSY : Hid _ := ⟨hsy⟩
              clear HAT hsy
              generalize syms.getD kk Sym.none = s at *
              obtain ⟨snm, sn, sv, sz, sbd, ty⟩ := s
              dsimp only at f1 f2 f3 f4
              have f1' := f1.symm
              have f3' := f3.symm
              clear f1 f3
              subst f1' f3'
              have t1 := HT1.out v2 HBV.out
              have hoi : (o : Int) < (l.length : Int) := by omega
              have hki : (kk : Int) < (syms.length : Int) := by omega
              have ha0 : ¬ ((o : Int) < 0) := by omega
              have hg1 : decide (l.length ≤ o) = false := decide_eq_false (by omega)
              have hg1i : decide ((l.length : Int) ≤ (o : Int)) = false := decide_eq_false (by omega)
              have hg2 : decide ((kk : Int) < 0) = false := decide_eq_false (by omega)
              have hg3 : decide (syms.length ≤ kk) = false := decide_eq_false (by omega)
              have hg3i : decide ((syms.length : Int) ≤ (kk : Int)) = false := decide_eq_false (by omega)
              go_upto_region 24 with (fail)
              go_quiet (fail)
              go_upto_region 26 with (fail)
              have HB3 : Hid (Below w2.heap.size w2 (v2.drewN nq)) := ⟨bdN HBV.out nq⟩
              have HKZ3 : Hid (Bk (v2.drewN nq) Z 27 #[.string nm, .int .i64 o, .int .i64 kk, .int .i64 x3, .int .i64 x4]) := ⟨⟨HKZ.out.hp⟩⟩
              clear e0 e1 e2 t1 HKZ HBV hg1 hg1i hg2 hg3 hg3i
              generalize v2.drewN nq = v3 at *
              have t1 := HT1.out v3 HB3.out
              obtain ⟨y0, y1, y2, y3, y4, y5⟩ := HSY.out v3 HB3.out
              dsimp only at y0 y1 y2 y3 y4 y5
              have e1 : v3.cell? ⟨Z, 1, none⟩ = some (.int .i64 o) := HKZ3.out.cell 1 rfl
              have e2 : v3.cell? ⟨Z, 2, none⟩ = some (.int .i64 kk) := HKZ3.out.cell 2 rfl
              have HSK : Hid (∀ x, Below v3.heap.size v3 x → x.cell? ⟨b, off + o * 2 + 1, none⟩ = some (.slice (some ⟨b2, off2, none⟩) syms.length yc) ∧ x.cell? ⟨Z, 1, none⟩ = some (.int .i64 o) ∧ x.cell? ⟨Z, 2, none⟩ = some (.int .i64 kk) ∧ x.cell? ⟨b2, off2 + kk * 6, none⟩ = some (.string nm) ∧ x.cell? ⟨b2, off2 + kk * 6 + 1, none⟩ = some (.string sn) ∧ x.cell? ⟨b2, off2 + kk * 6 + 2, none⟩ = some (.int .i64 sv) ∧ x.cell? ⟨b2, off2 + kk * 6 + 3, none⟩ = some (.int .i64 sz) ∧ x.cell? ⟨b2, off2 + kk * 6 + 4, none⟩ = some (.int .i64 x3) ∧ x.cell? ⟨b2, off2 + kk * 6 + 5, none⟩ = some (.int .i64 ty)) := ⟨fun x h => ⟨up_c t1 h, up_c e1 h, up_c e2 h, up_c y0 h, up_c y1 h, up_c y2 h, up_c y3 h, up_c y4 h, up_c y5 h⟩⟩
              clear t1 e1 e2 y0 y1 y2 y3 y4 y5
              have hk0 : (0 : Int) ≤ (kk : Int) := by omega
              have ho0 : (0 : Int) ≤ (o : Int) := by omega
              have KY := Bk.new v3 #[.string nm, .string sn, .int .i64 sv, .int .i64 sz, .int .i64 x3, .int .i64 ty] 54
              have HKZ4 : Hid _ := ⟨HKZ3.out.alloc (.cells #[.string nm, .string sn, .int .i64 sv, .int .i64 sz, .int .i64 x3, .int .i64 ty] 54)⟩
              have HB4 : Hid (Below w2.heap.size w2 (v3.alloc (.cells #[.string nm, .string sn, .int .i64 sv, .int .i64 sz, .int .i64 x3, .int .i64 ty] 54))) := ⟨bal HB3.out _⟩
              obtain ⟨Y, hY⟩ : ∃ Q, v3.heap.size = Q := ⟨_, rfl⟩
              rw [hY] at KY
              go_region_held3 (fun x => x.cell? ⟨b, off + o * 2 + 1, none⟩ = some (.slice (some ⟨b2, off2, none⟩) syms.length yc) ∧ x.cell? ⟨Z, 1, none⟩ = some (.int .i64 o) ∧ x.cell? ⟨Z, 2, none⟩ = some (.int .i64 kk) ∧ x.cell? ⟨b2, off2 + kk * 6, none⟩ = some (.string nm) ∧ x.cell? ⟨b2, off2 + kk * 6 + 1, none⟩ = some (.string sn) ∧ x.cell? ⟨b2, off2 + kk * 6 + 2, none⟩ = some (.int .i64 sv) ∧ x.cell? ⟨b2, off2 + kk * 6 + 3, none⟩ = some (.int .i64 sz) ∧ x.cell? ⟨b2, off2 + kk * 6 + 4, none⟩ = some (.int .i64 x3) ∧ x.cell? ⟨b2, off2 + kk * 6 + 5, none⟩ = some (.int .i64 ty))
                (first | (with_reducible assumption) | (refine HSK.out _ ?_; (focus ((repeat (first | exact Below.refl _ _ | refine Below.drew ?_ | refine bal ?_ _)); done))))
                (fail)
              go_upto_region 27 with (fail)
              try rw [hY]
              have HZY : Hid _ := ⟨KY⟩
              clear KY HKZ3 HB3 HSK
              generalize v3.alloc (.cells #[.string nm, .string sn, .int .i64 sv, .int .i64 sz, .int .i64 x3, .int .i64 ty] 54) = v4 at *
              have HSK4 : Hid (∀ x, Below v4.heap.size v4 x → x.cell? ⟨Z, 0, none⟩ = some (.string nm) ∧ x.cell? ⟨Z, 3, none⟩ = some (.int .i64 x3) ∧ x.cell? ⟨Y, 0, none⟩ = some (.string nm) ∧ x.cell? ⟨Y, 1, none⟩ = some (.string sn) ∧ x.cell? ⟨Y, 4, none⟩ = some (.int .i64 x3)) := ⟨fun x h => ⟨(HKZ4.out.bel h HKZ4.out.lt).cell 0 rfl, (HKZ4.out.bel h HKZ4.out.lt).cell 3 rfl, (HZY.out.bel h HZY.out.lt).cell 0 rfl, (HZY.out.bel h HZY.out.lt).cell 1 rfl, (HZY.out.bel h HZY.out.lt).cell 4 rfl⟩⟩
              have HSX : Hid (∀ W, Below v4.heap.size v4 W → _) := ⟨fun W h => HST.out nm W (HBA.out _ (btr HB4.out h))⟩
              have s0 : (nm.toList == nm.toList) = true := by simp
              have hze : sn.toList.isEmpty = false := f2
              obtain ⟨z1, hz1⟩ : ∃ z, (x3 == 1) = z := ⟨_, rfl⟩
              rw [hz1] at f4
              have hnl := HNS.out nm
              clear f2
              generalize nS nm (occ l) = NN at *
              have hzN := f4.symm
              clear f4 hY
              cases z1
              · have hNi : ¬ (0 : Int) < (NN : Int) := by have := of_decide_eq_false hzN; omega
                go_region_held3 (fun x => x.cell? ⟨Z, 0, none⟩ = some (.string nm) ∧ x.cell? ⟨Z, 3, none⟩ = some (.int .i64 x3) ∧ x.cell? ⟨Y, 0, none⟩ = some (.string nm) ∧ x.cell? ⟨Y, 1, none⟩ = some (.string sn) ∧ x.cell? ⟨Y, 4, none⟩ = some (.int .i64 x3))
                  (first | (with_reducible assumption) | (refine HSK4.out _ ?_; (focus ((repeat (first | exact HB9.out | exact Below.refl _ _ | refine Below.drew ?_ | refine bal ?_ _)); done))))
                  ((go_at_call 18; (with_reducible refine (HSX.out _ ?_).mono ?_); (focus ((repeat (first | exact Below.refl _ _ | refine Below.drew ?_ | refine bal ?_ _)); done)); rintro e w9 ⟨rfl, hb9⟩; have HB9 : Hid (Below v4.heap.size v4 w9) := ?hb9; (case hb9 => (refine ⟨btr ?_ hb9⟩; (focus ((repeat (first | exact Below.refl _ _ | refine Below.drew ?_ | refine bal ?_ _)); done)))); clear hb9))
                go_wp2
                go_roundw
                case rel => exact ⟨k + 1, hlt, by go_num, ⟨btr HB4.out HB9.out⟩⟩
                case measure => simp [intOf]; omega

              · have hNi : (0 : Int) < (NN : Int) := by have := of_decide_eq_true hzN; omega
                go_region_held3 (fun x => x.cell? ⟨Z, 0, none⟩ = some (.string nm) ∧ x.cell? ⟨Z, 3, none⟩ = some (.int .i64 x3) ∧ x.cell? ⟨Y, 0, none⟩ = some (.string nm) ∧ x.cell? ⟨Y, 1, none⟩ = some (.string sn) ∧ x.cell? ⟨Y, 4, none⟩ = some (.int .i64 x3))
                  (first | (with_reducible assumption) | (refine HSK4.out _ ?_; (focus ((repeat (first | exact HB9.out | exact Below.refl _ _ | refine Below.drew ?_ | refine bal ?_ _)); done))))
                  ((go_at_call 18; (with_reducible refine (HSX.out _ ?_).mono ?_); (focus ((repeat (first | exact Below.refl _ _ | refine Below.drew ?_ | refine bal ?_ _)); done)); rintro e w9 ⟨rfl, hb9⟩; have HB9 : Hid (Below v4.heap.size v4 w9) := ?hb9; (case hb9 => (refine ⟨btr ?_ hb9⟩; (focus ((repeat (first | exact Below.refl _ _ | refine Below.drew ?_ | refine bal ?_ _)); done)))); clear hb9))
                go_wp2
                go_roundw
                case rel => exact ⟨k + 1, hlt, by go_num, ⟨btr HB4.out HB9.out⟩⟩
                case measure => simp [intOf]; omega

          · obtain rfl : k = T.length := by omega
            have HBW : Hid (Below w.heap.size w wr) := ⟨HBA.out _ HW.out⟩
            go_wp2_with (go_at_call 12; (with_reducible refine (HV.out _).mono ?_); rintro e wz ⟨rfl, hbz⟩)
            go_ret
            exact ⟨rfl, HBW.out.trans (hbz.mono HBW.out.size)⟩
  · have hx := HE0.out hE0
    have hxb : (xe != 0) = true := by simpa [bne] using hx
    obtain rfl : T = [] := HT0.out hx
    clear HBAD HENT
    go_wp2_with (first
      | (go_at_call 15; (with_reducible refine (H2.out _ HB2.out).mono ?_); rintro e w3 ⟨rfl, hb3⟩; have q3 : w3.cell? ⟨QF, 0, none⟩ = some (.int .i64 xe) := (HK2.out.bel hb3 HK2.out.lt).cell 0 rfl)
      | (go_at_call 11; (with_reducible refine (HN.out _ _).mono ?_); rintro e w' ⟨rfl, hw'⟩; subst w')
      | (go_at_call 12; (with_reducible refine (HV.out _).mono ?_); rintro e w5 ⟨rfl, hb5⟩))
    go_ret
    exact ⟨rfl, (btr HB2.out hb3).trans (hb5.mono (btr HB2.out hb3).size)⟩
end Go.Proofs.Ytgoaegembijdcaa
