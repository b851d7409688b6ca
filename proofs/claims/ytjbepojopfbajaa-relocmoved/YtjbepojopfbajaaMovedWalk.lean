/- RelocMoved: the law's walk. -/
import Derived.Test.YtjbepojopfbajaaVLive
import Derived.Test.YtjbepojopfbajaaVOpen
namespace Go.Proofs.Ytjbepojopfbajaa
open Go.ChangeShapes Go.WideShapes Go.ChangeAt Go.RowKit
set_option linter.unusedVariables false
set_option linter.unusedSimpArgs false

theorem val_bad {t : Int} {p : Pl} (h : valE t p ≠ 0) : valM t p = 0 := by
  unfold valE at h
  unfold valM
  split at h
  · rename_i h0; rw [if_pos h0]
  · rename_i h0
    rw [if_neg h0]
    split at h
    · exact absurd rfl h
    · rename_i h1; rw [if_neg h1]
theorem val_ok {t : Int} {p : Pl} (h : valE t p = 0) : (kdOf t).v ≠ 0 ∧ p.okB = true ∧ valM t p = vOf (kdOf t).v p := by
  unfold valE at h
  unfold valM
  split at h
  · cases h
  · rename_i h0
    split at h
    · rename_i h1; exact ⟨h0, h1, by rw [if_neg h0, if_pos h1]⟩
    · cases h
theorem kd_far : ∀ t : Int, t ≠ 2 → t ≠ 4 → t ≠ 9 → t ≠ 22 → (kdOf t).v = 0 ∨ (kdOf t).v = 57 ∨ (kdOf t).v = 63 := by
  apply kd_cases (fun t k => t ≠ 2 → t ≠ 4 → t ≠ 9 → t ≠ 22 → k.v = 0 ∨ k.v = 57 ∨ k.v = 63)
  · intro t _ _ _ _ _; exact .inl rfl
  · intro t ht a b c d
    have : ∀ k, k < 38 → (k = 2 ∨ k = 4 ∨ k = 9 ∨ k = 22 ∨ (kdsL.getD k Kd.zero).v = 0 ∨ (kdsL.getD k Kd.zero).v = 57 ∨ (kdsL.getD k Kd.zero).v = 63) := by decide +kernel
    rcases this t ht with e | e | e | e | e
    · omega
    · omega
    · omega
    · omega
    · exact e
theorem wrap_in {n : Int} (h : -9223372036854775808 ≤ n ∧ n ≤ 9223372036854775807) : wrap64 n = n := by unfold wrap64; omega
/-- All moved by as much. -/
theorem moved_plain (t s a p g u b : Int) (h : valE t ⟨s, a, p, g, u⟩ = 0) (h2 : valE t ⟨wrap64 (s + b), a, wrap64 (p + b), wrap64 (g + b), u⟩ = 0) (hb : -1152921504606846976 ≤ b ∧ b ≤ 1152921504606846976) :
    ((t = 2 ∨ t = 4 ∨ t = 9 ∨ t = 22) → valM t ⟨wrap64 (s + b), a, wrap64 (p + b), wrap64 (g + b), u⟩ = valM t ⟨s, a, p, g, u⟩) ∧ (¬ (t = 2 ∨ t = 4 ∨ t = 9 ∨ t = 22) → valM t ⟨wrap64 (s + b), a, wrap64 (p + b), wrap64 (g + b), u⟩ = wrap64 (valM t ⟨s, a, p, g, u⟩ + b)) := by
  obtain ⟨v0, ho, e1⟩ := val_ok h
  obtain ⟨_, _, e2⟩ := val_ok h2
  obtain ⟨f1, f2, f3, f4, f5⟩ := ok_in ho
  have b1 := far_in f1
  have b2 := far_in f2
  have b3 := far_in f3
  have b4 := far_in f4
  have b5 := far_in f5
  dsimp only at b1 b2 b3 b4 b5
  rw [e1, e2, wrap_in (n := s + b) (by omega), wrap_in (n := p + b) (by omega), wrap_in (n := g + b) (by omega)]
  refine ⟨fun ht => ?_, fun ht => ?_⟩
  · rcases ht with rfl | rfl | rfl | rfl
    · show s + b + a - (p + b) = s + a - p; omega
    · show s + b + a - (p + b) = s + a - p; omega
    · show g + b + a - (p + b) = g + a - p; omega
    · show g + b + a - (p + b) = g + a - p; omega
  · have hk := kd_far t (fun e => ht (.inl e)) (fun e => ht (.inr (.inl e))) (fun e => ht (.inr (.inr (.inl e)))) (fun e => ht (.inr (.inr (.inr e))))
    rcases hk with e | e | e
    · exact absurd e v0
    · rw [e]
      show s + b + a = wrap64 (s + a + b)
      rw [wrap_in (by omega)]; omega
    · rw [e]
      show s + b + a - u = wrap64 (s + a - u + b)
      rw [wrap_in (by omega)]; omega
set_option maxHeartbeats 400000 in
set_option maxRecDepth 20000 in
theorem relocMoved_walk (t : Int) (p : Pl) (by' : Int) (w : World) (wt : (Lit.int .i64 t).wf = true) (wp : PlW p) (wb : (Lit.int .i64 by').wf = true) : Calls Try.prog 5 #[.int .i64 t, p.val, .int .i64 by'] w fun e w' => e = .returned (.bool true) ∧ Below w.heap.size w w' := by
  clear wt wp wb
  obtain ⟨s, a, pp, g, tt⟩ := p
  have HV : Hd (∀ W, _) := ⟨fun W => value_any t ⟨s, a, pp, g, tt⟩ W⟩
  have HQ : Hd (∀ W, _) := ⟨fun W => value_any t ⟨wrap64 (s + by'), a, wrap64 (pp + by'), wrap64 (g + by'), tt⟩ W⟩
  have HL : Hd (∀ W, _) := ⟨fun W => liveV_any W⟩
  have HN : Hd (∀ n W, _) := ⟨fun n W => numV_any n W⟩
  have HM : Hd _ := ⟨moved_plain t s a pp g tt by'⟩
  have HZ : Hd (valE t ⟨s, a, pp, g, tt⟩ ≠ 0 → valM t ⟨s, a, pp, g, tt⟩ = 0) := ⟨fun h => val_bad h⟩
  dsimp only [Pl.val] at *
  generalize valM t ⟨s, a, pp, g, tt⟩ = v at *
  generalize valE t ⟨s, a, pp, g, tt⟩ = e1 at *
  generalize valM t ⟨wrap64 (s + by'), a, wrap64 (pp + by'), wrap64 (g + by'), tt⟩ = u at *
  generalize valE t ⟨wrap64 (s + by'), a, wrap64 (pp + by'), wrap64 (g + by'), tt⟩ = e2 at *
  have HP : Hd (Below w.heap.size w ((w.alloc (.cells #[.int .i64 s, .int .i64 a, .int .i64 pp, .int .i64 g, .int .i64 tt] 23)).alloc (.cells #[.int .i64 (wrap64 (s + by')), .int .i64 a, .int .i64 (wrap64 (pp + by')), .int .i64 (wrap64 (g + by')), .int .i64 tt] 23))) := ⟨vb_alloc (vb_alloc (Below.refl _ _) _) _⟩
  have HR : Hd (VB ((w.alloc (.cells #[.int .i64 s, .int .i64 a, .int .i64 pp, .int .i64 g, .int .i64 tt] 23)).alloc (.cells #[.int .i64 (wrap64 (s + by')), .int .i64 a, .int .i64 (wrap64 (pp + by')), .int .i64 (wrap64 (g + by')), .int .i64 tt] 23)) (w.heap.size + 1) 23 #[.int .i64 (wrap64 (s + by')), .int .i64 a, .int .i64 (wrap64 (pp + by')), .int .i64 (wrap64 (g + by')), .int .i64 tt]) := ⟨by
    have := VB.new (w.alloc (.cells #[.int .i64 s, .int .i64 a, .int .i64 pp, .int .i64 g, .int .i64 tt] 23)) #[.int .i64 (wrap64 (s + by')), .int .i64 a, .int .i64 (wrap64 (pp + by')), .int .i64 (wrap64 (g + by')), .int .i64 tt] 23
    simpa using this⟩
  go_enter Try.func5, Try.ntmps5
  go_upto_region 6 with (go_at_call 10; refine (HV.out _).mono ?_; rintro e w1 ⟨rfl, hb1⟩; have HB1 : Hd _ := ⟨hb1⟩; clear hb1)
  have hr1 := HR.out.bel HB1.out HR.out.lt
  have HP1 : Hd (Below w.heap.size w w1) := ⟨HP.out.trans (HB1.out.mono HP.out.size)⟩
  clear HP HR HB1 HV
  obtain ⟨R, hR⟩ : ∃ R, w.heap.size + 1 = R := ⟨_, rfl⟩
  rw [hR] at hr1 ⊢
  clear hR
  generalize wrap64 (s + by') = S2 at *
  generalize wrap64 (pp + by') = P2 at *
  generalize wrap64 (g + by') = G2 at *
  have r0 : w1.cell? ⟨R, 0, none⟩ = some (.int .i64 S2) := hr1.cell 0 rfl
  have r1 : w1.cell? ⟨R, 1, none⟩ = some (.int .i64 a) := hr1.cell 1 rfl
  have r2 : w1.cell? ⟨R, 2, none⟩ = some (.int .i64 P2) := hr1.cell 2 rfl
  have r3 : w1.cell? ⟨R, 3, none⟩ = some (.int .i64 G2) := hr1.cell 3 rfl
  have r4 : w1.cell? ⟨R, 4, none⟩ = some (.int .i64 tt) := hr1.cell 4 rfl
  clear hr1
  go_upto_region 7 with (go_at_call 10; refine (HQ.out _).mono ?_; rintro e w2 ⟨rfl, hb2⟩; have HB2 : Hd _ := ⟨hb2⟩; clear hb2)
  have HP2 : Hd (Below w.heap.size w w2) := ⟨HP1.out.trans (HB2.out.mono HP1.out.size)⟩
  clear HP1 HB2 HQ r0 r1 r2 r3 r4
  by_cases h1 : e1 = 0
  · subst h1
    by_cases h2 : e2 = 0
    · subst h2
      by_cases h3 : by' < -1152921504606846976
      · have d1 : decide (by' < -1152921504606846976) = true := decide_eq_true h3
        clear HM HZ h3
        go_wp2_with (first
          | (go_at_call 17; refine (HN.out _ _).mono ?_; rintro e w3 ⟨rfl, rfl⟩)
          | (go_at_call 22; refine (HL.out _).mono ?_; rintro e w4 ⟨rfl, hb4⟩; have HB4 : Hd _ := ⟨hb4⟩; clear hb4))
        go_ret
        exact ⟨rfl, HP2.out.trans (HB4.out.mono HP2.out.size)⟩
      · have d1 : decide (by' < -1152921504606846976) = false := decide_eq_false h3
        by_cases h4 : 1152921504606846976 < by'
        · have d2 : decide (1152921504606846976 < by') = true := decide_eq_true h4
          clear HM HZ h3 h4
          go_wp2_with (first
            | (go_at_call 17; refine (HN.out _ _).mono ?_; rintro e w3 ⟨rfl, rfl⟩)
            | (go_at_call 22; refine (HL.out _).mono ?_; rintro e w4 ⟨rfl, hb4⟩; have HB4 : Hd _ := ⟨hb4⟩; clear hb4))
          go_ret
          exact ⟨rfl, HP2.out.trans (HB4.out.mono HP2.out.size)⟩
        · have d2 : decide (1152921504606846976 < by') = false := decide_eq_false h4
          obtain ⟨hm1, hm2⟩ := HM.out rfl rfl ⟨by omega, by omega⟩
          clear HM HZ h3 h4
          by_cases ht : t = 2 ∨ t = 4 ∨ t = 9 ∨ t = 22
          · obtain rfl := hm1 ht
            clear hm1 hm2
            rcases ht with rfl | rfl | rfl | rfl
            all_goals
              go_wp2_with (first
                | (go_at_call 17; refine (HN.out _ _).mono ?_; rintro e w3 ⟨rfl, rfl⟩)
                | (go_at_call 22; refine (HL.out _).mono ?_; rintro e w4 ⟨rfl, hb4⟩; have HB4 : Hd _ := ⟨hb4⟩; clear hb4))
              go_ret
              exact ⟨rfl, HP2.out.trans (HB4.out.mono HP2.out.size)⟩
          · obtain rfl := hm2 ht
            clear hm1 hm2
            have t1 : (t == 2) = false := by simp; omega
            have t2 : (t == 4) = false := by simp; omega
            have t3 : (t == 9) = false := by simp; omega
            have t4 : (t == 22) = false := by simp; omega
            clear ht
            go_wp2_with (first
              | (go_at_call 17; refine (HN.out _ _).mono ?_; rintro e w3 ⟨rfl, rfl⟩)
              | (go_at_call 22; refine (HL.out _).mono ?_; rintro e w4 ⟨rfl, hb4⟩; have HB4 : Hd _ := ⟨hb4⟩; clear hb4))
            go_ret
            exact ⟨rfl, HP2.out.trans (HB4.out.mono HP2.out.size)⟩
    · have d1 : (e2 != 0) = true := by simpa using h2
      clear HM HZ h2
      go_wp2_with (first
        | (go_at_call 17; refine (HN.out _ _).mono ?_; rintro e w3 ⟨rfl, rfl⟩)
        | (go_at_call 22; refine (HL.out _).mono ?_; rintro e w4 ⟨rfl, hb4⟩; have HB4 : Hd _ := ⟨hb4⟩; clear hb4))
      go_ret
      exact ⟨rfl, HP2.out.trans (HB4.out.mono HP2.out.size)⟩
  · obtain rfl := HZ.out h1
    have d1 : (e1 != 0) = true := by simpa using h1
    have d2 : (e1 == 0) = false := by simpa using h1
    clear HM HZ h1
    go_wp2_with (first
      | (go_at_call 17; refine (HN.out _ _).mono ?_; rintro e w3 ⟨rfl, rfl⟩)
      | (go_at_call 22; refine (HL.out _).mono ?_; rintro e w4 ⟨rfl, hb4⟩; have HB4 : Hd _ := ⟨hb4⟩; clear hb4))
    go_ret
    exact ⟨rfl, HP2.out.trans (HB4.out.mono HP2.out.size)⟩
end Go.Proofs.Ytjbepojopfbajaa
