/- addFaults. -/
import Derived.Test.YtgoaegembijdcaaRFault
namespace Go.Proofs.Ytgoaegembijdcaa
open Go.ChangeShapes Go.WideShapes Go.ChangeAt Go.RowKit Go.Maps
set_option linter.unusedVariables false
set_option linter.unusedSimpArgs false

set_option maxHeartbeats 8000000 in
set_option maxRecDepth 20000 in
theorem addU_any {w : World} {base : Nat} {v vr : Value} {l : List Ft} {rows : List (ByteArray × Us)} (J : Nat) (p : Us → Bool) (E : Int) (hent : ∀ args w, (callFunc J args).run Try.prog w = .ok (.enter J args) w) (hop : ∀ u W, Calls Try.prog J #[Us.val u] W fun e w' => e = .returned (.bool (p u)) ∧ Below W.heap.size W w')
    (hl : OwnR 45 2 encF w base v l) (hr : OwnR 106 11 encU w base vr rows) (hb : base ≤ w.heap.size) (hn : l.length + rows.length ≤ 16777216) :
    Calls Try.prog 41 #[v, .int .i64 E, vr, .func (.func J) #[] #[]] w fun e w' => ∃ v', e = .returned v' ∧ OwnR 45 2 encF w' base v' (l ++ ftOf E p rows) ∧ OwnR 106 11 encU w' base vr rows ∧ Below base w w' := by
  obtain ⟨ao, cap, rfl, _, _, _, _⟩ := hr.any encU_len
  have HL : Hid _ := ⟨hl⟩
  have HR : Hid _ := ⟨hr⟩
  have HO : Hid (∀ u W, Calls Try.prog J #[Us.val u] W fun e w' => e = .returned (.bool (p u)) ∧ Below W.heap.size W w') := ⟨hop⟩
  clear hl hr hop
  go_enter Try.func41, Try.ntmps41
  go_upto_region 2 with (fail)
  go_loopw [0, 13] (fun x i wr => ∃ k : Nat, k ≤ rows.length ∧ i = .int .i64 k ∧ Hid (OwnR 45 2 encF wr base x (l ++ ftOf E p (rows.take k)) ∧ OwnR 106 11 encU wr base (.slice ao rows.length cap) rows ∧ Below base w wr)) (fun _ i _ => rows.length - (intOf i).toNat)
  case atStart => exact ⟨0, by omega, rfl, ⟨by simpa [ftOf] using HL.out, HR.out, Below.refl _ _⟩⟩
  case round =>
    obtain ⟨k, hk, rfl, HW⟩ := hrel
    have hbw := HW.out.2.2.size
    by_cases hlt : k < rows.length
    · obtain ⟨g, rfl, hg1, hg2, hcell⟩ := HW.out.2.1.at encU_len hlt
      have HT : Hid (l ++ ftOf E p (rows.take (k + 1)) = if p rows[k].2 then l ++ ftOf E p (rows.take k) ++ [⟨E, rows[k].1⟩] else l ++ ftOf E p (rows.take k)) := ⟨by rw [ftOf_take E p rows k hlt]; cases p rows[k].2 <;> simp⟩
      have hfl : (l ++ ftOf E p (rows.take k)).length ≤ 16777216 := by have := ftOf_len E p rows k; rw [List.length_append]; omega
      obtain ⟨r, hr⟩ : ∃ r, r = rows[k] := ⟨_, rfl⟩
      rw [← hr] at hcell HT
      clear hr
      obtain ⟨t, u⟩ := r
      have HC : Hid (∀ W, Calls Try.prog J #[Us.val u] W fun e w' => e = .returned (.bool (p u)) ∧ Below W.heap.size W w') := ⟨fun W => HO.out u W⟩
      obtain ⟨Fz, hFz⟩ : ∃ u, u = l ++ ftOf E p (rows.take (k + 1)) := ⟨_, rfl⟩
      rw [← hFz] at HT
      have HFZ : Hid _ := ⟨hFz⟩
      clear hFz
      generalize l ++ ftOf E p (rows.take k) = F0 at *
      dsimp only at HT
      generalize p u = q at *
      obtain ⟨⟨y0, y1, y2, y3, y4⟩, y5, y6, y7, y8, y9⟩ := u
      dsimp only [Us.val] at *
      have c0 : wr.cell? ⟨g, k * 11, none⟩ = some (.string t) := hcell 0 (by decide)
      have c1 : wr.cell? ⟨g, k * 11 + 1, none⟩ = some (.string y0) := hcell 1 (by decide)
      have c2 : wr.cell? ⟨g, k * 11 + 2, none⟩ = some (.int .i64 y1) := hcell 2 (by decide)
      have c3 : wr.cell? ⟨g, k * 11 + 3, none⟩ = some (.int .i64 y2) := hcell 3 (by decide)
      have c4 : wr.cell? ⟨g, k * 11 + 4, none⟩ = some (.int .i64 y3) := hcell 4 (by decide)
      have c5 : wr.cell? ⟨g, k * 11 + 5, none⟩ = some (.int .i64 y4) := hcell 5 (by decide)
      have c6 : wr.cell? ⟨g, k * 11 + 6, none⟩ = some (.bool y5) := hcell 6 (by decide)
      have c7 : wr.cell? ⟨g, k * 11 + 7, none⟩ = some (.int .i64 y6) := hcell 7 (by decide)
      have c8 : wr.cell? ⟨g, k * 11 + 8, none⟩ = some (.bool y7) := hcell 8 (by decide)
      have c9 : wr.cell? ⟨g, k * 11 + 9, none⟩ = some (.bool y8) := hcell 9 (by decide)
      have c10 : wr.cell? ⟨g, k * 11 + 10, none⟩ = some (.bool y9) := hcell 10 (by decide)
      clear hcell
      have HF : Hid (OwnR 45 2 encF (wr.alloc (.cells #[.string t, .string y0, .int .i64 y1, .int .i64 y2, .int .i64 y3, .int .i64 y4, .bool y5, .int .i64 y6, .bool y7, .bool y8, .bool y9] 106)) base u0 F0 ∧ OwnR 106 11 encU (wr.alloc (.cells #[.string t, .string y0, .int .i64 y1, .int .i64 y2, .int .i64 y3, .int .i64 y4, .bool y5, .int .i64 y6, .bool y7, .bool y8, .bool y9] 106)) base (.slice (some ⟨g, 0, none⟩) rows.length cap) rows ∧ Below base w (wr.alloc (.cells #[.string t, .string y0, .int .i64 y1, .int .i64 y2, .int .i64 y3, .int .i64 y4, .bool y5, .int .i64 y6, .bool y7, .bool y8, .bool y9] 106))) := ⟨World.ownsRow.alloc HW.out.1 _, World.ownsRow.alloc HW.out.2.1 _, HW.out.2.2.alloc (by omega) _⟩
      obtain ⟨P, hP⟩ : ∃ P, wr.heap.size = P := ⟨_, rfl⟩
      have KP : Bk (wr.alloc (.cells #[.string t, .string y0, .int .i64 y1, .int .i64 y2, .int .i64 y3, .int .i64 y4, .bool y5, .int .i64 y6, .bool y7, .bool y8, .bool y9] 106)) P 106 #[.string t, .string y0, .int .i64 y1, .int .i64 y2, .int .i64 y3, .int .i64 y4, .bool y5, .int .i64 y6, .bool y7, .bool y8, .bool y9] := by rw [← hP]; exact Bk.new _ _ _
      have HKP : Hid _ := ⟨KP⟩
      clear KP
      cases q
      · obtain rfl : Fz = F0 := HT.out
        go_wp2_with (go_at_fn J; refine (HC.out _).mono ?_; rintro e w3 ⟨rfl, hb3⟩)
        go_roundw
        case rel => exact ⟨k + 1, hlt, by go_num, ⟨by rw [← HFZ.out]; exact own_belR hb3 HF.out.1, own_belR hb3 HF.out.2.1, HF.out.2.2.trans (hb3.mono (by have := HF.out.2.2.size; omega))⟩⟩
        case measure => simp [intOf]; omega
      · have HTT : Hid (Fz = F0 ++ [⟨E, t⟩]) := ⟨HT.out⟩
        go_wp2_with (first
          | (go_at_fn J; refine (HC.out _).mono ?_; rintro e w3 ⟨rfl, hb3⟩
             have HF3 : Hid (OwnR 45 2 encF w3 base u0 F0 ∧ OwnR 106 11 encU w3 base (.slice (some ⟨g, 0, none⟩) rows.length cap) rows ∧ Below base w w3) := ⟨own_belR hb3 HF.out.1, own_belR hb3 HF.out.2.1, HF.out.2.2.trans (hb3.mono (by have := HF.out.2.2.size; omega))⟩
             have d0 : w3.cell? ⟨P, 0, none⟩ = some (.string t) := (HKP.out.bel hb3 HKP.out.lt).cell 0 rfl
             have hz3 : base ≤ w3.heap.size := by have := HF3.out.2.2.size; omega
             have HAP : Hid (Apart (.slice (some ⟨g, 0, none⟩) rows.length cap) u0) := ⟨own_apart' (by decide) HF3.out.1 HF3.out.2.1⟩
             clear hb3)
          | (at_builtin; refine append_R rfl _ _ 40 (.agg (encF Ft.zero).toArray) 24 rfl Try.underlying40 infoFt (by kernel_rfl) (by decide) encF_len encF_one rfl HF3.out.1 ⟨E, t⟩ rfl (by simp) rfl (by unfold maxLen; omega) (by omega) (by omega) ?_; intro v1 w5 hr5 hs5; go_frame))
        go_roundw
        case rel => exact ⟨k + 1, hlt, by go_num, ⟨by rw [← HFZ.out, HTT.out]; exact hr5, (hs5.keep HF3.out.2.1 HAP.out).1, HF3.out.2.2.trans (hs5.below HF3.out.1 hz3)⟩⟩
        case measure => simp [intOf]; omega
    · obtain rfl : k = rows.length := by omega
      rw [List.take_of_length_le (Nat.le_refl _)] at HW
      go_wp2
      go_ret
      exact ⟨_, rfl, HW.out.1, HW.out.2.1, HW.out.2.2⟩

set_option maxHeartbeats 8000000 in
set_option maxRecDepth 20000 in
theorem addS_any {w : World} {base : Nat} {v vr : Value} {l : List Ft} {rows : List (ByteArray × Sh)} (J : Nat) (p : Sh → Bool) (E : Int) (hent : ∀ args w, (callFunc J args).run Try.prog w = .ok (.enter J args) w) (hop : ∀ u W, Calls Try.prog J #[Sh.val u] W fun e w' => e = .returned (.bool (p u)) ∧ Below W.heap.size W w')
    (hl : OwnR 45 2 encF w base v l) (hr : OwnR 112 5 encS w base vr rows) (hb : base ≤ w.heap.size) (hn : l.length + rows.length ≤ 16777216) :
    Calls Try.prog 45 #[v, .int .i64 E, vr, .func (.func J) #[] #[]] w fun e w' => ∃ v', e = .returned v' ∧ OwnR 45 2 encF w' base v' (l ++ ftOf E p rows) ∧ OwnR 112 5 encS w' base vr rows ∧ Below base w w' := by
  obtain ⟨ao, cap, rfl, _, _, _, _⟩ := hr.any encS_len
  have HL : Hid _ := ⟨hl⟩
  have HR : Hid _ := ⟨hr⟩
  have HO : Hid (∀ u W, Calls Try.prog J #[Sh.val u] W fun e w' => e = .returned (.bool (p u)) ∧ Below W.heap.size W w') := ⟨hop⟩
  clear hl hr hop
  go_enter Try.func45, Try.ntmps45
  go_upto_region 2 with (fail)
  go_loopw [0, 13] (fun x i wr => ∃ k : Nat, k ≤ rows.length ∧ i = .int .i64 k ∧ Hid (OwnR 45 2 encF wr base x (l ++ ftOf E p (rows.take k)) ∧ OwnR 112 5 encS wr base (.slice ao rows.length cap) rows ∧ Below base w wr)) (fun _ i _ => rows.length - (intOf i).toNat)
  case atStart => exact ⟨0, by omega, rfl, ⟨by simpa [ftOf] using HL.out, HR.out, Below.refl _ _⟩⟩
  case round =>
    obtain ⟨k, hk, rfl, HW⟩ := hrel
    have hbw := HW.out.2.2.size
    by_cases hlt : k < rows.length
    · obtain ⟨g, rfl, hg1, hg2, hcell⟩ := HW.out.2.1.at encS_len hlt
      have HT : Hid (l ++ ftOf E p (rows.take (k + 1)) = if p rows[k].2 then l ++ ftOf E p (rows.take k) ++ [⟨E, rows[k].1⟩] else l ++ ftOf E p (rows.take k)) := ⟨by rw [ftOf_take E p rows k hlt]; cases p rows[k].2 <;> simp⟩
      have hfl : (l ++ ftOf E p (rows.take k)).length ≤ 16777216 := by have := ftOf_len E p rows k; rw [List.length_append]; omega
      obtain ⟨r, hr⟩ : ∃ r, r = rows[k] := ⟨_, rfl⟩
      rw [← hr] at hcell HT
      clear hr
      obtain ⟨t, u⟩ := r
      have HC : Hid (∀ W, Calls Try.prog J #[Sh.val u] W fun e w' => e = .returned (.bool (p u)) ∧ Below W.heap.size W w') := ⟨fun W => HO.out u W⟩
      obtain ⟨Fz, hFz⟩ : ∃ u, u = l ++ ftOf E p (rows.take (k + 1)) := ⟨_, rfl⟩
      rw [← hFz] at HT
      have HFZ : Hid _ := ⟨hFz⟩
      clear hFz
      generalize l ++ ftOf E p (rows.take k) = F0 at *
      dsimp only at HT
      generalize p u = q at *
      obtain ⟨y0, y1, y2, y3⟩ := u
      dsimp only [Sh.val] at *
      have c0 : wr.cell? ⟨g, k * 5, none⟩ = some (.string t) := hcell 0 (by decide)
      have c1 : wr.cell? ⟨g, k * 5 + 1, none⟩ = some (.int .i64 y0) := hcell 1 (by decide)
      have c2 : wr.cell? ⟨g, k * 5 + 2, none⟩ = some (.int .i64 y1) := hcell 2 (by decide)
      have c3 : wr.cell? ⟨g, k * 5 + 3, none⟩ = some (.bool y2) := hcell 3 (by decide)
      have c4 : wr.cell? ⟨g, k * 5 + 4, none⟩ = some (.bool y3) := hcell 4 (by decide)
      clear hcell
      have HF : Hid (OwnR 45 2 encF (wr.alloc (.cells #[.string t, .int .i64 y0, .int .i64 y1, .bool y2, .bool y3] 112)) base u0 F0 ∧ OwnR 112 5 encS (wr.alloc (.cells #[.string t, .int .i64 y0, .int .i64 y1, .bool y2, .bool y3] 112)) base (.slice (some ⟨g, 0, none⟩) rows.length cap) rows ∧ Below base w (wr.alloc (.cells #[.string t, .int .i64 y0, .int .i64 y1, .bool y2, .bool y3] 112))) := ⟨World.ownsRow.alloc HW.out.1 _, World.ownsRow.alloc HW.out.2.1 _, HW.out.2.2.alloc (by omega) _⟩
      obtain ⟨P, hP⟩ : ∃ P, wr.heap.size = P := ⟨_, rfl⟩
      have KP : Bk (wr.alloc (.cells #[.string t, .int .i64 y0, .int .i64 y1, .bool y2, .bool y3] 112)) P 112 #[.string t, .int .i64 y0, .int .i64 y1, .bool y2, .bool y3] := by rw [← hP]; exact Bk.new _ _ _
      have HKP : Hid _ := ⟨KP⟩
      clear KP
      cases q
      · obtain rfl : Fz = F0 := HT.out
        go_wp2_with (go_at_fn J; refine (HC.out _).mono ?_; rintro e w3 ⟨rfl, hb3⟩)
        go_roundw
        case rel => exact ⟨k + 1, hlt, by go_num, ⟨by rw [← HFZ.out]; exact own_belR hb3 HF.out.1, own_belR hb3 HF.out.2.1, HF.out.2.2.trans (hb3.mono (by have := HF.out.2.2.size; omega))⟩⟩
        case measure => simp [intOf]; omega
      · have HTT : Hid (Fz = F0 ++ [⟨E, t⟩]) := ⟨HT.out⟩
        go_wp2_with (first
          | (go_at_fn J; refine (HC.out _).mono ?_; rintro e w3 ⟨rfl, hb3⟩
             have HF3 : Hid (OwnR 45 2 encF w3 base u0 F0 ∧ OwnR 112 5 encS w3 base (.slice (some ⟨g, 0, none⟩) rows.length cap) rows ∧ Below base w w3) := ⟨own_belR hb3 HF.out.1, own_belR hb3 HF.out.2.1, HF.out.2.2.trans (hb3.mono (by have := HF.out.2.2.size; omega))⟩
             have d0 : w3.cell? ⟨P, 0, none⟩ = some (.string t) := (HKP.out.bel hb3 HKP.out.lt).cell 0 rfl
             have hz3 : base ≤ w3.heap.size := by have := HF3.out.2.2.size; omega
             have HAP : Hid (Apart (.slice (some ⟨g, 0, none⟩) rows.length cap) u0) := ⟨own_apart' (by decide) HF3.out.1 HF3.out.2.1⟩
             clear hb3)
          | (at_builtin; refine append_R rfl _ _ 40 (.agg (encF Ft.zero).toArray) 24 rfl Try.underlying40 infoFt (by kernel_rfl) (by decide) encF_len encF_one rfl HF3.out.1 ⟨E, t⟩ rfl (by simp) rfl (by unfold maxLen; omega) (by omega) (by omega) ?_; intro v1 w5 hr5 hs5; go_frame))
        go_roundw
        case rel => exact ⟨k + 1, hlt, by go_num, ⟨by rw [← HFZ.out, HTT.out]; exact hr5, (hs5.keep HF3.out.2.1 HAP.out).1, HF3.out.2.2.trans (hs5.below HF3.out.1 hz3)⟩⟩
        case measure => simp [intOf]; omega
    · obtain rfl : k = rows.length := by omega
      rw [List.take_of_length_le (Nat.le_refl _)] at HW
      go_wp2
      go_ret
      exact ⟨_, rfl, HW.out.1, HW.out.2.1, HW.out.2.2⟩
end Go.Proofs.Ytgoaegembijdcaa
