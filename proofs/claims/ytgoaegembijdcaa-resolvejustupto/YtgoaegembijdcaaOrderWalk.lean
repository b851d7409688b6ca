/- ResolveOrder: the law's walk. -/
import Derived.Test.YtgoaegembijdcaaROrd
import Derived.BigQuiet
namespace Go.Proofs.Ytgoaegembijdcaa
open Go.ChangeShapes Go.WideShapes Go.ChangeAt Go.RowKit Go.Maps
set_option linter.unusedVariables false
set_option linter.unusedSimpArgs false

theorem bdN {B : Nat} {a w : World} (h : Below B a w) (n : Nat) : Below B a (w.drewN n) := h.trans ⟨rfl, rfl, rfl, Nat.le_refl _, fun _ _ => rfl⟩

set_option maxHeartbeats 16000000 in
set_option maxRecDepth 20000 in
theorem resolveOrder_walk (ao : Option Addr) (c : Nat) (l : List Fl) (w : World) (hl : Fls w ao l ∧ FlsC l ∧ (ao = none → c = 0)) :
    Calls Try.prog 4 #[.slice ao l.length c] w fun e w' => e = .returned (.bool true) ∧ Below w.heap.size w w' := by
  obtain ⟨hr, hC, _⟩ := hl
  have hCr := hC.rev
  have hoc : (occ l).length ≤ 2097152 := by have := occ_len l; have := hC.sum; omega
  have hln : l.length ≤ 1048576 := hC.n
  have H1 : Hid (∀ W, Below w.heap.size w W → _) := ⟨fun W h => faults_s ao c l W hC.b (hr.below h (Nat.le_refl _))⟩
  have H2 : Hid (∀ W, Below w.heap.size w W → _) := ⟨fun W h => turned_any ao c l W (by omega) (hr.below h (Nat.le_refl _))⟩
  have H3 : Hid (∀ va vc W, Fls W va l.reverse → Calls Try.prog 13 #[.slice va l.length vc] W fun e w' => ∃ va vc, e = .returned (.slice va (FaultsA l.reverse).length vc) ∧ (checkL l.reverse = 0 → RowsL l.reverse) ∧ Fts w' va (FaultsA l.reverse) ∧ Below W.heap.size W w') := ⟨fun va vc W h => by have := faults_s va vc l.reverse W hCr.b h; rwa [List.length_reverse] at this⟩
  have H4 : Hid (∀ W, Below w.heap.size w W → _) := ⟨fun W h => pcheck_any ao c l W hC.b (hr.below h (Nat.le_refl _))⟩
  have H5 : Hid (∀ W, Below w.heap.size w W → _) := ⟨fun W h => all_s ao c l W hC.b (hr.below h (Nat.le_refl _))⟩
  have H6 : Hid (∀ va vc W, Fls W va l.reverse → Calls Try.prog 16 #[.slice va l.length vc] W fun e w' => ∃ va vc, e = .returned (.tuple #[.slice va (AllT l.reverse).length vc, (AllF l.reverse).val]) ∧ (checkL l.reverse = 0 → RowsL l.reverse) ∧ Ents w' va (AllT l.reverse) ∧ Below W.heap.size W w') := ⟨fun va vc W h => by have := all_s va vc l.reverse W hCr.b h; rwa [List.length_reverse] at this⟩
  have HN : Hid (∀ x W, _) := ⟨num18_any⟩
  have HV : Hid (∀ W, _) := ⟨live18_any⟩
  have HREV : Hid (checkL l = 0 → RowsL l → RowsL l.reverse → _) := ⟨fun hc R R' => all_rev R R' hoc hc⟩
  have HCR : Hid _ := ⟨check_rev l⟩
  have HZ : Hid (checkL l ≠ 0 → FaultsA l = [] ∧ FaultsA l.reverse = []) := ⟨fun h => by
    have h' : checkL l.reverse ≠ 0 := fun e => h ((check_rev l).1 e)
    unfold FaultsA
    rw [if_neg (by simp [h]), if_neg (by simp [h'])]
    exact ⟨rfl, rfl⟩⟩
  have HL1 : Hid ((checkL l = 0 → RowsL l) → (FaultsA l).length ≤ 16777216 ∧ (AllT l).length ≤ 2097152) := ⟨fun h => ⟨faultsA_len h, allT_len h⟩⟩
  have HF : Hid (Below w.heap.size w w) := ⟨Below.refl _ _⟩
  clear hr hC hCr
  generalize FaultsA l = F at *
  generalize FaultsA l.reverse = F' at *
  generalize AllT l = T at *
  generalize AllT l.reverse = T' at *
  generalize AllF l = X at *
  generalize AllF l.reverse = X' at *
  generalize hE : checkL l = E at *
  generalize hE' : checkL l.reverse = E' at *
  clear hE hE'
  go_enter Try.func4, Try.ntmps4
  go_upto_region 2 with (go_at_call 13; (with_reducible refine (H1.out _ HF.out).mono ?_); rintro e w1 ⟨va, vca, rfl, hR, hf1, hb1⟩)
  have HR1 : Hid _ := ⟨hR⟩
  have HFT : Hid _ := ⟨hf1⟩
  have HB1 : Hid (Below w.heap.size w w1) := ⟨hb1⟩
  clear hR hf1 hb1
  go_upto_region 3 with (first
    | (go_at_call 14; (with_reducible refine (H2.out _ HB1.out).mono ?_); rintro e w2 ⟨ra, rc, rfl, hfl2, hb2⟩)
    | (go_at_call 13; (with_reducible refine (H3.out _ _ _ hfl2).mono ?_); rintro e w3 ⟨vb, vcb, rfl, hR3, hf3, hb3⟩))
  have HB2 : Hid (Below w.heap.size w w2) := ⟨HB1.out.trans (hb2.mono HB1.out.size)⟩
  have HB3 : Hid (Below w.heap.size w w3) := ⟨HB2.out.trans (hb3.mono HB2.out.size)⟩
  have HFT3 : Hid (Fts w3 va F) := ⟨(HFT.out.below hb2 (Nat.le_refl _)).below hb3 (Nat.le_refl _)⟩
  have HFU3 : Hid _ := ⟨hf3⟩
  have HR3 : Hid _ := ⟨hR3⟩
  clear hfl2 hb2 hb3 hf3 hR3 HFT
  by_cases hE0 : E = 0
  · subst hE0
    obtain ⟨hF1, hX1, hT1, hrel1⟩ := HREV.out rfl (HR1.out rfl) (HR3.out (HCR.out.2 rfl))
    obtain ⟨hFl, hTl⟩ := HL1.out HR1.out
    have HREL : Hid _ := ⟨hrel1⟩
    clear hrel1 HREV HCR HZ HL1 HR1 HR3
    have hF2 := hF1.symm
    have hX2 := hX1.symm
    clear hF1 hX1
    subst hF2 hX2
    go_upto_region 5 with (first
      | (go_at_call 15; (with_reducible refine (H4.out _ HB3.out).mono ?_); rintro e w4 ⟨rfl, hb4⟩)
      | (go_at_call 11; (with_reducible refine (HN.out _ _).mono ?_); rintro e w' ⟨rfl, hw'⟩; subst w'))
    have HB4 : Hid (Below w.heap.size w w4) := ⟨HB3.out.trans (hb4.mono HB3.out.size)⟩
    have HFT4 : Hid _ := ⟨HFT3.out.below hb4 (Nat.le_refl _)⟩
    have HFU4 : Hid _ := ⟨HFU3.out.below hb4 (Nat.le_refl _)⟩
    clear hb4 HFT3 HFU3
    go_upto_region 8 with (fail)
    go_loopw [5] (fun i wr => ∃ k : Nat, k ≤ F.length ∧ i = .int .i64 k ∧ Hid (Below w4.heap.size w4 wr)) (fun i _ => F.length - (intOf i).toNat)
    case atStart => exact ⟨0, by omega, rfl, ⟨Below.refl _ _⟩⟩
    case round =>
      obtain ⟨k, hk, rfl, HW⟩ := hrel
      by_cases hlt : k < F.length
      · obtain ⟨b, off, rfl, hat⟩ : ∃ b off, va = some ⟨b, off, none⟩ ∧ ∀ i, i < F.length → FtAt wr b (off + i * 2) (F.getD i Ft.zero) := by
          rcases HFT4.out.below HW.out (Nat.le_refl _) with h | h
          · rw [h] at hlt; simp at hlt
          · exact h
        obtain ⟨b', off', rfl, hat'⟩ : ∃ b off, vb = some ⟨b, off, none⟩ ∧ ∀ i, i < F.length → FtAt wr b (off + i * 2) (F.getD i Ft.zero) := by
          rcases HFU4.out.below HW.out (Nat.le_refl _) with h | h
          · rw [h] at hlt; simp at hlt
          · exact h
        obtain ⟨c0, c1⟩ := hat k hlt
        obtain ⟨d0, d1⟩ := hat' k hlt
        clear hat hat'
        generalize F.getD k Ft.zero = p at *
        obtain ⟨fe, fn⟩ := p
        dsimp only at c0 c1 d0 d1
        have hlti : (k : Int) < (F.length : Int) := by omega
        have s0 : (fn.toList == fn.toList) = true := by simp
        go_upto_region 10 with (fail)
        go_quiet (fail)
        go_wp2
        go_roundw
        case rel => exact ⟨k + 1, hlt, by go_num, ⟨bdN HW.out _⟩⟩
        case measure => simp [intOf]; omega
      · obtain rfl : k = F.length := by omega
        have HB5 : Hid (Below w.heap.size w wr) := ⟨HB4.out.trans (HW.out.mono HB4.out.size)⟩
        clear HW HFT4 HFU4
        obtain ⟨xe, xn⟩ := X
        dsimp only [Ft.val] at *
        go_upto_region 13 with (go_at_call 16; (with_reducible refine (H5.out _ HB5.out).mono ?_); rintro e w5 ⟨ta, tc, rfl, _, he5, hb5⟩)
        have K5 := Bk.new w5 #[.int .i64 xe, .string xn] 45
        have HB6 : Hid (Below w.heap.size w (w5.alloc (.cells #[.int .i64 xe, .string xn] 45))) := ⟨(HB5.out.trans (hb5.mono HB5.out.size)).alloc (by have := HB5.out.size; have := hb5.size; omega) _⟩
        have HE6 : Hid (Ents (w5.alloc (.cells #[.int .i64 xe, .string xn] 45)) ta T) := ⟨he5.below ((Below.refl _ _).alloc (Nat.le_refl _) _) (Nat.le_refl _)⟩
        obtain ⟨P, hP⟩ : ∃ P, w5.heap.size = P := ⟨_, rfl⟩
        rw [hP] at K5 ⊢
        have HK6 : Hid _ := ⟨K5⟩
        clear K5 he5 hb5 hP
        generalize w5.alloc (.cells #[.int .i64 xe, .string xn] 45) = w6 at *
        go_upto_region 14 with (first
          | (go_at_call 14; (with_reducible refine (H2.out _ HB6.out).mono ?_); rintro e w7 ⟨ra7, rc7, rfl, hfl7, hb7⟩)
          | (go_at_call 16; (with_reducible refine (H6.out _ _ _ hfl7).mono ?_); rintro e w8 ⟨ua, uc, rfl, _, he8, hb8⟩))
        have HB8 : Hid (Below w.heap.size w w8) := ⟨(HB6.out.trans (hb7.mono HB6.out.size)).trans (hb8.mono (by have := HB6.out.size; have := hb7.size; omega))⟩
        have K9 := Bk.new w8 #[.int .i64 xe, .string xn] 45
        have HB9 : Hid (Below w.heap.size w (w8.alloc (.cells #[.int .i64 xe, .string xn] 45))) := ⟨HB8.out.alloc HB8.out.size _⟩
        have HE9 : Hid (Ents (w8.alloc (.cells #[.int .i64 xe, .string xn] 45)) ta T) := ⟨((HE6.out.below hb7 (Nat.le_refl _)).below hb8 (Nat.le_refl _)).below ((Below.refl _ _).alloc (Nat.le_refl _) _) (Nat.le_refl _)⟩
        have HU9 : Hid (Ents (w8.alloc (.cells #[.int .i64 xe, .string xn] 45)) ua T') := ⟨he8.below ((Below.refl _ _).alloc (Nat.le_refl _) _) (Nat.le_refl _)⟩
        have HP9 : Hid _ := ⟨((HK6.out.bel hb7 HK6.out.lt).bel hb8 (HK6.out.bel hb7 HK6.out.lt).lt).alloc (.cells #[.int .i64 xe, .string xn] 45)⟩
        obtain ⟨Q, hQ⟩ : ∃ Q, w8.heap.size = Q := ⟨_, rfl⟩
        rw [hQ] at K9 ⊢
        have HQ9 : Hid _ := ⟨K9⟩
        clear K9 hfl7 he8 hb7 hb8 hQ HB8 HE6 HK6
        generalize w8.alloc (.cells #[.int .i64 xe, .string xn] 45) = w9 at *
        have p0 : w9.cell? ⟨P, 0, none⟩ = some (.int .i64 xe) := HP9.out.cell 0 rfl
        have q0 : w9.cell? ⟨Q, 0, none⟩ = some (.int .i64 xe) := HQ9.out.cell 0 rfl
        try rw [hT1]
        go_quiet ((go_at_call 11; exact Calls.quiet_of_same (num18_any _ _)))
        go_upto_region 17 with (fail)
        clear HP9 HQ9 p0 q0 H1 H2 H3 H4 H5 H6
        go_loopw [10] (fun i wr => ∃ k : Nat, k ≤ T.length ∧ i = .int .i64 k ∧ Hid (Below w9.heap.size w9 wr)) (fun i _ => T.length - (intOf i).toNat)
        case atStart => exact ⟨0, by omega, rfl, ⟨bdN (Below.refl _ _) _⟩⟩
        case round =>

          obtain ⟨k, hk, rfl, HW⟩ := hrel
          by_cases hlt : k < T.length
          · obtain ⟨b, off, rfl, hat⟩ : ∃ b off, ta = some ⟨b, off, none⟩ ∧ ∀ i, i < T.length → EntAt wr b (off + i * 5) (T.getD i En.zero) := by
              rcases HE9.out.below HW.out (Nat.le_refl _) with h | h
              · rw [h] at hlt; simp at hlt
              · exact h
            obtain ⟨b', off', rfl, hat'⟩ : ∃ b off, ua = some ⟨b, off, none⟩ ∧ ∀ i, i < T.length → EntAt wr b (off + i * 5) (T'.getD i En.zero) := by
              rcases HU9.out.below HW.out (Nat.le_refl _) with h | h
              · rw [← hT1, h] at hlt; simp at hlt
              · rw [hT1] at h; exact h
            obtain ⟨c0, c1, c2, c3, c4⟩ := hat k hlt
            obtain ⟨d0, d1, d2, d3, d4⟩ := hat' k hlt
            obtain ⟨r1, r2, r3⟩ := HREL.out k hlt
            clear hat hat'
            generalize T.getD k En.zero = p at *
            generalize T'.getD k En.zero = q at *
            obtain ⟨nm, x1, x2, x3, x4⟩ := p
            obtain ⟨nm', y1, y2, y3, y4⟩ := q
            dsimp only at c0 c1 c2 c3 c4 d0 d1 d2 d3 d4 r1 r2 r3
            subst r1 r2
            have hlti : (k : Int) < (T.length : Int) := by omega
            have s0 : (nm'.toList == nm'.toList) = true := by simp
            have e1 : wrap64 ((l.length : Int) - 1) = (l.length : Int) - 1 := by unfold wrap64; omega
            go_upto_region 19 with (fail)
            by_cases hx : y3 = 1
            · subst hx
              obtain ⟨r4, r5, r6, r7⟩ := r3 rfl
              subst r4 r5
              have e2 : wrap64 ((l.length : Int) - 1 - ((l.length : Int) - 1 - x1)) = x1 := by unfold wrap64; omega
              have e3 : wrap64 x1 = x1 := by unfold wrap64; omega
              have E1 : IntKind.i64.wrap ((l.length : Int) - 1) = (l.length : Int) - 1 := by rw [IntKind.wrap_i64]; omega
              have E2 : IntKind.i64.wrap ((l.length : Int) - 1 - ((l.length : Int) - 1 - x1)) = x1 := by rw [IntKind.wrap_i64]; omega
              have E3 : IntKind.i64.wrap x1 = x1 := by rw [IntKind.wrap_i64]; omega
              go_quiet (fail)
              go_wp2
              go_roundw
              case rel => exact ⟨k + 1, hlt, by go_num, ⟨bdN HW.out _⟩⟩
              case measure => simp [intOf]; omega
            · have hd : decide (y3 = 1) = false := by simpa using hx
              have hd2 : (y3 == 1) = false := by simpa using hx
              clear r3
              go_quiet (fail)
              go_wp2
              go_roundw
              case rel => exact ⟨k + 1, hlt, by go_num, ⟨bdN HW.out _⟩⟩
              case measure => simp [intOf]; omega
          · obtain rfl : k = T.length := by omega
            have HBW : Hid (Below w.heap.size w wr) := ⟨HB9.out.trans (HW.out.mono HB9.out.size)⟩
            go_wp2_with (go_at_call 12; (with_reducible refine (HV.out _).mono ?_); rintro e wz ⟨rfl, hbz⟩)
            go_ret
            exact ⟨rfl, HBW.out.trans (hbz.mono HBW.out.size)⟩
  · obtain ⟨rfl, rfl⟩ := HZ.out hE0
    clear HREV HCR HZ HL1
    go_wp2_with (first
      | (go_at_call 15; (with_reducible refine (H4.out _ HB3.out).mono ?_); rintro e w4 ⟨rfl, hb4⟩)
      | (go_at_call 11; (with_reducible refine (HN.out _ _).mono ?_); rintro e w' ⟨rfl, hw'⟩; subst w')
      | (go_at_call 12; (with_reducible refine (HV.out _).mono ?_); rintro e w5 ⟨rfl, hb5⟩))
    go_ret
    exact ⟨rfl, (HB3.out.trans (hb4.mono HB3.out.size)).trans (hb5.mono (by have := HB3.out.size; have := hb4.size; omega))⟩
end Go.Proofs.Ytgoaegembijdcaa
