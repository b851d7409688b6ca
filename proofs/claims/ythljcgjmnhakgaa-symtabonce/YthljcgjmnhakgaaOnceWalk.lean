/- The walk of SymtabOnce. -/
import Derived.Test.YthljcgjmnhakgaaSOnceP
import Derived.Test.YthljcgjmnhakgaaSLaw
import Derived.Deep.QuietTactic
import Derived.BigQuiet
namespace Go.Proofs.Ythljcgjmnhakgaa
open Go.ChangeShapes Go.WideShapes Go.ChangeAt Go.RowKit
set_option linter.unusedVariables false
set_option linter.unusedSimpArgs false

theorem symtabOnce_bad (ao : Option Addr) (c : Nat) (l : List ByteArray) (w : World) (hI : IsStrs w ao c l) (hl : l.length ≤ 8796093022208) (x : Int) (hm : strM l = .error x) :
    Calls Try.prog 4 #[.slice ao l.length c] w fun e w' => e = .returned (.bool true) ∧ Below w.heap.size w w' := by
  have C := strings_any ao c l w (by omega) hI.strs
  have hx := strM_bad hm
  rw [hm] at C
  have HC : Hid _ := ⟨C⟩
  clear C hI hm
  go_enter Try.func4, Try.ntmps4
  go_wp2_with (first
    | (go_at_call 6; refine HC.out.mono ?_; rintro e w1 ⟨rfl, hb⟩)
    | (go_at_call 11; refine (num_any _ _).mono ?_; rintro e w2 ⟨rfl, hw2⟩; subst w2)
    | (go_at_call 17; refine (live_any _).mono ?_; rintro e w2 ⟨rfl, hb2⟩))
  go_ret
  exact ⟨rfl, hb.trans (hb2.mono hb.size)⟩

set_option maxHeartbeats 4000000 in
set_option maxRecDepth 10000 in
theorem symtabOnce_ok (ao : Option Addr) (c : Nat) (l : List ByteArray) (w : World) (hI : IsStrs w ao c l) (hl : l.length ≤ 8796093022208) (b A : List Int) (hm : strM l = .ok (b, A)) :
    Calls Try.prog 4 #[.slice ao l.length c] w fun e w' => e = .returned (.bool true) ∧ Below w.heap.size w w' := by
  have C := strings_any ao c l w (by omega) hI.strs
  obtain ⟨hz, hlong, T, hT, g, hmax⟩ := strM_ok hm
  subst hT
  rw [hm] at C
  have hA := g.len
  have hS := g.sum
  rw [hS] at hmax
  have C' : Calls Try.prog 6 #[.slice ao l.length c] w fun e w' => ∃ gb capb a2 c2, e = .returned (.tuple #[.slice (some ⟨gb, 0, none⟩) (szN l l.length) capb, .slice a2 l.length c2, .int .i64 0]) ∧ szN l l.length ≤ capb ∧ capb ≤ 9223372036854775807 ∧
      Hid (∀ i, i < szN l l.length → w'.cell? ⟨gb, 0 + i, none⟩ = some (.int .u8 (gd T.b i))) ∧ Hid (∀ i, i < l.length → ∃ g, a2 = some ⟨g, 0, none⟩ ∧ ∀ i, i < l.length → w'.cell? ⟨g, i, none⟩ = some (.int .i64 (A.getD i 0))) ∧ Below w.heap.size w w' := by
    refine C.mono ?_
    rintro e w' ⟨vb, va, rfl, o1, o2, hb⟩
    obtain ⟨gb, capb, rfl, hc1, hc2, hrow⟩ := o1.row (by rw [hS]; exact szN_pos _ _)
    obtain ⟨a2, c2, rfl, hc⟩ := o2.any
    dsimp only at hc hrow hc1 ⊢
    rw [hA] at hc ⊢
    rw [hS] at hc1 hrow ⊢
    refine ⟨gb, capb, a2, c2, rfl, hc1, hc2, ⟨fun i hi => ?_⟩, ⟨hc⟩, hb⟩
    rcases hrow w' (Below.refl _ _) with h | ⟨b', off, e, h⟩
    · omega
    · cases e
      have := h i hi
      exact this
  have HC : Hid _ := ⟨C'⟩
  have HG : Hid (G l l.length T A) := ⟨g⟩
  have HI : Hid (Strs w ao l) := ⟨hI.strs⟩
  have HL : Hid (∀ s ∈ l, s.size ≤ 255) := ⟨hlong⟩
  clear C C' g hA hI hm hlong hz
  go_enter Try.func4, Try.ntmps4
  go_wp2_with (first
    | (go_at_call 6; refine HC.out.mono ?_; rintro e w1 ⟨gb, capb, a2, c2, rfl, hc1, hc2, HB, HA, hb⟩)
    | (go_at_call 11; refine (num_any _ _).mono ?_; rintro e w2 ⟨rfl, hw2⟩; subst w2))
  go_loopw [7, 6] (fun i z wr => ∃ k : Nat, k ≤ l.length ∧ i = .int .i64 k ∧ z = .int .i64 (szN l k) ∧ RW w w1 wr) (fun i z _ => l.length - (intOf i).toNat)
  case atStart => exact ⟨0, by omega, rfl, rfl, ⟨fun _ _ h => h, hb⟩⟩
  case round =>
    obtain ⟨k, hk, rfl, rfl, hrw⟩ := hrel
    by_cases hlt : k < l.length
    · obtain ⟨b0, off, rfl, hcell⟩ : ∃ b off, ao = some ⟨b, off, none⟩ ∧ ∀ i, i < l.length → w1.cell? ⟨b, off + i, none⟩ = some (.string (l.getD i ByteArray.empty)) := by
        rcases HI.out.below hb (Nat.le_refl _) with h | h
        · subst h; simp at hlt
        · exact h
      obtain ⟨g2, rfl, hac⟩ := HA.out k hlt
      have hcx := hrw.cell _ _ (hcell k hlt)
      have hax := hrw.cell _ _ (hac k hlt)
      obtain ⟨n, hn, hta, htx⟩ := HG.out.spell _ _ (HG.out.at' k hlt)
      have hsz : (l.getD k ByteArray.empty).size ≤ 255 := by
        have hg : l.getD k ByteArray.empty = l[k] := by simp [hlt]
        rw [hg]; exact HL.out _ (List.getElem_mem hlt)
      have hsum : szN l (k + 1) = szN l k + if fr l k then (l.getD k ByteArray.empty).size + 1 else 0 := rfl
      have hle : szN l k ≤ szN l l.length := by have := szN_le l k (l.length - k); rwa [Nat.add_sub_cancel' (by omega)] at this
      have hfr : fr l k = (!decide (l.getD k ByteArray.empty = ByteArray.empty) && !(l.take k).any fun t => decide (t = l.getD k ByteArray.empty)) := rfl
      have HEQ : Hid (∀ m, m < k → l.getD m ByteArray.empty = l.getD k ByteArray.empty → A.getD m 0 = A.getD k 0) := ⟨fun m hmk e => by
        have h1 := HG.out.at' m (by omega)
        have h2 := HG.out.at' k hlt
        rw [e, h2] at h1
        exact (Option.some.inj h1).symm⟩
      have D := at_at gb 0 (szN l l.length) capb n (n + (l.getD k ByteArray.empty).size) (gd T.b) wr (by omega) (fun i => getD_byte HG.out.byte i) hc1 hc2 (fun i hi => hrw.cell _ _ (HB.out i hi)) (by rw [← hS]; exact hta) (by omega)
      rw [htx] at D
      rw [hn] at hax
      have HN : Hid (A.getD k 0 = n) := ⟨hn⟩
      generalize hsv : l.getD k ByteArray.empty = s at *
      have HD : Hid _ := ⟨D⟩
      have HT : Hid (∀ m, m < k → (l.take (m + 1)).any (fun t => decide (t = s)) = ((l.take m).any (fun t => decide (t = s)) || decide (l.getD m ByteArray.empty = s))) := ⟨fun m hmk => by
        have hm : m < l.length := by omega
        have hg : l.getD m ByteArray.empty = l[m] := by simp [hm]
        rw [List.take_succ_eq_append_getElem hm, List.any_append, hg]
        simp⟩
      have HSUM : Hid _ := ⟨hsum⟩
      have HFR : Hid _ := ⟨hfr⟩
      have HCL : Hid _ := ⟨hcell⟩
      have HAC : Hid _ := ⟨hac⟩
      have HSV : Hid _ := ⟨hsv⟩
      have HRW : Hid _ := ⟨hrw⟩
      generalize hzk : szN l k = zk at *
      have hzb : zk ≤ 1048576 := by omega
      clear hsum hfr D hta htx hn hcell hac hsv hrw hzk hle
      go_wp2_with (first
        | (go_at_call 8; refine HD.out.mono ?_; rintro e w2 ⟨rfl, hw2⟩; subst w2)
        | (go_at_call 11; refine (num_any _ _).mono ?_; rintro e w2 ⟨rfl, hw2⟩; subst w2))
      have hemp : decide (s = ByteArray.empty) = s.toList.isEmpty := decide_eq_emptyBytes s
      have HE : Hid _ := ⟨hemp⟩
      clear hemp hcx hax
      generalize s.toList.isEmpty = e0 at *
      go_loopw [11, 10] (fun j f wq => ∃ (m : Nat) (q : Bool), m ≤ k ∧ j = .int .i64 m ∧ f = .bool q ∧ Hid (q = (!e0 && !(l.take m).any fun t => decide (t = s))) ∧ Hid (RW w w1 wq)) (fun j f _ => k - (intOf j).toNat)
      case atStart => exact ⟨0, !e0, by omega, rfl, rfl, ⟨by simp⟩, HRW⟩
      case round =>
        obtain ⟨m, q, hmk, rfl, rfl, HQ, HRQ⟩ := hrel
        by_cases hmt : m < k
        · have hct := HRQ.out.cell _ _ (HCL.out m (by omega))
          have ham := HRQ.out.cell _ _ (HAC.out m (by omega))
          have hck := HRQ.out.cell _ _ (HCL.out k hlt)
          have hak := HRQ.out.cell _ _ (HAC.out k hlt)
          rw [HSV.out] at hck
          rw [HN.out] at hak
          have htk := HT.out m hmt
          have heq := HEQ.out m hmt
          have hbe := tl_beq (l.getD m ByteArray.empty) s
          generalize l.getD m ByteArray.empty = t at *
          have i1 : (0 : Int) ≤ (m : Int) := by omega
          have i2 : (m : Int) < (l.length : Int) := by omega
          have i3 : (0 : Int) ≤ (k : Int) := by omega
          have i4 : (k : Int) < (l.length : Int) := by omega
          by_cases hts : t = s
          · rw [heq hts, HN.out] at ham
            rw [decide_eq_true hts] at hbe htk
            have HTK : Hid _ := ⟨htk⟩
            have hnn : ((n : Int) == (n : Int)) = true := by simp
            subst hts
            clear heq htk
            go_wp2
            go_quiet (fail)
            go_wp2
            go_quiet (fail)
            go_wp2
            go_roundw
            case rel => exact ⟨m + 1, false, hmt, by go_num, rfl, ⟨by rw [HTK.out]; simp⟩, ⟨HRQ.out.drew _⟩⟩
            case measure => simp [intOf]; omega
          · rw [decide_eq_false hts] at hbe htk
            have HTK : Hid _ := ⟨htk⟩
            clear heq htk hts
            go_wp2
            go_quiet (fail)
            go_wp2
            go_roundw
            case rel => exact ⟨m + 1, q, hmt, by go_num, rfl, ⟨by rw [HTK.out, Bool.or_false]; exact HQ.out⟩, ⟨HRQ.out.drew _⟩⟩
            case measure => simp [intOf]; omega
        · obtain rfl : m = k := by omega
          have hck := HRQ.out.cell _ _ (HCL.out m hlt)
          rw [HSV.out] at hck
          have hq : q = fr l m := by rw [HQ.out, HFR.out, HE.out]
          clear hmk hmt hk hc1 hc2
          cases q
          · have HS : Hid (szN l (m + 1) = zk) := ⟨by rw [HSUM.out, ← hq]; simp⟩
            clear hq
            go_wp2
            go_roundw
            case rel => exact ⟨m + 1, hlt, by go_num, by rw [HS.out], HRQ.out⟩
            case measure => simp [intOf]; omega
          · have HS : Hid (szN l (m + 1) = zk + (s.size + 1)) := ⟨by rw [HSUM.out, ← hq]; simp⟩
            clear hq
            go_wp2
            go_roundw
            case rel => exact ⟨m + 1, hlt, by go_num, by rw [HS.out]; go_num, HRQ.out⟩
            case measure => simp [intOf]; omega
    · obtain rfl : k = l.length := by omega
      go_wp2_with (go_at_call 17; refine (live_any _).mono ?_; rintro e w2 ⟨rfl, hb2⟩)
      go_ret
      exact ⟨rfl, hrw.bel.trans (hb2.mono hrw.bel.size)⟩

theorem symtabOnce_walk (ao : Option Addr) (c : Nat) (l : List ByteArray) (w : World) (hI : IsStrs w ao c l) (hl : l.length ≤ 8796093022208) :
    Calls Try.prog 4 #[.slice ao l.length c] w fun e w' => e = .returned (.bool true) ∧ Below w.heap.size w w' := by
  cases hm : strM l with
  | error x => exact symtabOnce_bad ao c l w hI hl x hm
  | ok p => exact symtabOnce_ok ao c l w hI hl p.1 p.2 hm
end Go.Proofs.Ythljcgjmnhakgaa
