/- The program's texts: two digits, escapes, bytes. -/
import Derived.Test.YthdkbjifjmhgoaaDoorQxT5
namespace Go.Proofs.YthdkbjifjmhgoaaDoor
open Go.ChangeShapes Go.WideShapes Go.ChangeAt Go.RowKit
set_option linter.unusedVariables false
set_option linter.unusedSimpArgs false
section
variable {w w1 w2 : World} {rb : Nat} {s : ByteArray} {a : Nat} {ln : Int} {lv : Value}

/-- The first k bytes are digits of 16. -/
def HexTo (l : List UInt8) (k : Nat) : Prop := k ≤ l.length ∧ ∀ c ∈ l.take k, 0 ≤ hexZ (zOf c)
theorem hex_zero (l : List UInt8) : HexTo l 0 := ⟨Nat.zero_le _, fun c hc => by rw [List.take_zero] at hc; cases hc⟩
theorem byt_no {M : Option (UInt8 × Nat)} (h : M = none) {w w' : World} {x : Int} {a' : Nat} (R : RD w' rb s a' ln lv) (T : TR rb w w') : BytE M rb s a ln lv w (.returned (.tuple #[.int .u8 x, .bool false])) w' := by subst h; exact ⟨x, a', rfl, R, T⟩
theorem byt_yes {M : Option (UInt8 × Nat)} {p : UInt8 × Nat} (h : M = some p) {w w' : World} {x : Int} (hx : x = zOf p.1) {a' : Nat} (ha : a' = a + p.2) (R : RD w' rb s a' ln lv) (T : TR rb w w') : BytE M rb s a ln lv w (.returned (.tuple #[.int .u8 x, .bool true])) w' := by subst h; subst hx; subst ha; exact ⟨rfl, R, T⟩
theorem hex_no {l : List UInt8} {k : Nat} (h : HexTo l k) (hk : k < 2) (hb : kB 8 (hdZ (l.drop k)) = false) : twoM l = none := by
  match l, k, hk with
  | [], _, _ => rfl
  | [c], _, _ => rfl
  | c :: d :: r, 0, _ =>
    have h1 : kB 8 (zOf c) = false := hb
    rw [kB_hex] at h1
    have := of_decide_eq_false h1
    show (if _ ∧ _ then _ else none) = none
    rw [if_neg (fun g => this g.1)]
  | c :: d :: r, 1, _ =>
    have h1 : kB 8 (zOf d) = false := hb
    rw [kB_hex] at h1
    have := of_decide_eq_false h1
    show (if _ ∧ _ then _ else none) = none
    rw [if_neg (fun g => this g.2)]
theorem hex_step {l : List UInt8} {k : Nat} (h : HexTo l k) (hb : kB 8 (hdZ (l.drop k)) = true) : HexTo l (k + 1) := by
  cases hd : l.drop k with
  | nil => rw [hd, show hdZ [] = 10 from rfl, kB_lf 8 (by omega)] at hb; cases hb
  | cons c r =>
    have hkl : k < l.length := by
      apply Classical.byContradiction
      intro hn
      rw [List.drop_of_length_le (by omega)] at hd
      cases hd
    have hc : l[k] = c := by
      rw [List.drop_eq_getElem_cons hkl] at hd
      exact (List.cons.inj hd).1
    rw [hd] at hb
    have h1 : kB 8 (zOf c) = true := hb
    rw [kB_hex] at h1
    refine ⟨by omega, fun x hx => ?_⟩
    rw [List.take_succ_eq_append_getElem hkl] at hx
    rcases List.mem_append.1 hx with hx | hx
    · exact h.2 x hx
    · rw [List.mem_singleton.1 hx, hc]; exact of_decide_eq_true h1
theorem two_yes {l : List UInt8} (h : HexTo l 2) : ∃ c d r, l = c :: d :: r ∧ 0 ≤ hexZ (zOf c) ∧ 0 ≤ hexZ (zOf d) ∧ twoM l = some (UInt8.ofNat (16 * hexZ (zOf c) + hexZ (zOf d)).toNat, 2) := by
  match l, h with
  | [], h => have := h.1; simp at this
  | [c], h => have := h.1; simp at this
  | c :: d :: r, h =>
    have hc := h.2 c (by simp)
    have hd := h.2 d (by simp)
    refine ⟨c, d, r, rfl, hc, hd, ?_⟩
    show (if _ ∧ _ then _ else none) = _
    rw [if_pos ⟨hc, hd⟩]
theorem nil_nil (W : World) : (binOp .eql 91 .nilIface .nilIface).run Tryd.prog W = .ok (.bool true) W := by kernel_rfl

set_option maxHeartbeats 4000000 in
set_option maxRecDepth 10000 in
theorem twoDigits_any (h : RD w rb s a ln lv) (hl : s.size ≤ 8796093022208) (ha : a ≤ s.size) : Calls Tryd.prog 99 #[.pointer (some ⟨rb, 0, none⟩)] w fun e w' => BytE (twoM (Ln s a)) rb s a ln lv w e w' := by
  have HR : Hid _ := ⟨h⟩
  have c1 := h.c1
  obtain ⟨M, hM0⟩ : ∃ M, twoM (Ln s a) = M := ⟨_, rfl⟩
  rw [hM0]
  have HM0 : Hid _ := ⟨hM0⟩
  clear h hM0
  go_enter Tryd.func99, Tryd.ntmps99
  go_wp2
  clear c1
  go_loopw [12] (fun i wr => ∃ k : Nat, i = .int .i64 k ∧ k ≤ 2 ∧ Hid (RD wr rb s (a + k) ln lv ∧ TR rb w wr ∧ HexTo (Ln s a) k)) (fun i _ => 2 - (intOf i).toNat)
  case atStart => exact ⟨0, rfl, by omega, ⟨HR.out, TR.self _ _, hex_zero _⟩⟩
  case round =>
    obtain ⟨k, rfl, hk, HW⟩ := hrel
    obtain ⟨R1, T1, H1⟩ := HW.out
    have hak := Ln_top s k a H1.1 ha
    by_cases hk2 : k < 2
    · have hk2i : (k : Int) < 2 := by omega
      have hzb := hd_byte ((Ln s a).drop k)
      obtain ⟨z, hz⟩ : ∃ z, hdZ ((Ln s a).drop k) = z := ⟨_, rfl⟩
      have HN : Hid _ := ⟨next_t R1.drew hl hak (z := z) (by rw [Ln_drop s k a H1.1]; exact hz)⟩
      have HH : Hid (∀ W, RD W rb s (a + k + 1) ln lv → Calls Tryd.prog 64 #[.pointer (some ⟨rb, 2, none⟩), .int .u8 z, .int .u8 8] W fun e w' => e = .returned (.bool (kB 8 z)) ∧ w' = W) := ⟨fun W hW => has_t hW 8 8 z rfl (by omega) (by omega) rfl⟩
      cases hb : kB 8 z
      · rw [hb] at HH
        have HM : Hid (M = none) := ⟨by rw [← HM0.out]; exact hex_no H1 hk2 (by rw [hz]; exact hb)⟩
        have HT1 : Hid _ := ⟨T1⟩
        clear R1 T1 H1 HW hz hzb hb
        go_wp2
        go_region_held3 (fun v' => True) (trivial)
          ((first
            | (go_at_call 68; (with_reducible refine HN.out.mono ?_); rintro e u ⟨rfl, Ru, Tu⟩; have HRu : Hid _ := ⟨Ru⟩; have HTu : Hid _ := ⟨Tu⟩; clear Ru Tu)
            | (go_at_call 64; (with_reducible refine (HH.out _ HRu.out).mono ?_); rintro e w' ⟨rfl, hw'⟩; subst w')))
        go_wp2
        go_ret2
        exact byt_no HM.out HRu.out ((HT1.out.trans (Turn.of_below (Below.refl _ _).drew _)).trans HTu.out)
      · rw [hb] at HH
        have H2 := hex_step H1 (by rw [hz]; exact hb)
        have HH2 : Hid _ := ⟨H2⟩
        have HT1 : Hid _ := ⟨T1⟩
        clear R1 T1 H1 H2 HW hz hzb hb
        go_wp2
        go_region_held3 (fun v' => True) (trivial)
          ((first
            | (go_at_call 68; (with_reducible refine HN.out.mono ?_); rintro e u ⟨rfl, Ru, Tu⟩; have HRu : Hid _ := ⟨Ru⟩; have HTu : Hid _ := ⟨Tu⟩; clear Ru Tu)
            | (go_at_call 64; (with_reducible refine (HH.out _ HRu.out).mono ?_); rintro e w' ⟨rfl, hw'⟩; subst w')))
        go_wp2
        go_roundw
        case rel => exact ⟨k + 1, by go_num, by omega, ⟨HRu.out, (HT1.out.trans (Turn.of_below (Below.refl _ _).drew _)).trans HTu.out, HH2.out⟩⟩
        case measure => simp [intOf]; omega
    · obtain rfl : k = 2 := by omega
      obtain ⟨c, d, r, hL, hc, hd, hM⟩ := two_yes H1
      have hlc := hex_lt (zOf c)
      have hld := hex_lt (zOf d)
      have hsub := Ln_sub (s := s) (a := a) (n := 2) H1.1
      have HM : Hid (M = _) := ⟨HM0.out.symm.trans hM⟩
      rw [hL] at hsub
      have HS : Hid (∀ W, RD W rb s (a + 2) ln lv → Calls Tryd.prog 65 #[.pointer (some ⟨rb, 0, none⟩), .int .i64 a] W fun e w' => e = .returned (.string (St [c, d])) ∧ RD w' rb s (a + 2) ln lv ∧ TR rb W w') := ⟨fun W hW => by
        have := since_t hW a (by omega) hak hl
        rw [hsub] at this
        exact this⟩
      have hp : puF 16 1152921504606846976 255 [c, d] 0 = some (16 * hexZ (zOf c) + hexZ (zOf d)) := by
        show (if (1152921504606846976 : Int) ≤ 0 then none else if (255 : Int) < 0 * 16 + hexZ (zOf c) then none else if (1152921504606846976 : Int) ≤ 0 * 16 + hexZ (zOf c) then none else if (255 : Int) < (0 * 16 + hexZ (zOf c)) * 16 + hexZ (zOf d) then none else some ((0 * 16 + hexZ (zOf c)) * 16 + hexZ (zOf d))) = _
        rw [if_neg (by omega), if_neg (by omega), if_neg (by omega), if_neg (by omega)]
        congr 1
        omega
      have HP : Hid (∀ W, RD W rb s (a + 2) ln lv → Calls Tryd.prog 66 #[.string (St [c, d]), .int .i64 16, .int .i64 8] W fun e w' => e = .returned (.tuple #[.int .u64 (16 * hexZ (zOf c) + hexZ (zOf d)), .nilIface]) ∧ RD w' rb s (a + 2) ln lv ∧ TR rb W w') := ⟨fun W hW => by
        have := pu_16_8 (St [c, d]) (by rw [St_size]; simp) (fun x hx => by rw [lo_St] at hx; simp at hx; rcases hx with rfl | rfl <;> exact ⟨by assumption, hex_lt _⟩) W hW.er
        rw [lo_St, if_neg (by simp), hp] at this
        refine this.mono ?_
        rintro e w' ⟨h1, h2⟩
        exact ⟨h1, hW.below h2, Turn.of_below h2 _⟩⟩
      have HZ : Hid (zOf (UInt8.ofNat (16 * hexZ (zOf c) + hexZ (zOf d)).toNat) = 16 * hexZ (zOf c) + hexZ (zOf d)) := ⟨by
        show ((UInt8.ofNat (16 * hexZ (zOf c) + hexZ (zOf d)).toNat).toNat : Int) = _
        rw [UInt8.toNat_ofNat']
        omega⟩
      obtain ⟨v, hv⟩ : ∃ v, 16 * hexZ (zOf c) + hexZ (zOf d) = v := ⟨_, rfl⟩
      rw [hv] at HZ HP HM
      have v0 : 0 ≤ v := by omega
      have v1 : v ≤ 255 := by omega
      have hcv : ∀ W, (convert 76 5 (.int .u64 v)).run Tryd.prog W = .ok (.int .u8 v) W := fun W => by
        have : IntKind.u8.wrap v = v := by simp [IntKind.wrap, IntKind.bits, IntKind.signed]; omega
        simp [go_sem, this]
      have hnn := nil_nil
      have HR1 : Hid _ := ⟨R1⟩
      have HT1 : Hid _ := ⟨T1⟩
      clear R1 T1 H1 HW hsub hL hM hp hv hc hd hlc hld
      go_wp2_with (first
        | (go_at_call 65; (with_reducible refine (HS.out _ HR1.out).mono ?_); rintro e w1 ⟨rfl, R2, T2⟩; have HR2 : Hid _ := ⟨R2⟩; have HT2 : Hid _ := ⟨HT1.out.trans T2⟩; clear R2 T2)
        | (go_at_call 66; (with_reducible refine (HP.out _ HR2.out).mono ?_); rintro e w2 ⟨rfl, R3, T3⟩; have HR3 : Hid _ := ⟨R3⟩; have HT3 : Hid _ := ⟨HT2.out.trans T3⟩; clear R3 T3))
      go_quiet (fail)
      go_wp2
      go_ret2
      exact byt_yes HM.out HZ.out.symm rfl (HR3.out.drewN _) (HT3.out.drewN _)
end
end Go.Proofs.YthdkbjifjmhgoaaDoor
