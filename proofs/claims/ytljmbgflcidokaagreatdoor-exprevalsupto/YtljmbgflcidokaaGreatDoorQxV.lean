/- Digits read by the library: the contracts of strconv.ParseUint, of digits that fit the base. Digits read by the library: its errors, and the outer call. -/
import Derived.Test.YtljmbgflcidokaaGreatDoorQxT2
import Derived.Lib.ConvBytes
import Derived.Lib.IfaceEq
namespace Go.Proofs.YtljmbgflcidokaaGreatDoor
open Go.ChangeShapes Go.WideShapes Go.ChangeAt Go.RowKit
set_option linter.unusedVariables false
set_option linter.unusedSimpArgs false

/-- Digits to a base, read on from n; none: it is above mx. -/
def puF (B cut mx : Int) : List UInt8 → Int → Option Int
  | [], n => some n
  | c :: r, n => if cut ≤ n then none else if mx < n * B + hexZ (zOf c) then none else puF B cut mx r (n * B + hexZ (zOf c))
/-- What the library's inner call answers. -/
def puV (mx : Int) (m : Option Int) : Value := match m with | some v => .tuple #[.int .u64 v, .nilIface] | none => .tuple #[.int .u64 mx, .iface 153 (.int .i64 1)]
theorem puV_no {mx : Int} {m : Option Int} (h : m = none) {w w' : World} (hb : Below w.heap.size w w') : Ending.returned (.tuple #[.int .u64 mx, .iface 153 (.int .i64 1)]) = .returned (puV mx m) ∧ Below w.heap.size w w' := by subst h; exact ⟨rfl, hb⟩
theorem puV_yes {mx v u : Int} {m : Option Int} (h : m = some v) (hu : u = v) {w w' : World} (hb : Below w.heap.size w w') : Ending.returned (.tuple #[.int .u64 u, .nilIface]) = .returned (puV mx m) ∧ Below w.heap.size w w' := by subst h; subst hu; exact ⟨rfl, hb⟩

theorem lower_any (z : Int) (w : World) : Calls Tryz.prog 122 #[.int .u8 z] w fun e w' => e = .returned (.int .u8 (bits .or .u8 z 32)) ∧ w' = w := by
  go_enter Tryz.func122, Tryz.ntmps122
  go_wp2
  go_ret
  exact ⟨rfl, rfl⟩

/-- A digit: of ten; or a letter, and what it is in small. -/
theorem dig_kinds (c : UInt8) (h : 0 ≤ hexZ (zOf c)) : (48 ≤ (c.toNat : Int) ∧ (c.toNat : Int) ≤ 57 ∧ hexZ (zOf c) = (c.toNat : Int) - 48) ∨ (¬ ((48 : Int) ≤ c.toNat ∧ (c.toNat : Int) ≤ 57) ∧ ¬ ((c.toNat : Int) = 95) ∧ 48 ≤ (c.toNat : Int) ∧ bits .or .u8 (c.toNat : Int) 32 = hexZ (zOf c) + 87 ∧ 10 ≤ hexZ (zOf c) ∧ hexZ (zOf c) < 16) := by
  have : ∀ n : Fin 256, 0 ≤ hexZ ((n.val : Nat) : Int) → (48 ≤ ((n.val : Nat) : Int) ∧ ((n.val : Nat) : Int) ≤ 57 ∧ hexZ ((n.val : Nat) : Int) = ((n.val : Nat) : Int) - 48) ∨ (¬ ((48 : Int) ≤ ((n.val : Nat) : Int) ∧ ((n.val : Nat) : Int) ≤ 57) ∧ ¬ (((n.val : Nat) : Int) = 95) ∧ 48 ≤ ((n.val : Nat) : Int) ∧ bits .or .u8 ((n.val : Nat) : Int) 32 = hexZ ((n.val : Nat) : Int) + 87 ∧ 10 ≤ hexZ ((n.val : Nat) : Int) ∧ hexZ ((n.val : Nat) : Int) < 16) := by decide +kernel
  exact this ⟨c.toNat, c.toNat_lt⟩ h

theorem iface_eql (a b : Int) (W : World) : (binOp .eql 131 (.iface 153 (.int .i64 a)) (.iface 153 (.int .i64 b))).run Tryz.prog W = .ok (.bool (a == b)) W :=
  Lib.run_eql_iface_int W a b Tryz.underlying131 (by kernel_rfl) Tryz.underlying153

set_option maxHeartbeats 32000000 in
set_option maxRecDepth 100000 in
theorem ipu_10_64 (t : ByteArray) (hne : t.size ≠ 0) (hmax : t.size ≤ 8796093022208) (hd : ∀ c ∈ lo t, 0 ≤ hexZ (zOf c) ∧ hexZ (zOf c) < 10) (w : World) :
    Calls Tryz.prog 111 #[.string t, .int .i64 10, .int .i64 64] w fun e w' => e = .returned (puV 18446744073709551615 (puF 10 1844674407370955162 18446744073709551615 (lo t) 0)) ∧ Below w.heap.size w w' := by
  have hemp : t.toList.isEmpty = false := by
    rw [← decide_eq_emptyBytes]
    exact decide_eq_false (fun h => hne (by rw [h]; rfl))
  have hcv := Lib.run_convert_string_bytes (P := Tryz.prog) w 9 116 5 t (u := .string) Tryz.underlying9 Tryz.underlying116 Tryz.underlying5
  have hB : ∀ j, j < t.size → (Lib.bytesWorld w 5 t).cell? ⟨w.heap.size, j, none⟩ = some (.int .u8 (t.data.toList.getD j 0).toNat) := fun j hj => Lib.bytesWorld_cell w 5 t j hj
  have HBel : Hid (Below w.heap.size w (Lib.bytesWorld w 5 t)) := ⟨Lib.below_freeze ((Below.refl _ _).drew.alloc (Nat.le_refl _) _) (p := ⟨w.heap.size, _, none⟩) (Nat.le_refl _) _⟩
  obtain ⟨W1, hW1⟩ : ∃ W1, W1 = Lib.bytesWorld w 5 t := ⟨_, rfl⟩
  rw [← hW1] at hcv hB HBel
  clear hW1
  obtain ⟨bs, hL⟩ : ∃ bs, bs = lo t := ⟨_, rfl⟩
  have hLn : bs.length = t.size := by rw [hL, lo_len]
  have hB' : ∀ j, j < t.size → W1.cell? ⟨w.heap.size, j, none⟩ = some (.int .u8 (bs.getD j 0).toNat) := fun j hj => by rw [hL]; exact hB j hj
  rw [← hL] at hd ⊢
  obtain ⟨m, hm⟩ : ∃ m, puF 10 1844674407370955162 18446744073709551615 bs 0 = m := ⟨_, rfl⟩
  rw [hm]
  have HM0 : Hid (m = puF 10 1844674407370955162 18446744073709551615 (bs.drop 0) 0) := ⟨hm.symm⟩
  have HB : Hid _ := ⟨hB'⟩
  have HD : Hid _ := ⟨hd⟩
  have HL : Hid _ := ⟨hLn⟩
  clear hL hB hB' hd hm hLn
  have hmv : IntKind.u64.wrap (IntKind.u64.wrap 18446744073709551616 - 1) = 18446744073709551615 := by
    rw [IntKind.wrap_u64, IntKind.wrap_u64]
    decide
  go_enter Tryz.func111, Tryz.ntmps111
  go_wp2
  go_loop [12, 13, 101] (fun vu vn vi => ∃ (k : Nat) (a : Int), vu = .bool false ∧ vn = .int .u64 a ∧ vi = .int .i64 k ∧ k ≤ t.size ∧ Hid (0 ≤ a ∧ a < 18446744073709551616 ∧ m = puF 10 1844674407370955162 18446744073709551615 (bs.drop k) a))
    (fun _ _ vi => t.size - (intOf vi).toNat)
  case atStart => exact ⟨0, 0, rfl, rfl, rfl, by omega, ⟨by omega, by omega, HM0.out⟩⟩
  case round =>
    obtain ⟨k, a, rfl, rfl, rfl, hk, hh⟩ := hrel
    obtain ⟨a0, a1, hdec⟩ := hh.out
    clear hh HM0
    by_cases hkn : k < t.size
    · have hc := HB.out k hkn
      have hkl : k < bs.length := by rw [HL.out]; exact hkn
      have hdrop : bs.drop k = bs[k]'hkl :: bs.drop (k + 1) := List.drop_eq_getElem_cons hkl
      have hget : bs.getD k 0 = bs[k]'hkl := by simp [List.getD, List.getElem?_eq_getElem hkl]
      have hdc := HD.out (bs[k]'hkl) (List.getElem_mem hkl)
      rw [hdrop] at hdec
      rw [hget] at hc
      generalize bs[k]'hkl = c at hc hdec hdc
      have hc256 : c.toNat < 256 := c.toNat_lt
      have hst : puF 10 1844674407370955162 18446744073709551615 (c :: bs.drop (k + 1)) a = if (1844674407370955162 : Int) ≤ a then none else if (18446744073709551615 : Int) < a * 10 + hexZ (zOf c) then none else puF 10 1844674407370955162 18446744073709551615 (bs.drop (k + 1)) (a * 10 + hexZ (zOf c)) := rfl
      rw [hst] at hdec
      have kinds := dig_kinds c hdc.1
      generalize hexZ (zOf c) = d at *
      obtain ⟨d0, d1⟩ := hdc
      clear hdrop hget hkl hst
      rcases kinds with ⟨k1, k2, rfl⟩ | ⟨k1, k2, k3, k4, k5, k6⟩
      · by_cases hcut : (1844674407370955162 : Int) ≤ a
        · have HN : Hid (m = none) := ⟨by rw [hdec, if_pos hcut]⟩
          clear hdec
          go_wp2
          all_goals (go_ret2; exact puV_no HN.out HBel.out)
        · rw [if_neg hcut] at hdec
          have icut : a < 1844674407370955162 := by omega
          by_cases hov : (18446744073709551615 : Int) < a * 10 + ((c.toNat : Int) - 48)
          · have HN : Hid (m = none) := ⟨by rw [hdec, if_pos hov]⟩
            clear hdec hcut
            by_cases hwr0 : 18446744073709551616 ≤ a * 10 + ((c.toNat : Int) - 48)
            · have hwr : IntKind.u64.wrap (a * 10 + ((c.toNat : Int) - 48)) = a * 10 + ((c.toNat : Int) - 48) - 18446744073709551616 := by
                rw [IntKind.wrap_u64]
                omega
              go_wp2
              all_goals (go_ret2; exact puV_no HN.out HBel.out)
            · go_wp2
              all_goals (go_ret2; exact puV_no HN.out HBel.out)
          · have HN : Hid (m = puF 10 1844674407370955162 18446744073709551615 (bs.drop (k + 1)) (a * 10 + ((c.toNat : Int) - 48))) := ⟨by rw [hdec, if_neg hov]⟩
            have iov : a * 10 + ((c.toNat : Int) - 48) ≤ 18446744073709551615 := by omega
            clear hdec hcut hov
            go_wp2
            all_goals refine ⟨⟨k + 1, a * 10 + ((c.toNat : Int) - 48), rfl, (by first | rfl | (congr 1; omega)), (by first | rfl | (congr 1; omega)), by omega, ⟨by omega, by omega, HN.out⟩⟩, by simp [intOf]; omega⟩
      · have q95 : ((c.toNat : Int) == 95) = false := by simpa using k2
        have k57 : ¬ (c.toNat : Int) ≤ 57 := fun h => k1 ⟨k3, h⟩
        have HLo : Hid (∀ W, Calls Tryz.prog 122 #[.int .u8 (c.toNat : Int)] W fun e w' => e = .returned (.int .u8 (d + 87)) ∧ w' = W) := ⟨fun W => by rw [← k4]; exact lower_any _ W⟩
        obtain ⟨lw, hlw⟩ : ∃ lw, d + 87 = lw := ⟨_, rfl⟩
        rw [hlw] at HLo
        obtain rfl : d = lw - 97 + 10 := by omega
        have l1 : 97 ≤ lw := by omega
        have l2 : lw ≤ 102 := by omega
        clear k1 k2 k4 hlw
        by_cases hcut : (1844674407370955162 : Int) ≤ a
        · have HN : Hid (m = none) := ⟨by rw [hdec, if_pos hcut]⟩
          clear hdec
          go_wp2_with (go_at_call 122; (with_reducible refine (HLo.out _).mono ?_); rintro e w' ⟨rfl, hw'⟩; subst w')
          all_goals (go_ret2; exact puV_no HN.out HBel.out)
        · rw [if_neg hcut] at hdec
          have icut : a < 1844674407370955162 := by omega
          by_cases hov : (18446744073709551615 : Int) < a * 10 + (lw - 97 + 10)
          · have HN : Hid (m = none) := ⟨by rw [hdec, if_pos hov]⟩
            clear hdec hcut
            by_cases hwr0 : 18446744073709551616 ≤ a * 10 + (lw - 97 + 10)
            · have hwr : IntKind.u64.wrap (a * 10 + (lw - 97 + 10)) = a * 10 + (lw - 97 + 10) - 18446744073709551616 := by
                rw [IntKind.wrap_u64]
                omega
              go_wp2_with (go_at_call 122; (with_reducible refine (HLo.out _).mono ?_); rintro e w' ⟨rfl, hw'⟩; subst w')
              all_goals (go_ret2; exact puV_no HN.out HBel.out)
            · go_wp2_with (go_at_call 122; (with_reducible refine (HLo.out _).mono ?_); rintro e w' ⟨rfl, hw'⟩; subst w')
              all_goals (go_ret2; exact puV_no HN.out HBel.out)
          · have HN : Hid (m = puF 10 1844674407370955162 18446744073709551615 (bs.drop (k + 1)) (a * 10 + (lw - 97 + 10))) := ⟨by rw [hdec, if_neg hov]⟩
            have iov : a * 10 + (lw - 97 + 10) ≤ 18446744073709551615 := by omega
            clear hdec hcut hov
            go_wp2_with (go_at_call 122; (with_reducible refine (HLo.out _).mono ?_); rintro e w' ⟨rfl, hw'⟩; subst w')
            all_goals refine ⟨⟨k + 1, a * 10 + (lw - 97 + 10), rfl, (by first | rfl | (congr 1; omega)), (by first | rfl | (congr 1; omega)), by omega, ⟨by omega, by omega, HN.out⟩⟩, by simp [intOf]; omega⟩
    · have hkk : k = t.size := by omega
      have HN : Hid (m = some a) := ⟨by rw [hdec, List.drop_of_length_le (by rw [HL.out]; omega)]; rfl⟩
      clear hdec
      go_wp2
      all_goals (go_ret2; exact puV_yes HN.out rfl HBel.out)
set_option maxHeartbeats 32000000 in
set_option maxRecDepth 100000 in
theorem ipu_16_64 (t : ByteArray) (hne : t.size ≠ 0) (hmax : t.size ≤ 8796093022208) (hd : ∀ c ∈ lo t, 0 ≤ hexZ (zOf c) ∧ hexZ (zOf c) < 16) (w : World) :
    Calls Tryz.prog 111 #[.string t, .int .i64 16, .int .i64 64] w fun e w' => e = .returned (puV 18446744073709551615 (puF 16 1152921504606846976 18446744073709551615 (lo t) 0)) ∧ Below w.heap.size w w' := by
  have hemp : t.toList.isEmpty = false := by
    rw [← decide_eq_emptyBytes]
    exact decide_eq_false (fun h => hne (by rw [h]; rfl))
  have hcv := Lib.run_convert_string_bytes (P := Tryz.prog) w 9 116 5 t (u := .string) Tryz.underlying9 Tryz.underlying116 Tryz.underlying5
  have hB : ∀ j, j < t.size → (Lib.bytesWorld w 5 t).cell? ⟨w.heap.size, j, none⟩ = some (.int .u8 (t.data.toList.getD j 0).toNat) := fun j hj => Lib.bytesWorld_cell w 5 t j hj
  have HBel : Hid (Below w.heap.size w (Lib.bytesWorld w 5 t)) := ⟨Lib.below_freeze ((Below.refl _ _).drew.alloc (Nat.le_refl _) _) (p := ⟨w.heap.size, _, none⟩) (Nat.le_refl _) _⟩
  obtain ⟨W1, hW1⟩ : ∃ W1, W1 = Lib.bytesWorld w 5 t := ⟨_, rfl⟩
  rw [← hW1] at hcv hB HBel
  clear hW1
  obtain ⟨bs, hL⟩ : ∃ bs, bs = lo t := ⟨_, rfl⟩
  have hLn : bs.length = t.size := by rw [hL, lo_len]
  have hB' : ∀ j, j < t.size → W1.cell? ⟨w.heap.size, j, none⟩ = some (.int .u8 (bs.getD j 0).toNat) := fun j hj => by rw [hL]; exact hB j hj
  rw [← hL] at hd ⊢
  obtain ⟨m, hm⟩ : ∃ m, puF 16 1152921504606846976 18446744073709551615 bs 0 = m := ⟨_, rfl⟩
  rw [hm]
  have HM0 : Hid (m = puF 16 1152921504606846976 18446744073709551615 (bs.drop 0) 0) := ⟨hm.symm⟩
  have HB : Hid _ := ⟨hB'⟩
  have HD : Hid _ := ⟨hd⟩
  have HL : Hid _ := ⟨hLn⟩
  clear hL hB hB' hd hm hLn
  have hmv : IntKind.u64.wrap (IntKind.u64.wrap 18446744073709551616 - 1) = 18446744073709551615 := by
    rw [IntKind.wrap_u64, IntKind.wrap_u64]
    decide
  go_enter Tryz.func111, Tryz.ntmps111
  go_wp2
  go_loop [12, 13, 101] (fun vu vn vi => ∃ (k : Nat) (a : Int), vu = .bool false ∧ vn = .int .u64 a ∧ vi = .int .i64 k ∧ k ≤ t.size ∧ Hid (0 ≤ a ∧ a < 18446744073709551616 ∧ m = puF 16 1152921504606846976 18446744073709551615 (bs.drop k) a))
    (fun _ _ vi => t.size - (intOf vi).toNat)
  case atStart => exact ⟨0, 0, rfl, rfl, rfl, by omega, ⟨by omega, by omega, HM0.out⟩⟩
  case round =>
    obtain ⟨k, a, rfl, rfl, rfl, hk, hh⟩ := hrel
    obtain ⟨a0, a1, hdec⟩ := hh.out
    clear hh HM0
    by_cases hkn : k < t.size
    · have hc := HB.out k hkn
      have hkl : k < bs.length := by rw [HL.out]; exact hkn
      have hdrop : bs.drop k = bs[k]'hkl :: bs.drop (k + 1) := List.drop_eq_getElem_cons hkl
      have hget : bs.getD k 0 = bs[k]'hkl := by simp [List.getD, List.getElem?_eq_getElem hkl]
      have hdc := HD.out (bs[k]'hkl) (List.getElem_mem hkl)
      rw [hdrop] at hdec
      rw [hget] at hc
      generalize bs[k]'hkl = c at hc hdec hdc
      have hc256 : c.toNat < 256 := c.toNat_lt
      have hst : puF 16 1152921504606846976 18446744073709551615 (c :: bs.drop (k + 1)) a = if (1152921504606846976 : Int) ≤ a then none else if (18446744073709551615 : Int) < a * 16 + hexZ (zOf c) then none else puF 16 1152921504606846976 18446744073709551615 (bs.drop (k + 1)) (a * 16 + hexZ (zOf c)) := rfl
      rw [hst] at hdec
      have kinds := dig_kinds c hdc.1
      generalize hexZ (zOf c) = d at *
      obtain ⟨d0, d1⟩ := hdc
      clear hdrop hget hkl hst
      rcases kinds with ⟨k1, k2, rfl⟩ | ⟨k1, k2, k3, k4, k5, k6⟩
      · by_cases hcut : (1152921504606846976 : Int) ≤ a
        · have HN : Hid (m = none) := ⟨by rw [hdec, if_pos hcut]⟩
          clear hdec
          go_wp2
          all_goals (go_ret2; exact puV_no HN.out HBel.out)
        · rw [if_neg hcut] at hdec
          have icut : a < 1152921504606846976 := by omega
          by_cases hov : (18446744073709551615 : Int) < a * 16 + ((c.toNat : Int) - 48)
          · have HN : Hid (m = none) := ⟨by rw [hdec, if_pos hov]⟩
            clear hdec hcut
            by_cases hwr0 : 18446744073709551616 ≤ a * 16 + ((c.toNat : Int) - 48)
            · have hwr : IntKind.u64.wrap (a * 16 + ((c.toNat : Int) - 48)) = a * 16 + ((c.toNat : Int) - 48) - 18446744073709551616 := by
                rw [IntKind.wrap_u64]
                omega
              go_wp2
              all_goals (go_ret2; exact puV_no HN.out HBel.out)
            · go_wp2
              all_goals (go_ret2; exact puV_no HN.out HBel.out)
          · have HN : Hid (m = puF 16 1152921504606846976 18446744073709551615 (bs.drop (k + 1)) (a * 16 + ((c.toNat : Int) - 48))) := ⟨by rw [hdec, if_neg hov]⟩
            have iov : a * 16 + ((c.toNat : Int) - 48) ≤ 18446744073709551615 := by omega
            clear hdec hcut hov
            go_wp2
            all_goals refine ⟨⟨k + 1, a * 16 + ((c.toNat : Int) - 48), rfl, (by first | rfl | (congr 1; omega)), (by first | rfl | (congr 1; omega)), by omega, ⟨by omega, by omega, HN.out⟩⟩, by simp [intOf]; omega⟩
      · have q95 : ((c.toNat : Int) == 95) = false := by simpa using k2
        have k57 : ¬ (c.toNat : Int) ≤ 57 := fun h => k1 ⟨k3, h⟩
        have HLo : Hid (∀ W, Calls Tryz.prog 122 #[.int .u8 (c.toNat : Int)] W fun e w' => e = .returned (.int .u8 (d + 87)) ∧ w' = W) := ⟨fun W => by rw [← k4]; exact lower_any _ W⟩
        obtain ⟨lw, hlw⟩ : ∃ lw, d + 87 = lw := ⟨_, rfl⟩
        rw [hlw] at HLo
        obtain rfl : d = lw - 97 + 10 := by omega
        have l1 : 97 ≤ lw := by omega
        have l2 : lw ≤ 102 := by omega
        clear k1 k2 k4 hlw
        by_cases hcut : (1152921504606846976 : Int) ≤ a
        · have HN : Hid (m = none) := ⟨by rw [hdec, if_pos hcut]⟩
          clear hdec
          go_wp2_with (go_at_call 122; (with_reducible refine (HLo.out _).mono ?_); rintro e w' ⟨rfl, hw'⟩; subst w')
          all_goals (go_ret2; exact puV_no HN.out HBel.out)
        · rw [if_neg hcut] at hdec
          have icut : a < 1152921504606846976 := by omega
          by_cases hov : (18446744073709551615 : Int) < a * 16 + (lw - 97 + 10)
          · have HN : Hid (m = none) := ⟨by rw [hdec, if_pos hov]⟩
            clear hdec hcut
            by_cases hwr0 : 18446744073709551616 ≤ a * 16 + (lw - 97 + 10)
            · have hwr : IntKind.u64.wrap (a * 16 + (lw - 97 + 10)) = a * 16 + (lw - 97 + 10) - 18446744073709551616 := by
                rw [IntKind.wrap_u64]
                omega
              go_wp2_with (go_at_call 122; (with_reducible refine (HLo.out _).mono ?_); rintro e w' ⟨rfl, hw'⟩; subst w')
              all_goals (go_ret2; exact puV_no HN.out HBel.out)
            · go_wp2_with (go_at_call 122; (with_reducible refine (HLo.out _).mono ?_); rintro e w' ⟨rfl, hw'⟩; subst w')
              all_goals (go_ret2; exact puV_no HN.out HBel.out)
          · have HN : Hid (m = puF 16 1152921504606846976 18446744073709551615 (bs.drop (k + 1)) (a * 16 + (lw - 97 + 10))) := ⟨by rw [hdec, if_neg hov]⟩
            have iov : a * 16 + (lw - 97 + 10) ≤ 18446744073709551615 := by omega
            clear hdec hcut hov
            go_wp2_with (go_at_call 122; (with_reducible refine (HLo.out _).mono ?_); rintro e w' ⟨rfl, hw'⟩; subst w')
            all_goals refine ⟨⟨k + 1, a * 16 + (lw - 97 + 10), rfl, (by first | rfl | (congr 1; omega)), (by first | rfl | (congr 1; omega)), by omega, ⟨by omega, by omega, HN.out⟩⟩, by simp [intOf]; omega⟩
    · have hkk : k = t.size := by omega
      have HN : Hid (m = some a) := ⟨by rw [hdec, List.drop_of_length_le (by rw [HL.out]; omega)]; rfl⟩
      clear hdec
      go_wp2
      all_goals (go_ret2; exact puV_yes HN.out rfl HBel.out)
set_option maxHeartbeats 32000000 in
set_option maxRecDepth 100000 in
theorem ipu_16_8 (t : ByteArray) (hne : t.size ≠ 0) (hmax : t.size ≤ 8796093022208) (hd : ∀ c ∈ lo t, 0 ≤ hexZ (zOf c) ∧ hexZ (zOf c) < 16) (w : World) :
    Calls Tryz.prog 111 #[.string t, .int .i64 16, .int .i64 8] w fun e w' => e = .returned (puV 255 (puF 16 1152921504606846976 255 (lo t) 0)) ∧ Below w.heap.size w w' := by
  have hemp : t.toList.isEmpty = false := by
    rw [← decide_eq_emptyBytes]
    exact decide_eq_false (fun h => hne (by rw [h]; rfl))
  have hcv := Lib.run_convert_string_bytes (P := Tryz.prog) w 9 116 5 t (u := .string) Tryz.underlying9 Tryz.underlying116 Tryz.underlying5
  have hB : ∀ j, j < t.size → (Lib.bytesWorld w 5 t).cell? ⟨w.heap.size, j, none⟩ = some (.int .u8 (t.data.toList.getD j 0).toNat) := fun j hj => Lib.bytesWorld_cell w 5 t j hj
  have HBel : Hid (Below w.heap.size w (Lib.bytesWorld w 5 t)) := ⟨Lib.below_freeze ((Below.refl _ _).drew.alloc (Nat.le_refl _) _) (p := ⟨w.heap.size, _, none⟩) (Nat.le_refl _) _⟩
  obtain ⟨W1, hW1⟩ : ∃ W1, W1 = Lib.bytesWorld w 5 t := ⟨_, rfl⟩
  rw [← hW1] at hcv hB HBel
  clear hW1
  obtain ⟨bs, hL⟩ : ∃ bs, bs = lo t := ⟨_, rfl⟩
  have hLn : bs.length = t.size := by rw [hL, lo_len]
  have hB' : ∀ j, j < t.size → W1.cell? ⟨w.heap.size, j, none⟩ = some (.int .u8 (bs.getD j 0).toNat) := fun j hj => by rw [hL]; exact hB j hj
  rw [← hL] at hd ⊢
  obtain ⟨m, hm⟩ : ∃ m, puF 16 1152921504606846976 255 bs 0 = m := ⟨_, rfl⟩
  rw [hm]
  have HM0 : Hid (m = puF 16 1152921504606846976 255 (bs.drop 0) 0) := ⟨hm.symm⟩
  have HB : Hid _ := ⟨hB'⟩
  have HD : Hid _ := ⟨hd⟩
  have HL : Hid _ := ⟨hLn⟩
  clear hL hB hB' hd hm hLn
  have hmv : IntKind.u64.wrap (IntKind.u64.wrap 256 - 1) = 255 := by
    rw [IntKind.wrap_u64, IntKind.wrap_u64]
    decide
  go_enter Tryz.func111, Tryz.ntmps111
  go_wp2
  go_loop [12, 13, 101] (fun vu vn vi => ∃ (k : Nat) (a : Int), vu = .bool false ∧ vn = .int .u64 a ∧ vi = .int .i64 k ∧ k ≤ t.size ∧ Hid (0 ≤ a ∧ a < 18446744073709551616 ∧ m = puF 16 1152921504606846976 255 (bs.drop k) a))
    (fun _ _ vi => t.size - (intOf vi).toNat)
  case atStart => exact ⟨0, 0, rfl, rfl, rfl, by omega, ⟨by omega, by omega, HM0.out⟩⟩
  case round =>
    obtain ⟨k, a, rfl, rfl, rfl, hk, hh⟩ := hrel
    obtain ⟨a0, a1, hdec⟩ := hh.out
    clear hh HM0
    by_cases hkn : k < t.size
    · have hc := HB.out k hkn
      have hkl : k < bs.length := by rw [HL.out]; exact hkn
      have hdrop : bs.drop k = bs[k]'hkl :: bs.drop (k + 1) := List.drop_eq_getElem_cons hkl
      have hget : bs.getD k 0 = bs[k]'hkl := by simp [List.getD, List.getElem?_eq_getElem hkl]
      have hdc := HD.out (bs[k]'hkl) (List.getElem_mem hkl)
      rw [hdrop] at hdec
      rw [hget] at hc
      generalize bs[k]'hkl = c at hc hdec hdc
      have hc256 : c.toNat < 256 := c.toNat_lt
      have hst : puF 16 1152921504606846976 255 (c :: bs.drop (k + 1)) a = if (1152921504606846976 : Int) ≤ a then none else if (255 : Int) < a * 16 + hexZ (zOf c) then none else puF 16 1152921504606846976 255 (bs.drop (k + 1)) (a * 16 + hexZ (zOf c)) := rfl
      rw [hst] at hdec
      have kinds := dig_kinds c hdc.1
      generalize hexZ (zOf c) = d at *
      obtain ⟨d0, d1⟩ := hdc
      clear hdrop hget hkl hst
      rcases kinds with ⟨k1, k2, rfl⟩ | ⟨k1, k2, k3, k4, k5, k6⟩
      · by_cases hcut : (1152921504606846976 : Int) ≤ a
        · have HN : Hid (m = none) := ⟨by rw [hdec, if_pos hcut]⟩
          clear hdec
          go_wp2
          all_goals (go_ret2; exact puV_no HN.out HBel.out)
        · rw [if_neg hcut] at hdec
          have icut : a < 1152921504606846976 := by omega
          by_cases hov : (255 : Int) < a * 16 + ((c.toNat : Int) - 48)
          · have HN : Hid (m = none) := ⟨by rw [hdec, if_pos hov]⟩
            clear hdec hcut
            by_cases hwr0 : 18446744073709551616 ≤ a * 16 + ((c.toNat : Int) - 48)
            · have hwr : IntKind.u64.wrap (a * 16 + ((c.toNat : Int) - 48)) = a * 16 + ((c.toNat : Int) - 48) - 18446744073709551616 := by
                rw [IntKind.wrap_u64]
                omega
              go_wp2
              all_goals (go_ret2; exact puV_no HN.out HBel.out)
            · go_wp2
              all_goals (go_ret2; exact puV_no HN.out HBel.out)
          · have HN : Hid (m = puF 16 1152921504606846976 255 (bs.drop (k + 1)) (a * 16 + ((c.toNat : Int) - 48))) := ⟨by rw [hdec, if_neg hov]⟩
            have iov : a * 16 + ((c.toNat : Int) - 48) ≤ 255 := by omega
            clear hdec hcut hov
            go_wp2
            all_goals refine ⟨⟨k + 1, a * 16 + ((c.toNat : Int) - 48), rfl, (by first | rfl | (congr 1; omega)), (by first | rfl | (congr 1; omega)), by omega, ⟨by omega, by omega, HN.out⟩⟩, by simp [intOf]; omega⟩
      · have q95 : ((c.toNat : Int) == 95) = false := by simpa using k2
        have k57 : ¬ (c.toNat : Int) ≤ 57 := fun h => k1 ⟨k3, h⟩
        have HLo : Hid (∀ W, Calls Tryz.prog 122 #[.int .u8 (c.toNat : Int)] W fun e w' => e = .returned (.int .u8 (d + 87)) ∧ w' = W) := ⟨fun W => by rw [← k4]; exact lower_any _ W⟩
        obtain ⟨lw, hlw⟩ : ∃ lw, d + 87 = lw := ⟨_, rfl⟩
        rw [hlw] at HLo
        obtain rfl : d = lw - 97 + 10 := by omega
        have l1 : 97 ≤ lw := by omega
        have l2 : lw ≤ 102 := by omega
        clear k1 k2 k4 hlw
        by_cases hcut : (1152921504606846976 : Int) ≤ a
        · have HN : Hid (m = none) := ⟨by rw [hdec, if_pos hcut]⟩
          clear hdec
          go_wp2_with (go_at_call 122; (with_reducible refine (HLo.out _).mono ?_); rintro e w' ⟨rfl, hw'⟩; subst w')
          all_goals (go_ret2; exact puV_no HN.out HBel.out)
        · rw [if_neg hcut] at hdec
          have icut : a < 1152921504606846976 := by omega
          by_cases hov : (255 : Int) < a * 16 + (lw - 97 + 10)
          · have HN : Hid (m = none) := ⟨by rw [hdec, if_pos hov]⟩
            clear hdec hcut
            by_cases hwr0 : 18446744073709551616 ≤ a * 16 + (lw - 97 + 10)
            · have hwr : IntKind.u64.wrap (a * 16 + (lw - 97 + 10)) = a * 16 + (lw - 97 + 10) - 18446744073709551616 := by
                rw [IntKind.wrap_u64]
                omega
              go_wp2_with (go_at_call 122; (with_reducible refine (HLo.out _).mono ?_); rintro e w' ⟨rfl, hw'⟩; subst w')
              all_goals (go_ret2; exact puV_no HN.out HBel.out)
            · go_wp2_with (go_at_call 122; (with_reducible refine (HLo.out _).mono ?_); rintro e w' ⟨rfl, hw'⟩; subst w')
              all_goals (go_ret2; exact puV_no HN.out HBel.out)
          · have HN : Hid (m = puF 16 1152921504606846976 255 (bs.drop (k + 1)) (a * 16 + (lw - 97 + 10))) := ⟨by rw [hdec, if_neg hov]⟩
            have iov : a * 16 + (lw - 97 + 10) ≤ 255 := by omega
            clear hdec hcut hov
            go_wp2_with (go_at_call 122; (with_reducible refine (HLo.out _).mono ?_); rintro e w' ⟨rfl, hw'⟩; subst w')
            all_goals refine ⟨⟨k + 1, a * 16 + (lw - 97 + 10), rfl, (by first | rfl | (congr 1; omega)), (by first | rfl | (congr 1; omega)), by omega, ⟨by omega, by omega, HN.out⟩⟩, by simp [intOf]; omega⟩
    · have hkk : k = t.size := by omega
      have HN : Hid (m = some a) := ⟨by rw [hdec, List.drop_of_length_le (by rw [HL.out]; omega)]; rfl⟩
      clear hdec
      go_wp2
      all_goals (go_ret2; exact puV_yes HN.out rfl HBel.out)

/-- The library's outer call answers an error of its own. -/
def Bad (e : Ending) : Prop := ∃ (x : Int) (N : Nat), e = .returned (.tuple #[.int .u64 x, .iface 155 (.pointer (some ⟨N, 0, none⟩))])

theorem syntaxError_any (fn s : ByteArray) (w : World) (hl : s.size ≤ 8796093022208) (he : Er w) : Calls Tryz.prog 124 #[.string fn, .string s] w fun e w' => ∃ N, e = .returned (.pointer (some ⟨N, 0, none⟩)) ∧ Below w.heap.size w w' := by
  have HE : Hid _ := ⟨he⟩
  have HC : Hid _ := ⟨fun w => clone_any s w (by omega)⟩
  have ed := he.bel (Below.refl _ _).drew
  obtain ⟨te, pe, c2⟩ := ed.sx
  have z2 : 4 < w.drew.heap.size := Nat.lt_of_lt_of_le (by omega) ed.sz
  clear he ed
  go_enter Tryz.func124, Tryz.ntmps124
  go_wp2
  go_region_held3 (fun v' => v'.cell? ⟨4, 0, none⟩ = some (.iface te pe) ∧ 4 < v'.heap.size)
    ((refine ⟨?_, ?_⟩) <;> first | (with_reducible assumption) | (simp [go_sem, *]; done) | (simp; omega))
    ((go_at_call 121; (with_reducible refine (HC.out _).mono ?_); rintro e u ⟨rfl, hu⟩; have x0 : u.cell? ⟨4, 0, none⟩ = some (.iface te pe) := (hu.cell (p := ⟨4, 0, none⟩) (by have := HE.out.sz; show 4 < w.drew.heap.size; simp; omega)).trans c2; have x1 : 4 < u.heap.size := World.block_lt_of_cell? u ⟨4, 0, none⟩ x0))
  go_wp2
  go_ret
  exact ⟨_, rfl, ((Below.refl _ _).drew.trans hu).alloc (by have := hu.size; simpa using this) _⟩
theorem toError_sx (fn s : ByteArray) (base bits : Int) (w : World) (hl : s.size ≤ 8796093022208) (he : Er w) : Calls Tryz.prog 112 #[.string fn, .string s, .int .i64 base, .int .i64 bits, .iface 153 (.int .i64 2)] w fun e w' => ∃ N, e = .returned (.iface 155 (.pointer (some ⟨N, 0, none⟩))) ∧ Below w.heap.size w w' := by
  have HS : Hid _ := ⟨syntaxError_any fn s w hl he⟩
  have q2 := iface_eql 2 2
  have q1 := iface_eql 2 1
  go_enter Tryz.func112, Tryz.ntmps112
  go_wp2_with (go_at_call 124; (with_reducible refine HS.out.mono ?_); rintro e w1 ⟨N, rfl, hb⟩)
  go_ret
  exact ⟨N, rfl, hb⟩
theorem rangeError_any (fn s : ByteArray) (w : World) (hl : s.size ≤ 8796093022208) (he : Er w) : Calls Tryz.prog 125 #[.string fn, .string s] w fun e w' => ∃ N, e = .returned (.pointer (some ⟨N, 0, none⟩)) ∧ Below w.heap.size w w' := by
  have HE : Hid _ := ⟨he⟩
  have HC : Hid _ := ⟨fun w => clone_any s w (by omega)⟩
  have ed := he.bel (Below.refl _ _).drew
  obtain ⟨te, pe, c2⟩ := ed.rg
  have z2 : 5 < w.drew.heap.size := Nat.lt_of_lt_of_le (by omega) ed.sz
  clear he ed
  go_enter Tryz.func125, Tryz.ntmps125
  go_wp2
  go_region_held3 (fun v' => v'.cell? ⟨5, 0, none⟩ = some (.iface te pe) ∧ 5 < v'.heap.size)
    ((refine ⟨?_, ?_⟩) <;> first | (with_reducible assumption) | (simp [go_sem, *]; done) | (simp; omega))
    ((go_at_call 121; (with_reducible refine (HC.out _).mono ?_); rintro e u ⟨rfl, hu⟩; have x0 : u.cell? ⟨5, 0, none⟩ = some (.iface te pe) := (hu.cell (p := ⟨5, 0, none⟩) (by have := HE.out.sz; show 5 < w.drew.heap.size; simp; omega)).trans c2; have x1 : 5 < u.heap.size := World.block_lt_of_cell? u ⟨5, 0, none⟩ x0))
  go_wp2
  go_ret
  exact ⟨_, rfl, ((Below.refl _ _).drew.trans hu).alloc (by have := hu.size; simpa using this) _⟩
theorem toError_rg (fn s : ByteArray) (base bits : Int) (w : World) (hl : s.size ≤ 8796093022208) (he : Er w) : Calls Tryz.prog 112 #[.string fn, .string s, .int .i64 base, .int .i64 bits, .iface 153 (.int .i64 1)] w fun e w' => ∃ N, e = .returned (.iface 155 (.pointer (some ⟨N, 0, none⟩))) ∧ Below w.heap.size w w' := by
  have HS : Hid _ := ⟨rangeError_any fn s w hl he⟩
  have q2 := iface_eql 1 2
  have q1 := iface_eql 1 1
  go_enter Tryz.func112, Tryz.ntmps112
  go_wp2_with (go_at_call 125; (with_reducible refine HS.out.mono ?_); rintro e w1 ⟨N, rfl, hb⟩)
  go_ret
  exact ⟨N, rfl, hb⟩

theorem emp_string (t : ByteArray) (h : t.size = 0) : t = ⟨#[]⟩ := by
  obtain ⟨⟨l⟩⟩ := t
  cases l with
  | nil => rfl
  | cons _ _ => simp [ByteArray.size] at h

set_option maxHeartbeats 4000000 in
set_option maxRecDepth 100000 in
theorem pu_10_64 (t : ByteArray) (hmax : t.size ≤ 8796093022208) (hd : ∀ c ∈ lo t, 0 ≤ hexZ (zOf c) ∧ hexZ (zOf c) < 10) (w : World) (he : Er w) :
    Calls Tryz.prog 95 #[.string t, .int .i64 10, .int .i64 64] w fun e w' => (match (if lo t = [] then none else puF 10 1844674407370955162 18446744073709551615 (lo t) 0) with | some v => e = .returned (.tuple #[.int .u64 v, .nilIface]) | none => Bad e) ∧ Below w.heap.size w w' := by
  by_cases h0 : t.size = 0
  · obtain rfl := emp_string t h0
    rw [if_pos (show lo ⟨#[]⟩ = [] from rfl)]
    have HS : Hid _ := ⟨fun b => toError_sx ⟨#[80, 97, 114, 115, 101, 85, 105, 110, 116]⟩ ⟨#[]⟩ 10 b w hmax he⟩
    have HI : Hid (Calls Tryz.prog 111 #[.string ⟨#[]⟩, .int .i64 10, .int .i64 64] w fun e w' => e = .returned (.tuple #[.int .u64 0, .iface 153 (.int .i64 2)]) ∧ w' = w) := ⟨by
      go_enter Tryz.func111, Tryz.ntmps111
      go_wp2
      go_ret2
      exact ⟨rfl, rfl⟩⟩
    clear hd he
    go_enter Tryz.func95, Tryz.ntmps95
    go_wp2_with (first
      | (go_at_call 111; (with_reducible refine HI.out.mono ?_); rintro e w' ⟨rfl, hw'⟩; subst w')
      | (go_at_call 112; (with_reducible refine (HS.out _).mono ?_); rintro e w1 ⟨N, rfl, hb⟩))
    go_ret2
    exact ⟨⟨_, N, rfl⟩, hb⟩
  · rw [if_neg (fun e => h0 (by rw [← lo_len, e]; rfl))]
    have HI : Hid _ := ⟨ipu_10_64 t h0 hmax hd w⟩
    cases hm : puF 10 1844674407370955162 18446744073709551615 (lo t) 0 with
    | none =>
      rw [hm] at HI
      dsimp only [puV] at HI
      have HS : Hid (∀ W, Er W → Calls Tryz.prog 112 #[.string ⟨#[80, 97, 114, 115, 101, 85, 105, 110, 116]⟩, .string t, .int .i64 10, .int .i64 64, .iface 153 (.int .i64 1)] W fun e w' => ∃ N, e = .returned (.iface 155 (.pointer (some ⟨N, 0, none⟩))) ∧ Below W.heap.size W w') := ⟨fun W hW => toError_rg _ t 10 64 W hmax hW⟩
      have HE : Hid _ := ⟨he⟩
      clear hd he hm h0
      go_enter Tryz.func95, Tryz.ntmps95
      go_wp2_with (first
        | (go_at_call 111; (with_reducible refine HI.out.mono ?_); rintro e w1 ⟨rfl, hb1⟩)
        | (go_at_call 112; (with_reducible refine (HS.out _ (HE.out.bel hb1)).mono ?_); rintro e w2 ⟨N, rfl, hb2⟩))
      go_ret2
      exact ⟨⟨_, N, rfl⟩, hb1.trans (hb2.mono hb1.size)⟩
    | some v =>
      rw [hm] at HI
      dsimp only [puV] at HI
      clear hd he hm h0
      go_enter Tryz.func95, Tryz.ntmps95
      go_wp2_with (go_at_call 111; (with_reducible refine HI.out.mono ?_); rintro e w1 ⟨rfl, hb1⟩)
      go_ret2
      exact ⟨rfl, hb1⟩
set_option maxHeartbeats 4000000 in
set_option maxRecDepth 100000 in
theorem pu_16_64 (t : ByteArray) (hmax : t.size ≤ 8796093022208) (hd : ∀ c ∈ lo t, 0 ≤ hexZ (zOf c) ∧ hexZ (zOf c) < 16) (w : World) (he : Er w) :
    Calls Tryz.prog 95 #[.string t, .int .i64 16, .int .i64 64] w fun e w' => (match (if lo t = [] then none else puF 16 1152921504606846976 18446744073709551615 (lo t) 0) with | some v => e = .returned (.tuple #[.int .u64 v, .nilIface]) | none => Bad e) ∧ Below w.heap.size w w' := by
  by_cases h0 : t.size = 0
  · obtain rfl := emp_string t h0
    rw [if_pos (show lo ⟨#[]⟩ = [] from rfl)]
    have HS : Hid _ := ⟨fun b => toError_sx ⟨#[80, 97, 114, 115, 101, 85, 105, 110, 116]⟩ ⟨#[]⟩ 16 b w hmax he⟩
    have HI : Hid (Calls Tryz.prog 111 #[.string ⟨#[]⟩, .int .i64 16, .int .i64 64] w fun e w' => e = .returned (.tuple #[.int .u64 0, .iface 153 (.int .i64 2)]) ∧ w' = w) := ⟨by
      go_enter Tryz.func111, Tryz.ntmps111
      go_wp2
      go_ret2
      exact ⟨rfl, rfl⟩⟩
    clear hd he
    go_enter Tryz.func95, Tryz.ntmps95
    go_wp2_with (first
      | (go_at_call 111; (with_reducible refine HI.out.mono ?_); rintro e w' ⟨rfl, hw'⟩; subst w')
      | (go_at_call 112; (with_reducible refine (HS.out _).mono ?_); rintro e w1 ⟨N, rfl, hb⟩))
    go_ret2
    exact ⟨⟨_, N, rfl⟩, hb⟩
  · rw [if_neg (fun e => h0 (by rw [← lo_len, e]; rfl))]
    have HI : Hid _ := ⟨ipu_16_64 t h0 hmax hd w⟩
    cases hm : puF 16 1152921504606846976 18446744073709551615 (lo t) 0 with
    | none =>
      rw [hm] at HI
      dsimp only [puV] at HI
      have HS : Hid (∀ W, Er W → Calls Tryz.prog 112 #[.string ⟨#[80, 97, 114, 115, 101, 85, 105, 110, 116]⟩, .string t, .int .i64 16, .int .i64 64, .iface 153 (.int .i64 1)] W fun e w' => ∃ N, e = .returned (.iface 155 (.pointer (some ⟨N, 0, none⟩))) ∧ Below W.heap.size W w') := ⟨fun W hW => toError_rg _ t 16 64 W hmax hW⟩
      have HE : Hid _ := ⟨he⟩
      clear hd he hm h0
      go_enter Tryz.func95, Tryz.ntmps95
      go_wp2_with (first
        | (go_at_call 111; (with_reducible refine HI.out.mono ?_); rintro e w1 ⟨rfl, hb1⟩)
        | (go_at_call 112; (with_reducible refine (HS.out _ (HE.out.bel hb1)).mono ?_); rintro e w2 ⟨N, rfl, hb2⟩))
      go_ret2
      exact ⟨⟨_, N, rfl⟩, hb1.trans (hb2.mono hb1.size)⟩
    | some v =>
      rw [hm] at HI
      dsimp only [puV] at HI
      clear hd he hm h0
      go_enter Tryz.func95, Tryz.ntmps95
      go_wp2_with (go_at_call 111; (with_reducible refine HI.out.mono ?_); rintro e w1 ⟨rfl, hb1⟩)
      go_ret2
      exact ⟨rfl, hb1⟩
set_option maxHeartbeats 4000000 in
set_option maxRecDepth 100000 in
theorem pu_16_8 (t : ByteArray) (hmax : t.size ≤ 8796093022208) (hd : ∀ c ∈ lo t, 0 ≤ hexZ (zOf c) ∧ hexZ (zOf c) < 16) (w : World) (he : Er w) :
    Calls Tryz.prog 95 #[.string t, .int .i64 16, .int .i64 8] w fun e w' => (match (if lo t = [] then none else puF 16 1152921504606846976 255 (lo t) 0) with | some v => e = .returned (.tuple #[.int .u64 v, .nilIface]) | none => Bad e) ∧ Below w.heap.size w w' := by
  by_cases h0 : t.size = 0
  · obtain rfl := emp_string t h0
    rw [if_pos (show lo ⟨#[]⟩ = [] from rfl)]
    have HS : Hid _ := ⟨fun b => toError_sx ⟨#[80, 97, 114, 115, 101, 85, 105, 110, 116]⟩ ⟨#[]⟩ 16 b w hmax he⟩
    have HI : Hid (Calls Tryz.prog 111 #[.string ⟨#[]⟩, .int .i64 16, .int .i64 8] w fun e w' => e = .returned (.tuple #[.int .u64 0, .iface 153 (.int .i64 2)]) ∧ w' = w) := ⟨by
      go_enter Tryz.func111, Tryz.ntmps111
      go_wp2
      go_ret2
      exact ⟨rfl, rfl⟩⟩
    clear hd he
    go_enter Tryz.func95, Tryz.ntmps95
    go_wp2_with (first
      | (go_at_call 111; (with_reducible refine HI.out.mono ?_); rintro e w' ⟨rfl, hw'⟩; subst w')
      | (go_at_call 112; (with_reducible refine (HS.out _).mono ?_); rintro e w1 ⟨N, rfl, hb⟩))
    go_ret2
    exact ⟨⟨_, N, rfl⟩, hb⟩
  · rw [if_neg (fun e => h0 (by rw [← lo_len, e]; rfl))]
    have HI : Hid _ := ⟨ipu_16_8 t h0 hmax hd w⟩
    cases hm : puF 16 1152921504606846976 255 (lo t) 0 with
    | none =>
      rw [hm] at HI
      dsimp only [puV] at HI
      have HS : Hid (∀ W, Er W → Calls Tryz.prog 112 #[.string ⟨#[80, 97, 114, 115, 101, 85, 105, 110, 116]⟩, .string t, .int .i64 16, .int .i64 8, .iface 153 (.int .i64 1)] W fun e w' => ∃ N, e = .returned (.iface 155 (.pointer (some ⟨N, 0, none⟩))) ∧ Below W.heap.size W w') := ⟨fun W hW => toError_rg _ t 16 8 W hmax hW⟩
      have HE : Hid _ := ⟨he⟩
      clear hd he hm h0
      go_enter Tryz.func95, Tryz.ntmps95
      go_wp2_with (first
        | (go_at_call 111; (with_reducible refine HI.out.mono ?_); rintro e w1 ⟨rfl, hb1⟩)
        | (go_at_call 112; (with_reducible refine (HS.out _ (HE.out.bel hb1)).mono ?_); rintro e w2 ⟨N, rfl, hb2⟩))
      go_ret2
      exact ⟨⟨_, N, rfl⟩, hb1.trans (hb2.mono hb1.size)⟩
    | some v =>
      rw [hm] at HI
      dsimp only [puV] at HI
      clear hd he hm h0
      go_enter Tryz.func95, Tryz.ntmps95
      go_wp2_with (go_at_call 111; (with_reducible refine HI.out.mono ?_); rintro e w1 ⟨rfl, hb1⟩)
      go_ret2
      exact ⟨rfl, hb1⟩
end Go.Proofs.YtljmbgflcidokaaGreatDoor
