/- The document's escapes. -/
import Derived.Test.YthdkbjifjmhgoaaDoorLxNum3
namespace Go.Proofs.YthdkbjifjmhgoaaDoor
open Go.ChangeShapes Go.WideShapes Go.ChangeAt Go.RowKit
set_option linter.unusedVariables false
set_option linter.unusedSimpArgs false

/-- An escape's three results. -/
def escV (m : Option (UInt8 × Nat)) : Value :=
  match m with
  | none => .tuple #[.int .u8 0, .int .i64 0, .bool false]
  | some p => .tuple #[.int .u8 p.1.toNat, .int .i64 p.2, .bool true]

theorem esc_e (M : Option (UInt8 × Nat)) (N : Option (UInt8 × Nat)) (h : M = N) {w w' : World} (hw : Below w.heap.size w w') {v : Value} (hv : v = escV N) : Ending.returned v = .returned (escV M) ∧ Below w.heap.size w w' := by
  subst h; subst hv; exact ⟨rfl, hw⟩

theorem esc_s {M : Option (UInt8 × Nat)} {x : UInt8} {k : Nat} {v : Int} (h : M = some (x, k)) (hv : (x.toNat : Int) = v) {w w' : World} (hw : Below w.heap.size w w') : Ending.returned (.tuple #[.int .u8 v, .int .i64 k, .bool true]) = .returned (escV M) ∧ Below w.heap.size w w' := by
  subst h; subst hv; exact ⟨rfl, hw⟩

theorem lo_cons (s : ByteArray) (h : 0 < s.size) : lo s = s[0] :: (lo s).drop 1 := by
  have := lo_drop s 0 h
  rwa [List.drop_zero] at this

theorem esc_x (s : ByteArray) (h0 : 0 < s.size) (h : s[0] = 120) : escM (lo s) = if h2 : 2 < s.size then (if 0 ≤ hexZ (zOf s[1]) ∧ 0 ≤ hexZ (zOf s[2]) then some (UInt8.ofNat (16 * hexZ (zOf s[1]) + hexZ (zOf s[2])).toNat, 3) else none) else none := by
  rw [lo_cons s h0, h]
  by_cases h2 : 2 < s.size
  · rw [dif_pos h2, lo_drop s 1 (by omega), lo_drop s 2 h2]
    rfl
  · rw [dif_neg h2]
    by_cases h1 : 1 < s.size
    · have e2 : (lo s).drop 2 = [] := List.drop_of_length_le (by rw [lo_len]; omega)
      rw [lo_drop s 1 h1, e2]; rfl
    · have e1 : (lo s).drop 1 = [] := List.drop_of_length_le (by rw [lo_len]; omega)
      rw [e1]; rfl

set_option maxHeartbeats 4000000 in
set_option maxRecDepth 10000 in
theorem rescaped_any (s : ByteArray) (w : World) (hl : s.size ≤ 9223372036854775807) :
    Calls Tryd.prog 72 #[.string s] w fun e w' => e = .returned (escV (escM (lo s))) ∧ Below w.heap.size w w' := by
  obtain ⟨M, hM⟩ : ∃ M, escM (lo s) = M := ⟨_, rfl⟩
  by_cases h0 : 0 < s.size
  · have hne : s.toList.isEmpty = false := by
      rw [List.isEmpty_eq_false_iff]
      intro h
      have h1 : s.toList.length = 0 := by rw [h]; rfl
      have h2 : s.toList.length = s.size := by rw [ByteArray.toList_eq]; simp
      omega
    have h0i : (0 : Int) < (s.size : Int) := by omega
    have hc := s[0].toNat_lt
    rw [hM]
    by_cases c92 : s[0] = 92
    · have q92 : ((s[0].toNat : Int) == 92) = true := by rw [c92]; rfl
      have hn : Hid (M = some (s[0], 1)) := ⟨by rw [← hM, lo_cons s h0]; simp [escM, c92]⟩
      clear hM c92 
      go_enter Tryd.func72, Tryd.ntmps72
      go_wp2
      go_ret3
      exact esc_e _ _ hn.out (Below.refl _ _) rfl
    · have q92 : ((s[0].toNat : Int) == 92) = false := by rw [beq_eq_false_iff_ne]; intro h; exact c92 (UInt8.toNat_inj.1 (by show s[0].toNat = 92; omega))
      by_cases c34 : s[0] = 34
      · have q34 : ((s[0].toNat : Int) == 34) = true := by rw [c34]; rfl
        have hn : Hid (M = some (s[0], 1)) := ⟨by rw [← hM, lo_cons s h0]; simp [escM, c34]⟩
        clear hM c34 c92
        go_enter Tryd.func72, Tryd.ntmps72
        go_wp2
        go_ret3
        exact esc_e _ _ hn.out (Below.refl _ _) rfl
      · have q34 : ((s[0].toNat : Int) == 34) = false := by rw [beq_eq_false_iff_ne]; intro h; exact c34 (UInt8.toNat_inj.1 (by show s[0].toNat = 34; omega))
        by_cases c110 : s[0] = 110
        · have q110 : ((s[0].toNat : Int) == 110) = true := by rw [c110]; rfl
          have hn : Hid (M = some (10, 1)) := ⟨by rw [← hM, lo_cons s h0]; simp [escM, c110]⟩
          clear hM c110 c92 c34
          go_enter Tryd.func72, Tryd.ntmps72
          go_wp2
          go_ret3
          exact esc_e _ _ hn.out (Below.refl _ _) rfl
        · have q110 : ((s[0].toNat : Int) == 110) = false := by rw [beq_eq_false_iff_ne]; intro h; exact c110 (UInt8.toNat_inj.1 (by show s[0].toNat = 110; omega))
          by_cases c116 : s[0] = 116
          · have q116 : ((s[0].toNat : Int) == 116) = true := by rw [c116]; rfl
            have hn : Hid (M = some (9, 1)) := ⟨by rw [← hM, lo_cons s h0]; simp [escM, c116]⟩
            clear hM c116 c92 c34 c110
            go_enter Tryd.func72, Tryd.ntmps72
            go_wp2
            go_ret3
            exact esc_e _ _ hn.out (Below.refl _ _) rfl
          · have q116 : ((s[0].toNat : Int) == 116) = false := by rw [beq_eq_false_iff_ne]; intro h; exact c116 (UInt8.toNat_inj.1 (by show s[0].toNat = 116; omega))
            by_cases c48 : s[0] = 48
            · have q48 : ((s[0].toNat : Int) == 48) = true := by rw [c48]; rfl
              have hn : Hid (M = some (0, 1)) := ⟨by rw [← hM, lo_cons s h0]; simp [escM, c48]⟩
              clear hM c48 c92 c34 c110 c116
              go_enter Tryd.func72, Tryd.ntmps72
              go_wp2
              go_ret3
              exact esc_e _ _ hn.out (Below.refl _ _) rfl
            · have q48 : ((s[0].toNat : Int) == 48) = false := by rw [beq_eq_false_iff_ne]; intro h; exact c48 (UInt8.toNat_inj.1 (by show s[0].toNat = 48; omega))
              by_cases c120 : s[0] = 120
              · have q120 : ((s[0].toNat : Int) == 120) = true := by rw [c120]; rfl
                have hx := esc_x s h0 c120
                rw [hM] at hx
                clear hM c92 c34 c110 c116 c48 c120
                by_cases h2 : 2 < s.size
                · rw [dif_pos h2] at hx
                  have h2i : (2 : Int) < (s.size : Int) := by omega
                  have h1i : (1 : Int) < (s.size : Int) := by omega
                  have c1 := s[1].toNat_lt
                  have c2 := s[2].toNat_lt
                  have HA : Hid (∀ w, Calls Tryd.prog 70 #[.int .u8 (s[1].toNat : Int)] w fun e w' => e = .returned (.int .i64 (hexZ (zOf s[1]))) ∧ w' = w) := ⟨fun w => rhex_any _ w (by omega) (by omega)⟩
                  have HB : Hid (∀ w, Calls Tryd.prog 70 #[.int .u8 (s[2].toNat : Int)] w fun e w' => e = .returned (.int .i64 (hexZ (zOf s[2]))) ∧ w' = w) := ⟨fun w => rhex_any _ w (by omega) (by omega)⟩
                  have u1 := hex_lt (zOf s[1])
                  have u2 := hex_lt (zOf s[2])
                  generalize hexZ (zOf s[1]) = a at *
                  generalize hexZ (zOf s[2]) = b at *
                  by_cases ha : 0 ≤ a
                  · by_cases hb : 0 ≤ b
                    · rw [if_pos ⟨ha, hb⟩] at hx
                      have hn : Hid _ := ⟨hx⟩
                      have hu : Hid (((UInt8.ofNat (16 * a + b).toNat).toNat : Int) = 16 * a + b) := ⟨by rw [UInt8.toNat_ofNat']; omega⟩
                      have e8 : IntKind.u8.wrap (16 * a + b) = 16 * a + b := by simp [IntKind.wrap, IntKind.bits, IntKind.signed]; omega
                      clear hx
                      go_enter Tryd.func72, Tryd.ntmps72
                      go_wp2_with (first | (go_at_call 70; (with_reducible refine (HA.out _).mono ?_); rintro e w' ⟨rfl, hw'⟩; subst w') | (go_at_call 70; (with_reducible refine (HB.out _).mono ?_); rintro e w' ⟨rfl, hw'⟩; subst w'))
                      go_quiet (first | (go_at_call 70; with_reducible exact Calls.quiet_of_same (HA.out _)) | (go_at_call 70; with_reducible exact Calls.quiet_of_same (HB.out _)))
                      go_wp2
                      go_ret3
                      exact esc_s hn.out hu.out (below_drewN (Below.refl _ _) _)
                    · rw [if_neg (fun h => hb h.2)] at hx
                      have hn : Hid _ := ⟨hx⟩
                      clear hx
                      go_enter Tryd.func72, Tryd.ntmps72
                      go_wp2_with (first | (go_at_call 70; (with_reducible refine (HA.out _).mono ?_); rintro e w' ⟨rfl, hw'⟩; subst w') | (go_at_call 70; (with_reducible refine (HB.out _).mono ?_); rintro e w' ⟨rfl, hw'⟩; subst w'))
                      go_ret3
                      exact esc_e _ _ hn.out (Below.refl _ _) rfl
                  · rw [if_neg (fun h => ha h.1)] at hx
                    have hn : Hid _ := ⟨hx⟩
                    clear hx
                    go_enter Tryd.func72, Tryd.ntmps72
                    go_wp2_with (first | (go_at_call 70; (with_reducible refine (HA.out _).mono ?_); rintro e w' ⟨rfl, hw'⟩; subst w') | (go_at_call 70; (with_reducible refine (HB.out _).mono ?_); rintro e w' ⟨rfl, hw'⟩; subst w'))
                    go_ret3
                    exact esc_e _ _ hn.out (Below.refl _ _) rfl
                · rw [dif_neg h2] at hx
                  have hn : Hid _ := ⟨hx⟩
                  have h2i : ¬ (2 : Int) < (s.size : Int) := by omega
                  clear hx
                  go_enter Tryd.func72, Tryd.ntmps72
                  go_wp2
                  go_ret3
                  exact esc_e _ _ hn.out (Below.refl _ _) rfl
              · have q120 : ((s[0].toNat : Int) == 120) = false := by rw [beq_eq_false_iff_ne]; intro h; exact c120 (UInt8.toNat_inj.1 (by show s[0].toNat = 120; omega))
                have hn : Hid (M = none) := ⟨by rw [← hM, lo_cons s h0]; simp [escM, c92, c34, c110, c116, c48, c120]⟩
                clear hM c92 c34 c110 c116 c48 c120
                go_enter Tryd.func72, Tryd.ntmps72
                go_wp2
                go_ret3
                exact esc_e _ _ hn.out (Below.refl _ _) rfl
  · have hz : s.size = 0 := by omega
    have hne : s.toList.isEmpty = true := by
      rw [List.isEmpty_iff]
      apply List.eq_nil_of_length_eq_zero
      rw [ByteArray.toList_eq]; simpa using hz
    have hn : Hid (escM (lo s) = none) := ⟨by rw [show lo s = [] from List.eq_nil_of_length_eq_zero (by rw [lo_len]; exact hz)]; rfl⟩
    clear hM h0
    go_enter Tryd.func72, Tryd.ntmps72
    go_wp2
    go_ret3
    exact esc_e _ _ hn.out (Below.refl _ _) rfl
end Go.Proofs.YthdkbjifjmhgoaaDoor
