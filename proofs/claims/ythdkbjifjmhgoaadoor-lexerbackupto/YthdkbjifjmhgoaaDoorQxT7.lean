/- The program's texts: escapes, bytes, whole texts. -/
import Derived.Test.YthdkbjifjmhgoaaDoorQxT6
namespace Go.Proofs.YthdkbjifjmhgoaaDoor
open Go.ChangeShapes Go.WideShapes Go.ChangeAt Go.RowKit
set_option linter.unusedVariables false
set_option linter.unusedSimpArgs false
section
variable {w w1 w2 : World} {rb : Nat} {s : ByteArray} {a : Nat} {ln : Int} {lv : Value}

theorem esc_c (c : UInt8) (r : List UInt8) : escM (c :: r) = if c = 92 ∨ c = 34 then some (c, 1) else if c = 110 then some (10, 1) else if c = 116 then some (9, 1) else if c = 48 then some (0, 1) else if c = 120 then (twoM r).map (fun p => (p.1, p.2 + 1)) else none := by
  cases r with
  | nil => rfl
  | cons d r =>
    cases r with
    | nil => rfl
    | cons e r =>
      have e2 : (twoM (d :: e :: r)).map (fun p => (p.1, p.2 + 1)) = if 0 ≤ hexZ (zOf d) ∧ 0 ≤ hexZ (zOf e) then some (UInt8.ofNat (16 * hexZ (zOf d) + hexZ (zOf e)).toNat, 3) else none := by
        show (if 0 ≤ hexZ (zOf d) ∧ 0 ≤ hexZ (zOf e) then some (UInt8.ofNat (16 * hexZ (zOf d) + hexZ (zOf e)).toNat, 2) else none).map (fun p => (p.1, p.2 + 1)) = _
        split <;> rfl
      rw [e2]
      rfl

set_option maxHeartbeats 4000000 in
set_option maxRecDepth 10000 in
theorem escape_any (h : RD w rb s a ln lv) (hl : s.size ≤ 8796093022208) (ha : a ≤ s.size) : Calls Tryd.prog 84 #[.pointer (some ⟨rb, 0, none⟩)] w fun e w' => BytE (escM (Ln s a)) rb s a ln lv w e w' := by
  obtain ⟨z, hz⟩ : ∃ z, hdZ (Ln s a) = z := ⟨_, rfl⟩
  have HN : Hid _ := ⟨next_t h hl ha hz⟩
  cases hL : Ln s a with
  | nil =>
    rw [hL] at hz
    have hz' : z = 10 := hz.symm
    subst hz'
    have HM : Hid (escM [] = none) := ⟨rfl⟩
    clear h hz hL
    go_enter Tryd.func84, Tryd.ntmps84
    go_wp2_with (first
      | (go_at_call 68; (with_reducible refine HN.out.mono ?_); rintro e w1 ⟨rfl, R1, T1⟩; have HR1 : Hid _ := ⟨R1⟩; have HT1 : Hid _ := ⟨T1⟩; clear R1 T1))
    go_ret2
    exact byt_no HM.out HR1.out HT1.out
  | cons c r =>
    rw [hL] at hz
    have hz' : zOf c = z := hz
    obtain ⟨h1, h2, h3⟩ := Ln_cons hL
    by_cases c92 : c = 92
    · have q92 : (z == 92) = true := by rw [← hz', c92]; rfl
      have HM : Hid (escM (c :: r) = some (c, 1)) := ⟨by rw [esc_c]; simp [c92]⟩
      clear h hz hL h1 h2 h3 c92
      go_enter Tryd.func84, Tryd.ntmps84
      go_wp2_with (first
        | (go_at_call 68; (with_reducible refine HN.out.mono ?_); rintro e w1 ⟨rfl, R1, T1⟩; have HR1 : Hid _ := ⟨R1⟩; have HT1 : Hid _ := ⟨T1⟩; clear R1 T1))
      go_ret2
      exact byt_yes HM.out hz'.symm rfl HR1.out HT1.out
    · have q92 : (z == 92) = false := by rw [← hz', beq_eq_false_iff_ne]; intro e; exact c92 ((u8z (n := 92) (by omega)).1 e)
      by_cases c34 : c = 34
      · have q34 : (z == 34) = true := by rw [← hz', c34]; rfl
        have HM : Hid (escM (c :: r) = some (c, 1)) := ⟨by rw [esc_c]; simp [c92, c34]⟩
        clear h hz hL h1 h2 h3 c92 c34
        go_enter Tryd.func84, Tryd.ntmps84
        go_wp2_with (first
          | (go_at_call 68; (with_reducible refine HN.out.mono ?_); rintro e w1 ⟨rfl, R1, T1⟩; have HR1 : Hid _ := ⟨R1⟩; have HT1 : Hid _ := ⟨T1⟩; clear R1 T1))
        go_ret2
        exact byt_yes HM.out hz'.symm rfl HR1.out HT1.out
      · have q34 : (z == 34) = false := by rw [← hz', beq_eq_false_iff_ne]; intro e; exact c34 ((u8z (n := 34) (by omega)).1 e)
        by_cases c110 : c = 110
        · have q110 : (z == 110) = true := by rw [← hz', c110]; rfl
          have HM : Hid (escM (c :: r) = some (10, 1)) := ⟨by rw [esc_c]; simp [c92, c34, c110]⟩
          clear h hz hL h1 h2 h3 c92 c34 c110
          go_enter Tryd.func84, Tryd.ntmps84
          go_wp2_with (first
            | (go_at_call 68; (with_reducible refine HN.out.mono ?_); rintro e w1 ⟨rfl, R1, T1⟩; have HR1 : Hid _ := ⟨R1⟩; have HT1 : Hid _ := ⟨T1⟩; clear R1 T1))
          go_ret2
          exact byt_yes HM.out rfl rfl HR1.out HT1.out
        · have q110 : (z == 110) = false := by rw [← hz', beq_eq_false_iff_ne]; intro e; exact c110 ((u8z (n := 110) (by omega)).1 e)
          by_cases c116 : c = 116
          · have q116 : (z == 116) = true := by rw [← hz', c116]; rfl
            have HM : Hid (escM (c :: r) = some (9, 1)) := ⟨by rw [esc_c]; simp [c92, c34, c110, c116]⟩
            clear h hz hL h1 h2 h3 c92 c34 c110 c116
            go_enter Tryd.func84, Tryd.ntmps84
            go_wp2_with (first
              | (go_at_call 68; (with_reducible refine HN.out.mono ?_); rintro e w1 ⟨rfl, R1, T1⟩; have HR1 : Hid _ := ⟨R1⟩; have HT1 : Hid _ := ⟨T1⟩; clear R1 T1))
            go_ret2
            exact byt_yes HM.out rfl rfl HR1.out HT1.out
          · have q116 : (z == 116) = false := by rw [← hz', beq_eq_false_iff_ne]; intro e; exact c116 ((u8z (n := 116) (by omega)).1 e)
            by_cases c48 : c = 48
            · have q48 : (z == 48) = true := by rw [← hz', c48]; rfl
              have HM : Hid (escM (c :: r) = some (0, 1)) := ⟨by rw [esc_c]; simp [c92, c34, c110, c116, c48]⟩
              clear h hz hL h1 h2 h3 c92 c34 c110 c116 c48
              go_enter Tryd.func84, Tryd.ntmps84
              go_wp2_with (first
                | (go_at_call 68; (with_reducible refine HN.out.mono ?_); rintro e w1 ⟨rfl, R1, T1⟩; have HR1 : Hid _ := ⟨R1⟩; have HT1 : Hid _ := ⟨T1⟩; clear R1 T1))
              go_ret2
              exact byt_yes HM.out rfl rfl HR1.out HT1.out
            · have q48 : (z == 48) = false := by rw [← hz', beq_eq_false_iff_ne]; intro e; exact c48 ((u8z (n := 48) (by omega)).1 e)
              by_cases c120 : c = 120
              · have q120 : (z == 120) = true := by rw [← hz', c120]; rfl
                have hE : escM (c :: r) = (twoM r).map (fun p => (p.1, p.2 + 1)) := by rw [esc_c]; simp [c92, c34, c110, c116, c48, c120]
                have HW0 : ∀ W, RD W rb s (a + 1) ln lv → Calls Tryd.prog 99 #[.pointer (some ⟨rb, 0, none⟩)] W fun e w' => BytE (twoM r) rb s (a + 1) ln lv W e w' := fun W hW => by
                  have := twoDigits_any hW hl (by omega)
                  rw [h3] at this
                  exact this
                cases ht : twoM r with
                | none =>
                  rw [ht] at hE HW0
                  have HM : Hid _ := ⟨hE⟩
                  have HW : Hid _ := ⟨HW0⟩
                  dsimp only [BytE] at HW
                  clear h hz hL h1 h2 h3 HW0 hE ht c92 c34 c110 c116 c48 c120
                  go_enter Tryd.func84, Tryd.ntmps84
                  go_wp2_with (first
                    | (go_at_call 68; (with_reducible refine HN.out.mono ?_); rintro e w1 ⟨rfl, R1, T1⟩; have HR1 : Hid _ := ⟨R1⟩; have HT1 : Hid _ := ⟨T1⟩; clear R1 T1)
                    | (go_at_call 99; (with_reducible refine (HW.out _ HR1.out).mono ?_); rintro e w2 ⟨x, a', rfl, R2, T2⟩; have HR2 : Hid _ := ⟨R2⟩; have HT2 : Hid _ := ⟨HT1.out.trans T2⟩; clear R2 T2))
                  go_ret2
                  exact byt_no HM.out HR2.out HT2.out
                | some p =>
                  obtain ⟨x, j⟩ := p
                  rw [ht] at hE HW0
                  have HM : Hid (escM (c :: r) = some (x, j + 1)) := ⟨hE⟩
                  have HW : Hid _ := ⟨HW0⟩
                  dsimp only [BytE] at HW
                  clear h hz hL h1 h2 h3 HW0 hE ht c92 c34 c110 c116 c48 c120
                  go_enter Tryd.func84, Tryd.ntmps84
                  go_wp2_with (first
                    | (go_at_call 68; (with_reducible refine HN.out.mono ?_); rintro e w1 ⟨rfl, R1, T1⟩; have HR1 : Hid _ := ⟨R1⟩; have HT1 : Hid _ := ⟨T1⟩; clear R1 T1)
                    | (go_at_call 99; (with_reducible refine (HW.out _ HR1.out).mono ?_); rintro e w2 ⟨rfl, R2, T2⟩; have HR2 : Hid _ := ⟨R2⟩; have HT2 : Hid _ := ⟨HT1.out.trans T2⟩; clear R2 T2))
                  go_ret2
                  exact byt_yes HM.out rfl (by simp only; omega) HR2.out HT2.out
              · have q120 : (z == 120) = false := by rw [← hz', beq_eq_false_iff_ne]; intro e; exact c120 ((u8z (n := 120) (by omega)).1 e)
                have HM : Hid (escM (c :: r) = none) := ⟨by rw [esc_c]; simp [c92, c34, c110, c116, c48, c120]⟩
                clear h hz hL h1 h2 h3 c92 c34 c110 c116 c48 c120
                go_enter Tryd.func84, Tryd.ntmps84
                go_wp2_with (first
                  | (go_at_call 68; (with_reducible refine HN.out.mono ?_); rintro e w1 ⟨rfl, R1, T1⟩; have HR1 : Hid _ := ⟨R1⟩; have HT1 : Hid _ := ⟨T1⟩; clear R1 T1))
                go_ret2
                exact byt_no HM.out HR1.out HT1.out

/-- A byte of a text, behind its first ", if it is none. -/
def textM (l : List UInt8) : Option (UInt8 × Nat) :=
  match l with
  | [] => none
  | c :: r => if c = 92 then (escM r).map (fun p => (p.1, p.2 + 1)) else if 32 ≤ zOf c ∧ zOf c ≤ 126 then some (c, 1) else none
theorem text_le {l : List UInt8} {x : UInt8} {j : Nat} (h : textM l = some (x, j)) : 1 ≤ j ∧ j ≤ l.length := by
  cases l with
  | nil => cases h
  | cons c r =>
    have h' : (if c = 92 then (escM r).map (fun p => (p.1, p.2 + 1)) else if 32 ≤ zOf c ∧ zOf c ≤ 126 then some (c, 1) else none) = some (x, j) := h
    split at h'
    · cases he : escM r with
      | none => rw [he] at h'; cases h'
      | some p =>
        obtain ⟨y, i⟩ := p
        rw [he] at h'
        obtain ⟨e1, e2, _⟩ := esc_le he
        simp only [Option.map_some, Option.some.injEq, Prod.mk.injEq] at h'
        obtain ⟨_, rfl⟩ := h'
        simp; omega
    · split at h'
      · simp only [Option.some.injEq, Prod.mk.injEq] at h'
        obtain ⟨_, rfl⟩ := h'
        simp
      · cases h'
theorem quo_text (n : Nat) (c : UInt8) (r acc : List UInt8) (i : Nat) (h : ¬ c = 34) : quoF (n + 1) (c :: r) acc i = match textM (c :: r) with | none => none | some (x, j) => quoF n ((c :: r).drop j) (acc ++ [x]) (i + j) := by
  show (if c = 34 then some (acc, i + 1) else if zOf c < 32 ∨ 126 < zOf c then none else if c = 92 then (match escM r with | none => none | some (x, k) => quoF n (r.drop k) (acc ++ [x]) (i + 1 + k)) else quoF n r (acc ++ [c]) (i + 1)) = _
  have e : textM (c :: r) = if c = 92 then (escM r).map (fun p => (p.1, p.2 + 1)) else if 32 ≤ zOf c ∧ zOf c ≤ 126 then some (c, 1) else none := rfl
  rw [if_neg h, e]
  by_cases h92 : c = 92
  · rw [if_pos h92, if_neg (by rw [h92]; decide), if_pos h92]
    cases escM r with
    | none => rfl
    | some p =>
      obtain ⟨x, k⟩ := p
      simp only [Option.map_some, List.drop_succ_cons]
      congr 1
      omega
  · rw [if_neg h92, if_neg h92]
    by_cases g : 32 ≤ zOf c ∧ zOf c ≤ 126
    · rw [if_pos g, if_neg (by omega)]
      rfl
    · rw [if_neg g, if_pos (by omega)]

set_option maxHeartbeats 4000000 in
set_option maxRecDepth 10000 in
theorem textByte_any (h : RD w rb s a ln lv) (hl : s.size ≤ 8796093022208) (ha : a ≤ s.size) : Calls Tryd.prog 69 #[.pointer (some ⟨rb, 0, none⟩)] w fun e w' => BytE (textM (Ln s a)) rb s a ln lv w e w' := by
  obtain ⟨z, hz⟩ : ∃ z, hdZ (Ln s a) = z := ⟨_, rfl⟩
  have HN : Hid _ := ⟨next_t h hl ha hz⟩
  have HSh0 := fun W => isShown_any z W
  cases hL : Ln s a with
  | nil =>
    rw [hL] at hz
    have hz' : z = 10 := hz.symm
    subst hz'
    have HSh : Hid (∀ W, Calls Tryd.prog 41 #[.int .u8 10] W fun e w' => e = .returned (.bool false) ∧ w' = W) := ⟨HSh0⟩
    have HM : Hid (textM [] = none) := ⟨rfl⟩
    clear h hz hL HSh0
    go_enter Tryd.func69, Tryd.ntmps69
    go_wp2_with (first
      | (go_at_call 68; (with_reducible refine HN.out.mono ?_); rintro e w1 ⟨rfl, R1, T1⟩; have HR1 : Hid _ := ⟨R1⟩; have HT1 : Hid _ := ⟨T1⟩; clear R1 T1)
      | (go_at_call 41; (with_reducible refine (HSh.out _).mono ?_); rintro e w' ⟨rfl, hw'⟩; subst w'))
    go_ret2
    exact byt_no HM.out HR1.out HT1.out
  | cons c r =>
    rw [hL] at hz
    have hz' : zOf c = z := hz
    obtain ⟨h1, h2, h3⟩ := Ln_cons hL
    have hT : textM (c :: r) = if c = 92 then (escM r).map (fun p => (p.1, p.2 + 1)) else if 32 ≤ zOf c ∧ zOf c ≤ 126 then some (c, 1) else none := rfl
    by_cases c92 : c = 92
    · have q92 : (z == 92) = true := by rw [← hz', c92]; rfl
      rw [if_pos c92] at hT
      have HW0 : ∀ W, RD W rb s (a + 1) ln lv → Calls Tryd.prog 84 #[.pointer (some ⟨rb, 0, none⟩)] W fun e w' => BytE (escM r) rb s (a + 1) ln lv W e w' := fun W hW => by
        have := escape_any hW hl (by omega)
        rw [h3] at this
        exact this
      cases ht : escM r with
      | none =>
        rw [ht] at hT HW0
        have HM : Hid _ := ⟨hT⟩
        have HW : Hid _ := ⟨HW0⟩
        dsimp only [BytE] at HW
        clear h hz hL h1 h2 h3 HW0 hT ht HSh0 c92
        go_enter Tryd.func69, Tryd.ntmps69
        go_wp2_with (first
          | (go_at_call 68; (with_reducible refine HN.out.mono ?_); rintro e w1 ⟨rfl, R1, T1⟩; have HR1 : Hid _ := ⟨R1⟩; have HT1 : Hid _ := ⟨T1⟩; clear R1 T1)
          | (go_at_call 84; (with_reducible refine (HW.out _ HR1.out).mono ?_); rintro e w2 ⟨x, a', rfl, R2, T2⟩; have HR2 : Hid _ := ⟨R2⟩; have HT2 : Hid _ := ⟨HT1.out.trans T2⟩; clear R2 T2))
        go_ret2
        exact byt_no HM.out HR2.out HT2.out
      | some p =>
        obtain ⟨x, j⟩ := p
        rw [ht] at hT HW0
        have HM : Hid (textM (c :: r) = some (x, j + 1)) := ⟨hT⟩
        have HW : Hid _ := ⟨HW0⟩
        dsimp only [BytE] at HW
        clear h hz hL h1 h2 h3 HW0 hT ht HSh0 c92
        go_enter Tryd.func69, Tryd.ntmps69
        go_wp2_with (first
          | (go_at_call 68; (with_reducible refine HN.out.mono ?_); rintro e w1 ⟨rfl, R1, T1⟩; have HR1 : Hid _ := ⟨R1⟩; have HT1 : Hid _ := ⟨T1⟩; clear R1 T1)
          | (go_at_call 84; (with_reducible refine (HW.out _ HR1.out).mono ?_); rintro e w2 ⟨rfl, R2, T2⟩; have HR2 : Hid _ := ⟨R2⟩; have HT2 : Hid _ := ⟨HT1.out.trans T2⟩; clear R2 T2))
        go_ret2
        exact byt_yes HM.out rfl (by simp only; omega) HR2.out HT2.out
    · have q92 : (z == 92) = false := by rw [← hz', beq_eq_false_iff_ne]; intro e; exact c92 ((u8z (n := 92) (by omega)).1 e)
      rw [if_neg c92, hz'] at hT
      by_cases c32 : z = 32
      · have q32 : (z == 32) = true := by rw [c32]; rfl
        rw [if_pos (by omega)] at hT
        have HM : Hid _ := ⟨hT⟩
        clear h hz hL h1 h2 h3 hT HSh0 c92 c32
        go_enter Tryd.func69, Tryd.ntmps69
        go_wp2_with (go_at_call 68; (with_reducible refine HN.out.mono ?_); rintro e w1 ⟨rfl, R1, T1⟩; have HR1 : Hid _ := ⟨R1⟩; have HT1 : Hid _ := ⟨T1⟩; clear R1 T1)
        go_ret2
        exact byt_yes HM.out hz'.symm rfl HR1.out HT1.out
      · have q32 : (z == 32) = false := by simpa using c32
        by_cases g : 32 < z ∧ z ≤ 126
        · rw [if_pos (by omega)] at hT
          have HSh : Hid (∀ W, Calls Tryd.prog 41 #[.int .u8 z] W fun e w' => e = .returned (.bool true) ∧ w' = W) := ⟨fun W => by
            have := HSh0 W
            rw [decide_eq_true g.1, decide_eq_true g.2] at this
            exact this⟩
          have HM : Hid _ := ⟨hT⟩
          clear h hz hL h1 h2 h3 hT HSh0 c92 c32 g
          go_enter Tryd.func69, Tryd.ntmps69
          go_wp2_with (first
            | (go_at_call 68; (with_reducible refine HN.out.mono ?_); rintro e w1 ⟨rfl, R1, T1⟩; have HR1 : Hid _ := ⟨R1⟩; have HT1 : Hid _ := ⟨T1⟩; clear R1 T1)
            | (go_at_call 41; (with_reducible refine (HSh.out _).mono ?_); rintro e w' ⟨rfl, hw'⟩; subst w'))
          go_ret2
          exact byt_yes HM.out hz'.symm rfl HR1.out HT1.out
        · rw [if_neg (by omega)] at hT
          have HSh : Hid (∀ W, Calls Tryd.prog 41 #[.int .u8 z] W fun e w' => e = .returned (.bool false) ∧ w' = W) := ⟨fun W => by
            have := HSh0 W
            have e0 : (decide (32 < z) && decide (z ≤ 126)) = false := by
              rw [← Bool.decide_and]; exact decide_eq_false g
            rw [e0] at this
            exact this⟩
          have HM : Hid _ := ⟨hT⟩
          clear h hz hL h1 h2 h3 hT HSh0 c92 c32 g
          go_enter Tryd.func69, Tryd.ntmps69
          go_wp2_with (first
            | (go_at_call 68; (with_reducible refine HN.out.mono ?_); rintro e w1 ⟨rfl, R1, T1⟩; have HR1 : Hid _ := ⟨R1⟩; have HT1 : Hid _ := ⟨T1⟩; clear R1 T1)
            | (go_at_call 41; (with_reducible refine (HSh.out _).mono ?_); rintro e w' ⟨rfl, hw'⟩; subst w'))
          go_ret2
          exact byt_no HM.out HR1.out HT1.out
end
end Go.Proofs.YthdkbjifjmhgoaaDoor
