/- The program's texts: escapes, bytes, whole texts. The program's tokens: whole texts; any token. -/
import Derived.Test.YtljmbgflcidokaaGreatDoorQxG
namespace Go.Proofs.YtljmbgflcidokaaGreatDoor
open Go.ChangeShapes Go.WideShapes Go.ChangeAt Go.RowKit
set_option linter.unusedVariables false
set_option linter.unusedSimpArgs false
section
variable {w w1 w2 : World} {rb : Nat} {s : ByteArray} {a : Nat} {ln : Int} {lv : Value}

theorem esc_c (c : UInt8) (r : List UInt8) : escM (c :: r) = if c = 92 ∨ c = 34 then some (c, 1) else if c = 110 then some (10, 1) else if c = 116 then some (9, 1) else if c = 48 then some (0, 1) else if c = 120 then (twoM r).map (fun p => (p.1, p.2 + 1)) else none := by
  cases r with
  | nil => rfl
  | cons d r =>
    cases r with
    | nil => rfl
    | cons e r =>
      have e2 : (twoM (d :: e :: r)).map (fun p => (p.1, p.2 + 1)) = if 0 ≤ hexZ (zOf d) ∧ 0 ≤ hexZ (zOf e) then some (UInt8.ofNat (16 * hexZ (zOf d) + hexZ (zOf e)).toNat, 3) else none := by
        show (if 0 ≤ hexZ (zOf d) ∧ 0 ≤ hexZ (zOf e) then some (UInt8.ofNat (16 * hexZ (zOf d) + hexZ (zOf e)).toNat, 2) else none).map (fun p => (p.1, p.2 + 1)) = _
        split <;> rfl
      rw [e2]
      rfl

set_option maxHeartbeats 4000000 in
set_option maxRecDepth 10000 in
theorem escape_any (h : RD w rb s a ln lv) (hl : s.size ≤ 8796093022208) (ha : a ≤ s.size) : Calls Tryz.prog 113 #[.pointer (some ⟨rb, 0, none⟩)] w fun e w' => BytE (escM (Ln s a)) rb s a ln lv w e w' := by
  obtain ⟨z, hz⟩ : ∃ z, hdZ (Ln s a) = z := ⟨_, rfl⟩
  have HN : Hid _ := ⟨next_t h hl ha hz⟩
  cases hL : Ln s a with
  | nil =>
    rw [hL] at hz
    have hz' : z = 10 := hz.symm
    subst hz'
    have HM : Hid (escM [] = none) := ⟨rfl⟩
    clear h hz hL
    go_enter Tryz.func113, Tryz.ntmps113
    go_wp2_with (first
      | (go_at_call 97; (with_reducible refine HN.out.mono ?_); rintro e w1 ⟨rfl, R1, T1⟩; have HR1 : Hid _ := ⟨R1⟩; have HT1 : Hid _ := ⟨T1⟩; clear R1 T1))
    go_ret2
    exact byt_no HM.out HR1.out HT1.out
  | cons c r =>
    rw [hL] at hz
    have hz' : zOf c = z := hz
    obtain ⟨h1, h2, h3⟩ := Ln_cons hL
    by_cases c92 : c = 92
    · have q92 : (z == 92) = true := by rw [← hz', c92]; rfl
      have HM : Hid (escM (c :: r) = some (c, 1)) := ⟨by rw [esc_c]; simp [c92]⟩
      clear h hz hL h1 h2 h3 c92
      go_enter Tryz.func113, Tryz.ntmps113
      go_wp2_with (first
        | (go_at_call 97; (with_reducible refine HN.out.mono ?_); rintro e w1 ⟨rfl, R1, T1⟩; have HR1 : Hid _ := ⟨R1⟩; have HT1 : Hid _ := ⟨T1⟩; clear R1 T1))
      go_ret2
      exact byt_yes HM.out hz'.symm rfl HR1.out HT1.out
    · have q92 : (z == 92) = false := by rw [← hz', beq_eq_false_iff_ne]; intro e; exact c92 ((u8z (n := 92) (by omega)).1 e)
      by_cases c34 : c = 34
      · have q34 : (z == 34) = true := by rw [← hz', c34]; rfl
        have HM : Hid (escM (c :: r) = some (c, 1)) := ⟨by rw [esc_c]; simp [c92, c34]⟩
        clear h hz hL h1 h2 h3 c92 c34
        go_enter Tryz.func113, Tryz.ntmps113
        go_wp2_with (first
          | (go_at_call 97; (with_reducible refine HN.out.mono ?_); rintro e w1 ⟨rfl, R1, T1⟩; have HR1 : Hid _ := ⟨R1⟩; have HT1 : Hid _ := ⟨T1⟩; clear R1 T1))
        go_ret2
        exact byt_yes HM.out hz'.symm rfl HR1.out HT1.out
      · have q34 : (z == 34) = false := by rw [← hz', beq_eq_false_iff_ne]; intro e; exact c34 ((u8z (n := 34) (by omega)).1 e)
        by_cases c110 : c = 110
        · have q110 : (z == 110) = true := by rw [← hz', c110]; rfl
          have HM : Hid (escM (c :: r) = some (10, 1)) := ⟨by rw [esc_c]; simp [c92, c34, c110]⟩
          clear h hz hL h1 h2 h3 c92 c34 c110
          go_enter Tryz.func113, Tryz.ntmps113
          go_wp2_with (first
            | (go_at_call 97; (with_reducible refine HN.out.mono ?_); rintro e w1 ⟨rfl, R1, T1⟩; have HR1 : Hid _ := ⟨R1⟩; have HT1 : Hid _ := ⟨T1⟩; clear R1 T1))
          go_ret2
          exact byt_yes HM.out rfl rfl HR1.out HT1.out
        · have q110 : (z == 110) = false := by rw [← hz', beq_eq_false_iff_ne]; intro e; exact c110 ((u8z (n := 110) (by omega)).1 e)
          by_cases c116 : c = 116
          · have q116 : (z == 116) = true := by rw [← hz', c116]; rfl
            have HM : Hid (escM (c :: r) = some (9, 1)) := ⟨by rw [esc_c]; simp [c92, c34, c110, c116]⟩
            clear h hz hL h1 h2 h3 c92 c34 c110 c116
            go_enter Tryz.func113, Tryz.ntmps113
            go_wp2_with (first
              | (go_at_call 97; (with_reducible refine HN.out.mono ?_); rintro e w1 ⟨rfl, R1, T1⟩; have HR1 : Hid _ := ⟨R1⟩; have HT1 : Hid _ := ⟨T1⟩; clear R1 T1))
            go_ret2
            exact byt_yes HM.out rfl rfl HR1.out HT1.out
          · have q116 : (z == 116) = false := by rw [← hz', beq_eq_false_iff_ne]; intro e; exact c116 ((u8z (n := 116) (by omega)).1 e)
            by_cases c48 : c = 48
            · have q48 : (z == 48) = true := by rw [← hz', c48]; rfl
              have HM : Hid (escM (c :: r) = some (0, 1)) := ⟨by rw [esc_c]; simp [c92, c34, c110, c116, c48]⟩
              clear h hz hL h1 h2 h3 c92 c34 c110 c116 c48
              go_enter Tryz.func113, Tryz.ntmps113
              go_wp2_with (first
                | (go_at_call 97; (with_reducible refine HN.out.mono ?_); rintro e w1 ⟨rfl, R1, T1⟩; have HR1 : Hid _ := ⟨R1⟩; have HT1 : Hid _ := ⟨T1⟩; clear R1 T1))
              go_ret2
              exact byt_yes HM.out rfl rfl HR1.out HT1.out
            · have q48 : (z == 48) = false := by rw [← hz', beq_eq_false_iff_ne]; intro e; exact c48 ((u8z (n := 48) (by omega)).1 e)
              by_cases c120 : c = 120
              · have q120 : (z == 120) = true := by rw [← hz', c120]; rfl
                have hE : escM (c :: r) = (twoM r).map (fun p => (p.1, p.2 + 1)) := by rw [esc_c]; simp [c92, c34, c110, c116, c48, c120]
                have HW0 : ∀ W, RD W rb s (a + 1) ln lv → Calls Tryz.prog 128 #[.pointer (some ⟨rb, 0, none⟩)] W fun e w' => BytE (twoM r) rb s (a + 1) ln lv W e w' := fun W hW => by
                  have := twoDigits_any hW hl (by omega)
                  rw [h3] at this
                  exact this
                cases ht : twoM r with
                | none =>
                  rw [ht] at hE HW0
                  have HM : Hid _ := ⟨hE⟩
                  have HW : Hid _ := ⟨HW0⟩
                  dsimp only [BytE] at HW
                  clear h hz hL h1 h2 h3 HW0 hE ht c92 c34 c110 c116 c48 c120
                  go_enter Tryz.func113, Tryz.ntmps113
                  go_wp2_with (first
                    | (go_at_call 97; (with_reducible refine HN.out.mono ?_); rintro e w1 ⟨rfl, R1, T1⟩; have HR1 : Hid _ := ⟨R1⟩; have HT1 : Hid _ := ⟨T1⟩; clear R1 T1)
                    | (go_at_call 128; (with_reducible refine (HW.out _ HR1.out).mono ?_); rintro e w2 ⟨x, a', rfl, R2, T2⟩; have HR2 : Hid _ := ⟨R2⟩; have HT2 : Hid _ := ⟨HT1.out.trans T2⟩; clear R2 T2))
                  go_ret2
                  exact byt_no HM.out HR2.out HT2.out
                | some p =>
                  obtain ⟨x, j⟩ := p
                  rw [ht] at hE HW0
                  have HM : Hid (escM (c :: r) = some (x, j + 1)) := ⟨hE⟩
                  have HW : Hid _ := ⟨HW0⟩
                  dsimp only [BytE] at HW
                  clear h hz hL h1 h2 h3 HW0 hE ht c92 c34 c110 c116 c48 c120
                  go_enter Tryz.func113, Tryz.ntmps113
                  go_wp2_with (first
                    | (go_at_call 97; (with_reducible refine HN.out.mono ?_); rintro e w1 ⟨rfl, R1, T1⟩; have HR1 : Hid _ := ⟨R1⟩; have HT1 : Hid _ := ⟨T1⟩; clear R1 T1)
                    | (go_at_call 128; (with_reducible refine (HW.out _ HR1.out).mono ?_); rintro e w2 ⟨rfl, R2, T2⟩; have HR2 : Hid _ := ⟨R2⟩; have HT2 : Hid _ := ⟨HT1.out.trans T2⟩; clear R2 T2))
                  go_ret2
                  exact byt_yes HM.out rfl (by simp only; omega) HR2.out HT2.out
              · have q120 : (z == 120) = false := by rw [← hz', beq_eq_false_iff_ne]; intro e; exact c120 ((u8z (n := 120) (by omega)).1 e)
                have HM : Hid (escM (c :: r) = none) := ⟨by rw [esc_c]; simp [c92, c34, c110, c116, c48, c120]⟩
                clear h hz hL h1 h2 h3 c92 c34 c110 c116 c48 c120
                go_enter Tryz.func113, Tryz.ntmps113
                go_wp2_with (first
                  | (go_at_call 97; (with_reducible refine HN.out.mono ?_); rintro e w1 ⟨rfl, R1, T1⟩; have HR1 : Hid _ := ⟨R1⟩; have HT1 : Hid _ := ⟨T1⟩; clear R1 T1))
                go_ret2
                exact byt_no HM.out HR1.out HT1.out

/-- A byte of a text, behind its first ", if it is none. -/
def textM (l : List UInt8) : Option (UInt8 × Nat) :=
  match l with
  | [] => none
  | c :: r => if c = 92 then (escM r).map (fun p => (p.1, p.2 + 1)) else if 32 ≤ zOf c ∧ zOf c ≤ 126 then some (c, 1) else none
theorem text_le {l : List UInt8} {x : UInt8} {j : Nat} (h : textM l = some (x, j)) : 1 ≤ j ∧ j ≤ l.length := by
  cases l with
  | nil => cases h
  | cons c r =>
    have h' : (if c = 92 then (escM r).map (fun p => (p.1, p.2 + 1)) else if 32 ≤ zOf c ∧ zOf c ≤ 126 then some (c, 1) else none) = some (x, j) := h
    split at h'
    · cases he : escM r with
      | none => rw [he] at h'; cases h'
      | some p =>
        obtain ⟨y, i⟩ := p
        rw [he] at h'
        obtain ⟨e1, e2, _⟩ := esc_le he
        simp only [Option.map_some, Option.some.injEq, Prod.mk.injEq] at h'
        obtain ⟨_, rfl⟩ := h'
        simp; omega
    · split at h'
      · simp only [Option.some.injEq, Prod.mk.injEq] at h'
        obtain ⟨_, rfl⟩ := h'
        simp
      · cases h'
theorem quo_text (n : Nat) (c : UInt8) (r acc : List UInt8) (i : Nat) (h : ¬ c = 34) : quoF (n + 1) (c :: r) acc i = match textM (c :: r) with | none => none | some (x, j) => quoF n ((c :: r).drop j) (acc ++ [x]) (i + j) := by
  show (if c = 34 then some (acc, i + 1) else if zOf c < 32 ∨ 126 < zOf c then none else if c = 92 then (match escM r with | none => none | some (x, k) => quoF n (r.drop k) (acc ++ [x]) (i + 1 + k)) else quoF n r (acc ++ [c]) (i + 1)) = _
  have e : textM (c :: r) = if c = 92 then (escM r).map (fun p => (p.1, p.2 + 1)) else if 32 ≤ zOf c ∧ zOf c ≤ 126 then some (c, 1) else none := rfl
  rw [if_neg h, e]
  by_cases h92 : c = 92
  · rw [if_pos h92, if_neg (by rw [h92]; decide), if_pos h92]
    cases escM r with
    | none => rfl
    | some p =>
      obtain ⟨x, k⟩ := p
      simp only [Option.map_some, List.drop_succ_cons]
      congr 1
      omega
  · rw [if_neg h92, if_neg h92]
    by_cases g : 32 ≤ zOf c ∧ zOf c ≤ 126
    · rw [if_pos g, if_neg (by omega)]
      rfl
    · rw [if_neg g, if_pos (by omega)]

set_option maxHeartbeats 4000000 in
set_option maxRecDepth 10000 in
theorem textByte_any (h : RD w rb s a ln lv) (hl : s.size ≤ 8796093022208) (ha : a ≤ s.size) : Calls Tryz.prog 99 #[.pointer (some ⟨rb, 0, none⟩)] w fun e w' => BytE (textM (Ln s a)) rb s a ln lv w e w' := by
  obtain ⟨z, hz⟩ : ∃ z, hdZ (Ln s a) = z := ⟨_, rfl⟩
  have HN : Hid _ := ⟨next_t h hl ha hz⟩
  have HSh0 := fun W => isShown_any z W
  cases hL : Ln s a with
  | nil =>
    rw [hL] at hz
    have hz' : z = 10 := hz.symm
    subst hz'
    have HSh : Hid (∀ W, Calls Tryz.prog 98 #[.int .u8 10] W fun e w' => e = .returned (.bool false) ∧ w' = W) := ⟨HSh0⟩
    have HM : Hid (textM [] = none) := ⟨rfl⟩
    clear h hz hL HSh0
    go_enter Tryz.func99, Tryz.ntmps99
    go_wp2_with (first
      | (go_at_call 97; (with_reducible refine HN.out.mono ?_); rintro e w1 ⟨rfl, R1, T1⟩; have HR1 : Hid _ := ⟨R1⟩; have HT1 : Hid _ := ⟨T1⟩; clear R1 T1)
      | (go_at_call 98; (with_reducible refine (HSh.out _).mono ?_); rintro e w' ⟨rfl, hw'⟩; subst w'))
    go_ret2
    exact byt_no HM.out HR1.out HT1.out
  | cons c r =>
    rw [hL] at hz
    have hz' : zOf c = z := hz
    obtain ⟨h1, h2, h3⟩ := Ln_cons hL
    have hT : textM (c :: r) = if c = 92 then (escM r).map (fun p => (p.1, p.2 + 1)) else if 32 ≤ zOf c ∧ zOf c ≤ 126 then some (c, 1) else none := rfl
    by_cases c92 : c = 92
    · have q92 : (z == 92) = true := by rw [← hz', c92]; rfl
      rw [if_pos c92] at hT
      have HW0 : ∀ W, RD W rb s (a + 1) ln lv → Calls Tryz.prog 113 #[.pointer (some ⟨rb, 0, none⟩)] W fun e w' => BytE (escM r) rb s (a + 1) ln lv W e w' := fun W hW => by
        have := escape_any hW hl (by omega)
        rw [h3] at this
        exact this
      cases ht : escM r with
      | none =>
        rw [ht] at hT HW0
        have HM : Hid _ := ⟨hT⟩
        have HW : Hid _ := ⟨HW0⟩
        dsimp only [BytE] at HW
        clear h hz hL h1 h2 h3 HW0 hT ht HSh0 c92
        go_enter Tryz.func99, Tryz.ntmps99
        go_wp2_with (first
          | (go_at_call 97; (with_reducible refine HN.out.mono ?_); rintro e w1 ⟨rfl, R1, T1⟩; have HR1 : Hid _ := ⟨R1⟩; have HT1 : Hid _ := ⟨T1⟩; clear R1 T1)
          | (go_at_call 113; (with_reducible refine (HW.out _ HR1.out).mono ?_); rintro e w2 ⟨x, a', rfl, R2, T2⟩; have HR2 : Hid _ := ⟨R2⟩; have HT2 : Hid _ := ⟨HT1.out.trans T2⟩; clear R2 T2))
        go_ret2
        exact byt_no HM.out HR2.out HT2.out
      | some p =>
        obtain ⟨x, j⟩ := p
        rw [ht] at hT HW0
        have HM : Hid (textM (c :: r) = some (x, j + 1)) := ⟨hT⟩
        have HW : Hid _ := ⟨HW0⟩
        dsimp only [BytE] at HW
        clear h hz hL h1 h2 h3 HW0 hT ht HSh0 c92
        go_enter Tryz.func99, Tryz.ntmps99
        go_wp2_with (first
          | (go_at_call 97; (with_reducible refine HN.out.mono ?_); rintro e w1 ⟨rfl, R1, T1⟩; have HR1 : Hid _ := ⟨R1⟩; have HT1 : Hid _ := ⟨T1⟩; clear R1 T1)
          | (go_at_call 113; (with_reducible refine (HW.out _ HR1.out).mono ?_); rintro e w2 ⟨rfl, R2, T2⟩; have HR2 : Hid _ := ⟨R2⟩; have HT2 : Hid _ := ⟨HT1.out.trans T2⟩; clear R2 T2))
        go_ret2
        exact byt_yes HM.out rfl (by simp only; omega) HR2.out HT2.out
    · have q92 : (z == 92) = false := by rw [← hz', beq_eq_false_iff_ne]; intro e; exact c92 ((u8z (n := 92) (by omega)).1 e)
      rw [if_neg c92, hz'] at hT
      by_cases c32 : z = 32
      · have q32 : (z == 32) = true := by rw [c32]; rfl
        rw [if_pos (by omega)] at hT
        have HM : Hid _ := ⟨hT⟩
        clear h hz hL h1 h2 h3 hT HSh0 c92 c32
        go_enter Tryz.func99, Tryz.ntmps99
        go_wp2_with (go_at_call 97; (with_reducible refine HN.out.mono ?_); rintro e w1 ⟨rfl, R1, T1⟩; have HR1 : Hid _ := ⟨R1⟩; have HT1 : Hid _ := ⟨T1⟩; clear R1 T1)
        go_ret2
        exact byt_yes HM.out hz'.symm rfl HR1.out HT1.out
      · have q32 : (z == 32) = false := by simpa using c32
        by_cases g : 32 < z ∧ z ≤ 126
        · rw [if_pos (by omega)] at hT
          have HSh : Hid (∀ W, Calls Tryz.prog 98 #[.int .u8 z] W fun e w' => e = .returned (.bool true) ∧ w' = W) := ⟨fun W => by
            have := HSh0 W
            rw [decide_eq_true g.1, decide_eq_true g.2] at this
            exact this⟩
          have HM : Hid _ := ⟨hT⟩
          clear h hz hL h1 h2 h3 hT HSh0 c92 c32 g
          go_enter Tryz.func99, Tryz.ntmps99
          go_wp2_with (first
            | (go_at_call 97; (with_reducible refine HN.out.mono ?_); rintro e w1 ⟨rfl, R1, T1⟩; have HR1 : Hid _ := ⟨R1⟩; have HT1 : Hid _ := ⟨T1⟩; clear R1 T1)
            | (go_at_call 98; (with_reducible refine (HSh.out _).mono ?_); rintro e w' ⟨rfl, hw'⟩; subst w'))
          go_ret2
          exact byt_yes HM.out hz'.symm rfl HR1.out HT1.out
        · rw [if_neg (by omega)] at hT
          have HSh : Hid (∀ W, Calls Tryz.prog 98 #[.int .u8 z] W fun e w' => e = .returned (.bool false) ∧ w' = W) := ⟨fun W => by
            have := HSh0 W
            have e0 : (decide (32 < z) && decide (z ≤ 126)) = false := by
              rw [← Bool.decide_and]; exact decide_eq_false g
            rw [e0] at this
            exact this⟩
          have HM : Hid _ := ⟨hT⟩
          clear h hz hL h1 h2 h3 hT HSh0 c92 c32 g
          go_enter Tryz.func99, Tryz.ntmps99
          go_wp2_with (first
            | (go_at_call 97; (with_reducible refine HN.out.mono ?_); rintro e w1 ⟨rfl, R1, T1⟩; have HR1 : Hid _ := ⟨R1⟩; have HT1 : Hid _ := ⟨T1⟩; clear R1 T1)
            | (go_at_call 98; (with_reducible refine (HSh.out _).mono ?_); rintro e w' ⟨rfl, hw'⟩; subst w'))
          go_ret2
          exact byt_no HM.out HR1.out HT1.out
end
section
variable {w w1 w2 : World} {rb : Nat} {s : ByteArray} {a : Nat} {ln : Int} {lv : Value}

theorem RD.belowB (h : RD w rb s a ln lv) {B : Nat} (hb : Below B w w1) (hB : rb < B) : RD w1 rb s a ln lv :=
  h.turn (S := fun k => B ≤ k) ⟨hb.os, hb.tape, hb.output, hb.size, fun k hk hn => hb.block k (by omega)⟩ (fun e => by omega) (fun k e => by have := h.hi; omega)
theorem TR.grow (h : TR rb w w1) {B : Nat} (hb : Below B w1 w2) (hB : w.heap.size ≤ B) : TR rb w w2 :=
  ⟨hb.os.trans h.os, hb.tape.trans h.tape, hb.output.trans h.output, Nat.le_trans h.size hb.size, fun k hk hn => (hb.block k (by omega)).trans (h.block k hk hn)⟩
theorem TBP.belowB {g : Nat} (h : TBP w g) {B : Nat} (hb : Below B w w1) (hB : g < B) : TBP w1 g :=
  h.turn (S := fun k => B ≤ k) ⟨hb.os, hb.tape, hb.output, hb.size, fun k hk hn => hb.block k (by omega)⟩ (fun e => by omega)

theorem tok_no {M : Option (Tok × Nat)} (h : M = none) {w w' : World} {p q r : Int} {t : ByteArray} {a' : Nat} (R : RD w' rb s a' ln lv) (T : TR rb w w') : TokE M rb s a ln lv w (.returned (.tuple #[.agg #[.int .i64 p, .int .i64 q, .int .i64 r, .string t], .bool false])) w' := by subst h; exact ⟨p, q, r, t, a', rfl, R, T⟩
theorem tok_yes {M : Option (Tok × Nat)} {x : Tok × Nat} (h : M = some x) {w w' : World} {k n : Int} {t : ByteArray} (hk : k = x.1.k) (hn : n = x.1.n) (ht : t = St x.1.t) {a' : Nat} (ha : a' = a + x.2) (R : RD w' rb s a' ln lv) (T : TR rb w w') : TokE M rb s a ln lv w (.returned (.tuple #[.agg #[.int .i64 k, .int .i64 0, .int .i64 n, .string t], .bool true])) w' := by subst h; subst hk; subst hn; subst ht; subst ha; exact ⟨rfl, R, T⟩

/-- So far: acc has been read; the rest from k on. -/
def QP (L : List UInt8) (M : Option (List UInt8 × Nat)) (acc : List UInt8) (k : Nat) : Prop := k ≤ L.length ∧ acc.length ≤ k ∧ ∃ n, L.length < k + n ∧ M = quoF n (L.drop k) acc (k + 1)
theorem QP.nil {L : List UInt8} {M : Option (List UInt8 × Nat)} {acc : List UInt8} {k : Nat} (h : QP L M acc k) (hn : L.drop k = []) : M = none := by
  obtain ⟨_, _, n, _, rfl⟩ := h
  rw [hn]
  cases n <;> rfl
theorem QP.stop {L : List UInt8} {M : Option (List UInt8 × Nat)} {acc : List UInt8} {k : Nat} (h : QP L M acc k) {r : List UInt8} (hn : L.drop k = 34 :: r) : M = some (acc, k + 2) := by
  obtain ⟨hk, _, n, h2, rfl⟩ := h
  rw [hn]
  cases n with
  | zero => omega
  | succ n => rfl
theorem QP.none {L : List UInt8} {M : Option (List UInt8 × Nat)} {acc : List UInt8} {k : Nat} (h : QP L M acc k) {c : UInt8} {r : List UInt8} (hn : L.drop k = c :: r) (h34 : ¬ c = 34) (ht : textM (c :: r) = Option.none) : M = Option.none := by
  obtain ⟨hk, _, n, h2, rfl⟩ := h
  rw [hn]
  cases n with
  | zero => omega
  | succ n => rw [quo_text n c r acc _ h34, ht]
theorem QP.step {L : List UInt8} {M : Option (List UInt8 × Nat)} {acc : List UInt8} {k : Nat} (h : QP L M acc k) {c : UInt8} {r : List UInt8} (hn : L.drop k = c :: r) (h34 : ¬ c = 34) {x : UInt8} {j : Nat} (ht : textM (c :: r) = some (x, j)) : QP L M (acc ++ [x]) (k + j) := by
  obtain ⟨hk, hacc, n, h2, rfl⟩ := h
  obtain ⟨j1, j2⟩ := text_le ht
  have hlen : (c :: r).length = L.length - k := by rw [← hn, List.length_drop]
  refine ⟨by omega, by simp; omega, ?_⟩
  rw [hn]
  cases n with
  | zero => omega
  | succ n =>
    refine ⟨n, by omega, ?_⟩
    rw [quo_text n c r acc _ h34, ht, ← List.drop_drop, hn]
    simp only
    congr 1
    omega

set_option maxHeartbeats 4000000 in
set_option maxRecDepth 10000 in
theorem quotedText_any (h : RD w rb s a ln lv) (hl : s.size ≤ 8796093022208) (ha : a ≤ s.size) : Calls Tryz.prog 80 #[.pointer (some ⟨rb, 0, none⟩)] w fun e w' => TokE ((quoM (34 :: Ln s a)).map fun p => (⟨3, 0, p.1⟩, p.2 - 1)) rb s a ln lv w e w' := by
  have HR : Hid _ := ⟨h⟩
  have hne := h.lt
  obtain ⟨M, hM⟩ : ∃ M, quoM (34 :: Ln s a) = M := ⟨_, rfl⟩
  have HM0 : Hid (QP (Ln s a) M [] 0) := ⟨Nat.zero_le _, Nat.zero_le _, (Ln s a).length + 2, by omega, by rw [← hM]; rfl⟩
  have hLn := Ln_len s a
  rw [hM]
  clear h hM
  go_enter Tryz.func80, Tryz.ntmps80
  go_wp2_with fail
  go_loopw [4] (fun v wr => ∃ (k : Nat) (acc : List UInt8), k ≤ (Ln s a).length ∧ acc.length ≤ k ∧ Hid (RD wr rb s (a + k) ln lv ∧ TR rb (w.alloc tokZP) wr ∧ Own wr (w.heap.size + 1) v (acc.map zOf) ∧ QP (Ln s a) M acc k)) (fun _ wr => a + s.size + 1 - atOf wr rb)
  case atStart => exact ⟨0, [], Nat.zero_le _, Nat.zero_le _, ⟨HR.out.alloc tokZP, TR.self _ _, Own.nil _ _, HM0.out⟩⟩
  case round =>
    obtain ⟨k, acc, hk, hacc, HW⟩ := hrel
    obtain ⟨R1, T1, O1, Q1⟩ := HW.out
    have hak := Ln_top s k a hk ha
    have hme : Hid _ := ⟨R1.atOf⟩
    have hbs : w.heap.size + 1 ≤ wr.heap.size := by have := T1.size; simpa using this
    have hLk := Ln_drop s k a hk
    clear HM0
    cases hD : (Ln s a).drop k with
    | nil =>
      have HN : Hid (M = none) := ⟨Q1.nil hD⟩
      have HK : Hid _ := ⟨take_no R1 (by omega) (b := 34) (by rw [hLk, hD]; decide)⟩
      have HX : Hid (∀ W, RD W rb s (a + k) ln lv → Calls Tryz.prog 99 #[.pointer (some ⟨rb, 0, none⟩)] W fun e w' => ∃ (x : Int) (a' : Nat), e = .returned (.tuple #[.int .u8 x, .bool false]) ∧ RD w' rb s a' ln lv ∧ TR rb W w') := ⟨fun W hW => by
        have := textByte_any hW hl hak
        rw [hLk, hD] at this
        exact this⟩
      have HT1 : Hid _ := ⟨T1⟩
      clear R1 T1 O1 Q1 HW hD hLk
      go_wp2_with (first
        | (go_at_call 57; (with_reducible refine HK.out.mono ?_); rintro e w1 ⟨rfl, R2, T2⟩; have HR2 : Hid _ := ⟨R2⟩; have HT2 : Hid _ := ⟨HT1.out.trans T2⟩; clear R2 T2)
        | (go_at_call 99; (with_reducible refine (HX.out _ HR2.out).mono ?_); rintro e w3 ⟨x, a', rfl, R3, T3⟩; have HR3 : Hid _ := ⟨R3⟩; have HT3 : Hid _ := ⟨HT2.out.trans T3⟩; clear R3 T3; obtain ⟨d0, d1, d2, d3, fz⟩ := TBP.of HR.out HT3.out; have f0 := fz 0; have f1 := fz 1; have f2 := fz 2; have f3 := fz 3; clear fz))
      refine bodyPost_ret (resS_quotedText _ w3 w.heap.size _ _ _ _ rfl (TBP.of HR.out HT3.out)) rfl ?_
      exact tok_no (by rw [HN.out]; rfl) (HR3.out.set4 hne _ _ _ _) (TR.set4 HT3.out _ _ _ _)
    | cons c r =>
      by_cases h34 : c = 34
      · subst h34
        have HN : Hid (M = some (acc, k + 2)) := ⟨Q1.stop hD⟩
        have HK : Hid _ := ⟨take_yes R1 (by omega) (b := 34) (by rw [hLk, hD]; rfl)⟩
        have HT1 : Hid _ := ⟨T1⟩
        have HO1 : Hid _ := ⟨O1⟩
        clear R1 T1 O1 Q1 HW hD hLk
        go_wp2_with (first
          | (go_at_call 57; (with_reducible refine HK.out.mono ?_); rintro e w3 ⟨rfl, R3, T3⟩; have k1 := own_conv (show Own w3 _ _ _ from T3.row HO1.out (fun k hk e => by have := (HO1.out.lt k hk).1; omega)); have HR3 : Hid _ := ⟨R3⟩; have HT3 : Hid _ := ⟨HT1.out.trans T3⟩; clear R3 T3; obtain ⟨d0, d1, d2, d3, fz⟩ := TBP.of HR.out HT3.out; have f0 := fz 0; have f1 := fz 1; have f2 := fz 2; have f3 := fz 3; clear fz))
        refine bodyPost_ret (resS_quotedText _ w3 w.heap.size _ _ _ _ rfl (TBP.of HR.out HT3.out)) rfl ?_
        exact tok_yes (x := (⟨3, 0, acc⟩, k + 1)) (by rw [HN.out]; rfl) rfl rfl (str_St acc) (by simp only; omega) (HR3.out.set4 hne _ _ _ _) (TR.set4 HT3.out _ _ _ _)
      · have HK : Hid _ := ⟨take_no R1 (by omega) (b := 34) (by rw [hLk, hD]; exact fun e => h34 ((u8z (n := 34) (by omega)).1 e))⟩
        have HX0 : ∀ W, RD W rb s (a + k) ln lv → Calls Tryz.prog 99 #[.pointer (some ⟨rb, 0, none⟩)] W fun e w' => BytE (textM (c :: r)) rb s (a + k) ln lv W e w' := fun W hW => by
          have := textByte_any hW hl hak
          rw [hLk, hD] at this
          exact this
        have HT1 : Hid _ := ⟨T1⟩
        cases ht : textM (c :: r) with
        | none =>
          have HN : Hid (M = none) := ⟨Q1.none hD h34 ht⟩
          rw [ht] at HX0
          have HX : Hid _ := ⟨HX0⟩
          dsimp only [BytE] at HX
          clear R1 T1 O1 Q1 HW hD hLk HX0 ht h34
          go_wp2_with (first
            | (go_at_call 57; (with_reducible refine HK.out.mono ?_); rintro e w1 ⟨rfl, R2, T2⟩; have HR2 : Hid _ := ⟨R2⟩; have HT2 : Hid _ := ⟨HT1.out.trans T2⟩; clear R2 T2)
            | (go_at_call 99; (with_reducible refine (HX.out _ HR2.out).mono ?_); rintro e w3 ⟨x, a', rfl, R3, T3⟩; have HR3 : Hid _ := ⟨R3⟩; have HT3 : Hid _ := ⟨HT2.out.trans T3⟩; clear R3 T3; obtain ⟨d0, d1, d2, d3, fz⟩ := TBP.of HR.out HT3.out; have f0 := fz 0; have f1 := fz 1; have f2 := fz 2; have f3 := fz 3; clear fz))
          refine bodyPost_ret (resS_quotedText _ w3 w.heap.size _ _ _ _ rfl (TBP.of HR.out HT3.out)) rfl ?_
          exact tok_no (by rw [HN.out]; rfl) (HR3.out.set4 hne _ _ _ _) (TR.set4 HT3.out _ _ _ _)
        | some p =>
          obtain ⟨x, j⟩ := p
          have HQ2 : Hid _ := ⟨Q1.step hD h34 ht⟩
          obtain ⟨j1, j2⟩ := text_le ht
          have hlen : (c :: r).length = (Ln s a).length - k := by rw [← hD, List.length_drop]
          have hkj : k + j ≤ (Ln s a).length := by omega
          rw [ht] at HX0
          have HX : Hid _ := ⟨HX0⟩
          dsimp only [BytE] at HX
          have HO1 : Hid _ := ⟨O1⟩
          clear R1 T1 O1 Q1 HW hD hLk HX0 ht h34 j2 hlen
          go_wp2_with (first
            | (go_at_call 57; (with_reducible refine HK.out.mono ?_); rintro e w1 ⟨rfl, R2, T2⟩; have HO2 : Hid (Own w1 (w.heap.size + 1) _ (acc.map zOf)) := ⟨T2.row HO1.out (fun k hk e => by have := (HO1.out.lt k hk).1; omega)⟩; have HR2 : Hid _ := ⟨R2⟩; have HT2 : Hid _ := ⟨HT1.out.trans T2⟩; clear R2 T2)
            | (go_at_call 99; (with_reducible refine (HX.out _ HR2.out).mono ?_); rintro e w3 ⟨rfl, R3, T3⟩; have HO3 : Hid (Own w3 (w.heap.size + 1) _ (acc.map zOf)) := ⟨T3.row HO2.out (fun k hk e => by have := (HO2.out.lt k hk).1; omega)⟩; have HR3 : Hid _ := ⟨R3⟩; have HT3 : Hid _ := ⟨HT2.out.trans T3⟩; have hb3 : w.heap.size + 1 ≤ w3.heap.size := (by have := HT3.out.size; simpa using this); clear R3 T3)
            | (at_builtin; (refine append_byte w3 rfl _ _ rfl (w.heap.size + 1) _ (acc.map zOf) rfl (by exact HO3.out) (zOf x) rfl (by rw [List.length_map]; omega) hb3 ?_; intro v2 w9 ho2 hb2)))
          have R9 := HR3.out.belowB hb2 (by omega)
          have T9 := TR.grow HT3.out hb2 (by simp)
          have hme2 : Hid _ := ⟨R9.atOf⟩
          have R9' : RD w9 rb s (a + (k + j)) ln lv := by rw [← Nat.add_assoc]; exact R9
          go_roundw
          case rel => exact ⟨k + j, acc ++ [x], hkj, by simp; omega, ⟨R9', T9, by rw [List.map_append]; exact ho2, HQ2.out⟩⟩
          case measure => rw [hme.out, hme2.out]; omega
end
end Go.Proofs.YtljmbgflcidokaaGreatDoor
