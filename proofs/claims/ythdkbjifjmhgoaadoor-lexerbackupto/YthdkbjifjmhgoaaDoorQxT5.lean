/- The program's tokens: any number; the bytes of a text. -/
import Derived.Test.YthdkbjifjmhgoaaDoorQxT4
namespace Go.Proofs.YthdkbjifjmhgoaaDoor
open Go.ChangeShapes Go.WideShapes Go.ChangeAt Go.RowKit
set_option linter.unusedVariables false
set_option linter.unusedSimpArgs false
section
variable {w w1 w2 : World} {rb : Nat} {s : ByteArray} {a : Nat} {ln : Int} {lv : Value}

theorem u8z {c : UInt8} {n : Nat} (h : n < 256) : zOf c = (n : Int) ↔ c = UInt8.ofNat n := by
  constructor
  · intro e
    have : (c.toNat : Int) = (n : Int) := e
    exact nu8 (by omega) h
  · rintro rfl
    show ((UInt8.ofNat n).toNat : Int) = n
    simp; omega

theorem number_any (h : RD w rb s a ln lv) (hl : s.size ≤ 8796093022208) (ha : a ≤ s.size) {c : UInt8} {r : List UInt8} (hL : Ln s a = c :: r) (hc : isDig c = true) :
    Calls Tryd.prog 48 #[.pointer (some ⟨rb, 0, none⟩)] w fun e w' => TokE ((numM (c :: r)).map fun p => (⟨2, wrap64 p.1, []⟩, p.2)) rb s a ln lv w e w' := by
  obtain ⟨h1, h2, h3⟩ := Ln_cons hL
  by_cases h48 : c = 48
  · subst h48
    have HK : Hid _ := ⟨take_yes (h.alloc tokZP) (by omega) (b := 48) (by rw [hL]; rfl)⟩
    by_cases hx : hdZ r = 120
    · cases r with
      | nil => exact absurd hx (by decide)
      | cons d r' =>
        have hd : d = 120 := (u8z (n := 120) (by omega)).1 hx
        subst hd
        obtain ⟨g1, g2, g3⟩ := Ln_cons h3
        have HX : Hid (∀ W, RD W rb s (a + 1) ln lv → Calls Tryd.prog 34 #[.pointer (some ⟨rb, 0, none⟩), .int .u8 120] W fun e w' => e = .returned (.bool true) ∧ RD w' rb s (a + 2) ln lv ∧ TR rb W w') := ⟨fun W hW => take_yes hW (by omega) (by rw [h3]; rfl)⟩
        have hle := run_le 8 r'
        have HS : Hid (∀ W, RD W rb s (a + 2) ln lv → Calls Tryd.prog 31 #[.pointer (some ⟨rb, 0, none⟩), .int .u8 8] W fun e w' => e = .returned (.tuple #[]) ∧ RD w' rb s (a + 2 + runN 8 r') ln lv ∧ TR rb W w') := ⟨fun W hW => by
          have := skip_any hW 8 8 rfl (by omega) hl (by omega)
          rw [show Ln s (a + 2) = r' from g3] at this
          exact this⟩
        have ht := tail_16 s ln lv rb (a + 2) (runN 8 r') hl (by omega) (by rw [show Ln s (a + 2) = r' from g3]; exact hle) (fun x hx => by
          rw [show Ln s (a + 2) = r' from g3] at hx
          have := run_mem x hx
          rw [kB_hex] at this
          exact of_decide_eq_true this)
        rw [show Ln s (a + 2) = r' from g3] at ht
        refine number_B h _ (2 + runN 8 r') (a + 2) (runN 8 r') _ _ _ ht (by omega) (by rw [St_size, List.length_take, Nat.min_eq_left hle]) HK HX HS _ ?_
        rw [num_hex]
        generalize runN 8 r' = m
        by_cases hm0 : m = 0
        · rw [if_pos (.inl hm0), if_pos hm0]
          simp
        · rw [if_neg hm0]
          by_cases g : 16 < m ∨ kB 22 (hdZ (r'.drop m)) = true
          · rw [if_pos (.inr g), if_pos g]
          · rw [if_neg (by rintro (e | e); exact hm0 e; exact g e), if_neg g]
    · have HX : Hid (∀ W, RD W rb s (a + 1) ln lv → Calls Tryd.prog 34 #[.pointer (some ⟨rb, 0, none⟩), .int .u8 120] W fun e w' => e = .returned (.bool false) ∧ RD w' rb s (a + 1) ln lv ∧ TR rb W w') := ⟨fun W hW => take_no hW (by omega) (by rw [h3]; exact hx)⟩
      have ht := tail_10 s ln lv rb a 1 hl ha (by rw [hL]; simp) (fun x hx => by rw [hL] at hx; simp at hx; subst hx; rfl) (by omega)
      rw [hL] at ht
      refine number_C h (a + 1) 1 a _ _ _ ht rfl rfl HK HX _ ?_
      rw [num_nought r hx]
      rfl
  · have HK : Hid _ := ⟨take_no (h.alloc tokZP) (by omega) (b := 48) (by rw [hL]; exact fun e => h48 ((u8z (n := 48) (by omega)).1 e))⟩
    have hle := run_le 4 (c :: r)
    have HS : Hid (∀ W, RD W rb s a ln lv → Calls Tryd.prog 31 #[.pointer (some ⟨rb, 0, none⟩), .int .u8 4] W fun e w' => e = .returned (.tuple #[]) ∧ RD w' rb s (a + runN 4 (c :: r)) ln lv ∧ TR rb W w') := ⟨fun W hW => by
      have := skip_any hW 4 4 rfl (by omega) hl ha
      rw [hL] at this
      exact this⟩
    have ht := tail_10 s ln lv rb a (runN 4 (c :: r)) hl ha (by rw [hL]; exact hle) (fun x hx => by rw [hL] at hx; rw [← kB_dig]; exact run_mem x hx) (by rw [run_eq 4 isDig kB_dig, List.takeWhile_cons, hc]; simp)
    rw [hL] at ht
    exact number_A h _ _ a _ _ _ ht rfl rfl HK HS _ (num_dec c r hc h48)

/-- How a call that reads a byte of a text ends. -/
def BytE (m : Option (UInt8 × Nat)) (rb : Nat) (s : ByteArray) (a : Nat) (ln : Int) (lv : Value) (w : World) (e : Ending) (w' : World) : Prop :=
  match m with
  | none => ∃ (x : Int) (a' : Nat), e = .returned (.tuple #[.int .u8 x, .bool false]) ∧ RD w' rb s a' ln lv ∧ TR rb w w'
  | some p => e = .returned (.tuple #[.int .u8 (zOf p.1), .bool true]) ∧ RD w' rb s (a + p.2) ln lv ∧ TR rb w w'
def twoM (l : List UInt8) : Option (UInt8 × Nat) :=
  match l with
  | a :: b :: _ => if 0 ≤ hexZ (zOf a) ∧ 0 ≤ hexZ (zOf b) then some (UInt8.ofNat (16 * hexZ (zOf a) + hexZ (zOf b)).toNat, 2) else none
  | _ => none

theorem nil_eq (N : Nat) (W : World) : (binOp .eql 91 (.iface 119 (.pointer (some ⟨N, 0, none⟩))) .nilIface).run Tryd.prog W = .ok (.bool false) W := by
  kernel_rfl
end
end Go.Proofs.YthdkbjifjmhgoaaDoor
