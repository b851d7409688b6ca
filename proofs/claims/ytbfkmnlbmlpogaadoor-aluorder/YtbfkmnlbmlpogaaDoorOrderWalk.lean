/- The walk of AluOrder. -/
import Derived.Test.YtbfkmnlbmlpogaaDoorOrderPlain
import Derived.Test.YtbfkmnlbmlpogaaDoorLive
namespace Go.Proofs.YtbfkmnlbmlpogaaDoor
open Go.ChangeShapes Go.WideShapes Go.ChangeAt Go.RowKit
set_option linter.unusedVariables false

/-- Five flags lie in a block. -/
structure F5 (w : World) (b : Nat) (C P Z S O : Bool) : Prop where
  c0 : w.cell? ⟨b, 0, none⟩ = some (.bool C)
  c1 : w.cell? ⟨b, 1, none⟩ = some (.bool P)
  c2 : w.cell? ⟨b, 2, none⟩ = some (.bool Z)
  c3 : w.cell? ⟨b, 3, none⟩ = some (.bool S)
  c4 : w.cell? ⟨b, 4, none⟩ = some (.bool O)
theorem F5.new (w : World) (C P Z S O : Bool) (T : Nat) : F5 (w.alloc (.cells #[.bool C, .bool P, .bool Z, .bool S, .bool O] T)) w.heap.size C P Z S O := ⟨by simp, by simp, by simp, by simp, by simp⟩
theorem F5.bel {w v : World} {b : Nat} {C P Z S O : Bool} (h : F5 w b C P Z S O) (hb : Below w.heap.size w v) : F5 v b C P Z S O :=
  ⟨to_bel hb h.c0, to_bel hb h.c1, to_bel hb h.c2, to_bel hb h.c3, to_bel hb h.c4⟩
theorem F5.up {w : World} {b : Nat} {C P Z S O : Bool} (h : F5 w b C P Z S O) (o : Obj) : F5 (w.alloc o) b C P Z S O :=
  ⟨up_alloc h.c0 o, up_alloc h.c1 o, up_alloc h.c2 o, up_alloc h.c3 o, up_alloc h.c4 o⟩

theorem back_sx (n : Nat) (h0 : 1 ≤ n) (h1 : n ≤ 64) (x : Int) : wrap64 (sx n x % 18446744073709551616) = sx n x := by
  have h := sx_in n h0 x
  have p : (2 : Int) ^ (n - 1) ≤ 2 ^ 63 := pow_le_i (by omega)
  unfold wrap64; omega

theorem cond4b (n : Nat) (a b : Int) (C P S O : Bool) : condV 4 C P ((a - b - b2i false) % 2 ^ n == 0) S O = (a % 2 ^ n == b % 2 ^ n) := by
  rw [cond4, Bool.eq_iff_iff]; simp

theorem wide_or (sz : Int) : (∃ n c, Wide sz n c) ∨ ¬ (sz = 1 ∨ sz = 4 ∨ sz = 8) := by
  by_cases h1 : sz = 1
  · exact .inl ⟨8, 31, .inl ⟨h1, rfl, rfl⟩⟩
  · by_cases h4 : sz = 4
    · exact .inl ⟨32, 31, .inr (.inl ⟨h4, rfl, rfl⟩)⟩
    · by_cases h8 : sz = 8
      · exact .inl ⟨64, 63, .inr (.inr ⟨h8, rfl, rfl⟩)⟩
      · exact .inr (by omega)

set_option maxRecDepth 4000 in
theorem order_no (a b sz : Int) (w : World) (h : ¬ (sz = 1 ∨ sz = 4 ∨ sz = 8)) (hw : Wd w) :
    Calls Tryd.prog 8 #[.int .u64 a, .int .u64 b, .int .i64 sz] w fun e w' => e = .returned (.bool true) ∧ Below w.heap.size w w' := by
  have HH : Hid (¬ (sz = 1 ∨ sz = 4 ∨ sz = 8)) := h
  have HW : Hid (Wd w) := hw
  clear h hw
  go_enter Tryd.func8, Tryd.ntmps8
  go_wp2_with fail
  refine (sub_no _ _ _ _ _ HH.out HW.out).mono ?_; rintro e w1 ⟨rfl, hb1⟩
  have W1 : Hid (Wd w1) := HW.out.bel hb1
  have B1 := hb1
  go_wp2_with fail
  refine (trim_no _ _ _ HH.out (W1.out.alloc _)).mono ?_; rintro e w2 ⟨rfl, hb2⟩
  have W2 : Hid (Wd w2) := (W1.out.alloc _).bel hb2
  have B2 := bel_trans (bel_alloc B1 _) hb2
  go_wp2_with fail
  refine (trim_no _ _ _ HH.out W2.out).mono ?_; rintro e w3 ⟨rfl, hb3⟩
  have W3 : Hid (Wd w3) := W2.out.bel hb3
  have B3 := bel_trans B2 hb3
  go_wp2_with fail
  refine (extend_no _ _ _ HH.out W3.out).mono ?_; rintro e w4 ⟨rfl, hb4⟩
  have W4 : Hid (Wd w4) := W3.out.bel hb4
  have B4 := bel_trans B3 hb4
  go_wp2_with fail
  refine (extend_no _ _ _ HH.out W4.out).mono ?_; rintro e w5 ⟨rfl, hb5⟩
  have W5 : Hid (Wd w5) := W4.out.bel hb5
  have B5 := bel_trans B4 hb5
  go_wp2_with (first
    | (go_at_call 17; refine (num_any _ _).mono ?_; rintro e w6 ⟨rfl, hq⟩; subst w6)
    | (go_at_call 18; refine (live_any _ W5.out).mono ?_; rintro e w7 ⟨rfl, hb7⟩))
  go_ret
  exact ⟨rfl, bel_trans B5 hb7⟩

set_option maxRecDepth 4000 in
set_option maxHeartbeats 1000000 in
theorem order_yes (a b sz : Int) (n : Nat) (c : Int) (w : World) (h : Wide sz n c) (hw : Wd w) :
    Calls Tryd.prog 8 #[.int .u64 a, .int .u64 b, .int .i64 sz] w fun e w' => e = .returned (.bool true) ∧ Below w.heap.size w w' := by
  have h0 := h.lo
  have h1 := h.hi
  have HH : Hid (Wide sz n c) := h
  have HW : Hid (Wd w) := hw
  have ea := back_sx n h0 h1 a
  have eb := back_sx n h0 h1 b
  have E2 : Hid (∀ P Z S O, condV 2 (subC n a b (b2i false)) P Z S O = decide (a % 2 ^ n < b % 2 ^ n)) := cond2 n a b
  clear h hw
  go_enter Tryd.func8, Tryd.ntmps8
  go_wp2_with fail
  refine (sub_yes _ _ _ _ _ _ _ HH.out HW.out).mono ?_; rintro e w1 ⟨rfl, hb1⟩
  have W1 : Hid (Wd w1) := HW.out.bel hb1
  have B1 := hb1
  go_wp2_with fail
  refine (trim_yes _ _ _ _ _ HH.out (W1.out.alloc _)).mono ?_; rintro e w2 ⟨rfl, hb2⟩
  have F2 := (F5.new w1 _ _ _ _ _ _).bel hb2
  have W2 : Hid (Wd w2) := (W1.out.alloc _).bel hb2
  have B2 := bel_trans (bel_alloc B1 _) hb2
  go_wp2_with fail
  refine (trim_yes _ _ _ _ _ HH.out W2.out).mono ?_; rintro e w3 ⟨rfl, hb3⟩
  have F3 := F2.bel hb3
  have W3 : Hid (Wd w3) := W2.out.bel hb3
  have B3 := bel_trans B2 hb3
  go_wp2_with fail
  refine (extend_yes _ _ _ _ _ HH.out W3.out).mono ?_; rintro e w4 ⟨rfl, hb4⟩
  have F4 := F3.bel hb4
  have W4 : Hid (Wd w4) := W3.out.bel hb4
  have B4 := bel_trans B3 hb4
  go_wp2_with fail
  refine (extend_yes _ _ _ _ _ HH.out W4.out).mono ?_; rintro e w5 ⟨rfl, hb5⟩
  have F5' := F4.bel hb5
  have W5 : Hid (Wd w5) := W4.out.bel hb5
  have B5 := bel_trans B4 hb5
  clear hb1 hb2 hb3 hb4 hb5 F2 F3 F4 B1 B2 B3 B4
  obtain ⟨c50, c51, c52, c53, c54⟩ := F5'
  go_wp2_with (go_at_call 17; refine (num_any _ _).mono ?_; rintro e wn ⟨rfl, hq⟩; subst wn)
  refine (holds_any 2 (by omega) _ _ _ _ _ _).mono ?_; rintro e w6 ⟨he, hb⟩
  rw [cond2] at he; subst he
  have c60 := to_bel hb c50; have c61 := to_bel hb c51; have c62 := to_bel hb c52; have c63 := to_bel hb c53; have c64 := to_bel hb c54
  have W6 : Hid (Wd w6) := W5.out.bel hb
  have B6 := bel_trans B5 hb
  clear hb c50 c51 c52 c53 c54 B5 W5
  go_wp2_with (go_at_call 17; refine (num_any _ _).mono ?_; rintro e wn ⟨rfl, hq⟩; subst wn)
  refine (holds_any 6 (by omega) _ _ _ _ _ _).mono ?_; rintro e w7 ⟨he, hb⟩
  rw [cond6] at he; subst he
  have c70 := to_bel hb c60; have c71 := to_bel hb c61; have c72 := to_bel hb c62; have c73 := to_bel hb c63; have c74 := to_bel hb c64
  have W7 : Hid (Wd w7) := W6.out.bel hb
  have B7 := bel_trans B6 hb
  clear hb c60 c61 c62 c63 c64 B6 W6
  go_wp2_with (go_at_call 17; refine (num_any _ _).mono ?_; rintro e wn ⟨rfl, hq⟩; subst wn)
  refine (holds_any 4 (by omega) _ _ _ _ _ _).mono ?_; rintro e w8 ⟨he, hb⟩
  rw [cond4b] at he; subst he
  have c80 := to_bel hb c70; have c81 := to_bel hb c71; have c82 := to_bel hb c72; have c83 := to_bel hb c73; have c84 := to_bel hb c74
  have W8 : Hid (Wd w8) := W7.out.bel hb
  have B8 := bel_trans B7 hb
  clear hb c70 c71 c72 c73 c74 B7 W7
  go_wp2_with (go_at_call 17; refine (num_any _ _).mono ?_; rintro e wn ⟨rfl, hq⟩; subst wn)
  refine (holds_any 12 (by omega) _ _ _ _ _ _).mono ?_; rintro e w9 ⟨he, hb⟩
  rw [cond12 n h0] at he; subst he
  have c90 := to_bel hb c80; have c91 := to_bel hb c81; have c92 := to_bel hb c82; have c93 := to_bel hb c83; have c94 := to_bel hb c84
  have W9 : Hid (Wd w9) := W8.out.bel hb
  have B9 := bel_trans B8 hb
  clear hb c80 c81 c82 c83 c84 B8 W8
  go_wp2_with (go_at_call 17; refine (num_any _ _).mono ?_; rintro e wn ⟨rfl, hq⟩; subst wn)
  refine (holds_any 14 (by omega) _ _ _ _ _ _).mono ?_; rintro e w10 ⟨he, hb⟩
  rw [cond14 n h0] at he; subst he
  have c100 := to_bel hb c90; have c101 := to_bel hb c91; have c102 := to_bel hb c92; have c103 := to_bel hb c93; have c104 := to_bel hb c94
  have W10 : Hid (Wd w10) := W9.out.bel hb
  have B10 := bel_trans B9 hb
  clear hb c90 c91 c92 c93 c94 B9 W9
  go_wp2_with (go_at_call 18; refine (live_any _ W10.out).mono ?_; rintro e w11 ⟨rfl, hb11⟩)
  go_ret
  exact ⟨rfl, bel_trans B10 hb11⟩

theorem aluOrder_walk (a b sz : Int) (w : World) (ha : (Lit.int .u64 a).wf = true) (hb : (Lit.int .u64 b).wf = true) (hs : (Lit.int .i64 sz).wf = true) (hw : Wd w) :
    Calls Tryd.prog 8 #[.int .u64 a, .int .u64 b, .int .i64 sz] w fun e w' => e = .returned (.bool true) ∧ Below w.heap.size w w' := by
  rcases wide_or sz with ⟨n, c, h⟩ | h
  · exact order_yes a b sz n c w h hw
  · exact order_no a b sz w h hw
end Go.Proofs.YtbfkmnlbmlpogaaDoor
