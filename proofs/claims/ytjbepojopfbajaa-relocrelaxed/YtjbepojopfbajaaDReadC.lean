/- The contracts of the calls that put operands in: a number alone. -/
import Derived.Test.YtjbepojopfbajaaDInst
namespace Go.Proofs.Ytjbepojopfbajaa
open Go.ChangeShapes Go.WideShapes Go.ChangeAt Go.RowKit
set_option linter.unusedVariables false
set_option linter.unusedSimpArgs false

set_option maxHeartbeats 2000000 in
theorem rd_pushedLong_ok {w : World} {rb ib : Nat} {L : Ln} {a : Nat} {fs : Bool} {rex opc sz md rg rm : Int} (i : I) (hib : rb < ib) (ha : a ≤ L.len) (hr0 : 0 ≤ rm) (hr8 : rm < 8) (hg0 : 0 ≤ rg) (hg8 : rg < 8) (ho0 : 0 ≤ opc) (ho1 : opc < 65536) (m : Except Int (I × Nat)) (h : RS w rb L a fs rex opc sz md rg rm) (hI : IW w ib i) (x : Int) (a2 : Nat) (hn : lng L a 4 1 = .ok (x, a2)) (HR : Hid (m = .ok (((i).wFr (immO x)), a2))) :
    Calls Try.prog 80 #[.pointer (some ⟨rb, 0, none⟩), .pointer (some ⟨ib, 0, none⟩)] w fun e w' => EndsR (m) (fun j a' => RS w' rb L a' fs rex opc sz md rg rm ∧ IW w' ib j) e ∧ Fr rb ib w w' := by
  have HN : Hid (∀ u, RS u rb L a fs rex opc sz md rg rm → Calls Try.prog 101 #[.pointer (some ⟨rb, 0, none⟩), .int .i64 4, .int .i64 1] u fun e w' => Ends2 (.ok (x, a2)) (Value.int .i64) (fun a' => RS w' rb L a' fs rex opc sz md rg rm) e ∧ Fr rb rb u w') := ⟨fun u hu => hn ▸ long41 ha hu⟩
  (have x0_c := hI); obtain ⟨⟨x0_0, x0_1, x0_2, x0_3, x0_4, x0_5, x0_6, x0_7, x0_8, x0_9, x0_10, x0_11, x0_12, x0_13, x0_14, x0_15, x0_16, x0_17, x0_18, x0_19, x0_20, x0_21, x0_22, x0_23⟩, x0_z⟩ := x0_c
  (have y0_c := h); obtain ⟨y0_0, y0_1, y0_2, y0_3, y0_4, y0_5, y0_6, y0_7, y0_8, y0_z, y0_l⟩ := y0_c
  have hia : Hid (ib < w.heap.size) := ⟨World.block_lt_of_cell? w ⟨ib, 0, none⟩ hI.ia.c0⟩
  go_enter Try.func80, Try.ntmps80
  go_wp2_with (first
    | (go_at_call 101; (with_reducible refine (HN.out _ (h)).mono ?_); rintro e w1 ⟨he, hfr1⟩; obtain ⟨he', R1⟩ := he; subst he'; (have I1 := IW.fr (hI) hfr1 (by omega) (by omega)); (have F1 := ((Fr.refl rb ib w)).then (hfr1.wide)); (have x1_c := I1); obtain ⟨⟨x1_0, x1_1, x1_2, x1_3, x1_4, x1_5, x1_6, x1_7, x1_8, x1_9, x1_10, x1_11, x1_12, x1_13, x1_14, x1_15, x1_16, x1_17, x1_18, x1_19, x1_20, x1_21, x1_22, x1_23⟩, x1_z⟩ := x1_c; (have y1_c := R1); obtain ⟨y1_0, y1_1, y1_2, y1_3, y1_4, y1_5, y1_6, y1_7, y1_8, y1_z, y1_l⟩ := y1_c)
    | (go_at_call 100; (with_reducible refine (immO_any _ _).mono ?_); rintro e w2 ⟨rfl, hb2⟩; (have R2 := RS.bel (R1) hb2); (have I2 := IW.bel (I1) hb2); (have F2 := Fr.bel (F1) hb2); (have x2_c := I2); obtain ⟨⟨x2_0, x2_1, x2_2, x2_3, x2_4, x2_5, x2_6, x2_7, x2_8, x2_9, x2_10, x2_11, x2_12, x2_13, x2_14, x2_15, x2_16, x2_17, x2_18, x2_19, x2_20, x2_21, x2_22, x2_23⟩, x2_z⟩ := x2_c; (have y2_c := R2); obtain ⟨y2_0, y2_1, y2_2, y2_3, y2_4, y2_5, y2_6, y2_7, y2_8, y2_z, y2_l⟩ := y2_c))
  have R9 := RS.setFr (R2) hib (immO x)
  have I9 := IW.setFr (I2) (immO x)
  have F9 := Fr.setFr (F2) (.inr (.inl rfl)) (immO x)
  try dsimp only [setTo, setFr, I.wTo, I.wFr, I.wSz, I.wSh] at R9 I9 F9
  first | go_end0 | refine bodyPost_ret (results_none rfl _ _ _) rfl ?_
  refine ⟨?_, F9⟩
  rw [HR.out]
  exact ⟨rfl, R9, I9⟩

set_option maxHeartbeats 2000000 in
theorem rd_pushedLong_no {w : World} {rb ib : Nat} {L : Ln} {a : Nat} {fs : Bool} {rex opc sz md rg rm : Int} (i : I) (hib : rb < ib) (ha : a ≤ L.len) (hr0 : 0 ≤ rm) (hr8 : rm < 8) (hg0 : 0 ≤ rg) (hg8 : rg < 8) (ho0 : 0 ≤ opc) (ho1 : opc < 65536) (m : Except Int (I × Nat)) (h : RS w rb L a fs rex opc sz md rg rm) (hI : IW w ib i) (n : Int) (hn : lng L a 4 1 = .error n) (HR : Hid (m = .error n)) :
    Calls Try.prog 80 #[.pointer (some ⟨rb, 0, none⟩), .pointer (some ⟨ib, 0, none⟩)] w fun e w' => EndsR (m) (fun j a' => RS w' rb L a' fs rex opc sz md rg rm ∧ IW w' ib j) e ∧ Fr rb ib w w' := by
  have HN : Hid (∀ u, RS u rb L a fs rex opc sz md rg rm → Calls Try.prog 101 #[.pointer (some ⟨rb, 0, none⟩), .int .i64 4, .int .i64 1] u fun e w' => Ends2 (.error n) (Value.int .i64) (fun a' => RS w' rb L a' fs rex opc sz md rg rm) e ∧ Fr rb rb u w') := ⟨fun u hu => hn ▸ long41 ha hu⟩
  (have x0_c := hI); obtain ⟨⟨x0_0, x0_1, x0_2, x0_3, x0_4, x0_5, x0_6, x0_7, x0_8, x0_9, x0_10, x0_11, x0_12, x0_13, x0_14, x0_15, x0_16, x0_17, x0_18, x0_19, x0_20, x0_21, x0_22, x0_23⟩, x0_z⟩ := x0_c
  (have y0_c := h); obtain ⟨y0_0, y0_1, y0_2, y0_3, y0_4, y0_5, y0_6, y0_7, y0_8, y0_z, y0_l⟩ := y0_c
  have hia : Hid (ib < w.heap.size) := ⟨World.block_lt_of_cell? w ⟨ib, 0, none⟩ hI.ia.c0⟩
  go_enter Try.func80, Try.ntmps80
  go_wp2_with (first
    | (go_at_call 101; (with_reducible refine (HN.out _ (h)).mono ?_); rintro e w1 ⟨he, hfr1⟩; (have he' : _ = _ := he); subst he'))
  have F9 := (((Fr.refl rb ib w)).then (hfr1.wide))
  refine ⟨rfl, ?_, F9⟩
  rw [HR.out]; rfl

set_option maxHeartbeats 2000000 in
theorem rd_pushedShort_ok {w : World} {rb ib : Nat} {L : Ln} {a : Nat} {fs : Bool} {rex opc sz md rg rm : Int} (i : I) (hib : rb < ib) (ha : a ≤ L.len) (hr0 : 0 ≤ rm) (hr8 : rm < 8) (hg0 : 0 ≤ rg) (hg8 : rg < 8) (ho0 : 0 ≤ opc) (ho1 : opc < 65536) (m : Except Int (I × Nat)) (h : RS w rb L a fs rex opc sz md rg rm) (hI : IW w ib i) (x : Int) (a2 : Nat) (hn : num L a 1 = .ok (x, a2)) (HR : Hid (m = .ok (((i).wFr (immO x)), a2))) :
    Calls Try.prog 81 #[.pointer (some ⟨rb, 0, none⟩), .pointer (some ⟨ib, 0, none⟩)] w fun e w' => EndsR (m) (fun j a' => RS w' rb L a' fs rex opc sz md rg rm ∧ IW w' ib j) e ∧ Fr rb ib w w' := by
  have HN : Hid (∀ u, RS u rb L a fs rex opc sz md rg rm → Calls Try.prog 102 #[.pointer (some ⟨rb, 0, none⟩), .int .i64 1] u fun e w' => Ends2 (.ok (x, a2)) (Value.int .i64) (fun a' => RS w' rb L a' fs rex opc sz md rg rm) e ∧ Fr rb rb u w') := ⟨fun u hu => hn ▸ number1 ha hu⟩
  (have x0_c := hI); obtain ⟨⟨x0_0, x0_1, x0_2, x0_3, x0_4, x0_5, x0_6, x0_7, x0_8, x0_9, x0_10, x0_11, x0_12, x0_13, x0_14, x0_15, x0_16, x0_17, x0_18, x0_19, x0_20, x0_21, x0_22, x0_23⟩, x0_z⟩ := x0_c
  (have y0_c := h); obtain ⟨y0_0, y0_1, y0_2, y0_3, y0_4, y0_5, y0_6, y0_7, y0_8, y0_z, y0_l⟩ := y0_c
  have hia : Hid (ib < w.heap.size) := ⟨World.block_lt_of_cell? w ⟨ib, 0, none⟩ hI.ia.c0⟩
  go_enter Try.func81, Try.ntmps81
  go_wp2_with (first
    | (go_at_call 102; (with_reducible refine (HN.out _ (h)).mono ?_); rintro e w1 ⟨he, hfr1⟩; obtain ⟨he', R1⟩ := he; subst he'; (have I1 := IW.fr (hI) hfr1 (by omega) (by omega)); (have F1 := ((Fr.refl rb ib w)).then (hfr1.wide)); (have x1_c := I1); obtain ⟨⟨x1_0, x1_1, x1_2, x1_3, x1_4, x1_5, x1_6, x1_7, x1_8, x1_9, x1_10, x1_11, x1_12, x1_13, x1_14, x1_15, x1_16, x1_17, x1_18, x1_19, x1_20, x1_21, x1_22, x1_23⟩, x1_z⟩ := x1_c; (have y1_c := R1); obtain ⟨y1_0, y1_1, y1_2, y1_3, y1_4, y1_5, y1_6, y1_7, y1_8, y1_z, y1_l⟩ := y1_c)
    | (go_at_call 100; (with_reducible refine (immO_any _ _).mono ?_); rintro e w2 ⟨rfl, hb2⟩; (have R2 := RS.bel (R1) hb2); (have I2 := IW.bel (I1) hb2); (have F2 := Fr.bel (F1) hb2); (have x2_c := I2); obtain ⟨⟨x2_0, x2_1, x2_2, x2_3, x2_4, x2_5, x2_6, x2_7, x2_8, x2_9, x2_10, x2_11, x2_12, x2_13, x2_14, x2_15, x2_16, x2_17, x2_18, x2_19, x2_20, x2_21, x2_22, x2_23⟩, x2_z⟩ := x2_c; (have y2_c := R2); obtain ⟨y2_0, y2_1, y2_2, y2_3, y2_4, y2_5, y2_6, y2_7, y2_8, y2_z, y2_l⟩ := y2_c))
  have R9 := RS.setFr (R2) hib (immO x)
  have I9 := IW.setFr (I2) (immO x)
  have F9 := Fr.setFr (F2) (.inr (.inl rfl)) (immO x)
  try dsimp only [setTo, setFr, I.wTo, I.wFr, I.wSz, I.wSh] at R9 I9 F9
  first | go_end0 | refine bodyPost_ret (results_none rfl _ _ _) rfl ?_
  refine ⟨?_, F9⟩
  rw [HR.out]
  exact ⟨rfl, R9, I9⟩

set_option maxHeartbeats 2000000 in
theorem rd_pushedShort_no {w : World} {rb ib : Nat} {L : Ln} {a : Nat} {fs : Bool} {rex opc sz md rg rm : Int} (i : I) (hib : rb < ib) (ha : a ≤ L.len) (hr0 : 0 ≤ rm) (hr8 : rm < 8) (hg0 : 0 ≤ rg) (hg8 : rg < 8) (ho0 : 0 ≤ opc) (ho1 : opc < 65536) (m : Except Int (I × Nat)) (h : RS w rb L a fs rex opc sz md rg rm) (hI : IW w ib i) (n : Int) (hn : num L a 1 = .error n) (HR : Hid (m = .error n)) :
    Calls Try.prog 81 #[.pointer (some ⟨rb, 0, none⟩), .pointer (some ⟨ib, 0, none⟩)] w fun e w' => EndsR (m) (fun j a' => RS w' rb L a' fs rex opc sz md rg rm ∧ IW w' ib j) e ∧ Fr rb ib w w' := by
  have HN : Hid (∀ u, RS u rb L a fs rex opc sz md rg rm → Calls Try.prog 102 #[.pointer (some ⟨rb, 0, none⟩), .int .i64 1] u fun e w' => Ends2 (.error n) (Value.int .i64) (fun a' => RS w' rb L a' fs rex opc sz md rg rm) e ∧ Fr rb rb u w') := ⟨fun u hu => hn ▸ number1 ha hu⟩
  (have x0_c := hI); obtain ⟨⟨x0_0, x0_1, x0_2, x0_3, x0_4, x0_5, x0_6, x0_7, x0_8, x0_9, x0_10, x0_11, x0_12, x0_13, x0_14, x0_15, x0_16, x0_17, x0_18, x0_19, x0_20, x0_21, x0_22, x0_23⟩, x0_z⟩ := x0_c
  (have y0_c := h); obtain ⟨y0_0, y0_1, y0_2, y0_3, y0_4, y0_5, y0_6, y0_7, y0_8, y0_z, y0_l⟩ := y0_c
  have hia : Hid (ib < w.heap.size) := ⟨World.block_lt_of_cell? w ⟨ib, 0, none⟩ hI.ia.c0⟩
  go_enter Try.func81, Try.ntmps81
  go_wp2_with (first
    | (go_at_call 102; (with_reducible refine (HN.out _ (h)).mono ?_); rintro e w1 ⟨he, hfr1⟩; (have he' : _ = _ := he); subst he'))
  have F9 := (((Fr.refl rb ib w)).then (hfr1.wide))
  refine ⟨rfl, ?_, F9⟩
  rw [HR.out]; rfl

set_option maxHeartbeats 2000000 in
theorem rd_jumped_ok {w : World} {rb ib : Nat} {L : Ln} {a : Nat} {fs : Bool} {rex opc sz md rg rm : Int} (i : I) (hib : rb < ib) (ha : a ≤ L.len) (hr0 : 0 ≤ rm) (hr8 : rm < 8) (hg0 : 0 ≤ rg) (hg8 : rg < 8) (ho0 : 0 ≤ opc) (ho1 : opc < 65536) (m : Except Int (I × Nat)) (h : RS w rb L a fs rex opc sz md rg rm) (hI : IW w ib i) (x : Int) (a2 : Nat) (hn : num L a 4 = .ok (x, a2)) (HR : Hid (m = .ok (((i).wTo (⟨4, 0, 0, 0, 0, false, false, x, ⟨#[]⟩, 0⟩)), a2))) :
    Calls Try.prog 94 #[.pointer (some ⟨rb, 0, none⟩), .pointer (some ⟨ib, 0, none⟩)] w fun e w' => EndsR (m) (fun j a' => RS w' rb L a' fs rex opc sz md rg rm ∧ IW w' ib j) e ∧ Fr rb ib w w' := by
  have HN : Hid (∀ u, RS u rb L a fs rex opc sz md rg rm → Calls Try.prog 102 #[.pointer (some ⟨rb, 0, none⟩), .int .i64 4] u fun e w' => Ends2 (.ok (x, a2)) (Value.int .i64) (fun a' => RS w' rb L a' fs rex opc sz md rg rm) e ∧ Fr rb rb u w') := ⟨fun u hu => hn ▸ number4 ha hu⟩
  (have x0_c := hI); obtain ⟨⟨x0_0, x0_1, x0_2, x0_3, x0_4, x0_5, x0_6, x0_7, x0_8, x0_9, x0_10, x0_11, x0_12, x0_13, x0_14, x0_15, x0_16, x0_17, x0_18, x0_19, x0_20, x0_21, x0_22, x0_23⟩, x0_z⟩ := x0_c
  (have y0_c := h); obtain ⟨y0_0, y0_1, y0_2, y0_3, y0_4, y0_5, y0_6, y0_7, y0_8, y0_z, y0_l⟩ := y0_c
  have hia : Hid (ib < w.heap.size) := ⟨World.block_lt_of_cell? w ⟨ib, 0, none⟩ hI.ia.c0⟩
  go_enter Try.func94, Try.ntmps94
  go_wp2_with (first
    | (go_at_call 102; (with_reducible refine (HN.out _ (h)).mono ?_); rintro e w1 ⟨he, hfr1⟩; obtain ⟨he', R1⟩ := he; subst he'; (have I1 := IW.fr (hI) hfr1 (by omega) (by omega)); (have F1 := ((Fr.refl rb ib w)).then (hfr1.wide)); (have x1_c := I1); obtain ⟨⟨x1_0, x1_1, x1_2, x1_3, x1_4, x1_5, x1_6, x1_7, x1_8, x1_9, x1_10, x1_11, x1_12, x1_13, x1_14, x1_15, x1_16, x1_17, x1_18, x1_19, x1_20, x1_21, x1_22, x1_23⟩, x1_z⟩ := x1_c; (have y1_c := R1); obtain ⟨y1_0, y1_1, y1_2, y1_3, y1_4, y1_5, y1_6, y1_7, y1_8, y1_z, y1_l⟩ := y1_c))
  have R9 := RS.setTo (R1) hib (⟨4, 0, 0, 0, 0, false, false, x, ⟨#[]⟩, 0⟩)
  have I9 := IW.setTo (I1) (⟨4, 0, 0, 0, 0, false, false, x, ⟨#[]⟩, 0⟩)
  have F9 := Fr.setTo (F1) (.inr (.inl rfl)) (⟨4, 0, 0, 0, 0, false, false, x, ⟨#[]⟩, 0⟩)
  try dsimp only [setTo, setFr, I.wTo, I.wFr, I.wSz, I.wSh] at R9 I9 F9
  first | go_end0 | refine bodyPost_ret (results_none rfl _ _ _) rfl ?_
  refine ⟨?_, F9⟩
  rw [HR.out]
  exact ⟨rfl, R9, I9⟩

set_option maxHeartbeats 2000000 in
theorem rd_jumped_no {w : World} {rb ib : Nat} {L : Ln} {a : Nat} {fs : Bool} {rex opc sz md rg rm : Int} (i : I) (hib : rb < ib) (ha : a ≤ L.len) (hr0 : 0 ≤ rm) (hr8 : rm < 8) (hg0 : 0 ≤ rg) (hg8 : rg < 8) (ho0 : 0 ≤ opc) (ho1 : opc < 65536) (m : Except Int (I × Nat)) (h : RS w rb L a fs rex opc sz md rg rm) (hI : IW w ib i) (n : Int) (hn : num L a 4 = .error n) (HR : Hid (m = .error n)) :
    Calls Try.prog 94 #[.pointer (some ⟨rb, 0, none⟩), .pointer (some ⟨ib, 0, none⟩)] w fun e w' => EndsR (m) (fun j a' => RS w' rb L a' fs rex opc sz md rg rm ∧ IW w' ib j) e ∧ Fr rb ib w w' := by
  have HN : Hid (∀ u, RS u rb L a fs rex opc sz md rg rm → Calls Try.prog 102 #[.pointer (some ⟨rb, 0, none⟩), .int .i64 4] u fun e w' => Ends2 (.error n) (Value.int .i64) (fun a' => RS w' rb L a' fs rex opc sz md rg rm) e ∧ Fr rb rb u w') := ⟨fun u hu => hn ▸ number4 ha hu⟩
  (have x0_c := hI); obtain ⟨⟨x0_0, x0_1, x0_2, x0_3, x0_4, x0_5, x0_6, x0_7, x0_8, x0_9, x0_10, x0_11, x0_12, x0_13, x0_14, x0_15, x0_16, x0_17, x0_18, x0_19, x0_20, x0_21, x0_22, x0_23⟩, x0_z⟩ := x0_c
  (have y0_c := h); obtain ⟨y0_0, y0_1, y0_2, y0_3, y0_4, y0_5, y0_6, y0_7, y0_8, y0_z, y0_l⟩ := y0_c
  have hia : Hid (ib < w.heap.size) := ⟨World.block_lt_of_cell? w ⟨ib, 0, none⟩ hI.ia.c0⟩
  go_enter Try.func94, Try.ntmps94
  go_wp2_with (first
    | (go_at_call 102; (with_reducible refine (HN.out _ (h)).mono ?_); rintro e w1 ⟨he, hfr1⟩; (have he' : _ = _ := he); subst he'))
  have F9 := (((Fr.refl rb ib w)).then (hfr1.wide))
  refine ⟨rfl, ?_, F9⟩
  rw [HR.out]; rfl

set_option maxHeartbeats 2000000 in
theorem rd_jumpedShort_ok {w : World} {rb ib : Nat} {L : Ln} {a : Nat} {fs : Bool} {rex opc sz md rg rm : Int} (i : I) (hib : rb < ib) (ha : a ≤ L.len) (hr0 : 0 ≤ rm) (hr8 : rm < 8) (hg0 : 0 ≤ rg) (hg8 : rg < 8) (ho0 : 0 ≤ opc) (ho1 : opc < 65536) (m : Except Int (I × Nat)) (h : RS w rb L a fs rex opc sz md rg rm) (hI : IW w ib i) (x : Int) (a2 : Nat) (hn : num L a 1 = .ok (x, a2)) (HR : Hid (m = .ok ((((i).wTo (⟨4, 0, 0, 0, 0, false, false, x, ⟨#[]⟩, 0⟩)).wSh true), a2))) :
    Calls Try.prog 82 #[.pointer (some ⟨rb, 0, none⟩), .pointer (some ⟨ib, 0, none⟩)] w fun e w' => EndsR (m) (fun j a' => RS w' rb L a' fs rex opc sz md rg rm ∧ IW w' ib j) e ∧ Fr rb ib w w' := by
  have HN : Hid (∀ u, RS u rb L a fs rex opc sz md rg rm → Calls Try.prog 102 #[.pointer (some ⟨rb, 0, none⟩), .int .i64 1] u fun e w' => Ends2 (.ok (x, a2)) (Value.int .i64) (fun a' => RS w' rb L a' fs rex opc sz md rg rm) e ∧ Fr rb rb u w') := ⟨fun u hu => hn ▸ number1 ha hu⟩
  (have x0_c := hI); obtain ⟨⟨x0_0, x0_1, x0_2, x0_3, x0_4, x0_5, x0_6, x0_7, x0_8, x0_9, x0_10, x0_11, x0_12, x0_13, x0_14, x0_15, x0_16, x0_17, x0_18, x0_19, x0_20, x0_21, x0_22, x0_23⟩, x0_z⟩ := x0_c
  (have y0_c := h); obtain ⟨y0_0, y0_1, y0_2, y0_3, y0_4, y0_5, y0_6, y0_7, y0_8, y0_z, y0_l⟩ := y0_c
  have hia : Hid (ib < w.heap.size) := ⟨World.block_lt_of_cell? w ⟨ib, 0, none⟩ hI.ia.c0⟩
  go_enter Try.func82, Try.ntmps82
  go_wp2_with (first
    | (go_at_call 102; (with_reducible refine (HN.out _ (h)).mono ?_); rintro e w1 ⟨he, hfr1⟩; obtain ⟨he', R1⟩ := he; subst he'; (have I1 := IW.fr (hI) hfr1 (by omega) (by omega)); (have F1 := ((Fr.refl rb ib w)).then (hfr1.wide)); (have x1_c := I1); obtain ⟨⟨x1_0, x1_1, x1_2, x1_3, x1_4, x1_5, x1_6, x1_7, x1_8, x1_9, x1_10, x1_11, x1_12, x1_13, x1_14, x1_15, x1_16, x1_17, x1_18, x1_19, x1_20, x1_21, x1_22, x1_23⟩, x1_z⟩ := x1_c; (have y1_c := R1); obtain ⟨y1_0, y1_1, y1_2, y1_3, y1_4, y1_5, y1_6, y1_7, y1_8, y1_z, y1_l⟩ := y1_c))
  have R9 := RS.fr (RS.setTo (R1) hib (⟨4, 0, 0, 0, 0, false, false, x, ⟨#[]⟩, 0⟩)) ((Fr.refl ib ib _).setA 23 (.bool true)) hib hib
  have I9 := IW.short (IW.setTo (I1) (⟨4, 0, 0, 0, 0, false, false, x, ⟨#[]⟩, 0⟩)) (true)
  have F9 := Fr.setB (Fr.setTo (F1) (.inr (.inl rfl)) (⟨4, 0, 0, 0, 0, false, false, x, ⟨#[]⟩, 0⟩)) 23 (.bool true)
  try dsimp only [setTo, setFr, I.wTo, I.wFr, I.wSz, I.wSh] at R9 I9 F9
  first | go_end0 | refine bodyPost_ret (results_none rfl _ _ _) rfl ?_
  refine ⟨?_, F9⟩
  rw [HR.out]
  exact ⟨rfl, R9, I9⟩

set_option maxHeartbeats 2000000 in
theorem rd_jumpedShort_no {w : World} {rb ib : Nat} {L : Ln} {a : Nat} {fs : Bool} {rex opc sz md rg rm : Int} (i : I) (hib : rb < ib) (ha : a ≤ L.len) (hr0 : 0 ≤ rm) (hr8 : rm < 8) (hg0 : 0 ≤ rg) (hg8 : rg < 8) (ho0 : 0 ≤ opc) (ho1 : opc < 65536) (m : Except Int (I × Nat)) (h : RS w rb L a fs rex opc sz md rg rm) (hI : IW w ib i) (n : Int) (hn : num L a 1 = .error n) (HR : Hid (m = .error n)) :
    Calls Try.prog 82 #[.pointer (some ⟨rb, 0, none⟩), .pointer (some ⟨ib, 0, none⟩)] w fun e w' => EndsR (m) (fun j a' => RS w' rb L a' fs rex opc sz md rg rm ∧ IW w' ib j) e ∧ Fr rb ib w w' := by
  have HN : Hid (∀ u, RS u rb L a fs rex opc sz md rg rm → Calls Try.prog 102 #[.pointer (some ⟨rb, 0, none⟩), .int .i64 1] u fun e w' => Ends2 (.error n) (Value.int .i64) (fun a' => RS w' rb L a' fs rex opc sz md rg rm) e ∧ Fr rb rb u w') := ⟨fun u hu => hn ▸ number1 ha hu⟩
  (have x0_c := hI); obtain ⟨⟨x0_0, x0_1, x0_2, x0_3, x0_4, x0_5, x0_6, x0_7, x0_8, x0_9, x0_10, x0_11, x0_12, x0_13, x0_14, x0_15, x0_16, x0_17, x0_18, x0_19, x0_20, x0_21, x0_22, x0_23⟩, x0_z⟩ := x0_c
  (have y0_c := h); obtain ⟨y0_0, y0_1, y0_2, y0_3, y0_4, y0_5, y0_6, y0_7, y0_8, y0_z, y0_l⟩ := y0_c
  have hia : Hid (ib < w.heap.size) := ⟨World.block_lt_of_cell? w ⟨ib, 0, none⟩ hI.ia.c0⟩
  go_enter Try.func82, Try.ntmps82
  go_wp2_with (first
    | (go_at_call 102; (with_reducible refine (HN.out _ (h)).mono ?_); rintro e w1 ⟨he, hfr1⟩; (have he' : _ = _ := he); subst he'))
  have F9 := (((Fr.refl rb ib w)).then (hfr1.wide))
  refine ⟨rfl, ?_, F9⟩
  rw [HR.out]; rfl

set_option maxHeartbeats 2000000 in
theorem rd_moved_ok1 {w : World} {rb ib : Nat} {L : Ln} {a : Nat} {fs : Bool} {rex opc md rg rm : Int} (i : I) (hib : rb < ib) (ha : a ≤ L.len) (hr0 : 0 ≤ rm) (hr8 : rm < 8) (hg0 : 0 ≤ rg) (hg8 : rg < 8) (ho0 : 0 ≤ opc) (ho1 : opc < 65536) (m : Except Int (I × Nat)) (h : RS w rb L a fs rex opc 1 md rg rm) (hI : IW w ib i) (x : Int) (a2 : Nat) (hn : num L a 1 = .ok (x, a2)) (HR : Hid (m = .ok (((i.wTo (regO (regOf rex (opc % 8) 1))).wFr (immO x)), a2))) :
    Calls Try.prog 90 #[.pointer (some ⟨rb, 0, none⟩), .pointer (some ⟨ib, 0, none⟩)] w fun e w' => EndsR (m) (fun j a' => RS w' rb L a' fs rex opc 1 md rg rm ∧ IW w' ib j) e ∧ Fr rb ib w w' := by
  have HW : Hid (∀ u, RS u rb L a fs rex opc 1 md rg rm → Calls Try.prog 99 #[.pointer (some ⟨rb, 0, none⟩)] u fun e w' => e = .returned (.int .i64 (regOf rex (opc % 8) 1)) ∧ w' = u) := ⟨fun u hu => withinNumber_any ho0 ho1 hu⟩
  have HN : Hid (∀ u, RS u rb L a fs rex opc 1 md rg rm → Calls Try.prog 102 #[.pointer (some ⟨rb, 0, none⟩), .int .i64 1] u fun e w' => Ends2 (.ok (x, a2)) (Value.int .i64) (fun a' => RS w' rb L a' fs rex opc 1 md rg rm) e ∧ Fr rb rb u w') := ⟨fun u hu => hn ▸ number1 ha hu⟩
  (have x0_c := hI); obtain ⟨⟨x0_0, x0_1, x0_2, x0_3, x0_4, x0_5, x0_6, x0_7, x0_8, x0_9, x0_10, x0_11, x0_12, x0_13, x0_14, x0_15, x0_16, x0_17, x0_18, x0_19, x0_20, x0_21, x0_22, x0_23⟩, x0_z⟩ := x0_c
  (have y0_c := h); obtain ⟨y0_0, y0_1, y0_2, y0_3, y0_4, y0_5, y0_6, y0_7, y0_8, y0_z, y0_l⟩ := y0_c
  have hia : Hid (ib < w.heap.size) := ⟨World.block_lt_of_cell? w ⟨ib, 0, none⟩ hI.ia.c0⟩
  go_enter Try.func90, Try.ntmps90
  go_wp2_with (first
    | (go_at_call 99; (with_reducible refine (HW.out _ (h)).mono ?_); rintro e wz ⟨rfl, hwz⟩; subst wz)
    | (go_at_call 98; (with_reducible refine (regO_any _ _).mono ?_); rintro e w2 ⟨rfl, hb2⟩; (have R2 := RS.bel (h) hb2); (have I2 := IW.bel (hI) hb2); (have F2 := Fr.bel ((Fr.refl rb ib w)) hb2); (have x2_c := I2); obtain ⟨⟨x2_0, x2_1, x2_2, x2_3, x2_4, x2_5, x2_6, x2_7, x2_8, x2_9, x2_10, x2_11, x2_12, x2_13, x2_14, x2_15, x2_16, x2_17, x2_18, x2_19, x2_20, x2_21, x2_22, x2_23⟩, x2_z⟩ := x2_c; (have y2_c := R2); obtain ⟨y2_0, y2_1, y2_2, y2_3, y2_4, y2_5, y2_6, y2_7, y2_8, y2_z, y2_l⟩ := y2_c)
    | (go_at_call 102; (have Q3 := RS.setTo (R2) hib (regO (regOf rex (opc % 8) 1))); (try dsimp only [setTo, setFr] at Q3); (with_reducible refine (HN.out _ (Q3)).mono ?_); rintro e w3 ⟨he, hfr3⟩; obtain ⟨he', R3⟩ := he; subst he'; (have I3 := IW.fr (IW.setTo (I2) (regO (regOf rex (opc % 8) 1))) hfr3 (by omega) (by omega)); (have F3 := (Fr.setTo (F2) (.inr (.inl rfl)) (regO (regOf rex (opc % 8) 1))).then (hfr3.wide)); (have x3_c := I3); obtain ⟨⟨x3_0, x3_1, x3_2, x3_3, x3_4, x3_5, x3_6, x3_7, x3_8, x3_9, x3_10, x3_11, x3_12, x3_13, x3_14, x3_15, x3_16, x3_17, x3_18, x3_19, x3_20, x3_21, x3_22, x3_23⟩, x3_z⟩ := x3_c; (have y3_c := R3); obtain ⟨y3_0, y3_1, y3_2, y3_3, y3_4, y3_5, y3_6, y3_7, y3_8, y3_z, y3_l⟩ := y3_c)
    | (go_at_call 100; (with_reducible refine (immO_any _ _).mono ?_); rintro e w4 ⟨rfl, hb4⟩; (have R4 := RS.bel (R3) hb4); (have I4 := IW.bel (I3) hb4); (have F4 := Fr.bel (F3) hb4); (have x4_c := I4); obtain ⟨⟨x4_0, x4_1, x4_2, x4_3, x4_4, x4_5, x4_6, x4_7, x4_8, x4_9, x4_10, x4_11, x4_12, x4_13, x4_14, x4_15, x4_16, x4_17, x4_18, x4_19, x4_20, x4_21, x4_22, x4_23⟩, x4_z⟩ := x4_c; (have y4_c := R4); obtain ⟨y4_0, y4_1, y4_2, y4_3, y4_4, y4_5, y4_6, y4_7, y4_8, y4_z, y4_l⟩ := y4_c))
  have R9 := RS.setFr (R4) hib (immO x)
  have I9 := IW.setFr (I4) (immO x)
  have F9 := Fr.setFr (F4) (.inr (.inl rfl)) (immO x)
  try dsimp only [setTo, setFr, I.wTo, I.wFr, I.wSz, I.wSh] at R9 I9 F9
  first | go_end0 | refine bodyPost_ret (results_none rfl _ _ _) rfl ?_
  refine ⟨?_, F9⟩
  rw [HR.out]
  exact ⟨rfl, R9, I9⟩

set_option maxHeartbeats 2000000 in
theorem rd_moved_no1 {w : World} {rb ib : Nat} {L : Ln} {a : Nat} {fs : Bool} {rex opc md rg rm : Int} (i : I) (hib : rb < ib) (ha : a ≤ L.len) (hr0 : 0 ≤ rm) (hr8 : rm < 8) (hg0 : 0 ≤ rg) (hg8 : rg < 8) (ho0 : 0 ≤ opc) (ho1 : opc < 65536) (m : Except Int (I × Nat)) (h : RS w rb L a fs rex opc 1 md rg rm) (hI : IW w ib i) (n : Int) (hn : num L a 1 = .error n) (HR : Hid (m = .error n)) :
    Calls Try.prog 90 #[.pointer (some ⟨rb, 0, none⟩), .pointer (some ⟨ib, 0, none⟩)] w fun e w' => EndsR (m) (fun j a' => RS w' rb L a' fs rex opc 1 md rg rm ∧ IW w' ib j) e ∧ Fr rb ib w w' := by
  have HW : Hid (∀ u, RS u rb L a fs rex opc 1 md rg rm → Calls Try.prog 99 #[.pointer (some ⟨rb, 0, none⟩)] u fun e w' => e = .returned (.int .i64 (regOf rex (opc % 8) 1)) ∧ w' = u) := ⟨fun u hu => withinNumber_any ho0 ho1 hu⟩
  have HN : Hid (∀ u, RS u rb L a fs rex opc 1 md rg rm → Calls Try.prog 102 #[.pointer (some ⟨rb, 0, none⟩), .int .i64 1] u fun e w' => Ends2 (.error n) (Value.int .i64) (fun a' => RS w' rb L a' fs rex opc 1 md rg rm) e ∧ Fr rb rb u w') := ⟨fun u hu => hn ▸ number1 ha hu⟩
  (have x0_c := hI); obtain ⟨⟨x0_0, x0_1, x0_2, x0_3, x0_4, x0_5, x0_6, x0_7, x0_8, x0_9, x0_10, x0_11, x0_12, x0_13, x0_14, x0_15, x0_16, x0_17, x0_18, x0_19, x0_20, x0_21, x0_22, x0_23⟩, x0_z⟩ := x0_c
  (have y0_c := h); obtain ⟨y0_0, y0_1, y0_2, y0_3, y0_4, y0_5, y0_6, y0_7, y0_8, y0_z, y0_l⟩ := y0_c
  have hia : Hid (ib < w.heap.size) := ⟨World.block_lt_of_cell? w ⟨ib, 0, none⟩ hI.ia.c0⟩
  go_enter Try.func90, Try.ntmps90
  go_wp2_with (first
    | (go_at_call 99; (with_reducible refine (HW.out _ (h)).mono ?_); rintro e wz ⟨rfl, hwz⟩; subst wz)
    | (go_at_call 98; (with_reducible refine (regO_any _ _).mono ?_); rintro e w2 ⟨rfl, hb2⟩; (have R2 := RS.bel (h) hb2); (have I2 := IW.bel (hI) hb2); (have F2 := Fr.bel ((Fr.refl rb ib w)) hb2); (have x2_c := I2); obtain ⟨⟨x2_0, x2_1, x2_2, x2_3, x2_4, x2_5, x2_6, x2_7, x2_8, x2_9, x2_10, x2_11, x2_12, x2_13, x2_14, x2_15, x2_16, x2_17, x2_18, x2_19, x2_20, x2_21, x2_22, x2_23⟩, x2_z⟩ := x2_c; (have y2_c := R2); obtain ⟨y2_0, y2_1, y2_2, y2_3, y2_4, y2_5, y2_6, y2_7, y2_8, y2_z, y2_l⟩ := y2_c)
    | (go_at_call 102; (have Q3 := RS.setTo (R2) hib (regO (regOf rex (opc % 8) 1))); (try dsimp only [setTo, setFr] at Q3); (with_reducible refine (HN.out _ (Q3)).mono ?_); rintro e w3 ⟨he, hfr3⟩; (have he' : _ = _ := he); subst he'))
  have F9 := ((Fr.setTo (F2) (.inr (.inl rfl)) (regO (regOf rex (opc % 8) 1))).then (hfr3.wide))
  try dsimp only [setTo, setFr] at F9
  refine ⟨rfl, ?_, F9⟩
  rw [HR.out]; rfl

set_option maxHeartbeats 2000000 in
theorem rd_moved_ok4 {w : World} {rb ib : Nat} {L : Ln} {a : Nat} {fs : Bool} {rex opc md rg rm : Int} (i : I) (hib : rb < ib) (ha : a ≤ L.len) (hr0 : 0 ≤ rm) (hr8 : rm < 8) (hg0 : 0 ≤ rg) (hg8 : rg < 8) (ho0 : 0 ≤ opc) (ho1 : opc < 65536) (m : Except Int (I × Nat)) (h : RS w rb L a fs rex opc 4 md rg rm) (hI : IW w ib i) (x : Int) (a2 : Nat) (hn : num L a 4 = .ok (x, a2)) (HR : Hid (m = .ok (((i.wTo (regO (regOf rex (opc % 8) 1))).wFr (immO x)), a2))) :
    Calls Try.prog 90 #[.pointer (some ⟨rb, 0, none⟩), .pointer (some ⟨ib, 0, none⟩)] w fun e w' => EndsR (m) (fun j a' => RS w' rb L a' fs rex opc 4 md rg rm ∧ IW w' ib j) e ∧ Fr rb ib w w' := by
  have HW : Hid (∀ u, RS u rb L a fs rex opc 4 md rg rm → Calls Try.prog 99 #[.pointer (some ⟨rb, 0, none⟩)] u fun e w' => e = .returned (.int .i64 (regOf rex (opc % 8) 1)) ∧ w' = u) := ⟨fun u hu => withinNumber_any ho0 ho1 hu⟩
  have HN : Hid (∀ u, RS u rb L a fs rex opc 4 md rg rm → Calls Try.prog 102 #[.pointer (some ⟨rb, 0, none⟩), .int .i64 4] u fun e w' => Ends2 (.ok (x, a2)) (Value.int .i64) (fun a' => RS w' rb L a' fs rex opc 4 md rg rm) e ∧ Fr rb rb u w') := ⟨fun u hu => hn ▸ number4 ha hu⟩
  (have x0_c := hI); obtain ⟨⟨x0_0, x0_1, x0_2, x0_3, x0_4, x0_5, x0_6, x0_7, x0_8, x0_9, x0_10, x0_11, x0_12, x0_13, x0_14, x0_15, x0_16, x0_17, x0_18, x0_19, x0_20, x0_21, x0_22, x0_23⟩, x0_z⟩ := x0_c
  (have y0_c := h); obtain ⟨y0_0, y0_1, y0_2, y0_3, y0_4, y0_5, y0_6, y0_7, y0_8, y0_z, y0_l⟩ := y0_c
  have hia : Hid (ib < w.heap.size) := ⟨World.block_lt_of_cell? w ⟨ib, 0, none⟩ hI.ia.c0⟩
  go_enter Try.func90, Try.ntmps90
  go_wp2_with (first
    | (go_at_call 99; (with_reducible refine (HW.out _ (h)).mono ?_); rintro e wz ⟨rfl, hwz⟩; subst wz)
    | (go_at_call 98; (with_reducible refine (regO_any _ _).mono ?_); rintro e w2 ⟨rfl, hb2⟩; (have R2 := RS.bel (h) hb2); (have I2 := IW.bel (hI) hb2); (have F2 := Fr.bel ((Fr.refl rb ib w)) hb2); (have x2_c := I2); obtain ⟨⟨x2_0, x2_1, x2_2, x2_3, x2_4, x2_5, x2_6, x2_7, x2_8, x2_9, x2_10, x2_11, x2_12, x2_13, x2_14, x2_15, x2_16, x2_17, x2_18, x2_19, x2_20, x2_21, x2_22, x2_23⟩, x2_z⟩ := x2_c; (have y2_c := R2); obtain ⟨y2_0, y2_1, y2_2, y2_3, y2_4, y2_5, y2_6, y2_7, y2_8, y2_z, y2_l⟩ := y2_c)
    | (go_at_call 102; (have Q3 := RS.setTo (R2) hib (regO (regOf rex (opc % 8) 1))); (try dsimp only [setTo, setFr] at Q3); (with_reducible refine (HN.out _ (Q3)).mono ?_); rintro e w3 ⟨he, hfr3⟩; obtain ⟨he', R3⟩ := he; subst he'; (have I3 := IW.fr (IW.setTo (I2) (regO (regOf rex (opc % 8) 1))) hfr3 (by omega) (by omega)); (have F3 := (Fr.setTo (F2) (.inr (.inl rfl)) (regO (regOf rex (opc % 8) 1))).then (hfr3.wide)); (have x3_c := I3); obtain ⟨⟨x3_0, x3_1, x3_2, x3_3, x3_4, x3_5, x3_6, x3_7, x3_8, x3_9, x3_10, x3_11, x3_12, x3_13, x3_14, x3_15, x3_16, x3_17, x3_18, x3_19, x3_20, x3_21, x3_22, x3_23⟩, x3_z⟩ := x3_c; (have y3_c := R3); obtain ⟨y3_0, y3_1, y3_2, y3_3, y3_4, y3_5, y3_6, y3_7, y3_8, y3_z, y3_l⟩ := y3_c)
    | (go_at_call 100; (with_reducible refine (immO_any _ _).mono ?_); rintro e w4 ⟨rfl, hb4⟩; (have R4 := RS.bel (R3) hb4); (have I4 := IW.bel (I3) hb4); (have F4 := Fr.bel (F3) hb4); (have x4_c := I4); obtain ⟨⟨x4_0, x4_1, x4_2, x4_3, x4_4, x4_5, x4_6, x4_7, x4_8, x4_9, x4_10, x4_11, x4_12, x4_13, x4_14, x4_15, x4_16, x4_17, x4_18, x4_19, x4_20, x4_21, x4_22, x4_23⟩, x4_z⟩ := x4_c; (have y4_c := R4); obtain ⟨y4_0, y4_1, y4_2, y4_3, y4_4, y4_5, y4_6, y4_7, y4_8, y4_z, y4_l⟩ := y4_c))
  have R9 := RS.setFr (R4) hib (immO x)
  have I9 := IW.setFr (I4) (immO x)
  have F9 := Fr.setFr (F4) (.inr (.inl rfl)) (immO x)
  try dsimp only [setTo, setFr, I.wTo, I.wFr, I.wSz, I.wSh] at R9 I9 F9
  first | go_end0 | refine bodyPost_ret (results_none rfl _ _ _) rfl ?_
  refine ⟨?_, F9⟩
  rw [HR.out]
  exact ⟨rfl, R9, I9⟩

set_option maxHeartbeats 2000000 in
theorem rd_moved_no4 {w : World} {rb ib : Nat} {L : Ln} {a : Nat} {fs : Bool} {rex opc md rg rm : Int} (i : I) (hib : rb < ib) (ha : a ≤ L.len) (hr0 : 0 ≤ rm) (hr8 : rm < 8) (hg0 : 0 ≤ rg) (hg8 : rg < 8) (ho0 : 0 ≤ opc) (ho1 : opc < 65536) (m : Except Int (I × Nat)) (h : RS w rb L a fs rex opc 4 md rg rm) (hI : IW w ib i) (n : Int) (hn : num L a 4 = .error n) (HR : Hid (m = .error n)) :
    Calls Try.prog 90 #[.pointer (some ⟨rb, 0, none⟩), .pointer (some ⟨ib, 0, none⟩)] w fun e w' => EndsR (m) (fun j a' => RS w' rb L a' fs rex opc 4 md rg rm ∧ IW w' ib j) e ∧ Fr rb ib w w' := by
  have HW : Hid (∀ u, RS u rb L a fs rex opc 4 md rg rm → Calls Try.prog 99 #[.pointer (some ⟨rb, 0, none⟩)] u fun e w' => e = .returned (.int .i64 (regOf rex (opc % 8) 1)) ∧ w' = u) := ⟨fun u hu => withinNumber_any ho0 ho1 hu⟩
  have HN : Hid (∀ u, RS u rb L a fs rex opc 4 md rg rm → Calls Try.prog 102 #[.pointer (some ⟨rb, 0, none⟩), .int .i64 4] u fun e w' => Ends2 (.error n) (Value.int .i64) (fun a' => RS w' rb L a' fs rex opc 4 md rg rm) e ∧ Fr rb rb u w') := ⟨fun u hu => hn ▸ number4 ha hu⟩
  (have x0_c := hI); obtain ⟨⟨x0_0, x0_1, x0_2, x0_3, x0_4, x0_5, x0_6, x0_7, x0_8, x0_9, x0_10, x0_11, x0_12, x0_13, x0_14, x0_15, x0_16, x0_17, x0_18, x0_19, x0_20, x0_21, x0_22, x0_23⟩, x0_z⟩ := x0_c
  (have y0_c := h); obtain ⟨y0_0, y0_1, y0_2, y0_3, y0_4, y0_5, y0_6, y0_7, y0_8, y0_z, y0_l⟩ := y0_c
  have hia : Hid (ib < w.heap.size) := ⟨World.block_lt_of_cell? w ⟨ib, 0, none⟩ hI.ia.c0⟩
  go_enter Try.func90, Try.ntmps90
  go_wp2_with (first
    | (go_at_call 99; (with_reducible refine (HW.out _ (h)).mono ?_); rintro e wz ⟨rfl, hwz⟩; subst wz)
    | (go_at_call 98; (with_reducible refine (regO_any _ _).mono ?_); rintro e w2 ⟨rfl, hb2⟩; (have R2 := RS.bel (h) hb2); (have I2 := IW.bel (hI) hb2); (have F2 := Fr.bel ((Fr.refl rb ib w)) hb2); (have x2_c := I2); obtain ⟨⟨x2_0, x2_1, x2_2, x2_3, x2_4, x2_5, x2_6, x2_7, x2_8, x2_9, x2_10, x2_11, x2_12, x2_13, x2_14, x2_15, x2_16, x2_17, x2_18, x2_19, x2_20, x2_21, x2_22, x2_23⟩, x2_z⟩ := x2_c; (have y2_c := R2); obtain ⟨y2_0, y2_1, y2_2, y2_3, y2_4, y2_5, y2_6, y2_7, y2_8, y2_z, y2_l⟩ := y2_c)
    | (go_at_call 102; (have Q3 := RS.setTo (R2) hib (regO (regOf rex (opc % 8) 1))); (try dsimp only [setTo, setFr] at Q3); (with_reducible refine (HN.out _ (Q3)).mono ?_); rintro e w3 ⟨he, hfr3⟩; (have he' : _ = _ := he); subst he'))
  have F9 := ((Fr.setTo (F2) (.inr (.inl rfl)) (regO (regOf rex (opc % 8) 1))).then (hfr3.wide))
  try dsimp only [setTo, setFr] at F9
  refine ⟨rfl, ?_, F9⟩
  rw [HR.out]; rfl

set_option maxHeartbeats 2000000 in
theorem rd_moved_ok8 {w : World} {rb ib : Nat} {L : Ln} {a : Nat} {fs : Bool} {rex opc md rg rm : Int} (i : I) (hib : rb < ib) (ha : a ≤ L.len) (hr0 : 0 ≤ rm) (hr8 : rm < 8) (hg0 : 0 ≤ rg) (hg8 : rg < 8) (ho0 : 0 ≤ opc) (ho1 : opc < 65536) (m : Except Int (I × Nat)) (h : RS w rb L a fs rex opc 8 md rg rm) (hI : IW w ib i) (x : Int) (a2 : Nat) (hn : lng L a 8 4 = .ok (x, a2)) (HR : Hid (m = .ok (((i.wTo (regO (regOf rex (opc % 8) 1))).wFr (immO x)), a2))) :
    Calls Try.prog 90 #[.pointer (some ⟨rb, 0, none⟩), .pointer (some ⟨ib, 0, none⟩)] w fun e w' => EndsR (m) (fun j a' => RS w' rb L a' fs rex opc 8 md rg rm ∧ IW w' ib j) e ∧ Fr rb ib w w' := by
  have HW : Hid (∀ u, RS u rb L a fs rex opc 8 md rg rm → Calls Try.prog 99 #[.pointer (some ⟨rb, 0, none⟩)] u fun e w' => e = .returned (.int .i64 (regOf rex (opc % 8) 1)) ∧ w' = u) := ⟨fun u hu => withinNumber_any ho0 ho1 hu⟩
  have HN : Hid (∀ u, RS u rb L a fs rex opc 8 md rg rm → Calls Try.prog 101 #[.pointer (some ⟨rb, 0, none⟩), .int .i64 8, .int .i64 4] u fun e w' => Ends2 (.ok (x, a2)) (Value.int .i64) (fun a' => RS w' rb L a' fs rex opc 8 md rg rm) e ∧ Fr rb rb u w') := ⟨fun u hu => hn ▸ long84 ha hu⟩
  (have x0_c := hI); obtain ⟨⟨x0_0, x0_1, x0_2, x0_3, x0_4, x0_5, x0_6, x0_7, x0_8, x0_9, x0_10, x0_11, x0_12, x0_13, x0_14, x0_15, x0_16, x0_17, x0_18, x0_19, x0_20, x0_21, x0_22, x0_23⟩, x0_z⟩ := x0_c
  (have y0_c := h); obtain ⟨y0_0, y0_1, y0_2, y0_3, y0_4, y0_5, y0_6, y0_7, y0_8, y0_z, y0_l⟩ := y0_c
  have hia : Hid (ib < w.heap.size) := ⟨World.block_lt_of_cell? w ⟨ib, 0, none⟩ hI.ia.c0⟩
  go_enter Try.func90, Try.ntmps90
  go_wp2_with (first
    | (go_at_call 99; (with_reducible refine (HW.out _ (h)).mono ?_); rintro e wz ⟨rfl, hwz⟩; subst wz)
    | (go_at_call 98; (with_reducible refine (regO_any _ _).mono ?_); rintro e w2 ⟨rfl, hb2⟩; (have R2 := RS.bel (h) hb2); (have I2 := IW.bel (hI) hb2); (have F2 := Fr.bel ((Fr.refl rb ib w)) hb2); (have x2_c := I2); obtain ⟨⟨x2_0, x2_1, x2_2, x2_3, x2_4, x2_5, x2_6, x2_7, x2_8, x2_9, x2_10, x2_11, x2_12, x2_13, x2_14, x2_15, x2_16, x2_17, x2_18, x2_19, x2_20, x2_21, x2_22, x2_23⟩, x2_z⟩ := x2_c; (have y2_c := R2); obtain ⟨y2_0, y2_1, y2_2, y2_3, y2_4, y2_5, y2_6, y2_7, y2_8, y2_z, y2_l⟩ := y2_c)
    | (go_at_call 101; (have Q3 := RS.setTo (R2) hib (regO (regOf rex (opc % 8) 1))); (try dsimp only [setTo, setFr] at Q3); (with_reducible refine (HN.out _ (Q3)).mono ?_); rintro e w3 ⟨he, hfr3⟩; obtain ⟨he', R3⟩ := he; subst he'; (have I3 := IW.fr (IW.setTo (I2) (regO (regOf rex (opc % 8) 1))) hfr3 (by omega) (by omega)); (have F3 := (Fr.setTo (F2) (.inr (.inl rfl)) (regO (regOf rex (opc % 8) 1))).then (hfr3.wide)); (have x3_c := I3); obtain ⟨⟨x3_0, x3_1, x3_2, x3_3, x3_4, x3_5, x3_6, x3_7, x3_8, x3_9, x3_10, x3_11, x3_12, x3_13, x3_14, x3_15, x3_16, x3_17, x3_18, x3_19, x3_20, x3_21, x3_22, x3_23⟩, x3_z⟩ := x3_c; (have y3_c := R3); obtain ⟨y3_0, y3_1, y3_2, y3_3, y3_4, y3_5, y3_6, y3_7, y3_8, y3_z, y3_l⟩ := y3_c)
    | (go_at_call 100; (with_reducible refine (immO_any _ _).mono ?_); rintro e w4 ⟨rfl, hb4⟩; (have R4 := RS.bel (R3) hb4); (have I4 := IW.bel (I3) hb4); (have F4 := Fr.bel (F3) hb4); (have x4_c := I4); obtain ⟨⟨x4_0, x4_1, x4_2, x4_3, x4_4, x4_5, x4_6, x4_7, x4_8, x4_9, x4_10, x4_11, x4_12, x4_13, x4_14, x4_15, x4_16, x4_17, x4_18, x4_19, x4_20, x4_21, x4_22, x4_23⟩, x4_z⟩ := x4_c; (have y4_c := R4); obtain ⟨y4_0, y4_1, y4_2, y4_3, y4_4, y4_5, y4_6, y4_7, y4_8, y4_z, y4_l⟩ := y4_c))
  have R9 := RS.setFr (R4) hib (immO x)
  have I9 := IW.setFr (I4) (immO x)
  have F9 := Fr.setFr (F4) (.inr (.inl rfl)) (immO x)
  try dsimp only [setTo, setFr, I.wTo, I.wFr, I.wSz, I.wSh] at R9 I9 F9
  first | go_end0 | refine bodyPost_ret (results_none rfl _ _ _) rfl ?_
  refine ⟨?_, F9⟩
  rw [HR.out]
  exact ⟨rfl, R9, I9⟩

set_option maxHeartbeats 2000000 in
theorem rd_moved_no8 {w : World} {rb ib : Nat} {L : Ln} {a : Nat} {fs : Bool} {rex opc md rg rm : Int} (i : I) (hib : rb < ib) (ha : a ≤ L.len) (hr0 : 0 ≤ rm) (hr8 : rm < 8) (hg0 : 0 ≤ rg) (hg8 : rg < 8) (ho0 : 0 ≤ opc) (ho1 : opc < 65536) (m : Except Int (I × Nat)) (h : RS w rb L a fs rex opc 8 md rg rm) (hI : IW w ib i) (n : Int) (hn : lng L a 8 4 = .error n) (HR : Hid (m = .error n)) :
    Calls Try.prog 90 #[.pointer (some ⟨rb, 0, none⟩), .pointer (some ⟨ib, 0, none⟩)] w fun e w' => EndsR (m) (fun j a' => RS w' rb L a' fs rex opc 8 md rg rm ∧ IW w' ib j) e ∧ Fr rb ib w w' := by
  have HW : Hid (∀ u, RS u rb L a fs rex opc 8 md rg rm → Calls Try.prog 99 #[.pointer (some ⟨rb, 0, none⟩)] u fun e w' => e = .returned (.int .i64 (regOf rex (opc % 8) 1)) ∧ w' = u) := ⟨fun u hu => withinNumber_any ho0 ho1 hu⟩
  have HN : Hid (∀ u, RS u rb L a fs rex opc 8 md rg rm → Calls Try.prog 101 #[.pointer (some ⟨rb, 0, none⟩), .int .i64 8, .int .i64 4] u fun e w' => Ends2 (.error n) (Value.int .i64) (fun a' => RS w' rb L a' fs rex opc 8 md rg rm) e ∧ Fr rb rb u w') := ⟨fun u hu => hn ▸ long84 ha hu⟩
  (have x0_c := hI); obtain ⟨⟨x0_0, x0_1, x0_2, x0_3, x0_4, x0_5, x0_6, x0_7, x0_8, x0_9, x0_10, x0_11, x0_12, x0_13, x0_14, x0_15, x0_16, x0_17, x0_18, x0_19, x0_20, x0_21, x0_22, x0_23⟩, x0_z⟩ := x0_c
  (have y0_c := h); obtain ⟨y0_0, y0_1, y0_2, y0_3, y0_4, y0_5, y0_6, y0_7, y0_8, y0_z, y0_l⟩ := y0_c
  have hia : Hid (ib < w.heap.size) := ⟨World.block_lt_of_cell? w ⟨ib, 0, none⟩ hI.ia.c0⟩
  go_enter Try.func90, Try.ntmps90
  go_wp2_with (first
    | (go_at_call 99; (with_reducible refine (HW.out _ (h)).mono ?_); rintro e wz ⟨rfl, hwz⟩; subst wz)
    | (go_at_call 98; (with_reducible refine (regO_any _ _).mono ?_); rintro e w2 ⟨rfl, hb2⟩; (have R2 := RS.bel (h) hb2); (have I2 := IW.bel (hI) hb2); (have F2 := Fr.bel ((Fr.refl rb ib w)) hb2); (have x2_c := I2); obtain ⟨⟨x2_0, x2_1, x2_2, x2_3, x2_4, x2_5, x2_6, x2_7, x2_8, x2_9, x2_10, x2_11, x2_12, x2_13, x2_14, x2_15, x2_16, x2_17, x2_18, x2_19, x2_20, x2_21, x2_22, x2_23⟩, x2_z⟩ := x2_c; (have y2_c := R2); obtain ⟨y2_0, y2_1, y2_2, y2_3, y2_4, y2_5, y2_6, y2_7, y2_8, y2_z, y2_l⟩ := y2_c)
    | (go_at_call 101; (have Q3 := RS.setTo (R2) hib (regO (regOf rex (opc % 8) 1))); (try dsimp only [setTo, setFr] at Q3); (with_reducible refine (HN.out _ (Q3)).mono ?_); rintro e w3 ⟨he, hfr3⟩; (have he' : _ = _ := he); subst he'))
  have F9 := ((Fr.setTo (F2) (.inr (.inl rfl)) (regO (regOf rex (opc % 8) 1))).then (hfr3.wide))
  try dsimp only [setTo, setFr] at F9
  refine ⟨rfl, ?_, F9⟩
  rw [HR.out]; rfl

end Go.Proofs.Ytjbepojopfbajaa
