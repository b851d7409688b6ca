/- The contracts of the calls that put operands in: memory and a number. -/
import Derived.Test.YtjbepojopfbajaaDInst
namespace Go.Proofs.Ytjbepojopfbajaa
open Go.ChangeShapes Go.WideShapes Go.ChangeAt Go.RowKit
set_option linter.unusedVariables false
set_option linter.unusedSimpArgs false

set_option maxHeartbeats 2000000 in
theorem rd_numberedShort_ok {w : World} {rb ib : Nat} {L : Ln} {a : Nat} {fs : Bool} {rex opc sz md rg rm : Int} (i : I) (hib : rb < ib) (ha : a ≤ L.len) (hr0 : 0 ≤ rm) (hr8 : rm < 8) (hg0 : 0 ≤ rg) (hg8 : rg < 8) (ho0 : 0 ≤ opc) (ho1 : opc < 65536) (m : Except Int (I × Nat)) (h : RS w rb L a fs rex opc sz md rg rm) (hI : IW w ib i) (o : O) (a1 : Nat) (hp : placeM L a fs rex md rm = .ok (o, a1)) (ha1 : a1 ≤ L.len) (x : Int) (a2 : Nat) (hn : num L a1 1 = .ok (x, a2)) (HR : Hid (m = .ok ((i.wTo o).wFr (immO x), a2))) :
    Calls Try.prog 85 #[.pointer (some ⟨rb, 0, none⟩), .pointer (some ⟨ib, 0, none⟩)] w fun e w' => EndsR (m) (fun j a' => RS w' rb L a' fs rex opc sz md rg rm ∧ IW w' ib j) e ∧ Fr rb ib w w' := by
  have HP : Hid (∀ u, RS u rb L a fs rex opc sz md rg rm → Calls Try.prog 97 #[.pointer (some ⟨rb, 0, none⟩)] u fun e w' => Ends2 (.ok (o, a1)) O.val (fun a' => RS w' rb L a' fs rex opc sz md rg rm) e ∧ Fr rb rb u w') := ⟨fun u hu => hp ▸ place_any ha hr0 hr8 hu⟩
  have HN : Hid (∀ u, RS u rb L a1 fs rex opc sz md rg rm → Calls Try.prog 102 #[.pointer (some ⟨rb, 0, none⟩), .int .i64 1] u fun e w' => Ends2 (.ok (x, a2)) (Value.int .i64) (fun a' => RS w' rb L a' fs rex opc sz md rg rm) e ∧ Fr rb rb u w') := ⟨fun u hu => hn ▸ number1 ha1 hu⟩
  (have x0_c := hI); obtain ⟨⟨x0_0, x0_1, x0_2, x0_3, x0_4, x0_5, x0_6, x0_7, x0_8, x0_9, x0_10, x0_11, x0_12, x0_13, x0_14, x0_15, x0_16, x0_17, x0_18, x0_19, x0_20, x0_21, x0_22, x0_23⟩, x0_z⟩ := x0_c
  (have y0_c := h); obtain ⟨y0_0, y0_1, y0_2, y0_3, y0_4, y0_5, y0_6, y0_7, y0_8, y0_z, y0_l⟩ := y0_c
  have hia : Hid (ib < w.heap.size) := ⟨World.block_lt_of_cell? w ⟨ib, 0, none⟩ hI.ia.c0⟩
  go_enter Try.func85, Try.ntmps85
  go_wp2_with (first
    | (go_at_call 97; (with_reducible refine (HP.out _ (h)).mono ?_); rintro e w1 ⟨he, hfr1⟩; obtain ⟨he', R1⟩ := he; subst he'; (have I1 := IW.fr (hI) hfr1 (by omega) (by omega)); (have F1 := ((Fr.refl rb ib w)).then (hfr1.wide)); (have x1_c := I1); obtain ⟨⟨x1_0, x1_1, x1_2, x1_3, x1_4, x1_5, x1_6, x1_7, x1_8, x1_9, x1_10, x1_11, x1_12, x1_13, x1_14, x1_15, x1_16, x1_17, x1_18, x1_19, x1_20, x1_21, x1_22, x1_23⟩, x1_z⟩ := x1_c; (have y1_c := R1); obtain ⟨y1_0, y1_1, y1_2, y1_3, y1_4, y1_5, y1_6, y1_7, y1_8, y1_z, y1_l⟩ := y1_c)
    | (go_at_call 102; (have Q2 := RS.setTo (R1) hib (o)); (try dsimp only [setTo, setFr] at Q2); (with_reducible refine (HN.out _ (Q2)).mono ?_); rintro e w2 ⟨he, hfr2⟩; obtain ⟨he', R2⟩ := he; subst he'; (have I2 := IW.fr (IW.setTo (I1) (o)) hfr2 (by omega) (by omega)); (have F2 := (Fr.setTo (F1) (.inr (.inl rfl)) (o)).then (hfr2.wide)); (have x2_c := I2); obtain ⟨⟨x2_0, x2_1, x2_2, x2_3, x2_4, x2_5, x2_6, x2_7, x2_8, x2_9, x2_10, x2_11, x2_12, x2_13, x2_14, x2_15, x2_16, x2_17, x2_18, x2_19, x2_20, x2_21, x2_22, x2_23⟩, x2_z⟩ := x2_c; (have y2_c := R2); obtain ⟨y2_0, y2_1, y2_2, y2_3, y2_4, y2_5, y2_6, y2_7, y2_8, y2_z, y2_l⟩ := y2_c)
    | (go_at_call 100; (with_reducible refine (immO_any _ _).mono ?_); rintro e w3 ⟨rfl, hb3⟩; (have R3 := RS.bel (R2) hb3); (have I3 := IW.bel (I2) hb3); (have F3 := Fr.bel (F2) hb3); (have x3_c := I3); obtain ⟨⟨x3_0, x3_1, x3_2, x3_3, x3_4, x3_5, x3_6, x3_7, x3_8, x3_9, x3_10, x3_11, x3_12, x3_13, x3_14, x3_15, x3_16, x3_17, x3_18, x3_19, x3_20, x3_21, x3_22, x3_23⟩, x3_z⟩ := x3_c; (have y3_c := R3); obtain ⟨y3_0, y3_1, y3_2, y3_3, y3_4, y3_5, y3_6, y3_7, y3_8, y3_z, y3_l⟩ := y3_c))
  have R9 := RS.setFr (R3) hib (immO x)
  have I9 := IW.setFr (I3) (immO x)
  have F9 := Fr.setFr (F3) (.inr (.inl rfl)) (immO x)
  try dsimp only [setTo, setFr, I.wTo, I.wFr, I.wSz, I.wSh] at R9 I9 F9
  first | go_end0 | refine bodyPost_ret (results_none rfl _ _ _) rfl ?_
  refine ⟨?_, F9⟩
  rw [HR.out]
  exact ⟨rfl, R9, I9⟩

set_option maxHeartbeats 2000000 in
theorem rd_numberedShort_nn {w : World} {rb ib : Nat} {L : Ln} {a : Nat} {fs : Bool} {rex opc sz md rg rm : Int} (i : I) (hib : rb < ib) (ha : a ≤ L.len) (hr0 : 0 ≤ rm) (hr8 : rm < 8) (hg0 : 0 ≤ rg) (hg8 : rg < 8) (ho0 : 0 ≤ opc) (ho1 : opc < 65536) (m : Except Int (I × Nat)) (h : RS w rb L a fs rex opc sz md rg rm) (hI : IW w ib i) (o : O) (a1 : Nat) (hp : placeM L a fs rex md rm = .ok (o, a1)) (ha1 : a1 ≤ L.len) (n : Int) (hn : num L a1 1 = .error n) (HR : Hid (m = .error n)) :
    Calls Try.prog 85 #[.pointer (some ⟨rb, 0, none⟩), .pointer (some ⟨ib, 0, none⟩)] w fun e w' => EndsR (m) (fun j a' => RS w' rb L a' fs rex opc sz md rg rm ∧ IW w' ib j) e ∧ Fr rb ib w w' := by
  have HP : Hid (∀ u, RS u rb L a fs rex opc sz md rg rm → Calls Try.prog 97 #[.pointer (some ⟨rb, 0, none⟩)] u fun e w' => Ends2 (.ok (o, a1)) O.val (fun a' => RS w' rb L a' fs rex opc sz md rg rm) e ∧ Fr rb rb u w') := ⟨fun u hu => hp ▸ place_any ha hr0 hr8 hu⟩
  have HN : Hid (∀ u, RS u rb L a1 fs rex opc sz md rg rm → Calls Try.prog 102 #[.pointer (some ⟨rb, 0, none⟩), .int .i64 1] u fun e w' => Ends2 (.error n) (Value.int .i64) (fun a' => RS w' rb L a' fs rex opc sz md rg rm) e ∧ Fr rb rb u w') := ⟨fun u hu => hn ▸ number1 ha1 hu⟩
  (have x0_c := hI); obtain ⟨⟨x0_0, x0_1, x0_2, x0_3, x0_4, x0_5, x0_6, x0_7, x0_8, x0_9, x0_10, x0_11, x0_12, x0_13, x0_14, x0_15, x0_16, x0_17, x0_18, x0_19, x0_20, x0_21, x0_22, x0_23⟩, x0_z⟩ := x0_c
  (have y0_c := h); obtain ⟨y0_0, y0_1, y0_2, y0_3, y0_4, y0_5, y0_6, y0_7, y0_8, y0_z, y0_l⟩ := y0_c
  have hia : Hid (ib < w.heap.size) := ⟨World.block_lt_of_cell? w ⟨ib, 0, none⟩ hI.ia.c0⟩
  go_enter Try.func85, Try.ntmps85
  go_wp2_with (first
    | (go_at_call 97; (with_reducible refine (HP.out _ (h)).mono ?_); rintro e w1 ⟨he, hfr1⟩; obtain ⟨he', R1⟩ := he; subst he'; (have I1 := IW.fr (hI) hfr1 (by omega) (by omega)); (have F1 := ((Fr.refl rb ib w)).then (hfr1.wide)); (have x1_c := I1); obtain ⟨⟨x1_0, x1_1, x1_2, x1_3, x1_4, x1_5, x1_6, x1_7, x1_8, x1_9, x1_10, x1_11, x1_12, x1_13, x1_14, x1_15, x1_16, x1_17, x1_18, x1_19, x1_20, x1_21, x1_22, x1_23⟩, x1_z⟩ := x1_c; (have y1_c := R1); obtain ⟨y1_0, y1_1, y1_2, y1_3, y1_4, y1_5, y1_6, y1_7, y1_8, y1_z, y1_l⟩ := y1_c)
    | (go_at_call 102; (have Q2 := RS.setTo (R1) hib (o)); (try dsimp only [setTo, setFr] at Q2); (with_reducible refine (HN.out _ (Q2)).mono ?_); rintro e w2 ⟨he, hfr2⟩; (have he' : _ = _ := he); subst he'))
  have F9 := ((Fr.setTo (F1) (.inr (.inl rfl)) (o)).then (hfr2.wide))
  try dsimp only [setTo, setFr] at F9
  refine ⟨rfl, ?_, F9⟩
  rw [HR.out]; rfl

set_option maxHeartbeats 2000000 in
theorem rd_numberedShort_no {w : World} {rb ib : Nat} {L : Ln} {a : Nat} {fs : Bool} {rex opc sz md rg rm : Int} (i : I) (hib : rb < ib) (ha : a ≤ L.len) (hr0 : 0 ≤ rm) (hr8 : rm < 8) (hg0 : 0 ≤ rg) (hg8 : rg < 8) (ho0 : 0 ≤ opc) (ho1 : opc < 65536) (m : Except Int (I × Nat)) (h : RS w rb L a fs rex opc sz md rg rm) (hI : IW w ib i) (n : Int) (hp : placeM L a fs rex md rm = .error n) (HR : Hid (m = .error n)) :
    Calls Try.prog 85 #[.pointer (some ⟨rb, 0, none⟩), .pointer (some ⟨ib, 0, none⟩)] w fun e w' => EndsR (m) (fun j a' => RS w' rb L a' fs rex opc sz md rg rm ∧ IW w' ib j) e ∧ Fr rb ib w w' := by
  have HP : Hid (∀ u, RS u rb L a fs rex opc sz md rg rm → Calls Try.prog 97 #[.pointer (some ⟨rb, 0, none⟩)] u fun e w' => Ends2 (.error n) O.val (fun a' => RS w' rb L a' fs rex opc sz md rg rm) e ∧ Fr rb rb u w') := ⟨fun u hu => hp ▸ place_any ha hr0 hr8 hu⟩
  (have x0_c := hI); obtain ⟨⟨x0_0, x0_1, x0_2, x0_3, x0_4, x0_5, x0_6, x0_7, x0_8, x0_9, x0_10, x0_11, x0_12, x0_13, x0_14, x0_15, x0_16, x0_17, x0_18, x0_19, x0_20, x0_21, x0_22, x0_23⟩, x0_z⟩ := x0_c
  (have y0_c := h); obtain ⟨y0_0, y0_1, y0_2, y0_3, y0_4, y0_5, y0_6, y0_7, y0_8, y0_z, y0_l⟩ := y0_c
  have hia : Hid (ib < w.heap.size) := ⟨World.block_lt_of_cell? w ⟨ib, 0, none⟩ hI.ia.c0⟩
  go_enter Try.func85, Try.ntmps85
  go_wp2_with (first
    | (go_at_call 97; (with_reducible refine (HP.out _ (h)).mono ?_); rintro e w1 ⟨he, hfr1⟩; (have he' : _ = _ := he); subst he'))
  have F9 := (((Fr.refl rb ib w)).then (hfr1.wide))
  refine ⟨rfl, ?_, F9⟩
  rw [HR.out]; rfl

set_option maxHeartbeats 2000000 in
theorem rd_numberedLong_ok {w : World} {rb ib : Nat} {L : Ln} {a : Nat} {fs : Bool} {rex opc sz md rg rm : Int} (i : I) (hib : rb < ib) (ha : a ≤ L.len) (hr0 : 0 ≤ rm) (hr8 : rm < 8) (hg0 : 0 ≤ rg) (hg8 : rg < 8) (ho0 : 0 ≤ opc) (ho1 : opc < 65536) (m : Except Int (I × Nat)) (h : RS w rb L a fs rex opc sz md rg rm) (hI : IW w ib i) (o : O) (a1 : Nat) (hp : placeM L a fs rex md rm = .ok (o, a1)) (ha1 : a1 ≤ L.len) (x : Int) (a2 : Nat) (hn : lng L a1 4 1 = .ok (x, a2)) (HR : Hid (m = .ok ((i.wTo o).wFr (immO x), a2))) :
    Calls Try.prog 84 #[.pointer (some ⟨rb, 0, none⟩), .pointer (some ⟨ib, 0, none⟩)] w fun e w' => EndsR (m) (fun j a' => RS w' rb L a' fs rex opc sz md rg rm ∧ IW w' ib j) e ∧ Fr rb ib w w' := by
  have HP : Hid (∀ u, RS u rb L a fs rex opc sz md rg rm → Calls Try.prog 97 #[.pointer (some ⟨rb, 0, none⟩)] u fun e w' => Ends2 (.ok (o, a1)) O.val (fun a' => RS w' rb L a' fs rex opc sz md rg rm) e ∧ Fr rb rb u w') := ⟨fun u hu => hp ▸ place_any ha hr0 hr8 hu⟩
  have HN : Hid (∀ u, RS u rb L a1 fs rex opc sz md rg rm → Calls Try.prog 101 #[.pointer (some ⟨rb, 0, none⟩), .int .i64 4, .int .i64 1] u fun e w' => Ends2 (.ok (x, a2)) (Value.int .i64) (fun a' => RS w' rb L a' fs rex opc sz md rg rm) e ∧ Fr rb rb u w') := ⟨fun u hu => hn ▸ long41 ha1 hu⟩
  (have x0_c := hI); obtain ⟨⟨x0_0, x0_1, x0_2, x0_3, x0_4, x0_5, x0_6, x0_7, x0_8, x0_9, x0_10, x0_11, x0_12, x0_13, x0_14, x0_15, x0_16, x0_17, x0_18, x0_19, x0_20, x0_21, x0_22, x0_23⟩, x0_z⟩ := x0_c
  (have y0_c := h); obtain ⟨y0_0, y0_1, y0_2, y0_3, y0_4, y0_5, y0_6, y0_7, y0_8, y0_z, y0_l⟩ := y0_c
  have hia : Hid (ib < w.heap.size) := ⟨World.block_lt_of_cell? w ⟨ib, 0, none⟩ hI.ia.c0⟩
  go_enter Try.func84, Try.ntmps84
  go_wp2_with (first
    | (go_at_call 97; (with_reducible refine (HP.out _ (h)).mono ?_); rintro e w1 ⟨he, hfr1⟩; obtain ⟨he', R1⟩ := he; subst he'; (have I1 := IW.fr (hI) hfr1 (by omega) (by omega)); (have F1 := ((Fr.refl rb ib w)).then (hfr1.wide)); (have x1_c := I1); obtain ⟨⟨x1_0, x1_1, x1_2, x1_3, x1_4, x1_5, x1_6, x1_7, x1_8, x1_9, x1_10, x1_11, x1_12, x1_13, x1_14, x1_15, x1_16, x1_17, x1_18, x1_19, x1_20, x1_21, x1_22, x1_23⟩, x1_z⟩ := x1_c; (have y1_c := R1); obtain ⟨y1_0, y1_1, y1_2, y1_3, y1_4, y1_5, y1_6, y1_7, y1_8, y1_z, y1_l⟩ := y1_c)
    | (go_at_call 101; (have Q2 := RS.setTo (R1) hib (o)); (try dsimp only [setTo, setFr] at Q2); (with_reducible refine (HN.out _ (Q2)).mono ?_); rintro e w2 ⟨he, hfr2⟩; obtain ⟨he', R2⟩ := he; subst he'; (have I2 := IW.fr (IW.setTo (I1) (o)) hfr2 (by omega) (by omega)); (have F2 := (Fr.setTo (F1) (.inr (.inl rfl)) (o)).then (hfr2.wide)); (have x2_c := I2); obtain ⟨⟨x2_0, x2_1, x2_2, x2_3, x2_4, x2_5, x2_6, x2_7, x2_8, x2_9, x2_10, x2_11, x2_12, x2_13, x2_14, x2_15, x2_16, x2_17, x2_18, x2_19, x2_20, x2_21, x2_22, x2_23⟩, x2_z⟩ := x2_c; (have y2_c := R2); obtain ⟨y2_0, y2_1, y2_2, y2_3, y2_4, y2_5, y2_6, y2_7, y2_8, y2_z, y2_l⟩ := y2_c)
    | (go_at_call 100; (with_reducible refine (immO_any _ _).mono ?_); rintro e w3 ⟨rfl, hb3⟩; (have R3 := RS.bel (R2) hb3); (have I3 := IW.bel (I2) hb3); (have F3 := Fr.bel (F2) hb3); (have x3_c := I3); obtain ⟨⟨x3_0, x3_1, x3_2, x3_3, x3_4, x3_5, x3_6, x3_7, x3_8, x3_9, x3_10, x3_11, x3_12, x3_13, x3_14, x3_15, x3_16, x3_17, x3_18, x3_19, x3_20, x3_21, x3_22, x3_23⟩, x3_z⟩ := x3_c; (have y3_c := R3); obtain ⟨y3_0, y3_1, y3_2, y3_3, y3_4, y3_5, y3_6, y3_7, y3_8, y3_z, y3_l⟩ := y3_c))
  have R9 := RS.setFr (R3) hib (immO x)
  have I9 := IW.setFr (I3) (immO x)
  have F9 := Fr.setFr (F3) (.inr (.inl rfl)) (immO x)
  try dsimp only [setTo, setFr, I.wTo, I.wFr, I.wSz, I.wSh] at R9 I9 F9
  first | go_end0 | refine bodyPost_ret (results_none rfl _ _ _) rfl ?_
  refine ⟨?_, F9⟩
  rw [HR.out]
  exact ⟨rfl, R9, I9⟩

set_option maxHeartbeats 2000000 in
theorem rd_numberedLong_nn {w : World} {rb ib : Nat} {L : Ln} {a : Nat} {fs : Bool} {rex opc sz md rg rm : Int} (i : I) (hib : rb < ib) (ha : a ≤ L.len) (hr0 : 0 ≤ rm) (hr8 : rm < 8) (hg0 : 0 ≤ rg) (hg8 : rg < 8) (ho0 : 0 ≤ opc) (ho1 : opc < 65536) (m : Except Int (I × Nat)) (h : RS w rb L a fs rex opc sz md rg rm) (hI : IW w ib i) (o : O) (a1 : Nat) (hp : placeM L a fs rex md rm = .ok (o, a1)) (ha1 : a1 ≤ L.len) (n : Int) (hn : lng L a1 4 1 = .error n) (HR : Hid (m = .error n)) :
    Calls Try.prog 84 #[.pointer (some ⟨rb, 0, none⟩), .pointer (some ⟨ib, 0, none⟩)] w fun e w' => EndsR (m) (fun j a' => RS w' rb L a' fs rex opc sz md rg rm ∧ IW w' ib j) e ∧ Fr rb ib w w' := by
  have HP : Hid (∀ u, RS u rb L a fs rex opc sz md rg rm → Calls Try.prog 97 #[.pointer (some ⟨rb, 0, none⟩)] u fun e w' => Ends2 (.ok (o, a1)) O.val (fun a' => RS w' rb L a' fs rex opc sz md rg rm) e ∧ Fr rb rb u w') := ⟨fun u hu => hp ▸ place_any ha hr0 hr8 hu⟩
  have HN : Hid (∀ u, RS u rb L a1 fs rex opc sz md rg rm → Calls Try.prog 101 #[.pointer (some ⟨rb, 0, none⟩), .int .i64 4, .int .i64 1] u fun e w' => Ends2 (.error n) (Value.int .i64) (fun a' => RS w' rb L a' fs rex opc sz md rg rm) e ∧ Fr rb rb u w') := ⟨fun u hu => hn ▸ long41 ha1 hu⟩
  (have x0_c := hI); obtain ⟨⟨x0_0, x0_1, x0_2, x0_3, x0_4, x0_5, x0_6, x0_7, x0_8, x0_9, x0_10, x0_11, x0_12, x0_13, x0_14, x0_15, x0_16, x0_17, x0_18, x0_19, x0_20, x0_21, x0_22, x0_23⟩, x0_z⟩ := x0_c
  (have y0_c := h); obtain ⟨y0_0, y0_1, y0_2, y0_3, y0_4, y0_5, y0_6, y0_7, y0_8, y0_z, y0_l⟩ := y0_c
  have hia : Hid (ib < w.heap.size) := ⟨World.block_lt_of_cell? w ⟨ib, 0, none⟩ hI.ia.c0⟩
  go_enter Try.func84, Try.ntmps84
  go_wp2_with (first
    | (go_at_call 97; (with_reducible refine (HP.out _ (h)).mono ?_); rintro e w1 ⟨he, hfr1⟩; obtain ⟨he', R1⟩ := he; subst he'; (have I1 := IW.fr (hI) hfr1 (by omega) (by omega)); (have F1 := ((Fr.refl rb ib w)).then (hfr1.wide)); (have x1_c := I1); obtain ⟨⟨x1_0, x1_1, x1_2, x1_3, x1_4, x1_5, x1_6, x1_7, x1_8, x1_9, x1_10, x1_11, x1_12, x1_13, x1_14, x1_15, x1_16, x1_17, x1_18, x1_19, x1_20, x1_21, x1_22, x1_23⟩, x1_z⟩ := x1_c; (have y1_c := R1); obtain ⟨y1_0, y1_1, y1_2, y1_3, y1_4, y1_5, y1_6, y1_7, y1_8, y1_z, y1_l⟩ := y1_c)
    | (go_at_call 101; (have Q2 := RS.setTo (R1) hib (o)); (try dsimp only [setTo, setFr] at Q2); (with_reducible refine (HN.out _ (Q2)).mono ?_); rintro e w2 ⟨he, hfr2⟩; (have he' : _ = _ := he); subst he'))
  have F9 := ((Fr.setTo (F1) (.inr (.inl rfl)) (o)).then (hfr2.wide))
  try dsimp only [setTo, setFr] at F9
  refine ⟨rfl, ?_, F9⟩
  rw [HR.out]; rfl

set_option maxHeartbeats 2000000 in
theorem rd_numberedLong_no {w : World} {rb ib : Nat} {L : Ln} {a : Nat} {fs : Bool} {rex opc sz md rg rm : Int} (i : I) (hib : rb < ib) (ha : a ≤ L.len) (hr0 : 0 ≤ rm) (hr8 : rm < 8) (hg0 : 0 ≤ rg) (hg8 : rg < 8) (ho0 : 0 ≤ opc) (ho1 : opc < 65536) (m : Except Int (I × Nat)) (h : RS w rb L a fs rex opc sz md rg rm) (hI : IW w ib i) (n : Int) (hp : placeM L a fs rex md rm = .error n) (HR : Hid (m = .error n)) :
    Calls Try.prog 84 #[.pointer (some ⟨rb, 0, none⟩), .pointer (some ⟨ib, 0, none⟩)] w fun e w' => EndsR (m) (fun j a' => RS w' rb L a' fs rex opc sz md rg rm ∧ IW w' ib j) e ∧ Fr rb ib w w' := by
  have HP : Hid (∀ u, RS u rb L a fs rex opc sz md rg rm → Calls Try.prog 97 #[.pointer (some ⟨rb, 0, none⟩)] u fun e w' => Ends2 (.error n) O.val (fun a' => RS w' rb L a' fs rex opc sz md rg rm) e ∧ Fr rb rb u w') := ⟨fun u hu => hp ▸ place_any ha hr0 hr8 hu⟩
  (have x0_c := hI); obtain ⟨⟨x0_0, x0_1, x0_2, x0_3, x0_4, x0_5, x0_6, x0_7, x0_8, x0_9, x0_10, x0_11, x0_12, x0_13, x0_14, x0_15, x0_16, x0_17, x0_18, x0_19, x0_20, x0_21, x0_22, x0_23⟩, x0_z⟩ := x0_c
  (have y0_c := h); obtain ⟨y0_0, y0_1, y0_2, y0_3, y0_4, y0_5, y0_6, y0_7, y0_8, y0_z, y0_l⟩ := y0_c
  have hia : Hid (ib < w.heap.size) := ⟨World.block_lt_of_cell? w ⟨ib, 0, none⟩ hI.ia.c0⟩
  go_enter Try.func84, Try.ntmps84
  go_wp2_with (first
    | (go_at_call 97; (with_reducible refine (HP.out _ (h)).mono ?_); rintro e w1 ⟨he, hfr1⟩; (have he' : _ = _ := he); subst he'))
  have F9 := (((Fr.refl rb ib w)).then (hfr1.wide))
  refine ⟨rfl, ?_, F9⟩
  rw [HR.out]; rfl

set_option maxHeartbeats 2000000 in
theorem rd_numbered_ok1 {w : World} {rb ib : Nat} {L : Ln} {a : Nat} {fs : Bool} {rex opc md rg rm : Int} (i : I) (hib : rb < ib) (ha : a ≤ L.len) (hr0 : 0 ≤ rm) (hr8 : rm < 8) (hg0 : 0 ≤ rg) (hg8 : rg < 8) (ho0 : 0 ≤ opc) (ho1 : opc < 65536) (m : Except Int (I × Nat)) (h : RS w rb L a fs rex opc 1 md rg rm) (hI : IW w ib i) (o : O) (a1 : Nat) (hp : placeM L a fs rex md rm = .ok (o, a1)) (ha1 : a1 ≤ L.len) (x : Int) (a2 : Nat) (hn : num L a1 1 = .ok (x, a2)) (HR : Hid (m = .ok ((i.wTo o).wFr (immO x), a2))) :
    Calls Try.prog 83 #[.pointer (some ⟨rb, 0, none⟩), .pointer (some ⟨ib, 0, none⟩)] w fun e w' => EndsR (m) (fun j a' => RS w' rb L a' fs rex opc 1 md rg rm ∧ IW w' ib j) e ∧ Fr rb ib w w' := by
  have HP : Hid (∀ u, RS u rb L a fs rex opc 1 md rg rm → Calls Try.prog 97 #[.pointer (some ⟨rb, 0, none⟩)] u fun e w' => Ends2 (.ok (o, a1)) O.val (fun a' => RS w' rb L a' fs rex opc 1 md rg rm) e ∧ Fr rb rb u w') := ⟨fun u hu => hp ▸ place_any ha hr0 hr8 hu⟩
  have HN : Hid (∀ u, RS u rb L a1 fs rex opc 1 md rg rm → Calls Try.prog 102 #[.pointer (some ⟨rb, 0, none⟩), .int .i64 1] u fun e w' => Ends2 (.ok (x, a2)) (Value.int .i64) (fun a' => RS w' rb L a' fs rex opc 1 md rg rm) e ∧ Fr rb rb u w') := ⟨fun u hu => hn ▸ number1 ha1 hu⟩
  (have x0_c := hI); obtain ⟨⟨x0_0, x0_1, x0_2, x0_3, x0_4, x0_5, x0_6, x0_7, x0_8, x0_9, x0_10, x0_11, x0_12, x0_13, x0_14, x0_15, x0_16, x0_17, x0_18, x0_19, x0_20, x0_21, x0_22, x0_23⟩, x0_z⟩ := x0_c
  (have y0_c := h); obtain ⟨y0_0, y0_1, y0_2, y0_3, y0_4, y0_5, y0_6, y0_7, y0_8, y0_z, y0_l⟩ := y0_c
  have hia : Hid (ib < w.heap.size) := ⟨World.block_lt_of_cell? w ⟨ib, 0, none⟩ hI.ia.c0⟩
  go_enter Try.func83, Try.ntmps83
  go_wp2_with (first
    | (go_at_call 97; (with_reducible refine (HP.out _ (h)).mono ?_); rintro e w1 ⟨he, hfr1⟩; obtain ⟨he', R1⟩ := he; subst he'; (have I1 := IW.fr (hI) hfr1 (by omega) (by omega)); (have F1 := ((Fr.refl rb ib w)).then (hfr1.wide)); (have x1_c := I1); obtain ⟨⟨x1_0, x1_1, x1_2, x1_3, x1_4, x1_5, x1_6, x1_7, x1_8, x1_9, x1_10, x1_11, x1_12, x1_13, x1_14, x1_15, x1_16, x1_17, x1_18, x1_19, x1_20, x1_21, x1_22, x1_23⟩, x1_z⟩ := x1_c; (have y1_c := R1); obtain ⟨y1_0, y1_1, y1_2, y1_3, y1_4, y1_5, y1_6, y1_7, y1_8, y1_z, y1_l⟩ := y1_c)
    | (go_at_call 102; (have Q2 := RS.setTo (R1) hib (o)); (try dsimp only [setTo, setFr] at Q2); (with_reducible refine (HN.out _ (Q2)).mono ?_); rintro e w2 ⟨he, hfr2⟩; obtain ⟨he', R2⟩ := he; subst he'; (have I2 := IW.fr (IW.setTo (I1) (o)) hfr2 (by omega) (by omega)); (have F2 := (Fr.setTo (F1) (.inr (.inl rfl)) (o)).then (hfr2.wide)); (have x2_c := I2); obtain ⟨⟨x2_0, x2_1, x2_2, x2_3, x2_4, x2_5, x2_6, x2_7, x2_8, x2_9, x2_10, x2_11, x2_12, x2_13, x2_14, x2_15, x2_16, x2_17, x2_18, x2_19, x2_20, x2_21, x2_22, x2_23⟩, x2_z⟩ := x2_c; (have y2_c := R2); obtain ⟨y2_0, y2_1, y2_2, y2_3, y2_4, y2_5, y2_6, y2_7, y2_8, y2_z, y2_l⟩ := y2_c)
    | (go_at_call 100; (with_reducible refine (immO_any _ _).mono ?_); rintro e w3 ⟨rfl, hb3⟩; (have R3 := RS.bel (R2) hb3); (have I3 := IW.bel (I2) hb3); (have F3 := Fr.bel (F2) hb3); (have x3_c := I3); obtain ⟨⟨x3_0, x3_1, x3_2, x3_3, x3_4, x3_5, x3_6, x3_7, x3_8, x3_9, x3_10, x3_11, x3_12, x3_13, x3_14, x3_15, x3_16, x3_17, x3_18, x3_19, x3_20, x3_21, x3_22, x3_23⟩, x3_z⟩ := x3_c; (have y3_c := R3); obtain ⟨y3_0, y3_1, y3_2, y3_3, y3_4, y3_5, y3_6, y3_7, y3_8, y3_z, y3_l⟩ := y3_c))
  have R9 := RS.setFr (R3) hib (immO x)
  have I9 := IW.setFr (I3) (immO x)
  have F9 := Fr.setFr (F3) (.inr (.inl rfl)) (immO x)
  try dsimp only [setTo, setFr, I.wTo, I.wFr, I.wSz, I.wSh] at R9 I9 F9
  first | go_end0 | refine bodyPost_ret (results_none rfl _ _ _) rfl ?_
  refine ⟨?_, F9⟩
  rw [HR.out]
  exact ⟨rfl, R9, I9⟩

set_option maxHeartbeats 2000000 in
theorem rd_numbered_nn1 {w : World} {rb ib : Nat} {L : Ln} {a : Nat} {fs : Bool} {rex opc md rg rm : Int} (i : I) (hib : rb < ib) (ha : a ≤ L.len) (hr0 : 0 ≤ rm) (hr8 : rm < 8) (hg0 : 0 ≤ rg) (hg8 : rg < 8) (ho0 : 0 ≤ opc) (ho1 : opc < 65536) (m : Except Int (I × Nat)) (h : RS w rb L a fs rex opc 1 md rg rm) (hI : IW w ib i) (o : O) (a1 : Nat) (hp : placeM L a fs rex md rm = .ok (o, a1)) (ha1 : a1 ≤ L.len) (n : Int) (hn : num L a1 1 = .error n) (HR : Hid (m = .error n)) :
    Calls Try.prog 83 #[.pointer (some ⟨rb, 0, none⟩), .pointer (some ⟨ib, 0, none⟩)] w fun e w' => EndsR (m) (fun j a' => RS w' rb L a' fs rex opc 1 md rg rm ∧ IW w' ib j) e ∧ Fr rb ib w w' := by
  have HP : Hid (∀ u, RS u rb L a fs rex opc 1 md rg rm → Calls Try.prog 97 #[.pointer (some ⟨rb, 0, none⟩)] u fun e w' => Ends2 (.ok (o, a1)) O.val (fun a' => RS w' rb L a' fs rex opc 1 md rg rm) e ∧ Fr rb rb u w') := ⟨fun u hu => hp ▸ place_any ha hr0 hr8 hu⟩
  have HN : Hid (∀ u, RS u rb L a1 fs rex opc 1 md rg rm → Calls Try.prog 102 #[.pointer (some ⟨rb, 0, none⟩), .int .i64 1] u fun e w' => Ends2 (.error n) (Value.int .i64) (fun a' => RS w' rb L a' fs rex opc 1 md rg rm) e ∧ Fr rb rb u w') := ⟨fun u hu => hn ▸ number1 ha1 hu⟩
  (have x0_c := hI); obtain ⟨⟨x0_0, x0_1, x0_2, x0_3, x0_4, x0_5, x0_6, x0_7, x0_8, x0_9, x0_10, x0_11, x0_12, x0_13, x0_14, x0_15, x0_16, x0_17, x0_18, x0_19, x0_20, x0_21, x0_22, x0_23⟩, x0_z⟩ := x0_c
  (have y0_c := h); obtain ⟨y0_0, y0_1, y0_2, y0_3, y0_4, y0_5, y0_6, y0_7, y0_8, y0_z, y0_l⟩ := y0_c
  have hia : Hid (ib < w.heap.size) := ⟨World.block_lt_of_cell? w ⟨ib, 0, none⟩ hI.ia.c0⟩
  go_enter Try.func83, Try.ntmps83
  go_wp2_with (first
    | (go_at_call 97; (with_reducible refine (HP.out _ (h)).mono ?_); rintro e w1 ⟨he, hfr1⟩; obtain ⟨he', R1⟩ := he; subst he'; (have I1 := IW.fr (hI) hfr1 (by omega) (by omega)); (have F1 := ((Fr.refl rb ib w)).then (hfr1.wide)); (have x1_c := I1); obtain ⟨⟨x1_0, x1_1, x1_2, x1_3, x1_4, x1_5, x1_6, x1_7, x1_8, x1_9, x1_10, x1_11, x1_12, x1_13, x1_14, x1_15, x1_16, x1_17, x1_18, x1_19, x1_20, x1_21, x1_22, x1_23⟩, x1_z⟩ := x1_c; (have y1_c := R1); obtain ⟨y1_0, y1_1, y1_2, y1_3, y1_4, y1_5, y1_6, y1_7, y1_8, y1_z, y1_l⟩ := y1_c)
    | (go_at_call 102; (have Q2 := RS.setTo (R1) hib (o)); (try dsimp only [setTo, setFr] at Q2); (with_reducible refine (HN.out _ (Q2)).mono ?_); rintro e w2 ⟨he, hfr2⟩; (have he' : _ = _ := he); subst he'))
  have F9 := ((Fr.setTo (F1) (.inr (.inl rfl)) (o)).then (hfr2.wide))
  try dsimp only [setTo, setFr] at F9
  refine ⟨rfl, ?_, F9⟩
  rw [HR.out]; rfl

set_option maxHeartbeats 2000000 in
theorem rd_numbered_no1 {w : World} {rb ib : Nat} {L : Ln} {a : Nat} {fs : Bool} {rex opc md rg rm : Int} (i : I) (hib : rb < ib) (ha : a ≤ L.len) (hr0 : 0 ≤ rm) (hr8 : rm < 8) (hg0 : 0 ≤ rg) (hg8 : rg < 8) (ho0 : 0 ≤ opc) (ho1 : opc < 65536) (m : Except Int (I × Nat)) (h : RS w rb L a fs rex opc 1 md rg rm) (hI : IW w ib i) (n : Int) (hp : placeM L a fs rex md rm = .error n) (HR : Hid (m = .error n)) :
    Calls Try.prog 83 #[.pointer (some ⟨rb, 0, none⟩), .pointer (some ⟨ib, 0, none⟩)] w fun e w' => EndsR (m) (fun j a' => RS w' rb L a' fs rex opc 1 md rg rm ∧ IW w' ib j) e ∧ Fr rb ib w w' := by
  have HP : Hid (∀ u, RS u rb L a fs rex opc 1 md rg rm → Calls Try.prog 97 #[.pointer (some ⟨rb, 0, none⟩)] u fun e w' => Ends2 (.error n) O.val (fun a' => RS w' rb L a' fs rex opc 1 md rg rm) e ∧ Fr rb rb u w') := ⟨fun u hu => hp ▸ place_any ha hr0 hr8 hu⟩
  (have x0_c := hI); obtain ⟨⟨x0_0, x0_1, x0_2, x0_3, x0_4, x0_5, x0_6, x0_7, x0_8, x0_9, x0_10, x0_11, x0_12, x0_13, x0_14, x0_15, x0_16, x0_17, x0_18, x0_19, x0_20, x0_21, x0_22, x0_23⟩, x0_z⟩ := x0_c
  (have y0_c := h); obtain ⟨y0_0, y0_1, y0_2, y0_3, y0_4, y0_5, y0_6, y0_7, y0_8, y0_z, y0_l⟩ := y0_c
  have hia : Hid (ib < w.heap.size) := ⟨World.block_lt_of_cell? w ⟨ib, 0, none⟩ hI.ia.c0⟩
  go_enter Try.func83, Try.ntmps83
  go_wp2_with (first
    | (go_at_call 97; (with_reducible refine (HP.out _ (h)).mono ?_); rintro e w1 ⟨he, hfr1⟩; (have he' : _ = _ := he); subst he'))
  have F9 := (((Fr.refl rb ib w)).then (hfr1.wide))
  refine ⟨rfl, ?_, F9⟩
  rw [HR.out]; rfl

set_option maxHeartbeats 2000000 in
theorem rd_numbered_ok4 {w : World} {rb ib : Nat} {L : Ln} {a : Nat} {fs : Bool} {rex opc md rg rm : Int} (i : I) (hib : rb < ib) (ha : a ≤ L.len) (hr0 : 0 ≤ rm) (hr8 : rm < 8) (hg0 : 0 ≤ rg) (hg8 : rg < 8) (ho0 : 0 ≤ opc) (ho1 : opc < 65536) (m : Except Int (I × Nat)) (h : RS w rb L a fs rex opc 4 md rg rm) (hI : IW w ib i) (o : O) (a1 : Nat) (hp : placeM L a fs rex md rm = .ok (o, a1)) (ha1 : a1 ≤ L.len) (x : Int) (a2 : Nat) (hn : num L a1 4 = .ok (x, a2)) (HR : Hid (m = .ok ((i.wTo o).wFr (immO x), a2))) :
    Calls Try.prog 83 #[.pointer (some ⟨rb, 0, none⟩), .pointer (some ⟨ib, 0, none⟩)] w fun e w' => EndsR (m) (fun j a' => RS w' rb L a' fs rex opc 4 md rg rm ∧ IW w' ib j) e ∧ Fr rb ib w w' := by
  have HP : Hid (∀ u, RS u rb L a fs rex opc 4 md rg rm → Calls Try.prog 97 #[.pointer (some ⟨rb, 0, none⟩)] u fun e w' => Ends2 (.ok (o, a1)) O.val (fun a' => RS w' rb L a' fs rex opc 4 md rg rm) e ∧ Fr rb rb u w') := ⟨fun u hu => hp ▸ place_any ha hr0 hr8 hu⟩
  have HN : Hid (∀ u, RS u rb L a1 fs rex opc 4 md rg rm → Calls Try.prog 102 #[.pointer (some ⟨rb, 0, none⟩), .int .i64 4] u fun e w' => Ends2 (.ok (x, a2)) (Value.int .i64) (fun a' => RS w' rb L a' fs rex opc 4 md rg rm) e ∧ Fr rb rb u w') := ⟨fun u hu => hn ▸ number4 ha1 hu⟩
  (have x0_c := hI); obtain ⟨⟨x0_0, x0_1, x0_2, x0_3, x0_4, x0_5, x0_6, x0_7, x0_8, x0_9, x0_10, x0_11, x0_12, x0_13, x0_14, x0_15, x0_16, x0_17, x0_18, x0_19, x0_20, x0_21, x0_22, x0_23⟩, x0_z⟩ := x0_c
  (have y0_c := h); obtain ⟨y0_0, y0_1, y0_2, y0_3, y0_4, y0_5, y0_6, y0_7, y0_8, y0_z, y0_l⟩ := y0_c
  have hia : Hid (ib < w.heap.size) := ⟨World.block_lt_of_cell? w ⟨ib, 0, none⟩ hI.ia.c0⟩
  go_enter Try.func83, Try.ntmps83
  go_wp2_with (first
    | (go_at_call 97; (with_reducible refine (HP.out _ (h)).mono ?_); rintro e w1 ⟨he, hfr1⟩; obtain ⟨he', R1⟩ := he; subst he'; (have I1 := IW.fr (hI) hfr1 (by omega) (by omega)); (have F1 := ((Fr.refl rb ib w)).then (hfr1.wide)); (have x1_c := I1); obtain ⟨⟨x1_0, x1_1, x1_2, x1_3, x1_4, x1_5, x1_6, x1_7, x1_8, x1_9, x1_10, x1_11, x1_12, x1_13, x1_14, x1_15, x1_16, x1_17, x1_18, x1_19, x1_20, x1_21, x1_22, x1_23⟩, x1_z⟩ := x1_c; (have y1_c := R1); obtain ⟨y1_0, y1_1, y1_2, y1_3, y1_4, y1_5, y1_6, y1_7, y1_8, y1_z, y1_l⟩ := y1_c)
    | (go_at_call 102; (have Q2 := RS.setTo (R1) hib (o)); (try dsimp only [setTo, setFr] at Q2); (with_reducible refine (HN.out _ (Q2)).mono ?_); rintro e w2 ⟨he, hfr2⟩; obtain ⟨he', R2⟩ := he; subst he'; (have I2 := IW.fr (IW.setTo (I1) (o)) hfr2 (by omega) (by omega)); (have F2 := (Fr.setTo (F1) (.inr (.inl rfl)) (o)).then (hfr2.wide)); (have x2_c := I2); obtain ⟨⟨x2_0, x2_1, x2_2, x2_3, x2_4, x2_5, x2_6, x2_7, x2_8, x2_9, x2_10, x2_11, x2_12, x2_13, x2_14, x2_15, x2_16, x2_17, x2_18, x2_19, x2_20, x2_21, x2_22, x2_23⟩, x2_z⟩ := x2_c; (have y2_c := R2); obtain ⟨y2_0, y2_1, y2_2, y2_3, y2_4, y2_5, y2_6, y2_7, y2_8, y2_z, y2_l⟩ := y2_c)
    | (go_at_call 100; (with_reducible refine (immO_any _ _).mono ?_); rintro e w3 ⟨rfl, hb3⟩; (have R3 := RS.bel (R2) hb3); (have I3 := IW.bel (I2) hb3); (have F3 := Fr.bel (F2) hb3); (have x3_c := I3); obtain ⟨⟨x3_0, x3_1, x3_2, x3_3, x3_4, x3_5, x3_6, x3_7, x3_8, x3_9, x3_10, x3_11, x3_12, x3_13, x3_14, x3_15, x3_16, x3_17, x3_18, x3_19, x3_20, x3_21, x3_22, x3_23⟩, x3_z⟩ := x3_c; (have y3_c := R3); obtain ⟨y3_0, y3_1, y3_2, y3_3, y3_4, y3_5, y3_6, y3_7, y3_8, y3_z, y3_l⟩ := y3_c))
  have R9 := RS.setFr (R3) hib (immO x)
  have I9 := IW.setFr (I3) (immO x)
  have F9 := Fr.setFr (F3) (.inr (.inl rfl)) (immO x)
  try dsimp only [setTo, setFr, I.wTo, I.wFr, I.wSz, I.wSh] at R9 I9 F9
  first | go_end0 | refine bodyPost_ret (results_none rfl _ _ _) rfl ?_
  refine ⟨?_, F9⟩
  rw [HR.out]
  exact ⟨rfl, R9, I9⟩

set_option maxHeartbeats 2000000 in
theorem rd_numbered_nn4 {w : World} {rb ib : Nat} {L : Ln} {a : Nat} {fs : Bool} {rex opc md rg rm : Int} (i : I) (hib : rb < ib) (ha : a ≤ L.len) (hr0 : 0 ≤ rm) (hr8 : rm < 8) (hg0 : 0 ≤ rg) (hg8 : rg < 8) (ho0 : 0 ≤ opc) (ho1 : opc < 65536) (m : Except Int (I × Nat)) (h : RS w rb L a fs rex opc 4 md rg rm) (hI : IW w ib i) (o : O) (a1 : Nat) (hp : placeM L a fs rex md rm = .ok (o, a1)) (ha1 : a1 ≤ L.len) (n : Int) (hn : num L a1 4 = .error n) (HR : Hid (m = .error n)) :
    Calls Try.prog 83 #[.pointer (some ⟨rb, 0, none⟩), .pointer (some ⟨ib, 0, none⟩)] w fun e w' => EndsR (m) (fun j a' => RS w' rb L a' fs rex opc 4 md rg rm ∧ IW w' ib j) e ∧ Fr rb ib w w' := by
  have HP : Hid (∀ u, RS u rb L a fs rex opc 4 md rg rm → Calls Try.prog 97 #[.pointer (some ⟨rb, 0, none⟩)] u fun e w' => Ends2 (.ok (o, a1)) O.val (fun a' => RS w' rb L a' fs rex opc 4 md rg rm) e ∧ Fr rb rb u w') := ⟨fun u hu => hp ▸ place_any ha hr0 hr8 hu⟩
  have HN : Hid (∀ u, RS u rb L a1 fs rex opc 4 md rg rm → Calls Try.prog 102 #[.pointer (some ⟨rb, 0, none⟩), .int .i64 4] u fun e w' => Ends2 (.error n) (Value.int .i64) (fun a' => RS w' rb L a' fs rex opc 4 md rg rm) e ∧ Fr rb rb u w') := ⟨fun u hu => hn ▸ number4 ha1 hu⟩
  (have x0_c := hI); obtain ⟨⟨x0_0, x0_1, x0_2, x0_3, x0_4, x0_5, x0_6, x0_7, x0_8, x0_9, x0_10, x0_11, x0_12, x0_13, x0_14, x0_15, x0_16, x0_17, x0_18, x0_19, x0_20, x0_21, x0_22, x0_23⟩, x0_z⟩ := x0_c
  (have y0_c := h); obtain ⟨y0_0, y0_1, y0_2, y0_3, y0_4, y0_5, y0_6, y0_7, y0_8, y0_z, y0_l⟩ := y0_c
  have hia : Hid (ib < w.heap.size) := ⟨World.block_lt_of_cell? w ⟨ib, 0, none⟩ hI.ia.c0⟩
  go_enter Try.func83, Try.ntmps83
  go_wp2_with (first
    | (go_at_call 97; (with_reducible refine (HP.out _ (h)).mono ?_); rintro e w1 ⟨he, hfr1⟩; obtain ⟨he', R1⟩ := he; subst he'; (have I1 := IW.fr (hI) hfr1 (by omega) (by omega)); (have F1 := ((Fr.refl rb ib w)).then (hfr1.wide)); (have x1_c := I1); obtain ⟨⟨x1_0, x1_1, x1_2, x1_3, x1_4, x1_5, x1_6, x1_7, x1_8, x1_9, x1_10, x1_11, x1_12, x1_13, x1_14, x1_15, x1_16, x1_17, x1_18, x1_19, x1_20, x1_21, x1_22, x1_23⟩, x1_z⟩ := x1_c; (have y1_c := R1); obtain ⟨y1_0, y1_1, y1_2, y1_3, y1_4, y1_5, y1_6, y1_7, y1_8, y1_z, y1_l⟩ := y1_c)
    | (go_at_call 102; (have Q2 := RS.setTo (R1) hib (o)); (try dsimp only [setTo, setFr] at Q2); (with_reducible refine (HN.out _ (Q2)).mono ?_); rintro e w2 ⟨he, hfr2⟩; (have he' : _ = _ := he); subst he'))
  have F9 := ((Fr.setTo (F1) (.inr (.inl rfl)) (o)).then (hfr2.wide))
  try dsimp only [setTo, setFr] at F9
  refine ⟨rfl, ?_, F9⟩
  rw [HR.out]; rfl

set_option maxHeartbeats 2000000 in
theorem rd_numbered_no4 {w : World} {rb ib : Nat} {L : Ln} {a : Nat} {fs : Bool} {rex opc md rg rm : Int} (i : I) (hib : rb < ib) (ha : a ≤ L.len) (hr0 : 0 ≤ rm) (hr8 : rm < 8) (hg0 : 0 ≤ rg) (hg8 : rg < 8) (ho0 : 0 ≤ opc) (ho1 : opc < 65536) (m : Except Int (I × Nat)) (h : RS w rb L a fs rex opc 4 md rg rm) (hI : IW w ib i) (n : Int) (hp : placeM L a fs rex md rm = .error n) (HR : Hid (m = .error n)) :
    Calls Try.prog 83 #[.pointer (some ⟨rb, 0, none⟩), .pointer (some ⟨ib, 0, none⟩)] w fun e w' => EndsR (m) (fun j a' => RS w' rb L a' fs rex opc 4 md rg rm ∧ IW w' ib j) e ∧ Fr rb ib w w' := by
  have HP : Hid (∀ u, RS u rb L a fs rex opc 4 md rg rm → Calls Try.prog 97 #[.pointer (some ⟨rb, 0, none⟩)] u fun e w' => Ends2 (.error n) O.val (fun a' => RS w' rb L a' fs rex opc 4 md rg rm) e ∧ Fr rb rb u w') := ⟨fun u hu => hp ▸ place_any ha hr0 hr8 hu⟩
  (have x0_c := hI); obtain ⟨⟨x0_0, x0_1, x0_2, x0_3, x0_4, x0_5, x0_6, x0_7, x0_8, x0_9, x0_10, x0_11, x0_12, x0_13, x0_14, x0_15, x0_16, x0_17, x0_18, x0_19, x0_20, x0_21, x0_22, x0_23⟩, x0_z⟩ := x0_c
  (have y0_c := h); obtain ⟨y0_0, y0_1, y0_2, y0_3, y0_4, y0_5, y0_6, y0_7, y0_8, y0_z, y0_l⟩ := y0_c
  have hia : Hid (ib < w.heap.size) := ⟨World.block_lt_of_cell? w ⟨ib, 0, none⟩ hI.ia.c0⟩
  go_enter Try.func83, Try.ntmps83
  go_wp2_with (first
    | (go_at_call 97; (with_reducible refine (HP.out _ (h)).mono ?_); rintro e w1 ⟨he, hfr1⟩; (have he' : _ = _ := he); subst he'))
  have F9 := (((Fr.refl rb ib w)).then (hfr1.wide))
  refine ⟨rfl, ?_, F9⟩
  rw [HR.out]; rfl

set_option maxHeartbeats 2000000 in
theorem rd_numbered_ok8 {w : World} {rb ib : Nat} {L : Ln} {a : Nat} {fs : Bool} {rex opc md rg rm : Int} (i : I) (hib : rb < ib) (ha : a ≤ L.len) (hr0 : 0 ≤ rm) (hr8 : rm < 8) (hg0 : 0 ≤ rg) (hg8 : rg < 8) (ho0 : 0 ≤ opc) (ho1 : opc < 65536) (m : Except Int (I × Nat)) (h : RS w rb L a fs rex opc 8 md rg rm) (hI : IW w ib i) (o : O) (a1 : Nat) (hp : placeM L a fs rex md rm = .ok (o, a1)) (ha1 : a1 ≤ L.len) (x : Int) (a2 : Nat) (hn : num L a1 4 = .ok (x, a2)) (HR : Hid (m = .ok ((i.wTo o).wFr (immO x), a2))) :
    Calls Try.prog 83 #[.pointer (some ⟨rb, 0, none⟩), .pointer (some ⟨ib, 0, none⟩)] w fun e w' => EndsR (m) (fun j a' => RS w' rb L a' fs rex opc 8 md rg rm ∧ IW w' ib j) e ∧ Fr rb ib w w' := by
  have HP : Hid (∀ u, RS u rb L a fs rex opc 8 md rg rm → Calls Try.prog 97 #[.pointer (some ⟨rb, 0, none⟩)] u fun e w' => Ends2 (.ok (o, a1)) O.val (fun a' => RS w' rb L a' fs rex opc 8 md rg rm) e ∧ Fr rb rb u w') := ⟨fun u hu => hp ▸ place_any ha hr0 hr8 hu⟩
  have HN : Hid (∀ u, RS u rb L a1 fs rex opc 8 md rg rm → Calls Try.prog 102 #[.pointer (some ⟨rb, 0, none⟩), .int .i64 4] u fun e w' => Ends2 (.ok (x, a2)) (Value.int .i64) (fun a' => RS w' rb L a' fs rex opc 8 md rg rm) e ∧ Fr rb rb u w') := ⟨fun u hu => hn ▸ number4 ha1 hu⟩
  (have x0_c := hI); obtain ⟨⟨x0_0, x0_1, x0_2, x0_3, x0_4, x0_5, x0_6, x0_7, x0_8, x0_9, x0_10, x0_11, x0_12, x0_13, x0_14, x0_15, x0_16, x0_17, x0_18, x0_19, x0_20, x0_21, x0_22, x0_23⟩, x0_z⟩ := x0_c
  (have y0_c := h); obtain ⟨y0_0, y0_1, y0_2, y0_3, y0_4, y0_5, y0_6, y0_7, y0_8, y0_z, y0_l⟩ := y0_c
  have hia : Hid (ib < w.heap.size) := ⟨World.block_lt_of_cell? w ⟨ib, 0, none⟩ hI.ia.c0⟩
  go_enter Try.func83, Try.ntmps83
  go_wp2_with (first
    | (go_at_call 97; (with_reducible refine (HP.out _ (h)).mono ?_); rintro e w1 ⟨he, hfr1⟩; obtain ⟨he', R1⟩ := he; subst he'; (have I1 := IW.fr (hI) hfr1 (by omega) (by omega)); (have F1 := ((Fr.refl rb ib w)).then (hfr1.wide)); (have x1_c := I1); obtain ⟨⟨x1_0, x1_1, x1_2, x1_3, x1_4, x1_5, x1_6, x1_7, x1_8, x1_9, x1_10, x1_11, x1_12, x1_13, x1_14, x1_15, x1_16, x1_17, x1_18, x1_19, x1_20, x1_21, x1_22, x1_23⟩, x1_z⟩ := x1_c; (have y1_c := R1); obtain ⟨y1_0, y1_1, y1_2, y1_3, y1_4, y1_5, y1_6, y1_7, y1_8, y1_z, y1_l⟩ := y1_c)
    | (go_at_call 102; (have Q2 := RS.setTo (R1) hib (o)); (try dsimp only [setTo, setFr] at Q2); (with_reducible refine (HN.out _ (Q2)).mono ?_); rintro e w2 ⟨he, hfr2⟩; obtain ⟨he', R2⟩ := he; subst he'; (have I2 := IW.fr (IW.setTo (I1) (o)) hfr2 (by omega) (by omega)); (have F2 := (Fr.setTo (F1) (.inr (.inl rfl)) (o)).then (hfr2.wide)); (have x2_c := I2); obtain ⟨⟨x2_0, x2_1, x2_2, x2_3, x2_4, x2_5, x2_6, x2_7, x2_8, x2_9, x2_10, x2_11, x2_12, x2_13, x2_14, x2_15, x2_16, x2_17, x2_18, x2_19, x2_20, x2_21, x2_22, x2_23⟩, x2_z⟩ := x2_c; (have y2_c := R2); obtain ⟨y2_0, y2_1, y2_2, y2_3, y2_4, y2_5, y2_6, y2_7, y2_8, y2_z, y2_l⟩ := y2_c)
    | (go_at_call 100; (with_reducible refine (immO_any _ _).mono ?_); rintro e w3 ⟨rfl, hb3⟩; (have R3 := RS.bel (R2) hb3); (have I3 := IW.bel (I2) hb3); (have F3 := Fr.bel (F2) hb3); (have x3_c := I3); obtain ⟨⟨x3_0, x3_1, x3_2, x3_3, x3_4, x3_5, x3_6, x3_7, x3_8, x3_9, x3_10, x3_11, x3_12, x3_13, x3_14, x3_15, x3_16, x3_17, x3_18, x3_19, x3_20, x3_21, x3_22, x3_23⟩, x3_z⟩ := x3_c; (have y3_c := R3); obtain ⟨y3_0, y3_1, y3_2, y3_3, y3_4, y3_5, y3_6, y3_7, y3_8, y3_z, y3_l⟩ := y3_c))
  have R9 := RS.setFr (R3) hib (immO x)
  have I9 := IW.setFr (I3) (immO x)
  have F9 := Fr.setFr (F3) (.inr (.inl rfl)) (immO x)
  try dsimp only [setTo, setFr, I.wTo, I.wFr, I.wSz, I.wSh] at R9 I9 F9
  first | go_end0 | refine bodyPost_ret (results_none rfl _ _ _) rfl ?_
  refine ⟨?_, F9⟩
  rw [HR.out]
  exact ⟨rfl, R9, I9⟩

set_option maxHeartbeats 2000000 in
theorem rd_numbered_nn8 {w : World} {rb ib : Nat} {L : Ln} {a : Nat} {fs : Bool} {rex opc md rg rm : Int} (i : I) (hib : rb < ib) (ha : a ≤ L.len) (hr0 : 0 ≤ rm) (hr8 : rm < 8) (hg0 : 0 ≤ rg) (hg8 : rg < 8) (ho0 : 0 ≤ opc) (ho1 : opc < 65536) (m : Except Int (I × Nat)) (h : RS w rb L a fs rex opc 8 md rg rm) (hI : IW w ib i) (o : O) (a1 : Nat) (hp : placeM L a fs rex md rm = .ok (o, a1)) (ha1 : a1 ≤ L.len) (n : Int) (hn : num L a1 4 = .error n) (HR : Hid (m = .error n)) :
    Calls Try.prog 83 #[.pointer (some ⟨rb, 0, none⟩), .pointer (some ⟨ib, 0, none⟩)] w fun e w' => EndsR (m) (fun j a' => RS w' rb L a' fs rex opc 8 md rg rm ∧ IW w' ib j) e ∧ Fr rb ib w w' := by
  have HP : Hid (∀ u, RS u rb L a fs rex opc 8 md rg rm → Calls Try.prog 97 #[.pointer (some ⟨rb, 0, none⟩)] u fun e w' => Ends2 (.ok (o, a1)) O.val (fun a' => RS w' rb L a' fs rex opc 8 md rg rm) e ∧ Fr rb rb u w') := ⟨fun u hu => hp ▸ place_any ha hr0 hr8 hu⟩
  have HN : Hid (∀ u, RS u rb L a1 fs rex opc 8 md rg rm → Calls Try.prog 102 #[.pointer (some ⟨rb, 0, none⟩), .int .i64 4] u fun e w' => Ends2 (.error n) (Value.int .i64) (fun a' => RS w' rb L a' fs rex opc 8 md rg rm) e ∧ Fr rb rb u w') := ⟨fun u hu => hn ▸ number4 ha1 hu⟩
  (have x0_c := hI); obtain ⟨⟨x0_0, x0_1, x0_2, x0_3, x0_4, x0_5, x0_6, x0_7, x0_8, x0_9, x0_10, x0_11, x0_12, x0_13, x0_14, x0_15, x0_16, x0_17, x0_18, x0_19, x0_20, x0_21, x0_22, x0_23⟩, x0_z⟩ := x0_c
  (have y0_c := h); obtain ⟨y0_0, y0_1, y0_2, y0_3, y0_4, y0_5, y0_6, y0_7, y0_8, y0_z, y0_l⟩ := y0_c
  have hia : Hid (ib < w.heap.size) := ⟨World.block_lt_of_cell? w ⟨ib, 0, none⟩ hI.ia.c0⟩
  go_enter Try.func83, Try.ntmps83
  go_wp2_with (first
    | (go_at_call 97; (with_reducible refine (HP.out _ (h)).mono ?_); rintro e w1 ⟨he, hfr1⟩; obtain ⟨he', R1⟩ := he; subst he'; (have I1 := IW.fr (hI) hfr1 (by omega) (by omega)); (have F1 := ((Fr.refl rb ib w)).then (hfr1.wide)); (have x1_c := I1); obtain ⟨⟨x1_0, x1_1, x1_2, x1_3, x1_4, x1_5, x1_6, x1_7, x1_8, x1_9, x1_10, x1_11, x1_12, x1_13, x1_14, x1_15, x1_16, x1_17, x1_18, x1_19, x1_20, x1_21, x1_22, x1_23⟩, x1_z⟩ := x1_c; (have y1_c := R1); obtain ⟨y1_0, y1_1, y1_2, y1_3, y1_4, y1_5, y1_6, y1_7, y1_8, y1_z, y1_l⟩ := y1_c)
    | (go_at_call 102; (have Q2 := RS.setTo (R1) hib (o)); (try dsimp only [setTo, setFr] at Q2); (with_reducible refine (HN.out _ (Q2)).mono ?_); rintro e w2 ⟨he, hfr2⟩; (have he' : _ = _ := he); subst he'))
  have F9 := ((Fr.setTo (F1) (.inr (.inl rfl)) (o)).then (hfr2.wide))
  try dsimp only [setTo, setFr] at F9
  refine ⟨rfl, ?_, F9⟩
  rw [HR.out]; rfl

set_option maxHeartbeats 2000000 in
theorem rd_numbered_no8 {w : World} {rb ib : Nat} {L : Ln} {a : Nat} {fs : Bool} {rex opc md rg rm : Int} (i : I) (hib : rb < ib) (ha : a ≤ L.len) (hr0 : 0 ≤ rm) (hr8 : rm < 8) (hg0 : 0 ≤ rg) (hg8 : rg < 8) (ho0 : 0 ≤ opc) (ho1 : opc < 65536) (m : Except Int (I × Nat)) (h : RS w rb L a fs rex opc 8 md rg rm) (hI : IW w ib i) (n : Int) (hp : placeM L a fs rex md rm = .error n) (HR : Hid (m = .error n)) :
    Calls Try.prog 83 #[.pointer (some ⟨rb, 0, none⟩), .pointer (some ⟨ib, 0, none⟩)] w fun e w' => EndsR (m) (fun j a' => RS w' rb L a' fs rex opc 8 md rg rm ∧ IW w' ib j) e ∧ Fr rb ib w w' := by
  have HP : Hid (∀ u, RS u rb L a fs rex opc 8 md rg rm → Calls Try.prog 97 #[.pointer (some ⟨rb, 0, none⟩)] u fun e w' => Ends2 (.error n) O.val (fun a' => RS w' rb L a' fs rex opc 8 md rg rm) e ∧ Fr rb rb u w') := ⟨fun u hu => hp ▸ place_any ha hr0 hr8 hu⟩
  (have x0_c := hI); obtain ⟨⟨x0_0, x0_1, x0_2, x0_3, x0_4, x0_5, x0_6, x0_7, x0_8, x0_9, x0_10, x0_11, x0_12, x0_13, x0_14, x0_15, x0_16, x0_17, x0_18, x0_19, x0_20, x0_21, x0_22, x0_23⟩, x0_z⟩ := x0_c
  (have y0_c := h); obtain ⟨y0_0, y0_1, y0_2, y0_3, y0_4, y0_5, y0_6, y0_7, y0_8, y0_z, y0_l⟩ := y0_c
  have hia : Hid (ib < w.heap.size) := ⟨World.block_lt_of_cell? w ⟨ib, 0, none⟩ hI.ia.c0⟩
  go_enter Try.func83, Try.ntmps83
  go_wp2_with (first
    | (go_at_call 97; (with_reducible refine (HP.out _ (h)).mono ?_); rintro e w1 ⟨he, hfr1⟩; (have he' : _ = _ := he); subst he'))
  have F9 := (((Fr.refl rb ib w)).then (hfr1.wide))
  refine ⟨rfl, ?_, F9⟩
  rw [HR.out]; rfl

set_option maxHeartbeats 2000000 in
theorem rd_shifted_ok1 {w : World} {rb ib : Nat} {L : Ln} {a : Nat} {fs : Bool} {rex opc md rg rm : Int} (i : I) (hib : rb < ib) (ha : a ≤ L.len) (hr0 : 0 ≤ rm) (hr8 : rm < 8) (hg0 : 0 ≤ rg) (hg8 : rg < 8) (ho0 : 0 ≤ opc) (ho1 : opc < 65536) (m : Except Int (I × Nat)) (h : RS w rb L a fs rex opc 1 md rg rm) (hI : IW w ib i) (o : O) (a1 : Nat) (hp : placeM L a fs rex md rm = .ok (o, a1)) (ha1 : a1 ≤ L.len) (x : Int) (a2 : Nat) (hn : num L a1 1 = .ok (x, a2)) (hx1 : 0 ≤ x) (hx2 : x < 32) (HR : Hid (m = .ok ((i.wTo o).wFr (immO x), a2))) :
    Calls Try.prog 91 #[.pointer (some ⟨rb, 0, none⟩), .pointer (some ⟨ib, 0, none⟩)] w fun e w' => EndsR (m) (fun j a' => RS w' rb L a' fs rex opc 1 md rg rm ∧ IW w' ib j) e ∧ Fr rb ib w w' := by
  have HP : Hid (∀ u, RS u rb L a fs rex opc 1 md rg rm → Calls Try.prog 97 #[.pointer (some ⟨rb, 0, none⟩)] u fun e w' => Ends2 (.ok (o, a1)) O.val (fun a' => RS w' rb L a' fs rex opc 1 md rg rm) e ∧ Fr rb rb u w') := ⟨fun u hu => hp ▸ place_any ha hr0 hr8 hu⟩
  have HN : Hid (∀ u, RS u rb L a1 fs rex opc 1 md rg rm → Calls Try.prog 102 #[.pointer (some ⟨rb, 0, none⟩), .int .i64 1] u fun e w' => Ends2 (.ok (x, a2)) (Value.int .i64) (fun a' => RS w' rb L a' fs rex opc 1 md rg rm) e ∧ Fr rb rb u w') := ⟨fun u hu => hn ▸ number1 ha1 hu⟩
  (have x0_c := hI); obtain ⟨⟨x0_0, x0_1, x0_2, x0_3, x0_4, x0_5, x0_6, x0_7, x0_8, x0_9, x0_10, x0_11, x0_12, x0_13, x0_14, x0_15, x0_16, x0_17, x0_18, x0_19, x0_20, x0_21, x0_22, x0_23⟩, x0_z⟩ := x0_c
  (have y0_c := h); obtain ⟨y0_0, y0_1, y0_2, y0_3, y0_4, y0_5, y0_6, y0_7, y0_8, y0_z, y0_l⟩ := y0_c
  have hia : Hid (ib < w.heap.size) := ⟨World.block_lt_of_cell? w ⟨ib, 0, none⟩ hI.ia.c0⟩
  go_enter Try.func91, Try.ntmps91
  go_wp2_with (first
    | (go_at_call 97; (with_reducible refine (HP.out _ (h)).mono ?_); rintro e w1 ⟨he, hfr1⟩; obtain ⟨he', R1⟩ := he; subst he'; (have I1 := IW.fr (hI) hfr1 (by omega) (by omega)); (have F1 := ((Fr.refl rb ib w)).then (hfr1.wide)); (have x1_c := I1); obtain ⟨⟨x1_0, x1_1, x1_2, x1_3, x1_4, x1_5, x1_6, x1_7, x1_8, x1_9, x1_10, x1_11, x1_12, x1_13, x1_14, x1_15, x1_16, x1_17, x1_18, x1_19, x1_20, x1_21, x1_22, x1_23⟩, x1_z⟩ := x1_c; (have y1_c := R1); obtain ⟨y1_0, y1_1, y1_2, y1_3, y1_4, y1_5, y1_6, y1_7, y1_8, y1_z, y1_l⟩ := y1_c)
    | (go_at_call 102; (have Q2 := RS.setTo (R1) hib (o)); (try dsimp only [setTo, setFr] at Q2); (with_reducible refine (HN.out _ (Q2)).mono ?_); rintro e w2 ⟨he, hfr2⟩; obtain ⟨he', R2⟩ := he; subst he'; (have I2 := IW.fr (IW.setTo (I1) (o)) hfr2 (by omega) (by omega)); (have F2 := (Fr.setTo (F1) (.inr (.inl rfl)) (o)).then (hfr2.wide)); (have x2_c := I2); obtain ⟨⟨x2_0, x2_1, x2_2, x2_3, x2_4, x2_5, x2_6, x2_7, x2_8, x2_9, x2_10, x2_11, x2_12, x2_13, x2_14, x2_15, x2_16, x2_17, x2_18, x2_19, x2_20, x2_21, x2_22, x2_23⟩, x2_z⟩ := x2_c; (have y2_c := R2); obtain ⟨y2_0, y2_1, y2_2, y2_3, y2_4, y2_5, y2_6, y2_7, y2_8, y2_z, y2_l⟩ := y2_c)
    | (go_at_call 66; (with_reducible refine (insist_yes _).mono ?_); rintro e wz ⟨rfl, hwz⟩; subst wz)
    | (go_at_call 100; (with_reducible refine (immO_any _ _).mono ?_); rintro e w3 ⟨rfl, hb3⟩; (have R3 := RS.bel (R2) hb3); (have I3 := IW.bel (I2) hb3); (have F3 := Fr.bel (F2) hb3); (have x3_c := I3); obtain ⟨⟨x3_0, x3_1, x3_2, x3_3, x3_4, x3_5, x3_6, x3_7, x3_8, x3_9, x3_10, x3_11, x3_12, x3_13, x3_14, x3_15, x3_16, x3_17, x3_18, x3_19, x3_20, x3_21, x3_22, x3_23⟩, x3_z⟩ := x3_c; (have y3_c := R3); obtain ⟨y3_0, y3_1, y3_2, y3_3, y3_4, y3_5, y3_6, y3_7, y3_8, y3_z, y3_l⟩ := y3_c))
  have R9 := RS.setFr (R3) hib (immO x)
  have I9 := IW.setFr (I3) (immO x)
  have F9 := Fr.setFr (F3) (.inr (.inl rfl)) (immO x)
  try dsimp only [setTo, setFr, I.wTo, I.wFr, I.wSz, I.wSh] at R9 I9 F9
  first | go_end0 | refine bodyPost_ret (results_none rfl _ _ _) rfl ?_
  refine ⟨?_, F9⟩
  rw [HR.out]
  exact ⟨rfl, R9, I9⟩

set_option maxHeartbeats 2000000 in
theorem rd_shifted_lo1 {w : World} {rb ib : Nat} {L : Ln} {a : Nat} {fs : Bool} {rex opc md rg rm : Int} (i : I) (hib : rb < ib) (ha : a ≤ L.len) (hr0 : 0 ≤ rm) (hr8 : rm < 8) (hg0 : 0 ≤ rg) (hg8 : rg < 8) (ho0 : 0 ≤ opc) (ho1 : opc < 65536) (m : Except Int (I × Nat)) (h : RS w rb L a fs rex opc 1 md rg rm) (hI : IW w ib i) (o : O) (a1 : Nat) (hp : placeM L a fs rex md rm = .ok (o, a1)) (ha1 : a1 ≤ L.len) (x : Int) (a2 : Nat) (hn : num L a1 1 = .ok (x, a2)) (hx1 : ¬ 0 ≤ x) (HR : Hid (m = .error 30)) :
    Calls Try.prog 91 #[.pointer (some ⟨rb, 0, none⟩), .pointer (some ⟨ib, 0, none⟩)] w fun e w' => EndsR (m) (fun j a' => RS w' rb L a' fs rex opc 1 md rg rm ∧ IW w' ib j) e ∧ Fr rb ib w w' := by
  have HP : Hid (∀ u, RS u rb L a fs rex opc 1 md rg rm → Calls Try.prog 97 #[.pointer (some ⟨rb, 0, none⟩)] u fun e w' => Ends2 (.ok (o, a1)) O.val (fun a' => RS w' rb L a' fs rex opc 1 md rg rm) e ∧ Fr rb rb u w') := ⟨fun u hu => hp ▸ place_any ha hr0 hr8 hu⟩
  have HN : Hid (∀ u, RS u rb L a1 fs rex opc 1 md rg rm → Calls Try.prog 102 #[.pointer (some ⟨rb, 0, none⟩), .int .i64 1] u fun e w' => Ends2 (.ok (x, a2)) (Value.int .i64) (fun a' => RS w' rb L a' fs rex opc 1 md rg rm) e ∧ Fr rb rb u w') := ⟨fun u hu => hn ▸ number1 ha1 hu⟩
  (have x0_c := hI); obtain ⟨⟨x0_0, x0_1, x0_2, x0_3, x0_4, x0_5, x0_6, x0_7, x0_8, x0_9, x0_10, x0_11, x0_12, x0_13, x0_14, x0_15, x0_16, x0_17, x0_18, x0_19, x0_20, x0_21, x0_22, x0_23⟩, x0_z⟩ := x0_c
  (have y0_c := h); obtain ⟨y0_0, y0_1, y0_2, y0_3, y0_4, y0_5, y0_6, y0_7, y0_8, y0_z, y0_l⟩ := y0_c
  have hia : Hid (ib < w.heap.size) := ⟨World.block_lt_of_cell? w ⟨ib, 0, none⟩ hI.ia.c0⟩
  go_enter Try.func91, Try.ntmps91
  go_wp2_with (first
    | (go_at_call 97; (with_reducible refine (HP.out _ (h)).mono ?_); rintro e w1 ⟨he, hfr1⟩; obtain ⟨he', R1⟩ := he; subst he'; (have I1 := IW.fr (hI) hfr1 (by omega) (by omega)); (have F1 := ((Fr.refl rb ib w)).then (hfr1.wide)); (have x1_c := I1); obtain ⟨⟨x1_0, x1_1, x1_2, x1_3, x1_4, x1_5, x1_6, x1_7, x1_8, x1_9, x1_10, x1_11, x1_12, x1_13, x1_14, x1_15, x1_16, x1_17, x1_18, x1_19, x1_20, x1_21, x1_22, x1_23⟩, x1_z⟩ := x1_c; (have y1_c := R1); obtain ⟨y1_0, y1_1, y1_2, y1_3, y1_4, y1_5, y1_6, y1_7, y1_8, y1_z, y1_l⟩ := y1_c)
    | (go_at_call 102; (have Q2 := RS.setTo (R1) hib (o)); (try dsimp only [setTo, setFr] at Q2); (with_reducible refine (HN.out _ (Q2)).mono ?_); rintro e w2 ⟨he, hfr2⟩; obtain ⟨he', R2⟩ := he; subst he'; (have I2 := IW.fr (IW.setTo (I1) (o)) hfr2 (by omega) (by omega)); (have F2 := (Fr.setTo (F1) (.inr (.inl rfl)) (o)).then (hfr2.wide)); (have x2_c := I2); obtain ⟨⟨x2_0, x2_1, x2_2, x2_3, x2_4, x2_5, x2_6, x2_7, x2_8, x2_9, x2_10, x2_11, x2_12, x2_13, x2_14, x2_15, x2_16, x2_17, x2_18, x2_19, x2_20, x2_21, x2_22, x2_23⟩, x2_z⟩ := x2_c; (have y2_c := R2); obtain ⟨y2_0, y2_1, y2_2, y2_3, y2_4, y2_5, y2_6, y2_7, y2_8, y2_z, y2_l⟩ := y2_c)
    | (go_at_call 66; (with_reducible refine (insist_no _).mono ?_); rintro e wz ⟨rfl, hwz⟩; subst wz))
  have F9 := F2
  refine ⟨rfl, ?_, F9⟩
  rw [HR.out]; rfl

set_option maxHeartbeats 2000000 in
theorem rd_shifted_hi1 {w : World} {rb ib : Nat} {L : Ln} {a : Nat} {fs : Bool} {rex opc md rg rm : Int} (i : I) (hib : rb < ib) (ha : a ≤ L.len) (hr0 : 0 ≤ rm) (hr8 : rm < 8) (hg0 : 0 ≤ rg) (hg8 : rg < 8) (ho0 : 0 ≤ opc) (ho1 : opc < 65536) (m : Except Int (I × Nat)) (h : RS w rb L a fs rex opc 1 md rg rm) (hI : IW w ib i) (o : O) (a1 : Nat) (hp : placeM L a fs rex md rm = .ok (o, a1)) (ha1 : a1 ≤ L.len) (x : Int) (a2 : Nat) (hn : num L a1 1 = .ok (x, a2)) (hx1 : 0 ≤ x) (hx2 : ¬ x < 32) (HR : Hid (m = .error 30)) :
    Calls Try.prog 91 #[.pointer (some ⟨rb, 0, none⟩), .pointer (some ⟨ib, 0, none⟩)] w fun e w' => EndsR (m) (fun j a' => RS w' rb L a' fs rex opc 1 md rg rm ∧ IW w' ib j) e ∧ Fr rb ib w w' := by
  have HP : Hid (∀ u, RS u rb L a fs rex opc 1 md rg rm → Calls Try.prog 97 #[.pointer (some ⟨rb, 0, none⟩)] u fun e w' => Ends2 (.ok (o, a1)) O.val (fun a' => RS w' rb L a' fs rex opc 1 md rg rm) e ∧ Fr rb rb u w') := ⟨fun u hu => hp ▸ place_any ha hr0 hr8 hu⟩
  have HN : Hid (∀ u, RS u rb L a1 fs rex opc 1 md rg rm → Calls Try.prog 102 #[.pointer (some ⟨rb, 0, none⟩), .int .i64 1] u fun e w' => Ends2 (.ok (x, a2)) (Value.int .i64) (fun a' => RS w' rb L a' fs rex opc 1 md rg rm) e ∧ Fr rb rb u w') := ⟨fun u hu => hn ▸ number1 ha1 hu⟩
  have hb2 : decide (x < 32) = false := decide_eq_false hx2
  (have x0_c := hI); obtain ⟨⟨x0_0, x0_1, x0_2, x0_3, x0_4, x0_5, x0_6, x0_7, x0_8, x0_9, x0_10, x0_11, x0_12, x0_13, x0_14, x0_15, x0_16, x0_17, x0_18, x0_19, x0_20, x0_21, x0_22, x0_23⟩, x0_z⟩ := x0_c
  (have y0_c := h); obtain ⟨y0_0, y0_1, y0_2, y0_3, y0_4, y0_5, y0_6, y0_7, y0_8, y0_z, y0_l⟩ := y0_c
  have hia : Hid (ib < w.heap.size) := ⟨World.block_lt_of_cell? w ⟨ib, 0, none⟩ hI.ia.c0⟩
  go_enter Try.func91, Try.ntmps91
  go_wp2_with (first
    | (go_at_call 97; (with_reducible refine (HP.out _ (h)).mono ?_); rintro e w1 ⟨he, hfr1⟩; obtain ⟨he', R1⟩ := he; subst he'; (have I1 := IW.fr (hI) hfr1 (by omega) (by omega)); (have F1 := ((Fr.refl rb ib w)).then (hfr1.wide)); (have x1_c := I1); obtain ⟨⟨x1_0, x1_1, x1_2, x1_3, x1_4, x1_5, x1_6, x1_7, x1_8, x1_9, x1_10, x1_11, x1_12, x1_13, x1_14, x1_15, x1_16, x1_17, x1_18, x1_19, x1_20, x1_21, x1_22, x1_23⟩, x1_z⟩ := x1_c; (have y1_c := R1); obtain ⟨y1_0, y1_1, y1_2, y1_3, y1_4, y1_5, y1_6, y1_7, y1_8, y1_z, y1_l⟩ := y1_c)
    | (go_at_call 102; (have Q2 := RS.setTo (R1) hib (o)); (try dsimp only [setTo, setFr] at Q2); (with_reducible refine (HN.out _ (Q2)).mono ?_); rintro e w2 ⟨he, hfr2⟩; obtain ⟨he', R2⟩ := he; subst he'; (have I2 := IW.fr (IW.setTo (I1) (o)) hfr2 (by omega) (by omega)); (have F2 := (Fr.setTo (F1) (.inr (.inl rfl)) (o)).then (hfr2.wide)); (have x2_c := I2); obtain ⟨⟨x2_0, x2_1, x2_2, x2_3, x2_4, x2_5, x2_6, x2_7, x2_8, x2_9, x2_10, x2_11, x2_12, x2_13, x2_14, x2_15, x2_16, x2_17, x2_18, x2_19, x2_20, x2_21, x2_22, x2_23⟩, x2_z⟩ := x2_c; (have y2_c := R2); obtain ⟨y2_0, y2_1, y2_2, y2_3, y2_4, y2_5, y2_6, y2_7, y2_8, y2_z, y2_l⟩ := y2_c)
    | (go_at_call 66; (with_reducible refine (insist_no _).mono ?_); rintro e wz ⟨rfl, hwz⟩; subst wz))
  have F9 := F2
  refine ⟨rfl, ?_, F9⟩
  rw [HR.out]; rfl

set_option maxHeartbeats 2000000 in
theorem rd_shifted_nn1 {w : World} {rb ib : Nat} {L : Ln} {a : Nat} {fs : Bool} {rex opc md rg rm : Int} (i : I) (hib : rb < ib) (ha : a ≤ L.len) (hr0 : 0 ≤ rm) (hr8 : rm < 8) (hg0 : 0 ≤ rg) (hg8 : rg < 8) (ho0 : 0 ≤ opc) (ho1 : opc < 65536) (m : Except Int (I × Nat)) (h : RS w rb L a fs rex opc 1 md rg rm) (hI : IW w ib i) (o : O) (a1 : Nat) (hp : placeM L a fs rex md rm = .ok (o, a1)) (ha1 : a1 ≤ L.len) (n : Int) (hn : num L a1 1 = .error n) (HR : Hid (m = .error n)) :
    Calls Try.prog 91 #[.pointer (some ⟨rb, 0, none⟩), .pointer (some ⟨ib, 0, none⟩)] w fun e w' => EndsR (m) (fun j a' => RS w' rb L a' fs rex opc 1 md rg rm ∧ IW w' ib j) e ∧ Fr rb ib w w' := by
  have HP : Hid (∀ u, RS u rb L a fs rex opc 1 md rg rm → Calls Try.prog 97 #[.pointer (some ⟨rb, 0, none⟩)] u fun e w' => Ends2 (.ok (o, a1)) O.val (fun a' => RS w' rb L a' fs rex opc 1 md rg rm) e ∧ Fr rb rb u w') := ⟨fun u hu => hp ▸ place_any ha hr0 hr8 hu⟩
  have HN : Hid (∀ u, RS u rb L a1 fs rex opc 1 md rg rm → Calls Try.prog 102 #[.pointer (some ⟨rb, 0, none⟩), .int .i64 1] u fun e w' => Ends2 (.error n) (Value.int .i64) (fun a' => RS w' rb L a' fs rex opc 1 md rg rm) e ∧ Fr rb rb u w') := ⟨fun u hu => hn ▸ number1 ha1 hu⟩
  (have x0_c := hI); obtain ⟨⟨x0_0, x0_1, x0_2, x0_3, x0_4, x0_5, x0_6, x0_7, x0_8, x0_9, x0_10, x0_11, x0_12, x0_13, x0_14, x0_15, x0_16, x0_17, x0_18, x0_19, x0_20, x0_21, x0_22, x0_23⟩, x0_z⟩ := x0_c
  (have y0_c := h); obtain ⟨y0_0, y0_1, y0_2, y0_3, y0_4, y0_5, y0_6, y0_7, y0_8, y0_z, y0_l⟩ := y0_c
  have hia : Hid (ib < w.heap.size) := ⟨World.block_lt_of_cell? w ⟨ib, 0, none⟩ hI.ia.c0⟩
  go_enter Try.func91, Try.ntmps91
  go_wp2_with (first
    | (go_at_call 97; (with_reducible refine (HP.out _ (h)).mono ?_); rintro e w1 ⟨he, hfr1⟩; obtain ⟨he', R1⟩ := he; subst he'; (have I1 := IW.fr (hI) hfr1 (by omega) (by omega)); (have F1 := ((Fr.refl rb ib w)).then (hfr1.wide)); (have x1_c := I1); obtain ⟨⟨x1_0, x1_1, x1_2, x1_3, x1_4, x1_5, x1_6, x1_7, x1_8, x1_9, x1_10, x1_11, x1_12, x1_13, x1_14, x1_15, x1_16, x1_17, x1_18, x1_19, x1_20, x1_21, x1_22, x1_23⟩, x1_z⟩ := x1_c; (have y1_c := R1); obtain ⟨y1_0, y1_1, y1_2, y1_3, y1_4, y1_5, y1_6, y1_7, y1_8, y1_z, y1_l⟩ := y1_c)
    | (go_at_call 102; (have Q2 := RS.setTo (R1) hib (o)); (try dsimp only [setTo, setFr] at Q2); (with_reducible refine (HN.out _ (Q2)).mono ?_); rintro e w2 ⟨he, hfr2⟩; (have he' : _ = _ := he); subst he'))
  have F9 := ((Fr.setTo (F1) (.inr (.inl rfl)) (o)).then (hfr2.wide))
  try dsimp only [setTo, setFr] at F9
  refine ⟨rfl, ?_, F9⟩
  rw [HR.out]; rfl

set_option maxHeartbeats 2000000 in
theorem rd_shifted_no1 {w : World} {rb ib : Nat} {L : Ln} {a : Nat} {fs : Bool} {rex opc md rg rm : Int} (i : I) (hib : rb < ib) (ha : a ≤ L.len) (hr0 : 0 ≤ rm) (hr8 : rm < 8) (hg0 : 0 ≤ rg) (hg8 : rg < 8) (ho0 : 0 ≤ opc) (ho1 : opc < 65536) (m : Except Int (I × Nat)) (h : RS w rb L a fs rex opc 1 md rg rm) (hI : IW w ib i) (n : Int) (hp : placeM L a fs rex md rm = .error n) (HR : Hid (m = .error n)) :
    Calls Try.prog 91 #[.pointer (some ⟨rb, 0, none⟩), .pointer (some ⟨ib, 0, none⟩)] w fun e w' => EndsR (m) (fun j a' => RS w' rb L a' fs rex opc 1 md rg rm ∧ IW w' ib j) e ∧ Fr rb ib w w' := by
  have HP : Hid (∀ u, RS u rb L a fs rex opc 1 md rg rm → Calls Try.prog 97 #[.pointer (some ⟨rb, 0, none⟩)] u fun e w' => Ends2 (.error n) O.val (fun a' => RS w' rb L a' fs rex opc 1 md rg rm) e ∧ Fr rb rb u w') := ⟨fun u hu => hp ▸ place_any ha hr0 hr8 hu⟩
  (have x0_c := hI); obtain ⟨⟨x0_0, x0_1, x0_2, x0_3, x0_4, x0_5, x0_6, x0_7, x0_8, x0_9, x0_10, x0_11, x0_12, x0_13, x0_14, x0_15, x0_16, x0_17, x0_18, x0_19, x0_20, x0_21, x0_22, x0_23⟩, x0_z⟩ := x0_c
  (have y0_c := h); obtain ⟨y0_0, y0_1, y0_2, y0_3, y0_4, y0_5, y0_6, y0_7, y0_8, y0_z, y0_l⟩ := y0_c
  have hia : Hid (ib < w.heap.size) := ⟨World.block_lt_of_cell? w ⟨ib, 0, none⟩ hI.ia.c0⟩
  go_enter Try.func91, Try.ntmps91
  go_wp2_with (first
    | (go_at_call 97; (with_reducible refine (HP.out _ (h)).mono ?_); rintro e w1 ⟨he, hfr1⟩; (have he' : _ = _ := he); subst he'))
  have F9 := (((Fr.refl rb ib w)).then (hfr1.wide))
  refine ⟨rfl, ?_, F9⟩
  rw [HR.out]; rfl

set_option maxHeartbeats 2000000 in
theorem rd_shifted_ok4 {w : World} {rb ib : Nat} {L : Ln} {a : Nat} {fs : Bool} {rex opc md rg rm : Int} (i : I) (hib : rb < ib) (ha : a ≤ L.len) (hr0 : 0 ≤ rm) (hr8 : rm < 8) (hg0 : 0 ≤ rg) (hg8 : rg < 8) (ho0 : 0 ≤ opc) (ho1 : opc < 65536) (m : Except Int (I × Nat)) (h : RS w rb L a fs rex opc 4 md rg rm) (hI : IW w ib i) (o : O) (a1 : Nat) (hp : placeM L a fs rex md rm = .ok (o, a1)) (ha1 : a1 ≤ L.len) (x : Int) (a2 : Nat) (hn : num L a1 1 = .ok (x, a2)) (hx1 : 0 ≤ x) (hx2 : x < 32) (HR : Hid (m = .ok ((i.wTo o).wFr (immO x), a2))) :
    Calls Try.prog 91 #[.pointer (some ⟨rb, 0, none⟩), .pointer (some ⟨ib, 0, none⟩)] w fun e w' => EndsR (m) (fun j a' => RS w' rb L a' fs rex opc 4 md rg rm ∧ IW w' ib j) e ∧ Fr rb ib w w' := by
  have HP : Hid (∀ u, RS u rb L a fs rex opc 4 md rg rm → Calls Try.prog 97 #[.pointer (some ⟨rb, 0, none⟩)] u fun e w' => Ends2 (.ok (o, a1)) O.val (fun a' => RS w' rb L a' fs rex opc 4 md rg rm) e ∧ Fr rb rb u w') := ⟨fun u hu => hp ▸ place_any ha hr0 hr8 hu⟩
  have HN : Hid (∀ u, RS u rb L a1 fs rex opc 4 md rg rm → Calls Try.prog 102 #[.pointer (some ⟨rb, 0, none⟩), .int .i64 1] u fun e w' => Ends2 (.ok (x, a2)) (Value.int .i64) (fun a' => RS w' rb L a' fs rex opc 4 md rg rm) e ∧ Fr rb rb u w') := ⟨fun u hu => hn ▸ number1 ha1 hu⟩
  (have x0_c := hI); obtain ⟨⟨x0_0, x0_1, x0_2, x0_3, x0_4, x0_5, x0_6, x0_7, x0_8, x0_9, x0_10, x0_11, x0_12, x0_13, x0_14, x0_15, x0_16, x0_17, x0_18, x0_19, x0_20, x0_21, x0_22, x0_23⟩, x0_z⟩ := x0_c
  (have y0_c := h); obtain ⟨y0_0, y0_1, y0_2, y0_3, y0_4, y0_5, y0_6, y0_7, y0_8, y0_z, y0_l⟩ := y0_c
  have hia : Hid (ib < w.heap.size) := ⟨World.block_lt_of_cell? w ⟨ib, 0, none⟩ hI.ia.c0⟩
  go_enter Try.func91, Try.ntmps91
  go_wp2_with (first
    | (go_at_call 97; (with_reducible refine (HP.out _ (h)).mono ?_); rintro e w1 ⟨he, hfr1⟩; obtain ⟨he', R1⟩ := he; subst he'; (have I1 := IW.fr (hI) hfr1 (by omega) (by omega)); (have F1 := ((Fr.refl rb ib w)).then (hfr1.wide)); (have x1_c := I1); obtain ⟨⟨x1_0, x1_1, x1_2, x1_3, x1_4, x1_5, x1_6, x1_7, x1_8, x1_9, x1_10, x1_11, x1_12, x1_13, x1_14, x1_15, x1_16, x1_17, x1_18, x1_19, x1_20, x1_21, x1_22, x1_23⟩, x1_z⟩ := x1_c; (have y1_c := R1); obtain ⟨y1_0, y1_1, y1_2, y1_3, y1_4, y1_5, y1_6, y1_7, y1_8, y1_z, y1_l⟩ := y1_c)
    | (go_at_call 102; (have Q2 := RS.setTo (R1) hib (o)); (try dsimp only [setTo, setFr] at Q2); (with_reducible refine (HN.out _ (Q2)).mono ?_); rintro e w2 ⟨he, hfr2⟩; obtain ⟨he', R2⟩ := he; subst he'; (have I2 := IW.fr (IW.setTo (I1) (o)) hfr2 (by omega) (by omega)); (have F2 := (Fr.setTo (F1) (.inr (.inl rfl)) (o)).then (hfr2.wide)); (have x2_c := I2); obtain ⟨⟨x2_0, x2_1, x2_2, x2_3, x2_4, x2_5, x2_6, x2_7, x2_8, x2_9, x2_10, x2_11, x2_12, x2_13, x2_14, x2_15, x2_16, x2_17, x2_18, x2_19, x2_20, x2_21, x2_22, x2_23⟩, x2_z⟩ := x2_c; (have y2_c := R2); obtain ⟨y2_0, y2_1, y2_2, y2_3, y2_4, y2_5, y2_6, y2_7, y2_8, y2_z, y2_l⟩ := y2_c)
    | (go_at_call 66; (with_reducible refine (insist_yes _).mono ?_); rintro e wz ⟨rfl, hwz⟩; subst wz)
    | (go_at_call 100; (with_reducible refine (immO_any _ _).mono ?_); rintro e w3 ⟨rfl, hb3⟩; (have R3 := RS.bel (R2) hb3); (have I3 := IW.bel (I2) hb3); (have F3 := Fr.bel (F2) hb3); (have x3_c := I3); obtain ⟨⟨x3_0, x3_1, x3_2, x3_3, x3_4, x3_5, x3_6, x3_7, x3_8, x3_9, x3_10, x3_11, x3_12, x3_13, x3_14, x3_15, x3_16, x3_17, x3_18, x3_19, x3_20, x3_21, x3_22, x3_23⟩, x3_z⟩ := x3_c; (have y3_c := R3); obtain ⟨y3_0, y3_1, y3_2, y3_3, y3_4, y3_5, y3_6, y3_7, y3_8, y3_z, y3_l⟩ := y3_c))
  have R9 := RS.setFr (R3) hib (immO x)
  have I9 := IW.setFr (I3) (immO x)
  have F9 := Fr.setFr (F3) (.inr (.inl rfl)) (immO x)
  try dsimp only [setTo, setFr, I.wTo, I.wFr, I.wSz, I.wSh] at R9 I9 F9
  first | go_end0 | refine bodyPost_ret (results_none rfl _ _ _) rfl ?_
  refine ⟨?_, F9⟩
  rw [HR.out]
  exact ⟨rfl, R9, I9⟩

set_option maxHeartbeats 2000000 in
theorem rd_shifted_lo4 {w : World} {rb ib : Nat} {L : Ln} {a : Nat} {fs : Bool} {rex opc md rg rm : Int} (i : I) (hib : rb < ib) (ha : a ≤ L.len) (hr0 : 0 ≤ rm) (hr8 : rm < 8) (hg0 : 0 ≤ rg) (hg8 : rg < 8) (ho0 : 0 ≤ opc) (ho1 : opc < 65536) (m : Except Int (I × Nat)) (h : RS w rb L a fs rex opc 4 md rg rm) (hI : IW w ib i) (o : O) (a1 : Nat) (hp : placeM L a fs rex md rm = .ok (o, a1)) (ha1 : a1 ≤ L.len) (x : Int) (a2 : Nat) (hn : num L a1 1 = .ok (x, a2)) (hx1 : ¬ 0 ≤ x) (HR : Hid (m = .error 30)) :
    Calls Try.prog 91 #[.pointer (some ⟨rb, 0, none⟩), .pointer (some ⟨ib, 0, none⟩)] w fun e w' => EndsR (m) (fun j a' => RS w' rb L a' fs rex opc 4 md rg rm ∧ IW w' ib j) e ∧ Fr rb ib w w' := by
  have HP : Hid (∀ u, RS u rb L a fs rex opc 4 md rg rm → Calls Try.prog 97 #[.pointer (some ⟨rb, 0, none⟩)] u fun e w' => Ends2 (.ok (o, a1)) O.val (fun a' => RS w' rb L a' fs rex opc 4 md rg rm) e ∧ Fr rb rb u w') := ⟨fun u hu => hp ▸ place_any ha hr0 hr8 hu⟩
  have HN : Hid (∀ u, RS u rb L a1 fs rex opc 4 md rg rm → Calls Try.prog 102 #[.pointer (some ⟨rb, 0, none⟩), .int .i64 1] u fun e w' => Ends2 (.ok (x, a2)) (Value.int .i64) (fun a' => RS w' rb L a' fs rex opc 4 md rg rm) e ∧ Fr rb rb u w') := ⟨fun u hu => hn ▸ number1 ha1 hu⟩
  (have x0_c := hI); obtain ⟨⟨x0_0, x0_1, x0_2, x0_3, x0_4, x0_5, x0_6, x0_7, x0_8, x0_9, x0_10, x0_11, x0_12, x0_13, x0_14, x0_15, x0_16, x0_17, x0_18, x0_19, x0_20, x0_21, x0_22, x0_23⟩, x0_z⟩ := x0_c
  (have y0_c := h); obtain ⟨y0_0, y0_1, y0_2, y0_3, y0_4, y0_5, y0_6, y0_7, y0_8, y0_z, y0_l⟩ := y0_c
  have hia : Hid (ib < w.heap.size) := ⟨World.block_lt_of_cell? w ⟨ib, 0, none⟩ hI.ia.c0⟩
  go_enter Try.func91, Try.ntmps91
  go_wp2_with (first
    | (go_at_call 97; (with_reducible refine (HP.out _ (h)).mono ?_); rintro e w1 ⟨he, hfr1⟩; obtain ⟨he', R1⟩ := he; subst he'; (have I1 := IW.fr (hI) hfr1 (by omega) (by omega)); (have F1 := ((Fr.refl rb ib w)).then (hfr1.wide)); (have x1_c := I1); obtain ⟨⟨x1_0, x1_1, x1_2, x1_3, x1_4, x1_5, x1_6, x1_7, x1_8, x1_9, x1_10, x1_11, x1_12, x1_13, x1_14, x1_15, x1_16, x1_17, x1_18, x1_19, x1_20, x1_21, x1_22, x1_23⟩, x1_z⟩ := x1_c; (have y1_c := R1); obtain ⟨y1_0, y1_1, y1_2, y1_3, y1_4, y1_5, y1_6, y1_7, y1_8, y1_z, y1_l⟩ := y1_c)
    | (go_at_call 102; (have Q2 := RS.setTo (R1) hib (o)); (try dsimp only [setTo, setFr] at Q2); (with_reducible refine (HN.out _ (Q2)).mono ?_); rintro e w2 ⟨he, hfr2⟩; obtain ⟨he', R2⟩ := he; subst he'; (have I2 := IW.fr (IW.setTo (I1) (o)) hfr2 (by omega) (by omega)); (have F2 := (Fr.setTo (F1) (.inr (.inl rfl)) (o)).then (hfr2.wide)); (have x2_c := I2); obtain ⟨⟨x2_0, x2_1, x2_2, x2_3, x2_4, x2_5, x2_6, x2_7, x2_8, x2_9, x2_10, x2_11, x2_12, x2_13, x2_14, x2_15, x2_16, x2_17, x2_18, x2_19, x2_20, x2_21, x2_22, x2_23⟩, x2_z⟩ := x2_c; (have y2_c := R2); obtain ⟨y2_0, y2_1, y2_2, y2_3, y2_4, y2_5, y2_6, y2_7, y2_8, y2_z, y2_l⟩ := y2_c)
    | (go_at_call 66; (with_reducible refine (insist_no _).mono ?_); rintro e wz ⟨rfl, hwz⟩; subst wz))
  have F9 := F2
  refine ⟨rfl, ?_, F9⟩
  rw [HR.out]; rfl

set_option maxHeartbeats 2000000 in
theorem rd_shifted_hi4 {w : World} {rb ib : Nat} {L : Ln} {a : Nat} {fs : Bool} {rex opc md rg rm : Int} (i : I) (hib : rb < ib) (ha : a ≤ L.len) (hr0 : 0 ≤ rm) (hr8 : rm < 8) (hg0 : 0 ≤ rg) (hg8 : rg < 8) (ho0 : 0 ≤ opc) (ho1 : opc < 65536) (m : Except Int (I × Nat)) (h : RS w rb L a fs rex opc 4 md rg rm) (hI : IW w ib i) (o : O) (a1 : Nat) (hp : placeM L a fs rex md rm = .ok (o, a1)) (ha1 : a1 ≤ L.len) (x : Int) (a2 : Nat) (hn : num L a1 1 = .ok (x, a2)) (hx1 : 0 ≤ x) (hx2 : ¬ x < 32) (HR : Hid (m = .error 30)) :
    Calls Try.prog 91 #[.pointer (some ⟨rb, 0, none⟩), .pointer (some ⟨ib, 0, none⟩)] w fun e w' => EndsR (m) (fun j a' => RS w' rb L a' fs rex opc 4 md rg rm ∧ IW w' ib j) e ∧ Fr rb ib w w' := by
  have HP : Hid (∀ u, RS u rb L a fs rex opc 4 md rg rm → Calls Try.prog 97 #[.pointer (some ⟨rb, 0, none⟩)] u fun e w' => Ends2 (.ok (o, a1)) O.val (fun a' => RS w' rb L a' fs rex opc 4 md rg rm) e ∧ Fr rb rb u w') := ⟨fun u hu => hp ▸ place_any ha hr0 hr8 hu⟩
  have HN : Hid (∀ u, RS u rb L a1 fs rex opc 4 md rg rm → Calls Try.prog 102 #[.pointer (some ⟨rb, 0, none⟩), .int .i64 1] u fun e w' => Ends2 (.ok (x, a2)) (Value.int .i64) (fun a' => RS w' rb L a' fs rex opc 4 md rg rm) e ∧ Fr rb rb u w') := ⟨fun u hu => hn ▸ number1 ha1 hu⟩
  have hb2 : decide (x < 32) = false := decide_eq_false hx2
  (have x0_c := hI); obtain ⟨⟨x0_0, x0_1, x0_2, x0_3, x0_4, x0_5, x0_6, x0_7, x0_8, x0_9, x0_10, x0_11, x0_12, x0_13, x0_14, x0_15, x0_16, x0_17, x0_18, x0_19, x0_20, x0_21, x0_22, x0_23⟩, x0_z⟩ := x0_c
  (have y0_c := h); obtain ⟨y0_0, y0_1, y0_2, y0_3, y0_4, y0_5, y0_6, y0_7, y0_8, y0_z, y0_l⟩ := y0_c
  have hia : Hid (ib < w.heap.size) := ⟨World.block_lt_of_cell? w ⟨ib, 0, none⟩ hI.ia.c0⟩
  go_enter Try.func91, Try.ntmps91
  go_wp2_with (first
    | (go_at_call 97; (with_reducible refine (HP.out _ (h)).mono ?_); rintro e w1 ⟨he, hfr1⟩; obtain ⟨he', R1⟩ := he; subst he'; (have I1 := IW.fr (hI) hfr1 (by omega) (by omega)); (have F1 := ((Fr.refl rb ib w)).then (hfr1.wide)); (have x1_c := I1); obtain ⟨⟨x1_0, x1_1, x1_2, x1_3, x1_4, x1_5, x1_6, x1_7, x1_8, x1_9, x1_10, x1_11, x1_12, x1_13, x1_14, x1_15, x1_16, x1_17, x1_18, x1_19, x1_20, x1_21, x1_22, x1_23⟩, x1_z⟩ := x1_c; (have y1_c := R1); obtain ⟨y1_0, y1_1, y1_2, y1_3, y1_4, y1_5, y1_6, y1_7, y1_8, y1_z, y1_l⟩ := y1_c)
    | (go_at_call 102; (have Q2 := RS.setTo (R1) hib (o)); (try dsimp only [setTo, setFr] at Q2); (with_reducible refine (HN.out _ (Q2)).mono ?_); rintro e w2 ⟨he, hfr2⟩; obtain ⟨he', R2⟩ := he; subst he'; (have I2 := IW.fr (IW.setTo (I1) (o)) hfr2 (by omega) (by omega)); (have F2 := (Fr.setTo (F1) (.inr (.inl rfl)) (o)).then (hfr2.wide)); (have x2_c := I2); obtain ⟨⟨x2_0, x2_1, x2_2, x2_3, x2_4, x2_5, x2_6, x2_7, x2_8, x2_9, x2_10, x2_11, x2_12, x2_13, x2_14, x2_15, x2_16, x2_17, x2_18, x2_19, x2_20, x2_21, x2_22, x2_23⟩, x2_z⟩ := x2_c; (have y2_c := R2); obtain ⟨y2_0, y2_1, y2_2, y2_3, y2_4, y2_5, y2_6, y2_7, y2_8, y2_z, y2_l⟩ := y2_c)
    | (go_at_call 66; (with_reducible refine (insist_no _).mono ?_); rintro e wz ⟨rfl, hwz⟩; subst wz))
  have F9 := F2
  refine ⟨rfl, ?_, F9⟩
  rw [HR.out]; rfl

set_option maxHeartbeats 2000000 in
theorem rd_shifted_nn4 {w : World} {rb ib : Nat} {L : Ln} {a : Nat} {fs : Bool} {rex opc md rg rm : Int} (i : I) (hib : rb < ib) (ha : a ≤ L.len) (hr0 : 0 ≤ rm) (hr8 : rm < 8) (hg0 : 0 ≤ rg) (hg8 : rg < 8) (ho0 : 0 ≤ opc) (ho1 : opc < 65536) (m : Except Int (I × Nat)) (h : RS w rb L a fs rex opc 4 md rg rm) (hI : IW w ib i) (o : O) (a1 : Nat) (hp : placeM L a fs rex md rm = .ok (o, a1)) (ha1 : a1 ≤ L.len) (n : Int) (hn : num L a1 1 = .error n) (HR : Hid (m = .error n)) :
    Calls Try.prog 91 #[.pointer (some ⟨rb, 0, none⟩), .pointer (some ⟨ib, 0, none⟩)] w fun e w' => EndsR (m) (fun j a' => RS w' rb L a' fs rex opc 4 md rg rm ∧ IW w' ib j) e ∧ Fr rb ib w w' := by
  have HP : Hid (∀ u, RS u rb L a fs rex opc 4 md rg rm → Calls Try.prog 97 #[.pointer (some ⟨rb, 0, none⟩)] u fun e w' => Ends2 (.ok (o, a1)) O.val (fun a' => RS w' rb L a' fs rex opc 4 md rg rm) e ∧ Fr rb rb u w') := ⟨fun u hu => hp ▸ place_any ha hr0 hr8 hu⟩
  have HN : Hid (∀ u, RS u rb L a1 fs rex opc 4 md rg rm → Calls Try.prog 102 #[.pointer (some ⟨rb, 0, none⟩), .int .i64 1] u fun e w' => Ends2 (.error n) (Value.int .i64) (fun a' => RS w' rb L a' fs rex opc 4 md rg rm) e ∧ Fr rb rb u w') := ⟨fun u hu => hn ▸ number1 ha1 hu⟩
  (have x0_c := hI); obtain ⟨⟨x0_0, x0_1, x0_2, x0_3, x0_4, x0_5, x0_6, x0_7, x0_8, x0_9, x0_10, x0_11, x0_12, x0_13, x0_14, x0_15, x0_16, x0_17, x0_18, x0_19, x0_20, x0_21, x0_22, x0_23⟩, x0_z⟩ := x0_c
  (have y0_c := h); obtain ⟨y0_0, y0_1, y0_2, y0_3, y0_4, y0_5, y0_6, y0_7, y0_8, y0_z, y0_l⟩ := y0_c
  have hia : Hid (ib < w.heap.size) := ⟨World.block_lt_of_cell? w ⟨ib, 0, none⟩ hI.ia.c0⟩
  go_enter Try.func91, Try.ntmps91
  go_wp2_with (first
    | (go_at_call 97; (with_reducible refine (HP.out _ (h)).mono ?_); rintro e w1 ⟨he, hfr1⟩; obtain ⟨he', R1⟩ := he; subst he'; (have I1 := IW.fr (hI) hfr1 (by omega) (by omega)); (have F1 := ((Fr.refl rb ib w)).then (hfr1.wide)); (have x1_c := I1); obtain ⟨⟨x1_0, x1_1, x1_2, x1_3, x1_4, x1_5, x1_6, x1_7, x1_8, x1_9, x1_10, x1_11, x1_12, x1_13, x1_14, x1_15, x1_16, x1_17, x1_18, x1_19, x1_20, x1_21, x1_22, x1_23⟩, x1_z⟩ := x1_c; (have y1_c := R1); obtain ⟨y1_0, y1_1, y1_2, y1_3, y1_4, y1_5, y1_6, y1_7, y1_8, y1_z, y1_l⟩ := y1_c)
    | (go_at_call 102; (have Q2 := RS.setTo (R1) hib (o)); (try dsimp only [setTo, setFr] at Q2); (with_reducible refine (HN.out _ (Q2)).mono ?_); rintro e w2 ⟨he, hfr2⟩; (have he' : _ = _ := he); subst he'))
  have F9 := ((Fr.setTo (F1) (.inr (.inl rfl)) (o)).then (hfr2.wide))
  try dsimp only [setTo, setFr] at F9
  refine ⟨rfl, ?_, F9⟩
  rw [HR.out]; rfl

set_option maxHeartbeats 2000000 in
theorem rd_shifted_no4 {w : World} {rb ib : Nat} {L : Ln} {a : Nat} {fs : Bool} {rex opc md rg rm : Int} (i : I) (hib : rb < ib) (ha : a ≤ L.len) (hr0 : 0 ≤ rm) (hr8 : rm < 8) (hg0 : 0 ≤ rg) (hg8 : rg < 8) (ho0 : 0 ≤ opc) (ho1 : opc < 65536) (m : Except Int (I × Nat)) (h : RS w rb L a fs rex opc 4 md rg rm) (hI : IW w ib i) (n : Int) (hp : placeM L a fs rex md rm = .error n) (HR : Hid (m = .error n)) :
    Calls Try.prog 91 #[.pointer (some ⟨rb, 0, none⟩), .pointer (some ⟨ib, 0, none⟩)] w fun e w' => EndsR (m) (fun j a' => RS w' rb L a' fs rex opc 4 md rg rm ∧ IW w' ib j) e ∧ Fr rb ib w w' := by
  have HP : Hid (∀ u, RS u rb L a fs rex opc 4 md rg rm → Calls Try.prog 97 #[.pointer (some ⟨rb, 0, none⟩)] u fun e w' => Ends2 (.error n) O.val (fun a' => RS w' rb L a' fs rex opc 4 md rg rm) e ∧ Fr rb rb u w') := ⟨fun u hu => hp ▸ place_any ha hr0 hr8 hu⟩
  (have x0_c := hI); obtain ⟨⟨x0_0, x0_1, x0_2, x0_3, x0_4, x0_5, x0_6, x0_7, x0_8, x0_9, x0_10, x0_11, x0_12, x0_13, x0_14, x0_15, x0_16, x0_17, x0_18, x0_19, x0_20, x0_21, x0_22, x0_23⟩, x0_z⟩ := x0_c
  (have y0_c := h); obtain ⟨y0_0, y0_1, y0_2, y0_3, y0_4, y0_5, y0_6, y0_7, y0_8, y0_z, y0_l⟩ := y0_c
  have hia : Hid (ib < w.heap.size) := ⟨World.block_lt_of_cell? w ⟨ib, 0, none⟩ hI.ia.c0⟩
  go_enter Try.func91, Try.ntmps91
  go_wp2_with (first
    | (go_at_call 97; (with_reducible refine (HP.out _ (h)).mono ?_); rintro e w1 ⟨he, hfr1⟩; (have he' : _ = _ := he); subst he'))
  have F9 := (((Fr.refl rb ib w)).then (hfr1.wide))
  refine ⟨rfl, ?_, F9⟩
  rw [HR.out]; rfl

set_option maxHeartbeats 2000000 in
theorem rd_shifted_ok8 {w : World} {rb ib : Nat} {L : Ln} {a : Nat} {fs : Bool} {rex opc md rg rm : Int} (i : I) (hib : rb < ib) (ha : a ≤ L.len) (hr0 : 0 ≤ rm) (hr8 : rm < 8) (hg0 : 0 ≤ rg) (hg8 : rg < 8) (ho0 : 0 ≤ opc) (ho1 : opc < 65536) (m : Except Int (I × Nat)) (h : RS w rb L a fs rex opc 8 md rg rm) (hI : IW w ib i) (o : O) (a1 : Nat) (hp : placeM L a fs rex md rm = .ok (o, a1)) (ha1 : a1 ≤ L.len) (x : Int) (a2 : Nat) (hn : num L a1 1 = .ok (x, a2)) (hx1 : 0 ≤ x) (hx2 : x < 64) (HR : Hid (m = .ok ((i.wTo o).wFr (immO x), a2))) :
    Calls Try.prog 91 #[.pointer (some ⟨rb, 0, none⟩), .pointer (some ⟨ib, 0, none⟩)] w fun e w' => EndsR (m) (fun j a' => RS w' rb L a' fs rex opc 8 md rg rm ∧ IW w' ib j) e ∧ Fr rb ib w w' := by
  have HP : Hid (∀ u, RS u rb L a fs rex opc 8 md rg rm → Calls Try.prog 97 #[.pointer (some ⟨rb, 0, none⟩)] u fun e w' => Ends2 (.ok (o, a1)) O.val (fun a' => RS w' rb L a' fs rex opc 8 md rg rm) e ∧ Fr rb rb u w') := ⟨fun u hu => hp ▸ place_any ha hr0 hr8 hu⟩
  have HN : Hid (∀ u, RS u rb L a1 fs rex opc 8 md rg rm → Calls Try.prog 102 #[.pointer (some ⟨rb, 0, none⟩), .int .i64 1] u fun e w' => Ends2 (.ok (x, a2)) (Value.int .i64) (fun a' => RS w' rb L a' fs rex opc 8 md rg rm) e ∧ Fr rb rb u w') := ⟨fun u hu => hn ▸ number1 ha1 hu⟩
  (have x0_c := hI); obtain ⟨⟨x0_0, x0_1, x0_2, x0_3, x0_4, x0_5, x0_6, x0_7, x0_8, x0_9, x0_10, x0_11, x0_12, x0_13, x0_14, x0_15, x0_16, x0_17, x0_18, x0_19, x0_20, x0_21, x0_22, x0_23⟩, x0_z⟩ := x0_c
  (have y0_c := h); obtain ⟨y0_0, y0_1, y0_2, y0_3, y0_4, y0_5, y0_6, y0_7, y0_8, y0_z, y0_l⟩ := y0_c
  have hia : Hid (ib < w.heap.size) := ⟨World.block_lt_of_cell? w ⟨ib, 0, none⟩ hI.ia.c0⟩
  go_enter Try.func91, Try.ntmps91
  go_wp2_with (first
    | (go_at_call 97; (with_reducible refine (HP.out _ (h)).mono ?_); rintro e w1 ⟨he, hfr1⟩; obtain ⟨he', R1⟩ := he; subst he'; (have I1 := IW.fr (hI) hfr1 (by omega) (by omega)); (have F1 := ((Fr.refl rb ib w)).then (hfr1.wide)); (have x1_c := I1); obtain ⟨⟨x1_0, x1_1, x1_2, x1_3, x1_4, x1_5, x1_6, x1_7, x1_8, x1_9, x1_10, x1_11, x1_12, x1_13, x1_14, x1_15, x1_16, x1_17, x1_18, x1_19, x1_20, x1_21, x1_22, x1_23⟩, x1_z⟩ := x1_c; (have y1_c := R1); obtain ⟨y1_0, y1_1, y1_2, y1_3, y1_4, y1_5, y1_6, y1_7, y1_8, y1_z, y1_l⟩ := y1_c)
    | (go_at_call 102; (have Q2 := RS.setTo (R1) hib (o)); (try dsimp only [setTo, setFr] at Q2); (with_reducible refine (HN.out _ (Q2)).mono ?_); rintro e w2 ⟨he, hfr2⟩; obtain ⟨he', R2⟩ := he; subst he'; (have I2 := IW.fr (IW.setTo (I1) (o)) hfr2 (by omega) (by omega)); (have F2 := (Fr.setTo (F1) (.inr (.inl rfl)) (o)).then (hfr2.wide)); (have x2_c := I2); obtain ⟨⟨x2_0, x2_1, x2_2, x2_3, x2_4, x2_5, x2_6, x2_7, x2_8, x2_9, x2_10, x2_11, x2_12, x2_13, x2_14, x2_15, x2_16, x2_17, x2_18, x2_19, x2_20, x2_21, x2_22, x2_23⟩, x2_z⟩ := x2_c; (have y2_c := R2); obtain ⟨y2_0, y2_1, y2_2, y2_3, y2_4, y2_5, y2_6, y2_7, y2_8, y2_z, y2_l⟩ := y2_c)
    | (go_at_call 66; (with_reducible refine (insist_yes _).mono ?_); rintro e wz ⟨rfl, hwz⟩; subst wz)
    | (go_at_call 100; (with_reducible refine (immO_any _ _).mono ?_); rintro e w3 ⟨rfl, hb3⟩; (have R3 := RS.bel (R2) hb3); (have I3 := IW.bel (I2) hb3); (have F3 := Fr.bel (F2) hb3); (have x3_c := I3); obtain ⟨⟨x3_0, x3_1, x3_2, x3_3, x3_4, x3_5, x3_6, x3_7, x3_8, x3_9, x3_10, x3_11, x3_12, x3_13, x3_14, x3_15, x3_16, x3_17, x3_18, x3_19, x3_20, x3_21, x3_22, x3_23⟩, x3_z⟩ := x3_c; (have y3_c := R3); obtain ⟨y3_0, y3_1, y3_2, y3_3, y3_4, y3_5, y3_6, y3_7, y3_8, y3_z, y3_l⟩ := y3_c))
  have R9 := RS.setFr (R3) hib (immO x)
  have I9 := IW.setFr (I3) (immO x)
  have F9 := Fr.setFr (F3) (.inr (.inl rfl)) (immO x)
  try dsimp only [setTo, setFr, I.wTo, I.wFr, I.wSz, I.wSh] at R9 I9 F9
  first | go_end0 | refine bodyPost_ret (results_none rfl _ _ _) rfl ?_
  refine ⟨?_, F9⟩
  rw [HR.out]
  exact ⟨rfl, R9, I9⟩

set_option maxHeartbeats 2000000 in
theorem rd_shifted_lo8 {w : World} {rb ib : Nat} {L : Ln} {a : Nat} {fs : Bool} {rex opc md rg rm : Int} (i : I) (hib : rb < ib) (ha : a ≤ L.len) (hr0 : 0 ≤ rm) (hr8 : rm < 8) (hg0 : 0 ≤ rg) (hg8 : rg < 8) (ho0 : 0 ≤ opc) (ho1 : opc < 65536) (m : Except Int (I × Nat)) (h : RS w rb L a fs rex opc 8 md rg rm) (hI : IW w ib i) (o : O) (a1 : Nat) (hp : placeM L a fs rex md rm = .ok (o, a1)) (ha1 : a1 ≤ L.len) (x : Int) (a2 : Nat) (hn : num L a1 1 = .ok (x, a2)) (hx1 : ¬ 0 ≤ x) (HR : Hid (m = .error 30)) :
    Calls Try.prog 91 #[.pointer (some ⟨rb, 0, none⟩), .pointer (some ⟨ib, 0, none⟩)] w fun e w' => EndsR (m) (fun j a' => RS w' rb L a' fs rex opc 8 md rg rm ∧ IW w' ib j) e ∧ Fr rb ib w w' := by
  have HP : Hid (∀ u, RS u rb L a fs rex opc 8 md rg rm → Calls Try.prog 97 #[.pointer (some ⟨rb, 0, none⟩)] u fun e w' => Ends2 (.ok (o, a1)) O.val (fun a' => RS w' rb L a' fs rex opc 8 md rg rm) e ∧ Fr rb rb u w') := ⟨fun u hu => hp ▸ place_any ha hr0 hr8 hu⟩
  have HN : Hid (∀ u, RS u rb L a1 fs rex opc 8 md rg rm → Calls Try.prog 102 #[.pointer (some ⟨rb, 0, none⟩), .int .i64 1] u fun e w' => Ends2 (.ok (x, a2)) (Value.int .i64) (fun a' => RS w' rb L a' fs rex opc 8 md rg rm) e ∧ Fr rb rb u w') := ⟨fun u hu => hn ▸ number1 ha1 hu⟩
  (have x0_c := hI); obtain ⟨⟨x0_0, x0_1, x0_2, x0_3, x0_4, x0_5, x0_6, x0_7, x0_8, x0_9, x0_10, x0_11, x0_12, x0_13, x0_14, x0_15, x0_16, x0_17, x0_18, x0_19, x0_20, x0_21, x0_22, x0_23⟩, x0_z⟩ := x0_c
  (have y0_c := h); obtain ⟨y0_0, y0_1, y0_2, y0_3, y0_4, y0_5, y0_6, y0_7, y0_8, y0_z, y0_l⟩ := y0_c
  have hia : Hid (ib < w.heap.size) := ⟨World.block_lt_of_cell? w ⟨ib, 0, none⟩ hI.ia.c0⟩
  go_enter Try.func91, Try.ntmps91
  go_wp2_with (first
    | (go_at_call 97; (with_reducible refine (HP.out _ (h)).mono ?_); rintro e w1 ⟨he, hfr1⟩; obtain ⟨he', R1⟩ := he; subst he'; (have I1 := IW.fr (hI) hfr1 (by omega) (by omega)); (have F1 := ((Fr.refl rb ib w)).then (hfr1.wide)); (have x1_c := I1); obtain ⟨⟨x1_0, x1_1, x1_2, x1_3, x1_4, x1_5, x1_6, x1_7, x1_8, x1_9, x1_10, x1_11, x1_12, x1_13, x1_14, x1_15, x1_16, x1_17, x1_18, x1_19, x1_20, x1_21, x1_22, x1_23⟩, x1_z⟩ := x1_c; (have y1_c := R1); obtain ⟨y1_0, y1_1, y1_2, y1_3, y1_4, y1_5, y1_6, y1_7, y1_8, y1_z, y1_l⟩ := y1_c)
    | (go_at_call 102; (have Q2 := RS.setTo (R1) hib (o)); (try dsimp only [setTo, setFr] at Q2); (with_reducible refine (HN.out _ (Q2)).mono ?_); rintro e w2 ⟨he, hfr2⟩; obtain ⟨he', R2⟩ := he; subst he'; (have I2 := IW.fr (IW.setTo (I1) (o)) hfr2 (by omega) (by omega)); (have F2 := (Fr.setTo (F1) (.inr (.inl rfl)) (o)).then (hfr2.wide)); (have x2_c := I2); obtain ⟨⟨x2_0, x2_1, x2_2, x2_3, x2_4, x2_5, x2_6, x2_7, x2_8, x2_9, x2_10, x2_11, x2_12, x2_13, x2_14, x2_15, x2_16, x2_17, x2_18, x2_19, x2_20, x2_21, x2_22, x2_23⟩, x2_z⟩ := x2_c; (have y2_c := R2); obtain ⟨y2_0, y2_1, y2_2, y2_3, y2_4, y2_5, y2_6, y2_7, y2_8, y2_z, y2_l⟩ := y2_c)
    | (go_at_call 66; (with_reducible refine (insist_no _).mono ?_); rintro e wz ⟨rfl, hwz⟩; subst wz))
  have F9 := F2
  refine ⟨rfl, ?_, F9⟩
  rw [HR.out]; rfl

set_option maxHeartbeats 2000000 in
theorem rd_shifted_hi8 {w : World} {rb ib : Nat} {L : Ln} {a : Nat} {fs : Bool} {rex opc md rg rm : Int} (i : I) (hib : rb < ib) (ha : a ≤ L.len) (hr0 : 0 ≤ rm) (hr8 : rm < 8) (hg0 : 0 ≤ rg) (hg8 : rg < 8) (ho0 : 0 ≤ opc) (ho1 : opc < 65536) (m : Except Int (I × Nat)) (h : RS w rb L a fs rex opc 8 md rg rm) (hI : IW w ib i) (o : O) (a1 : Nat) (hp : placeM L a fs rex md rm = .ok (o, a1)) (ha1 : a1 ≤ L.len) (x : Int) (a2 : Nat) (hn : num L a1 1 = .ok (x, a2)) (hx1 : 0 ≤ x) (hx2 : ¬ x < 64) (HR : Hid (m = .error 30)) :
    Calls Try.prog 91 #[.pointer (some ⟨rb, 0, none⟩), .pointer (some ⟨ib, 0, none⟩)] w fun e w' => EndsR (m) (fun j a' => RS w' rb L a' fs rex opc 8 md rg rm ∧ IW w' ib j) e ∧ Fr rb ib w w' := by
  have HP : Hid (∀ u, RS u rb L a fs rex opc 8 md rg rm → Calls Try.prog 97 #[.pointer (some ⟨rb, 0, none⟩)] u fun e w' => Ends2 (.ok (o, a1)) O.val (fun a' => RS w' rb L a' fs rex opc 8 md rg rm) e ∧ Fr rb rb u w') := ⟨fun u hu => hp ▸ place_any ha hr0 hr8 hu⟩
  have HN : Hid (∀ u, RS u rb L a1 fs rex opc 8 md rg rm → Calls Try.prog 102 #[.pointer (some ⟨rb, 0, none⟩), .int .i64 1] u fun e w' => Ends2 (.ok (x, a2)) (Value.int .i64) (fun a' => RS w' rb L a' fs rex opc 8 md rg rm) e ∧ Fr rb rb u w') := ⟨fun u hu => hn ▸ number1 ha1 hu⟩
  have hb2 : decide (x < 64) = false := decide_eq_false hx2
  (have x0_c := hI); obtain ⟨⟨x0_0, x0_1, x0_2, x0_3, x0_4, x0_5, x0_6, x0_7, x0_8, x0_9, x0_10, x0_11, x0_12, x0_13, x0_14, x0_15, x0_16, x0_17, x0_18, x0_19, x0_20, x0_21, x0_22, x0_23⟩, x0_z⟩ := x0_c
  (have y0_c := h); obtain ⟨y0_0, y0_1, y0_2, y0_3, y0_4, y0_5, y0_6, y0_7, y0_8, y0_z, y0_l⟩ := y0_c
  have hia : Hid (ib < w.heap.size) := ⟨World.block_lt_of_cell? w ⟨ib, 0, none⟩ hI.ia.c0⟩
  go_enter Try.func91, Try.ntmps91
  go_wp2_with (first
    | (go_at_call 97; (with_reducible refine (HP.out _ (h)).mono ?_); rintro e w1 ⟨he, hfr1⟩; obtain ⟨he', R1⟩ := he; subst he'; (have I1 := IW.fr (hI) hfr1 (by omega) (by omega)); (have F1 := ((Fr.refl rb ib w)).then (hfr1.wide)); (have x1_c := I1); obtain ⟨⟨x1_0, x1_1, x1_2, x1_3, x1_4, x1_5, x1_6, x1_7, x1_8, x1_9, x1_10, x1_11, x1_12, x1_13, x1_14, x1_15, x1_16, x1_17, x1_18, x1_19, x1_20, x1_21, x1_22, x1_23⟩, x1_z⟩ := x1_c; (have y1_c := R1); obtain ⟨y1_0, y1_1, y1_2, y1_3, y1_4, y1_5, y1_6, y1_7, y1_8, y1_z, y1_l⟩ := y1_c)
    | (go_at_call 102; (have Q2 := RS.setTo (R1) hib (o)); (try dsimp only [setTo, setFr] at Q2); (with_reducible refine (HN.out _ (Q2)).mono ?_); rintro e w2 ⟨he, hfr2⟩; obtain ⟨he', R2⟩ := he; subst he'; (have I2 := IW.fr (IW.setTo (I1) (o)) hfr2 (by omega) (by omega)); (have F2 := (Fr.setTo (F1) (.inr (.inl rfl)) (o)).then (hfr2.wide)); (have x2_c := I2); obtain ⟨⟨x2_0, x2_1, x2_2, x2_3, x2_4, x2_5, x2_6, x2_7, x2_8, x2_9, x2_10, x2_11, x2_12, x2_13, x2_14, x2_15, x2_16, x2_17, x2_18, x2_19, x2_20, x2_21, x2_22, x2_23⟩, x2_z⟩ := x2_c; (have y2_c := R2); obtain ⟨y2_0, y2_1, y2_2, y2_3, y2_4, y2_5, y2_6, y2_7, y2_8, y2_z, y2_l⟩ := y2_c)
    | (go_at_call 66; (with_reducible refine (insist_no _).mono ?_); rintro e wz ⟨rfl, hwz⟩; subst wz))
  have F9 := F2
  refine ⟨rfl, ?_, F9⟩
  rw [HR.out]; rfl

set_option maxHeartbeats 2000000 in
theorem rd_shifted_nn8 {w : World} {rb ib : Nat} {L : Ln} {a : Nat} {fs : Bool} {rex opc md rg rm : Int} (i : I) (hib : rb < ib) (ha : a ≤ L.len) (hr0 : 0 ≤ rm) (hr8 : rm < 8) (hg0 : 0 ≤ rg) (hg8 : rg < 8) (ho0 : 0 ≤ opc) (ho1 : opc < 65536) (m : Except Int (I × Nat)) (h : RS w rb L a fs rex opc 8 md rg rm) (hI : IW w ib i) (o : O) (a1 : Nat) (hp : placeM L a fs rex md rm = .ok (o, a1)) (ha1 : a1 ≤ L.len) (n : Int) (hn : num L a1 1 = .error n) (HR : Hid (m = .error n)) :
    Calls Try.prog 91 #[.pointer (some ⟨rb, 0, none⟩), .pointer (some ⟨ib, 0, none⟩)] w fun e w' => EndsR (m) (fun j a' => RS w' rb L a' fs rex opc 8 md rg rm ∧ IW w' ib j) e ∧ Fr rb ib w w' := by
  have HP : Hid (∀ u, RS u rb L a fs rex opc 8 md rg rm → Calls Try.prog 97 #[.pointer (some ⟨rb, 0, none⟩)] u fun e w' => Ends2 (.ok (o, a1)) O.val (fun a' => RS w' rb L a' fs rex opc 8 md rg rm) e ∧ Fr rb rb u w') := ⟨fun u hu => hp ▸ place_any ha hr0 hr8 hu⟩
  have HN : Hid (∀ u, RS u rb L a1 fs rex opc 8 md rg rm → Calls Try.prog 102 #[.pointer (some ⟨rb, 0, none⟩), .int .i64 1] u fun e w' => Ends2 (.error n) (Value.int .i64) (fun a' => RS w' rb L a' fs rex opc 8 md rg rm) e ∧ Fr rb rb u w') := ⟨fun u hu => hn ▸ number1 ha1 hu⟩
  (have x0_c := hI); obtain ⟨⟨x0_0, x0_1, x0_2, x0_3, x0_4, x0_5, x0_6, x0_7, x0_8, x0_9, x0_10, x0_11, x0_12, x0_13, x0_14, x0_15, x0_16, x0_17, x0_18, x0_19, x0_20, x0_21, x0_22, x0_23⟩, x0_z⟩ := x0_c
  (have y0_c := h); obtain ⟨y0_0, y0_1, y0_2, y0_3, y0_4, y0_5, y0_6, y0_7, y0_8, y0_z, y0_l⟩ := y0_c
  have hia : Hid (ib < w.heap.size) := ⟨World.block_lt_of_cell? w ⟨ib, 0, none⟩ hI.ia.c0⟩
  go_enter Try.func91, Try.ntmps91
  go_wp2_with (first
    | (go_at_call 97; (with_reducible refine (HP.out _ (h)).mono ?_); rintro e w1 ⟨he, hfr1⟩; obtain ⟨he', R1⟩ := he; subst he'; (have I1 := IW.fr (hI) hfr1 (by omega) (by omega)); (have F1 := ((Fr.refl rb ib w)).then (hfr1.wide)); (have x1_c := I1); obtain ⟨⟨x1_0, x1_1, x1_2, x1_3, x1_4, x1_5, x1_6, x1_7, x1_8, x1_9, x1_10, x1_11, x1_12, x1_13, x1_14, x1_15, x1_16, x1_17, x1_18, x1_19, x1_20, x1_21, x1_22, x1_23⟩, x1_z⟩ := x1_c; (have y1_c := R1); obtain ⟨y1_0, y1_1, y1_2, y1_3, y1_4, y1_5, y1_6, y1_7, y1_8, y1_z, y1_l⟩ := y1_c)
    | (go_at_call 102; (have Q2 := RS.setTo (R1) hib (o)); (try dsimp only [setTo, setFr] at Q2); (with_reducible refine (HN.out _ (Q2)).mono ?_); rintro e w2 ⟨he, hfr2⟩; (have he' : _ = _ := he); subst he'))
  have F9 := ((Fr.setTo (F1) (.inr (.inl rfl)) (o)).then (hfr2.wide))
  try dsimp only [setTo, setFr] at F9
  refine ⟨rfl, ?_, F9⟩
  rw [HR.out]; rfl

set_option maxHeartbeats 2000000 in
theorem rd_shifted_no8 {w : World} {rb ib : Nat} {L : Ln} {a : Nat} {fs : Bool} {rex opc md rg rm : Int} (i : I) (hib : rb < ib) (ha : a ≤ L.len) (hr0 : 0 ≤ rm) (hr8 : rm < 8) (hg0 : 0 ≤ rg) (hg8 : rg < 8) (ho0 : 0 ≤ opc) (ho1 : opc < 65536) (m : Except Int (I × Nat)) (h : RS w rb L a fs rex opc 8 md rg rm) (hI : IW w ib i) (n : Int) (hp : placeM L a fs rex md rm = .error n) (HR : Hid (m = .error n)) :
    Calls Try.prog 91 #[.pointer (some ⟨rb, 0, none⟩), .pointer (some ⟨ib, 0, none⟩)] w fun e w' => EndsR (m) (fun j a' => RS w' rb L a' fs rex opc 8 md rg rm ∧ IW w' ib j) e ∧ Fr rb ib w w' := by
  have HP : Hid (∀ u, RS u rb L a fs rex opc 8 md rg rm → Calls Try.prog 97 #[.pointer (some ⟨rb, 0, none⟩)] u fun e w' => Ends2 (.error n) O.val (fun a' => RS w' rb L a' fs rex opc 8 md rg rm) e ∧ Fr rb rb u w') := ⟨fun u hu => hp ▸ place_any ha hr0 hr8 hu⟩
  (have x0_c := hI); obtain ⟨⟨x0_0, x0_1, x0_2, x0_3, x0_4, x0_5, x0_6, x0_7, x0_8, x0_9, x0_10, x0_11, x0_12, x0_13, x0_14, x0_15, x0_16, x0_17, x0_18, x0_19, x0_20, x0_21, x0_22, x0_23⟩, x0_z⟩ := x0_c
  (have y0_c := h); obtain ⟨y0_0, y0_1, y0_2, y0_3, y0_4, y0_5, y0_6, y0_7, y0_8, y0_z, y0_l⟩ := y0_c
  have hia : Hid (ib < w.heap.size) := ⟨World.block_lt_of_cell? w ⟨ib, 0, none⟩ hI.ia.c0⟩
  go_enter Try.func91, Try.ntmps91
  go_wp2_with (first
    | (go_at_call 97; (with_reducible refine (HP.out _ (h)).mono ?_); rintro e w1 ⟨he, hfr1⟩; (have he' : _ = _ := he); subst he'))
  have F9 := (((Fr.refl rb ib w)).then (hfr1.wide))
  refine ⟨rfl, ?_, F9⟩
  rw [HR.out]; rfl

end Go.Proofs.Ytjbepojopfbajaa
