/- The contracts of the calls that put operands in: what goes through memory. -/
import Derived.Test.YtjbepojopfbajaaDInst
namespace Go.Proofs.Ytjbepojopfbajaa
open Go.ChangeShapes Go.WideShapes Go.ChangeAt Go.RowKit
set_option linter.unusedVariables false
set_option linter.unusedSimpArgs false

set_option maxHeartbeats 2000000 in
theorem rd_reached_aok {w : World} {rb ib : Nat} {L : Ln} {a : Nat} {fs : Bool} {rex opc sz md rg rm : Int} (i : I) (hib : rb < ib) (ha : a ≤ L.len) (hr0 : 0 ≤ rm) (hr8 : rm < 8) (hg0 : 0 ≤ rg) (hg8 : rg < 8) (ho0 : 0 ≤ opc) (ho1 : opc < 65536) (m : Except Int (I × Nat)) (h : RS w rb L a fs rex opc sz md rg rm) (hI : IW w ib i) (hop : i.op = 15) (o : O) (a1 : Nat) (hp : placeM L a fs rex md rm = .ok (o, a1)) (HR : Hid (m = .ok (i.wTo o, a1))) :
    Calls Try.prog 96 #[.pointer (some ⟨rb, 0, none⟩), .pointer (some ⟨ib, 0, none⟩)] w fun e w' => EndsR (m) (fun j a' => RS w' rb L a' fs rex opc sz md rg rm ∧ IW w' ib j) e ∧ Fr rb ib w w' := by
  have HP : Hid (∀ u, RS u rb L a fs rex opc sz md rg rm → Calls Try.prog 97 #[.pointer (some ⟨rb, 0, none⟩)] u fun e w' => Ends2 (.ok (o, a1)) O.val (fun a' => RS w' rb L a' fs rex opc sz md rg rm) e ∧ Fr rb rb u w') := ⟨fun u hu => hp ▸ place_any ha hr0 hr8 hu⟩
  (have x0_c := hI); obtain ⟨⟨x0_0, x0_1, x0_2, x0_3, x0_4, x0_5, x0_6, x0_7, x0_8, x0_9, x0_10, x0_11, x0_12, x0_13, x0_14, x0_15, x0_16, x0_17, x0_18, x0_19, x0_20, x0_21, x0_22, x0_23⟩, x0_z⟩ := x0_c
  (have y0_c := h); obtain ⟨y0_0, y0_1, y0_2, y0_3, y0_4, y0_5, y0_6, y0_7, y0_8, y0_z, y0_l⟩ := y0_c
  have hia : Hid (ib < w.heap.size) := ⟨World.block_lt_of_cell? w ⟨ib, 0, none⟩ hI.ia.c0⟩
  go_enter Try.func96, Try.ntmps96
  go_wp2_with (first
    | (go_at_call 97; (with_reducible refine (HP.out _ (h)).mono ?_); rintro e w1 ⟨he, hfr1⟩; obtain ⟨he', R1⟩ := he; subst he'; (have I1 := IW.fr (hI) hfr1 (by omega) (by omega)); (have F1 := ((Fr.refl rb ib w)).then (hfr1.wide)); (have x1_c := I1); obtain ⟨⟨x1_0, x1_1, x1_2, x1_3, x1_4, x1_5, x1_6, x1_7, x1_8, x1_9, x1_10, x1_11, x1_12, x1_13, x1_14, x1_15, x1_16, x1_17, x1_18, x1_19, x1_20, x1_21, x1_22, x1_23⟩, x1_z⟩ := x1_c; (have y1_c := R1); obtain ⟨y1_0, y1_1, y1_2, y1_3, y1_4, y1_5, y1_6, y1_7, y1_8, y1_z, y1_l⟩ := y1_c))
  have R9 := RS.setTo (R1) hib (o)
  have I9 := IW.setTo (I1) (o)
  have F9 := Fr.setTo (F1) (.inr (.inl rfl)) (o)
  try dsimp only [setTo, setFr, I.wTo, I.wFr, I.wSz, I.wSh] at R9 I9 F9
  first | go_end0 | refine bodyPost_ret (results_none rfl _ _ _) rfl ?_
  refine ⟨?_, F9⟩
  rw [HR.out]
  exact ⟨rfl, R9, I9⟩

set_option maxHeartbeats 2000000 in
theorem rd_reached_ano {w : World} {rb ib : Nat} {L : Ln} {a : Nat} {fs : Bool} {rex opc sz md rg rm : Int} (i : I) (hib : rb < ib) (ha : a ≤ L.len) (hr0 : 0 ≤ rm) (hr8 : rm < 8) (hg0 : 0 ≤ rg) (hg8 : rg < 8) (ho0 : 0 ≤ opc) (ho1 : opc < 65536) (m : Except Int (I × Nat)) (h : RS w rb L a fs rex opc sz md rg rm) (hI : IW w ib i) (hop : i.op = 15) (n : Int) (hp : placeM L a fs rex md rm = .error n) (HR : Hid (m = .error n)) :
    Calls Try.prog 96 #[.pointer (some ⟨rb, 0, none⟩), .pointer (some ⟨ib, 0, none⟩)] w fun e w' => EndsR (m) (fun j a' => RS w' rb L a' fs rex opc sz md rg rm ∧ IW w' ib j) e ∧ Fr rb ib w w' := by
  have HP : Hid (∀ u, RS u rb L a fs rex opc sz md rg rm → Calls Try.prog 97 #[.pointer (some ⟨rb, 0, none⟩)] u fun e w' => Ends2 (.error n) O.val (fun a' => RS w' rb L a' fs rex opc sz md rg rm) e ∧ Fr rb rb u w') := ⟨fun u hu => hp ▸ place_any ha hr0 hr8 hu⟩
  (have x0_c := hI); obtain ⟨⟨x0_0, x0_1, x0_2, x0_3, x0_4, x0_5, x0_6, x0_7, x0_8, x0_9, x0_10, x0_11, x0_12, x0_13, x0_14, x0_15, x0_16, x0_17, x0_18, x0_19, x0_20, x0_21, x0_22, x0_23⟩, x0_z⟩ := x0_c
  (have y0_c := h); obtain ⟨y0_0, y0_1, y0_2, y0_3, y0_4, y0_5, y0_6, y0_7, y0_8, y0_z, y0_l⟩ := y0_c
  have hia : Hid (ib < w.heap.size) := ⟨World.block_lt_of_cell? w ⟨ib, 0, none⟩ hI.ia.c0⟩
  go_enter Try.func96, Try.ntmps96
  go_wp2_with (first
    | (go_at_call 97; (with_reducible refine (HP.out _ (h)).mono ?_); rintro e w1 ⟨he, hfr1⟩; (have he' : _ = _ := he); subst he'))
  have F9 := (((Fr.refl rb ib w)).then (hfr1.wide))
  refine ⟨rfl, ?_, F9⟩
  rw [HR.out]; rfl

set_option maxHeartbeats 2000000 in
theorem rd_reached_bok {w : World} {rb ib : Nat} {L : Ln} {a : Nat} {fs : Bool} {rex opc sz md rg rm : Int} (i : I) (hib : rb < ib) (ha : a ≤ L.len) (hr0 : 0 ≤ rm) (hr8 : rm < 8) (hg0 : 0 ≤ rg) (hg8 : rg < 8) (ho0 : 0 ≤ opc) (ho1 : opc < 65536) (m : Except Int (I × Nat)) (h : RS w rb L a fs rex opc sz md rg rm) (hI : IW w ib i) (hop : i.op = 16) (o : O) (a1 : Nat) (hp : placeM L a fs rex md rm = .ok (o, a1)) (HR : Hid (m = .ok (i.wTo o, a1))) :
    Calls Try.prog 96 #[.pointer (some ⟨rb, 0, none⟩), .pointer (some ⟨ib, 0, none⟩)] w fun e w' => EndsR (m) (fun j a' => RS w' rb L a' fs rex opc sz md rg rm ∧ IW w' ib j) e ∧ Fr rb ib w w' := by
  have HP : Hid (∀ u, RS u rb L a fs rex opc sz md rg rm → Calls Try.prog 97 #[.pointer (some ⟨rb, 0, none⟩)] u fun e w' => Ends2 (.ok (o, a1)) O.val (fun a' => RS w' rb L a' fs rex opc sz md rg rm) e ∧ Fr rb rb u w') := ⟨fun u hu => hp ▸ place_any ha hr0 hr8 hu⟩
  (have x0_c := hI); obtain ⟨⟨x0_0, x0_1, x0_2, x0_3, x0_4, x0_5, x0_6, x0_7, x0_8, x0_9, x0_10, x0_11, x0_12, x0_13, x0_14, x0_15, x0_16, x0_17, x0_18, x0_19, x0_20, x0_21, x0_22, x0_23⟩, x0_z⟩ := x0_c
  (have y0_c := h); obtain ⟨y0_0, y0_1, y0_2, y0_3, y0_4, y0_5, y0_6, y0_7, y0_8, y0_z, y0_l⟩ := y0_c
  have hia : Hid (ib < w.heap.size) := ⟨World.block_lt_of_cell? w ⟨ib, 0, none⟩ hI.ia.c0⟩
  go_enter Try.func96, Try.ntmps96
  go_wp2_with (first
    | (go_at_call 97; (with_reducible refine (HP.out _ (h)).mono ?_); rintro e w1 ⟨he, hfr1⟩; obtain ⟨he', R1⟩ := he; subst he'; (have I1 := IW.fr (hI) hfr1 (by omega) (by omega)); (have F1 := ((Fr.refl rb ib w)).then (hfr1.wide)); (have x1_c := I1); obtain ⟨⟨x1_0, x1_1, x1_2, x1_3, x1_4, x1_5, x1_6, x1_7, x1_8, x1_9, x1_10, x1_11, x1_12, x1_13, x1_14, x1_15, x1_16, x1_17, x1_18, x1_19, x1_20, x1_21, x1_22, x1_23⟩, x1_z⟩ := x1_c; (have y1_c := R1); obtain ⟨y1_0, y1_1, y1_2, y1_3, y1_4, y1_5, y1_6, y1_7, y1_8, y1_z, y1_l⟩ := y1_c))
  have R9 := RS.setTo (R1) hib (o)
  have I9 := IW.setTo (I1) (o)
  have F9 := Fr.setTo (F1) (.inr (.inl rfl)) (o)
  try dsimp only [setTo, setFr, I.wTo, I.wFr, I.wSz, I.wSh] at R9 I9 F9
  first | go_end0 | refine bodyPost_ret (results_none rfl _ _ _) rfl ?_
  refine ⟨?_, F9⟩
  rw [HR.out]
  exact ⟨rfl, R9, I9⟩

set_option maxHeartbeats 2000000 in
theorem rd_reached_bno {w : World} {rb ib : Nat} {L : Ln} {a : Nat} {fs : Bool} {rex opc sz md rg rm : Int} (i : I) (hib : rb < ib) (ha : a ≤ L.len) (hr0 : 0 ≤ rm) (hr8 : rm < 8) (hg0 : 0 ≤ rg) (hg8 : rg < 8) (ho0 : 0 ≤ opc) (ho1 : opc < 65536) (m : Except Int (I × Nat)) (h : RS w rb L a fs rex opc sz md rg rm) (hI : IW w ib i) (hop : i.op = 16) (n : Int) (hp : placeM L a fs rex md rm = .error n) (HR : Hid (m = .error n)) :
    Calls Try.prog 96 #[.pointer (some ⟨rb, 0, none⟩), .pointer (some ⟨ib, 0, none⟩)] w fun e w' => EndsR (m) (fun j a' => RS w' rb L a' fs rex opc sz md rg rm ∧ IW w' ib j) e ∧ Fr rb ib w w' := by
  have HP : Hid (∀ u, RS u rb L a fs rex opc sz md rg rm → Calls Try.prog 97 #[.pointer (some ⟨rb, 0, none⟩)] u fun e w' => Ends2 (.error n) O.val (fun a' => RS w' rb L a' fs rex opc sz md rg rm) e ∧ Fr rb rb u w') := ⟨fun u hu => hp ▸ place_any ha hr0 hr8 hu⟩
  (have x0_c := hI); obtain ⟨⟨x0_0, x0_1, x0_2, x0_3, x0_4, x0_5, x0_6, x0_7, x0_8, x0_9, x0_10, x0_11, x0_12, x0_13, x0_14, x0_15, x0_16, x0_17, x0_18, x0_19, x0_20, x0_21, x0_22, x0_23⟩, x0_z⟩ := x0_c
  (have y0_c := h); obtain ⟨y0_0, y0_1, y0_2, y0_3, y0_4, y0_5, y0_6, y0_7, y0_8, y0_z, y0_l⟩ := y0_c
  have hia : Hid (ib < w.heap.size) := ⟨World.block_lt_of_cell? w ⟨ib, 0, none⟩ hI.ia.c0⟩
  go_enter Try.func96, Try.ntmps96
  go_wp2_with (first
    | (go_at_call 97; (with_reducible refine (HP.out _ (h)).mono ?_); rintro e w1 ⟨he, hfr1⟩; (have he' : _ = _ := he); subst he'))
  have F9 := (((Fr.refl rb ib w)).then (hfr1.wide))
  refine ⟨rfl, ?_, F9⟩
  rw [HR.out]; rfl

set_option maxHeartbeats 2000000 in
theorem rd_reached_no4 {w : World} {rb ib : Nat} {L : Ln} {a : Nat} {fs : Bool} {rex opc sz md rg rm : Int} (i : I) (hib : rb < ib) (ha : a ≤ L.len) (hr0 : 0 ≤ rm) (hr8 : rm < 8) (hg0 : 0 ≤ rg) (hg8 : rg < 8) (ho0 : 0 ≤ opc) (ho1 : opc < 65536) (m : Except Int (I × Nat)) (h : RS w rb L a fs rex opc sz md rg rm) (hI : IW w ib i) (h15 : (i.op == 15) = false) (h15n : (i.op != 15) = true) (h16 : (i.op == 16) = false) (h16n : (i.op != 16) = true) (h4 : (sz == 4) = false) (HR : Hid (m = .error 30)) :
    Calls Try.prog 96 #[.pointer (some ⟨rb, 0, none⟩), .pointer (some ⟨ib, 0, none⟩)] w fun e w' => EndsR (m) (fun j a' => RS w' rb L a' fs rex opc sz md rg rm ∧ IW w' ib j) e ∧ Fr rb ib w w' := by
  (have x0_c := hI); obtain ⟨⟨x0_0, x0_1, x0_2, x0_3, x0_4, x0_5, x0_6, x0_7, x0_8, x0_9, x0_10, x0_11, x0_12, x0_13, x0_14, x0_15, x0_16, x0_17, x0_18, x0_19, x0_20, x0_21, x0_22, x0_23⟩, x0_z⟩ := x0_c
  (have y0_c := h); obtain ⟨y0_0, y0_1, y0_2, y0_3, y0_4, y0_5, y0_6, y0_7, y0_8, y0_z, y0_l⟩ := y0_c
  have hia : Hid (ib < w.heap.size) := ⟨World.block_lt_of_cell? w ⟨ib, 0, none⟩ hI.ia.c0⟩
  go_enter Try.func96, Try.ntmps96
  go_wp2_with (first
    | (go_at_call 66; (with_reducible refine (insist_no _).mono ?_); rintro e wz ⟨rfl, hwz⟩; subst wz))
  have F9 := (Fr.refl rb ib w)
  refine ⟨rfl, ?_, F9⟩
  rw [HR.out]; rfl

set_option maxHeartbeats 2000000 in
theorem rd_reached_ok {w : World} {rb ib : Nat} {L : Ln} {a : Nat} {fs : Bool} {rex opc sz md rg rm : Int} (i : I) (hib : rb < ib) (ha : a ≤ L.len) (hr0 : 0 ≤ rm) (hr8 : rm < 8) (hg0 : 0 ≤ rg) (hg8 : rg < 8) (ho0 : 0 ≤ opc) (ho1 : opc < 65536) (m : Except Int (I × Nat)) (h : RS w rb L a fs rex opc sz md rg rm) (hI : IW w ib i) (h15 : (i.op == 15) = false) (h15n : (i.op != 15) = true) (h16 : (i.op == 16) = false) (h16n : (i.op != 16) = true) (h4 : (sz == 4) = true) (h20 : (i.op == 20) = false) (o : O) (a1 : Nat) (hp : placeM L a fs rex md rm = .ok (o, a1)) (HR : Hid (m = .ok ((i.wSz 8).wTo o, a1))) :
    Calls Try.prog 96 #[.pointer (some ⟨rb, 0, none⟩), .pointer (some ⟨ib, 0, none⟩)] w fun e w' => EndsR (m) (fun j a' => RS w' rb L a' fs rex opc sz md rg rm ∧ IW w' ib j) e ∧ Fr rb ib w w' := by
  have HP : Hid (∀ u, RS u rb L a fs rex opc sz md rg rm → Calls Try.prog 97 #[.pointer (some ⟨rb, 0, none⟩)] u fun e w' => Ends2 (.ok (o, a1)) O.val (fun a' => RS w' rb L a' fs rex opc sz md rg rm) e ∧ Fr rb rb u w') := ⟨fun u hu => hp ▸ place_any ha hr0 hr8 hu⟩
  (have x0_c := hI); obtain ⟨⟨x0_0, x0_1, x0_2, x0_3, x0_4, x0_5, x0_6, x0_7, x0_8, x0_9, x0_10, x0_11, x0_12, x0_13, x0_14, x0_15, x0_16, x0_17, x0_18, x0_19, x0_20, x0_21, x0_22, x0_23⟩, x0_z⟩ := x0_c
  (have y0_c := h); obtain ⟨y0_0, y0_1, y0_2, y0_3, y0_4, y0_5, y0_6, y0_7, y0_8, y0_z, y0_l⟩ := y0_c
  have hia : Hid (ib < w.heap.size) := ⟨World.block_lt_of_cell? w ⟨ib, 0, none⟩ hI.ia.c0⟩
  go_enter Try.func96, Try.ntmps96
  go_wp2_with (first
    | (go_at_call 66; (with_reducible refine (insist_yes _).mono ?_); rintro e wz ⟨rfl, hwz⟩; subst wz)
    | (go_at_call 97; (have Q1 := RS.fr (h) ((Fr.refl ib ib _).setA 1 (.int .i64 8)) hib hib); (try dsimp only [setTo, setFr] at Q1); (with_reducible refine (HP.out _ (Q1)).mono ?_); rintro e w1 ⟨he, hfr1⟩; obtain ⟨he', R1⟩ := he; subst he'; (have I1 := IW.fr (IW.size (hI) (8)) hfr1 (by omega) (by omega)); (have F1 := (Fr.setB ((Fr.refl rb ib w)) 1 (.int .i64 8)).then (hfr1.wide)); (have x1_c := I1); obtain ⟨⟨x1_0, x1_1, x1_2, x1_3, x1_4, x1_5, x1_6, x1_7, x1_8, x1_9, x1_10, x1_11, x1_12, x1_13, x1_14, x1_15, x1_16, x1_17, x1_18, x1_19, x1_20, x1_21, x1_22, x1_23⟩, x1_z⟩ := x1_c; (have y1_c := R1); obtain ⟨y1_0, y1_1, y1_2, y1_3, y1_4, y1_5, y1_6, y1_7, y1_8, y1_z, y1_l⟩ := y1_c))
  have R9 := RS.setTo (R1) hib (o)
  have I9 := IW.setTo (I1) (o)
  have F9 := Fr.setTo (F1) (.inr (.inl rfl)) (o)
  try dsimp only [setTo, setFr, I.wTo, I.wFr, I.wSz, I.wSh] at R9 I9 F9
  first | go_end0 | refine bodyPost_ret (results_none rfl _ _ _) rfl ?_
  refine ⟨?_, F9⟩
  rw [HR.out]
  exact ⟨rfl, R9, I9⟩

set_option maxHeartbeats 2000000 in
theorem rd_reached_no {w : World} {rb ib : Nat} {L : Ln} {a : Nat} {fs : Bool} {rex opc sz md rg rm : Int} (i : I) (hib : rb < ib) (ha : a ≤ L.len) (hr0 : 0 ≤ rm) (hr8 : rm < 8) (hg0 : 0 ≤ rg) (hg8 : rg < 8) (ho0 : 0 ≤ opc) (ho1 : opc < 65536) (m : Except Int (I × Nat)) (h : RS w rb L a fs rex opc sz md rg rm) (hI : IW w ib i) (h15 : (i.op == 15) = false) (h15n : (i.op != 15) = true) (h16 : (i.op == 16) = false) (h16n : (i.op != 16) = true) (h4 : (sz == 4) = true) (h20 : (i.op == 20) = false) (n : Int) (hp : placeM L a fs rex md rm = .error n) (HR : Hid (m = .error n)) :
    Calls Try.prog 96 #[.pointer (some ⟨rb, 0, none⟩), .pointer (some ⟨ib, 0, none⟩)] w fun e w' => EndsR (m) (fun j a' => RS w' rb L a' fs rex opc sz md rg rm ∧ IW w' ib j) e ∧ Fr rb ib w w' := by
  have HP : Hid (∀ u, RS u rb L a fs rex opc sz md rg rm → Calls Try.prog 97 #[.pointer (some ⟨rb, 0, none⟩)] u fun e w' => Ends2 (.error n) O.val (fun a' => RS w' rb L a' fs rex opc sz md rg rm) e ∧ Fr rb rb u w') := ⟨fun u hu => hp ▸ place_any ha hr0 hr8 hu⟩
  (have x0_c := hI); obtain ⟨⟨x0_0, x0_1, x0_2, x0_3, x0_4, x0_5, x0_6, x0_7, x0_8, x0_9, x0_10, x0_11, x0_12, x0_13, x0_14, x0_15, x0_16, x0_17, x0_18, x0_19, x0_20, x0_21, x0_22, x0_23⟩, x0_z⟩ := x0_c
  (have y0_c := h); obtain ⟨y0_0, y0_1, y0_2, y0_3, y0_4, y0_5, y0_6, y0_7, y0_8, y0_z, y0_l⟩ := y0_c
  have hia : Hid (ib < w.heap.size) := ⟨World.block_lt_of_cell? w ⟨ib, 0, none⟩ hI.ia.c0⟩
  go_enter Try.func96, Try.ntmps96
  go_wp2_with (first
    | (go_at_call 66; (with_reducible refine (insist_yes _).mono ?_); rintro e wz ⟨rfl, hwz⟩; subst wz)
    | (go_at_call 97; (have Q1 := RS.fr (h) ((Fr.refl ib ib _).setA 1 (.int .i64 8)) hib hib); (try dsimp only [setTo, setFr] at Q1); (with_reducible refine (HP.out _ (Q1)).mono ?_); rintro e w1 ⟨he, hfr1⟩; (have he' : _ = _ := he); subst he'))
  have F9 := ((Fr.setB ((Fr.refl rb ib w)) 1 (.int .i64 8)).then (hfr1.wide))
  refine ⟨rfl, ?_, F9⟩
  rw [HR.out]; rfl

set_option maxHeartbeats 2000000 in
theorem rd_reached_pok {w : World} {rb ib : Nat} {L : Ln} {a : Nat} {fs : Bool} {rex opc sz md rg rm : Int} (i : I) (hib : rb < ib) (ha : a ≤ L.len) (hr0 : 0 ≤ rm) (hr8 : rm < 8) (hg0 : 0 ≤ rg) (hg8 : rg < 8) (ho0 : 0 ≤ opc) (ho1 : opc < 65536) (m : Except Int (I × Nat)) (h : RS w rb L a fs rex opc sz md rg rm) (hI : IW w ib i) (h15 : (i.op == 15) = false) (h15n : (i.op != 15) = true) (h16 : (i.op == 16) = false) (h16n : (i.op != 16) = true) (h4 : (sz == 4) = true) (h20 : (i.op == 20) = true) (h3 : (md == 3) = false) (h3n : (md != 3) = true) (o : O) (a1 : Nat) (hp : placeM L a fs rex md rm = .ok (o, a1)) (HR : Hid (m = .ok ((i.wSz 8).wFr o, a1))) :
    Calls Try.prog 96 #[.pointer (some ⟨rb, 0, none⟩), .pointer (some ⟨ib, 0, none⟩)] w fun e w' => EndsR (m) (fun j a' => RS w' rb L a' fs rex opc sz md rg rm ∧ IW w' ib j) e ∧ Fr rb ib w w' := by
  have HP : Hid (∀ u, RS u rb L a fs rex opc sz md rg rm → Calls Try.prog 97 #[.pointer (some ⟨rb, 0, none⟩)] u fun e w' => Ends2 (.ok (o, a1)) O.val (fun a' => RS w' rb L a' fs rex opc sz md rg rm) e ∧ Fr rb rb u w') := ⟨fun u hu => hp ▸ place_any ha hr0 hr8 hu⟩
  (have x0_c := hI); obtain ⟨⟨x0_0, x0_1, x0_2, x0_3, x0_4, x0_5, x0_6, x0_7, x0_8, x0_9, x0_10, x0_11, x0_12, x0_13, x0_14, x0_15, x0_16, x0_17, x0_18, x0_19, x0_20, x0_21, x0_22, x0_23⟩, x0_z⟩ := x0_c
  (have y0_c := h); obtain ⟨y0_0, y0_1, y0_2, y0_3, y0_4, y0_5, y0_6, y0_7, y0_8, y0_z, y0_l⟩ := y0_c
  have hia : Hid (ib < w.heap.size) := ⟨World.block_lt_of_cell? w ⟨ib, 0, none⟩ hI.ia.c0⟩
  go_enter Try.func96, Try.ntmps96
  go_wp2_with (first
    | (go_at_call 66; (with_reducible refine (insist_yes _).mono ?_); rintro e wz ⟨rfl, hwz⟩; subst wz)
    | (go_at_call 97; (have Q1 := RS.fr (h) ((Fr.refl ib ib _).setA 1 (.int .i64 8)) hib hib); (try dsimp only [setTo, setFr] at Q1); (with_reducible refine (HP.out _ (Q1)).mono ?_); rintro e w1 ⟨he, hfr1⟩; obtain ⟨he', R1⟩ := he; subst he'; (have I1 := IW.fr (IW.size (hI) (8)) hfr1 (by omega) (by omega)); (have F1 := (Fr.setB ((Fr.refl rb ib w)) 1 (.int .i64 8)).then (hfr1.wide)); (have x1_c := I1); obtain ⟨⟨x1_0, x1_1, x1_2, x1_3, x1_4, x1_5, x1_6, x1_7, x1_8, x1_9, x1_10, x1_11, x1_12, x1_13, x1_14, x1_15, x1_16, x1_17, x1_18, x1_19, x1_20, x1_21, x1_22, x1_23⟩, x1_z⟩ := x1_c; (have y1_c := R1); obtain ⟨y1_0, y1_1, y1_2, y1_3, y1_4, y1_5, y1_6, y1_7, y1_8, y1_z, y1_l⟩ := y1_c))
  have R9 := RS.setFr (R1) hib (o)
  have I9 := IW.setFr (I1) (o)
  have F9 := Fr.setFr (F1) (.inr (.inl rfl)) (o)
  try dsimp only [setTo, setFr, I.wTo, I.wFr, I.wSz, I.wSh] at R9 I9 F9
  first | go_end0 | refine bodyPost_ret (results_none rfl _ _ _) rfl ?_
  refine ⟨?_, F9⟩
  rw [HR.out]
  exact ⟨rfl, R9, I9⟩

set_option maxHeartbeats 2000000 in
theorem rd_reached_pno {w : World} {rb ib : Nat} {L : Ln} {a : Nat} {fs : Bool} {rex opc sz md rg rm : Int} (i : I) (hib : rb < ib) (ha : a ≤ L.len) (hr0 : 0 ≤ rm) (hr8 : rm < 8) (hg0 : 0 ≤ rg) (hg8 : rg < 8) (ho0 : 0 ≤ opc) (ho1 : opc < 65536) (m : Except Int (I × Nat)) (h : RS w rb L a fs rex opc sz md rg rm) (hI : IW w ib i) (h15 : (i.op == 15) = false) (h15n : (i.op != 15) = true) (h16 : (i.op == 16) = false) (h16n : (i.op != 16) = true) (h4 : (sz == 4) = true) (h20 : (i.op == 20) = true) (h3 : (md == 3) = false) (h3n : (md != 3) = true) (n : Int) (hp : placeM L a fs rex md rm = .error n) (HR : Hid (m = .error n)) :
    Calls Try.prog 96 #[.pointer (some ⟨rb, 0, none⟩), .pointer (some ⟨ib, 0, none⟩)] w fun e w' => EndsR (m) (fun j a' => RS w' rb L a' fs rex opc sz md rg rm ∧ IW w' ib j) e ∧ Fr rb ib w w' := by
  have HP : Hid (∀ u, RS u rb L a fs rex opc sz md rg rm → Calls Try.prog 97 #[.pointer (some ⟨rb, 0, none⟩)] u fun e w' => Ends2 (.error n) O.val (fun a' => RS w' rb L a' fs rex opc sz md rg rm) e ∧ Fr rb rb u w') := ⟨fun u hu => hp ▸ place_any ha hr0 hr8 hu⟩
  (have x0_c := hI); obtain ⟨⟨x0_0, x0_1, x0_2, x0_3, x0_4, x0_5, x0_6, x0_7, x0_8, x0_9, x0_10, x0_11, x0_12, x0_13, x0_14, x0_15, x0_16, x0_17, x0_18, x0_19, x0_20, x0_21, x0_22, x0_23⟩, x0_z⟩ := x0_c
  (have y0_c := h); obtain ⟨y0_0, y0_1, y0_2, y0_3, y0_4, y0_5, y0_6, y0_7, y0_8, y0_z, y0_l⟩ := y0_c
  have hia : Hid (ib < w.heap.size) := ⟨World.block_lt_of_cell? w ⟨ib, 0, none⟩ hI.ia.c0⟩
  go_enter Try.func96, Try.ntmps96
  go_wp2_with (first
    | (go_at_call 66; (with_reducible refine (insist_yes _).mono ?_); rintro e wz ⟨rfl, hwz⟩; subst wz)
    | (go_at_call 97; (have Q1 := RS.fr (h) ((Fr.refl ib ib _).setA 1 (.int .i64 8)) hib hib); (try dsimp only [setTo, setFr] at Q1); (with_reducible refine (HP.out _ (Q1)).mono ?_); rintro e w1 ⟨he, hfr1⟩; (have he' : _ = _ := he); subst he'))
  have F9 := ((Fr.setB ((Fr.refl rb ib w)) 1 (.int .i64 8)).then (hfr1.wide))
  refine ⟨rfl, ?_, F9⟩
  rw [HR.out]; rfl

set_option maxHeartbeats 2000000 in
theorem rd_reached_p3 {w : World} {rb ib : Nat} {L : Ln} {a : Nat} {fs : Bool} {rex opc sz md rg rm : Int} (i : I) (hib : rb < ib) (ha : a ≤ L.len) (hr0 : 0 ≤ rm) (hr8 : rm < 8) (hg0 : 0 ≤ rg) (hg8 : rg < 8) (ho0 : 0 ≤ opc) (ho1 : opc < 65536) (m : Except Int (I × Nat)) (h : RS w rb L a fs rex opc sz md rg rm) (hI : IW w ib i) (h15 : (i.op == 15) = false) (h15n : (i.op != 15) = true) (h16 : (i.op == 16) = false) (h16n : (i.op != 16) = true) (h4 : (sz == 4) = true) (h20 : (i.op == 20) = true) (h3 : (md == 3) = true) (h3n : (md != 3) = false)  (HR : Hid (m = .error 30)) :
    Calls Try.prog 96 #[.pointer (some ⟨rb, 0, none⟩), .pointer (some ⟨ib, 0, none⟩)] w fun e w' => EndsR (m) (fun j a' => RS w' rb L a' fs rex opc sz md rg rm ∧ IW w' ib j) e ∧ Fr rb ib w w' := by
  (have x0_c := hI); obtain ⟨⟨x0_0, x0_1, x0_2, x0_3, x0_4, x0_5, x0_6, x0_7, x0_8, x0_9, x0_10, x0_11, x0_12, x0_13, x0_14, x0_15, x0_16, x0_17, x0_18, x0_19, x0_20, x0_21, x0_22, x0_23⟩, x0_z⟩ := x0_c
  (have y0_c := h); obtain ⟨y0_0, y0_1, y0_2, y0_3, y0_4, y0_5, y0_6, y0_7, y0_8, y0_z, y0_l⟩ := y0_c
  have hia : Hid (ib < w.heap.size) := ⟨World.block_lt_of_cell? w ⟨ib, 0, none⟩ hI.ia.c0⟩
  go_enter Try.func96, Try.ntmps96
  go_wp2_with (first
    | (go_at_call 66; (with_reducible refine (insist_yes _).mono ?_); rintro e wz ⟨rfl, hwz⟩; subst wz)
    | (go_at_call 66; (with_reducible refine (insist_no _).mono ?_); rintro e wz ⟨rfl, hwz⟩; subst wz))
  have F9 := Fr.setB ((Fr.refl rb ib w)) 1 (.int .i64 8)
  try dsimp only [setTo, setFr] at F9
  refine ⟨rfl, ?_, F9⟩
  rw [HR.out]; rfl

end Go.Proofs.Ytjbepojopfbajaa
