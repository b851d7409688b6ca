/- The contracts of the calls that put operands in without a number. -/
import Derived.Test.YtjbepojopfbajaaDInst
namespace Go.Proofs.Ytjbepojopfbajaa
open Go.ChangeShapes Go.WideShapes Go.ChangeAt Go.RowKit
set_option linter.unusedVariables false
set_option linter.unusedSimpArgs false


theorem num_le {L : Ln} {a s : Nat} {x : Int} {a' : Nat} (h : num L a s = .ok (x, a')) : a' ≤ L.len := by
  unfold num at h; split at h
  · cases h; assumption
  · cases h
theorem lng_le {L : Ln} {a s f : Nat} {x : Int} {a' : Nat} (h : lng L a s f = .ok (x, a')) : a' ≤ L.len := by
  unfold lng at h
  rcases hn : num L a s with n | ⟨y, b⟩
  · rw [hn] at h; cases h
  · rw [hn] at h
    simp only [bind, Except.bind, must] at h
    split at h
    · cases h; exact num_le hn
    · cases h
theorem disp_le {L : Ln} {a : Nat} {md b x : Int} {a' : Nat} (ha : a ≤ L.len) (h : dispM L a md b = .ok (x, a')) : a' ≤ L.len := by
  unfold dispM at h
  split at h
  · exact num_le h
  · split at h
    · cases h; exact ha
    · rcases hn : num L a 1 with n | ⟨y, c⟩
      · rw [hn] at h; cases h
      · rw [hn] at h
        simp only [bind, Except.bind, must] at h
        split at h
        · cases h; exact num_le hn
        · cases h
theorem nxt_le {L : Ln} {a : Nat} {p : Int × Nat} (h : nxt L a = .ok p) : p.2 ≤ L.len := by
  unfold nxt at h; split at h
  · cases h; omega
  · cases h
theorem mem_le {L : Ln} {a : Nat} {fs : Bool} {rex md rm : Int} {p : O × Nat} (ha : a ≤ L.len) (h : memM L a fs rex md rm = .ok p) : p.2 ≤ L.len := by
  unfold memM at h
  split at h
  · cases h; exact ha
  · split at h
    · cases h; exact ha
    · split at h
      · rcases hn : nxt L a with n | q
        · rw [hn] at h; cases h
        · rw [hn] at h
          simp only [bind, Except.bind, must] at h
          split at h
          · cases h; exact nxt_le hn
          · cases h
      · rcases hn : nxt L a with n | q
        · rw [hn] at h; cases h
        · rw [hn] at h
          simp only [bind, Except.bind] at h
          rcases hs : sibA rex md q.1 with n | t
          · rw [hs] at h; cases h
          · rw [hs] at h; cases h; exact nxt_le hn
theorem place_le {L : Ln} {a : Nat} {fs : Bool} {rex md rm : Int} {o : O} {a' : Nat} (ha : a ≤ L.len) (h : placeM L a fs rex md rm = .ok (o, a')) : a' ≤ L.len := by
  unfold placeM at h
  split at h
  · cases h; exact ha
  · rcases hm : memM L a fs rex md rm with n | p
    · rw [hm] at h; cases h
    · rw [hm] at h
      simp only [bind, Except.bind] at h
      rcases hd : dispM L p.2 md p.1.b with n | d
      · rw [hd] at h; cases h
      · rw [hd] at h; cases h; exact disp_le (mem_le ha hm) hd

set_option maxHeartbeats 2000000 in
theorem rd_changed_ok {w : World} {rb ib : Nat} {L : Ln} {a : Nat} {fs : Bool} {rex opc sz md rg rm : Int} (i : I) (hib : rb < ib) (ha : a ≤ L.len) (hr0 : 0 ≤ rm) (hr8 : rm < 8) (hg0 : 0 ≤ rg) (hg8 : rg < 8) (ho0 : 0 ≤ opc) (ho1 : opc < 65536) (m : Except Int (I × Nat)) (h : RS w rb L a fs rex opc sz md rg rm) (hI : IW w ib i) (o : O) (a1 : Nat) (hp : placeM L a fs rex md rm = .ok (o, a1)) (HR : Hid (m = .ok (i.wTo o, a1))) :
    Calls Try.prog 86 #[.pointer (some ⟨rb, 0, none⟩), .pointer (some ⟨ib, 0, none⟩)] w fun e w' => EndsR (m) (fun j a' => RS w' rb L a' fs rex opc sz md rg rm ∧ IW w' ib j) e ∧ Fr rb ib w w' := by
  have HP : Hid (∀ u, RS u rb L a fs rex opc sz md rg rm → Calls Try.prog 97 #[.pointer (some ⟨rb, 0, none⟩)] u fun e w' => Ends2 (.ok (o, a1)) O.val (fun a' => RS w' rb L a' fs rex opc sz md rg rm) e ∧ Fr rb rb u w') := ⟨fun u hu => hp ▸ place_any ha hr0 hr8 hu⟩
  (have x0_c := hI); obtain ⟨⟨x0_0, x0_1, x0_2, x0_3, x0_4, x0_5, x0_6, x0_7, x0_8, x0_9, x0_10, x0_11, x0_12, x0_13, x0_14, x0_15, x0_16, x0_17, x0_18, x0_19, x0_20, x0_21, x0_22, x0_23⟩, x0_z⟩ := x0_c
  (have y0_c := h); obtain ⟨y0_0, y0_1, y0_2, y0_3, y0_4, y0_5, y0_6, y0_7, y0_8, y0_z, y0_l⟩ := y0_c
  have hia : Hid (ib < w.heap.size) := ⟨World.block_lt_of_cell? w ⟨ib, 0, none⟩ hI.ia.c0⟩
  go_enter Try.func86, Try.ntmps86
  go_wp2_with (first
    | (go_at_call 97; (with_reducible refine (HP.out _ (h)).mono ?_); rintro e w1 ⟨he, hfr1⟩; obtain ⟨he', R1⟩ := he; subst he'; (have I1 := IW.fr (hI) hfr1 (by omega) (by omega)); (have F1 := ((Fr.refl rb ib w)).then (hfr1.wide)); (have x1_c := I1); obtain ⟨⟨x1_0, x1_1, x1_2, x1_3, x1_4, x1_5, x1_6, x1_7, x1_8, x1_9, x1_10, x1_11, x1_12, x1_13, x1_14, x1_15, x1_16, x1_17, x1_18, x1_19, x1_20, x1_21, x1_22, x1_23⟩, x1_z⟩ := x1_c; (have y1_c := R1); obtain ⟨y1_0, y1_1, y1_2, y1_3, y1_4, y1_5, y1_6, y1_7, y1_8, y1_z, y1_l⟩ := y1_c))
  have R9 := RS.setTo (R1) hib (o)
  have I9 := IW.setTo (I1) (o)
  have F9 := Fr.setTo (F1) (.inr (.inl rfl)) (o)
  try dsimp only [setTo, setFr, I.wTo, I.wFr, I.wSz, I.wSh] at R9 I9 F9
  first | go_end0 | refine bodyPost_ret (results_none rfl _ _ _) rfl ?_
  refine ⟨?_, F9⟩
  rw [HR.out]
  exact ⟨rfl, R9, I9⟩

set_option maxHeartbeats 2000000 in
theorem rd_changed_no {w : World} {rb ib : Nat} {L : Ln} {a : Nat} {fs : Bool} {rex opc sz md rg rm : Int} (i : I) (hib : rb < ib) (ha : a ≤ L.len) (hr0 : 0 ≤ rm) (hr8 : rm < 8) (hg0 : 0 ≤ rg) (hg8 : rg < 8) (ho0 : 0 ≤ opc) (ho1 : opc < 65536) (m : Except Int (I × Nat)) (h : RS w rb L a fs rex opc sz md rg rm) (hI : IW w ib i) (n : Int) (hp : placeM L a fs rex md rm = .error n) (HR : Hid (m = .error n)) :
    Calls Try.prog 86 #[.pointer (some ⟨rb, 0, none⟩), .pointer (some ⟨ib, 0, none⟩)] w fun e w' => EndsR (m) (fun j a' => RS w' rb L a' fs rex opc sz md rg rm ∧ IW w' ib j) e ∧ Fr rb ib w w' := by
  have HP : Hid (∀ u, RS u rb L a fs rex opc sz md rg rm → Calls Try.prog 97 #[.pointer (some ⟨rb, 0, none⟩)] u fun e w' => Ends2 (.error n) O.val (fun a' => RS w' rb L a' fs rex opc sz md rg rm) e ∧ Fr rb rb u w') := ⟨fun u hu => hp ▸ place_any ha hr0 hr8 hu⟩
  (have x0_c := hI); obtain ⟨⟨x0_0, x0_1, x0_2, x0_3, x0_4, x0_5, x0_6, x0_7, x0_8, x0_9, x0_10, x0_11, x0_12, x0_13, x0_14, x0_15, x0_16, x0_17, x0_18, x0_19, x0_20, x0_21, x0_22, x0_23⟩, x0_z⟩ := x0_c
  (have y0_c := h); obtain ⟨y0_0, y0_1, y0_2, y0_3, y0_4, y0_5, y0_6, y0_7, y0_8, y0_z, y0_l⟩ := y0_c
  have hia : Hid (ib < w.heap.size) := ⟨World.block_lt_of_cell? w ⟨ib, 0, none⟩ hI.ia.c0⟩
  go_enter Try.func86, Try.ntmps86
  go_wp2_with (first
    | (go_at_call 97; (with_reducible refine (HP.out _ (h)).mono ?_); rintro e w1 ⟨he, hfr1⟩; (have he' : _ = _ := he); subst he'))
  have F9 := (((Fr.refl rb ib w)).then (hfr1.wide))
  refine ⟨rfl, ?_, F9⟩
  rw [HR.out]; rfl

set_option maxHeartbeats 2000000 in
theorem rd_stored_ok {w : World} {rb ib : Nat} {L : Ln} {a : Nat} {fs : Bool} {rex opc sz md rg rm : Int} (i : I) (hib : rb < ib) (ha : a ≤ L.len) (hr0 : 0 ≤ rm) (hr8 : rm < 8) (hg0 : 0 ≤ rg) (hg8 : rg < 8) (ho0 : 0 ≤ opc) (ho1 : opc < 65536) (m : Except Int (I × Nat)) (h : RS w rb L a fs rex opc sz md rg rm) (hI : IW w ib i) (o : O) (a1 : Nat) (hp : placeM L a fs rex md rm = .ok (o, a1)) (HR : Hid (m = .ok ((i.wTo o).wFr (regO (regOf rex rg 4)), a1))) :
    Calls Try.prog 76 #[.pointer (some ⟨rb, 0, none⟩), .pointer (some ⟨ib, 0, none⟩)] w fun e w' => EndsR (m) (fun j a' => RS w' rb L a' fs rex opc sz md rg rm ∧ IW w' ib j) e ∧ Fr rb ib w w' := by
  have HP : Hid (∀ u, RS u rb L a fs rex opc sz md rg rm → Calls Try.prog 97 #[.pointer (some ⟨rb, 0, none⟩)] u fun e w' => Ends2 (.ok (o, a1)) O.val (fun a' => RS w' rb L a' fs rex opc sz md rg rm) e ∧ Fr rb rb u w') := ⟨fun u hu => hp ▸ place_any ha hr0 hr8 hu⟩
  have HW : Hid (∀ u, RS u rb L a1 fs rex opc sz md rg rm → Calls Try.prog 73 #[.pointer (some ⟨rb, 0, none⟩)] u fun e w' => e = .returned (.int .i64 (regOf rex rg 4)) ∧ w' = u) := ⟨fun u hu => regNumber_any hg0 hg8 hu⟩
  (have x0_c := hI); obtain ⟨⟨x0_0, x0_1, x0_2, x0_3, x0_4, x0_5, x0_6, x0_7, x0_8, x0_9, x0_10, x0_11, x0_12, x0_13, x0_14, x0_15, x0_16, x0_17, x0_18, x0_19, x0_20, x0_21, x0_22, x0_23⟩, x0_z⟩ := x0_c
  (have y0_c := h); obtain ⟨y0_0, y0_1, y0_2, y0_3, y0_4, y0_5, y0_6, y0_7, y0_8, y0_z, y0_l⟩ := y0_c
  have hia : Hid (ib < w.heap.size) := ⟨World.block_lt_of_cell? w ⟨ib, 0, none⟩ hI.ia.c0⟩
  go_enter Try.func76, Try.ntmps76
  go_wp2_with (first
    | (go_at_call 97; (with_reducible refine (HP.out _ (h)).mono ?_); rintro e w1 ⟨he, hfr1⟩; obtain ⟨he', R1⟩ := he; subst he'; (have I1 := IW.fr (hI) hfr1 (by omega) (by omega)); (have F1 := ((Fr.refl rb ib w)).then (hfr1.wide)); (have x1_c := I1); obtain ⟨⟨x1_0, x1_1, x1_2, x1_3, x1_4, x1_5, x1_6, x1_7, x1_8, x1_9, x1_10, x1_11, x1_12, x1_13, x1_14, x1_15, x1_16, x1_17, x1_18, x1_19, x1_20, x1_21, x1_22, x1_23⟩, x1_z⟩ := x1_c; (have y1_c := R1); obtain ⟨y1_0, y1_1, y1_2, y1_3, y1_4, y1_5, y1_6, y1_7, y1_8, y1_z, y1_l⟩ := y1_c)
    | (go_at_call 73; (with_reducible refine (HW.out _ (R1)).mono ?_); rintro e wz ⟨rfl, hwz⟩; subst wz)
    | (go_at_call 98; (with_reducible refine (regO_any _ _).mono ?_); rintro e w3 ⟨rfl, hb3⟩; (have R3 := RS.bel (R1) hb3); (have I3 := IW.bel (I1) hb3); (have F3 := Fr.bel (F1) hb3); (have x3_c := I3); obtain ⟨⟨x3_0, x3_1, x3_2, x3_3, x3_4, x3_5, x3_6, x3_7, x3_8, x3_9, x3_10, x3_11, x3_12, x3_13, x3_14, x3_15, x3_16, x3_17, x3_18, x3_19, x3_20, x3_21, x3_22, x3_23⟩, x3_z⟩ := x3_c; (have y3_c := R3); obtain ⟨y3_0, y3_1, y3_2, y3_3, y3_4, y3_5, y3_6, y3_7, y3_8, y3_z, y3_l⟩ := y3_c))
  have R9 := RS.setFr (RS.setTo (R3) hib (o)) hib (regO (regOf rex rg 4))
  have I9 := IW.setFr (IW.setTo (I3) (o)) (regO (regOf rex rg 4))
  have F9 := Fr.setFr (Fr.setTo (F3) (.inr (.inl rfl)) (o)) (.inr (.inl rfl)) (regO (regOf rex rg 4))
  try dsimp only [setTo, setFr, I.wTo, I.wFr, I.wSz, I.wSh] at R9 I9 F9
  first | go_end0 | refine bodyPost_ret (results_none rfl _ _ _) rfl ?_
  refine ⟨?_, F9⟩
  rw [HR.out]
  exact ⟨rfl, R9, I9⟩

set_option maxHeartbeats 2000000 in
theorem rd_stored_no {w : World} {rb ib : Nat} {L : Ln} {a : Nat} {fs : Bool} {rex opc sz md rg rm : Int} (i : I) (hib : rb < ib) (ha : a ≤ L.len) (hr0 : 0 ≤ rm) (hr8 : rm < 8) (hg0 : 0 ≤ rg) (hg8 : rg < 8) (ho0 : 0 ≤ opc) (ho1 : opc < 65536) (m : Except Int (I × Nat)) (h : RS w rb L a fs rex opc sz md rg rm) (hI : IW w ib i) (n : Int) (hp : placeM L a fs rex md rm = .error n) (HR : Hid (m = .error n)) :
    Calls Try.prog 76 #[.pointer (some ⟨rb, 0, none⟩), .pointer (some ⟨ib, 0, none⟩)] w fun e w' => EndsR (m) (fun j a' => RS w' rb L a' fs rex opc sz md rg rm ∧ IW w' ib j) e ∧ Fr rb ib w w' := by
  have HP : Hid (∀ u, RS u rb L a fs rex opc sz md rg rm → Calls Try.prog 97 #[.pointer (some ⟨rb, 0, none⟩)] u fun e w' => Ends2 (.error n) O.val (fun a' => RS w' rb L a' fs rex opc sz md rg rm) e ∧ Fr rb rb u w') := ⟨fun u hu => hp ▸ place_any ha hr0 hr8 hu⟩
  (have x0_c := hI); obtain ⟨⟨x0_0, x0_1, x0_2, x0_3, x0_4, x0_5, x0_6, x0_7, x0_8, x0_9, x0_10, x0_11, x0_12, x0_13, x0_14, x0_15, x0_16, x0_17, x0_18, x0_19, x0_20, x0_21, x0_22, x0_23⟩, x0_z⟩ := x0_c
  (have y0_c := h); obtain ⟨y0_0, y0_1, y0_2, y0_3, y0_4, y0_5, y0_6, y0_7, y0_8, y0_z, y0_l⟩ := y0_c
  have hia : Hid (ib < w.heap.size) := ⟨World.block_lt_of_cell? w ⟨ib, 0, none⟩ hI.ia.c0⟩
  go_enter Try.func76, Try.ntmps76
  go_wp2_with (first
    | (go_at_call 97; (with_reducible refine (HP.out _ (h)).mono ?_); rintro e w1 ⟨he, hfr1⟩; (have he' : _ = _ := he); subst he'))
  have F9 := (((Fr.refl rb ib w)).then (hfr1.wide))
  refine ⟨rfl, ?_, F9⟩
  rw [HR.out]; rfl

set_option maxHeartbeats 2000000 in
theorem rd_loaded_ok {w : World} {rb ib : Nat} {L : Ln} {a : Nat} {fs : Bool} {rex opc sz md rg rm : Int} (i : I) (hib : rb < ib) (ha : a ≤ L.len) (hr0 : 0 ≤ rm) (hr8 : rm < 8) (hg0 : 0 ≤ rg) (hg8 : rg < 8) (ho0 : 0 ≤ opc) (ho1 : opc < 65536) (m : Except Int (I × Nat)) (h : RS w rb L a fs rex opc sz md rg rm) (hI : IW w ib i) (o : O) (a1 : Nat) (hp : placeM L a fs rex md rm = .ok (o, a1)) (HR : Hid (m = .ok ((i.wTo (regO (regOf rex rg 4))).wFr o, a1))) :
    Calls Try.prog 77 #[.pointer (some ⟨rb, 0, none⟩), .pointer (some ⟨ib, 0, none⟩)] w fun e w' => EndsR (m) (fun j a' => RS w' rb L a' fs rex opc sz md rg rm ∧ IW w' ib j) e ∧ Fr rb ib w w' := by
  have HW : Hid (∀ u, RS u rb L a fs rex opc sz md rg rm → Calls Try.prog 73 #[.pointer (some ⟨rb, 0, none⟩)] u fun e w' => e = .returned (.int .i64 (regOf rex rg 4)) ∧ w' = u) := ⟨fun u hu => regNumber_any hg0 hg8 hu⟩
  have HP : Hid (∀ u, RS u rb L a fs rex opc sz md rg rm → Calls Try.prog 97 #[.pointer (some ⟨rb, 0, none⟩)] u fun e w' => Ends2 (.ok (o, a1)) O.val (fun a' => RS w' rb L a' fs rex opc sz md rg rm) e ∧ Fr rb rb u w') := ⟨fun u hu => hp ▸ place_any ha hr0 hr8 hu⟩
  (have x0_c := hI); obtain ⟨⟨x0_0, x0_1, x0_2, x0_3, x0_4, x0_5, x0_6, x0_7, x0_8, x0_9, x0_10, x0_11, x0_12, x0_13, x0_14, x0_15, x0_16, x0_17, x0_18, x0_19, x0_20, x0_21, x0_22, x0_23⟩, x0_z⟩ := x0_c
  (have y0_c := h); obtain ⟨y0_0, y0_1, y0_2, y0_3, y0_4, y0_5, y0_6, y0_7, y0_8, y0_z, y0_l⟩ := y0_c
  have hia : Hid (ib < w.heap.size) := ⟨World.block_lt_of_cell? w ⟨ib, 0, none⟩ hI.ia.c0⟩
  go_enter Try.func77, Try.ntmps77
  go_wp2_with (first
    | (go_at_call 73; (with_reducible refine (HW.out _ (h)).mono ?_); rintro e wz ⟨rfl, hwz⟩; subst wz)
    | (go_at_call 98; (with_reducible refine (regO_any _ _).mono ?_); rintro e w2 ⟨rfl, hb2⟩; (have R2 := RS.bel (h) hb2); (have I2 := IW.bel (hI) hb2); (have F2 := Fr.bel ((Fr.refl rb ib w)) hb2); (have x2_c := I2); obtain ⟨⟨x2_0, x2_1, x2_2, x2_3, x2_4, x2_5, x2_6, x2_7, x2_8, x2_9, x2_10, x2_11, x2_12, x2_13, x2_14, x2_15, x2_16, x2_17, x2_18, x2_19, x2_20, x2_21, x2_22, x2_23⟩, x2_z⟩ := x2_c; (have y2_c := R2); obtain ⟨y2_0, y2_1, y2_2, y2_3, y2_4, y2_5, y2_6, y2_7, y2_8, y2_z, y2_l⟩ := y2_c)
    | (go_at_call 97; (with_reducible refine (HP.out _ (R2)).mono ?_); rintro e w3 ⟨he, hfr3⟩; obtain ⟨he', R3⟩ := he; subst he'; (have I3 := IW.fr (I2) hfr3 (by omega) (by omega)); (have F3 := (F2).then (hfr3.wide)); (have x3_c := I3); obtain ⟨⟨x3_0, x3_1, x3_2, x3_3, x3_4, x3_5, x3_6, x3_7, x3_8, x3_9, x3_10, x3_11, x3_12, x3_13, x3_14, x3_15, x3_16, x3_17, x3_18, x3_19, x3_20, x3_21, x3_22, x3_23⟩, x3_z⟩ := x3_c; (have y3_c := R3); obtain ⟨y3_0, y3_1, y3_2, y3_3, y3_4, y3_5, y3_6, y3_7, y3_8, y3_z, y3_l⟩ := y3_c))
  have R9 := RS.setFr (RS.setTo (R3) hib (regO (regOf rex rg 4))) hib (o)
  have I9 := IW.setFr (IW.setTo (I3) (regO (regOf rex rg 4))) (o)
  have F9 := Fr.setFr (Fr.setTo (F3) (.inr (.inl rfl)) (regO (regOf rex rg 4))) (.inr (.inl rfl)) (o)
  try dsimp only [setTo, setFr, I.wTo, I.wFr, I.wSz, I.wSh] at R9 I9 F9
  first | go_end0 | refine bodyPost_ret (results_none rfl _ _ _) rfl ?_
  refine ⟨?_, F9⟩
  rw [HR.out]
  exact ⟨rfl, R9, I9⟩

set_option maxHeartbeats 2000000 in
theorem rd_loaded_no {w : World} {rb ib : Nat} {L : Ln} {a : Nat} {fs : Bool} {rex opc sz md rg rm : Int} (i : I) (hib : rb < ib) (ha : a ≤ L.len) (hr0 : 0 ≤ rm) (hr8 : rm < 8) (hg0 : 0 ≤ rg) (hg8 : rg < 8) (ho0 : 0 ≤ opc) (ho1 : opc < 65536) (m : Except Int (I × Nat)) (h : RS w rb L a fs rex opc sz md rg rm) (hI : IW w ib i) (n : Int) (hp : placeM L a fs rex md rm = .error n) (HR : Hid (m = .error n)) :
    Calls Try.prog 77 #[.pointer (some ⟨rb, 0, none⟩), .pointer (some ⟨ib, 0, none⟩)] w fun e w' => EndsR (m) (fun j a' => RS w' rb L a' fs rex opc sz md rg rm ∧ IW w' ib j) e ∧ Fr rb ib w w' := by
  have HW : Hid (∀ u, RS u rb L a fs rex opc sz md rg rm → Calls Try.prog 73 #[.pointer (some ⟨rb, 0, none⟩)] u fun e w' => e = .returned (.int .i64 (regOf rex rg 4)) ∧ w' = u) := ⟨fun u hu => regNumber_any hg0 hg8 hu⟩
  have HP : Hid (∀ u, RS u rb L a fs rex opc sz md rg rm → Calls Try.prog 97 #[.pointer (some ⟨rb, 0, none⟩)] u fun e w' => Ends2 (.error n) O.val (fun a' => RS w' rb L a' fs rex opc sz md rg rm) e ∧ Fr rb rb u w') := ⟨fun u hu => hp ▸ place_any ha hr0 hr8 hu⟩
  (have x0_c := hI); obtain ⟨⟨x0_0, x0_1, x0_2, x0_3, x0_4, x0_5, x0_6, x0_7, x0_8, x0_9, x0_10, x0_11, x0_12, x0_13, x0_14, x0_15, x0_16, x0_17, x0_18, x0_19, x0_20, x0_21, x0_22, x0_23⟩, x0_z⟩ := x0_c
  (have y0_c := h); obtain ⟨y0_0, y0_1, y0_2, y0_3, y0_4, y0_5, y0_6, y0_7, y0_8, y0_z, y0_l⟩ := y0_c
  have hia : Hid (ib < w.heap.size) := ⟨World.block_lt_of_cell? w ⟨ib, 0, none⟩ hI.ia.c0⟩
  go_enter Try.func77, Try.ntmps77
  go_wp2_with (first
    | (go_at_call 73; (with_reducible refine (HW.out _ (h)).mono ?_); rintro e wz ⟨rfl, hwz⟩; subst wz)
    | (go_at_call 98; (with_reducible refine (regO_any _ _).mono ?_); rintro e w2 ⟨rfl, hb2⟩; (have R2 := RS.bel (h) hb2); (have I2 := IW.bel (hI) hb2); (have F2 := Fr.bel ((Fr.refl rb ib w)) hb2); (have x2_c := I2); obtain ⟨⟨x2_0, x2_1, x2_2, x2_3, x2_4, x2_5, x2_6, x2_7, x2_8, x2_9, x2_10, x2_11, x2_12, x2_13, x2_14, x2_15, x2_16, x2_17, x2_18, x2_19, x2_20, x2_21, x2_22, x2_23⟩, x2_z⟩ := x2_c; (have y2_c := R2); obtain ⟨y2_0, y2_1, y2_2, y2_3, y2_4, y2_5, y2_6, y2_7, y2_8, y2_z, y2_l⟩ := y2_c)
    | (go_at_call 97; (with_reducible refine (HP.out _ (R2)).mono ?_); rintro e w3 ⟨he, hfr3⟩; (have he' : _ = _ := he); subst he'))
  have F9 := ((F2).then (hfr3.wide))
  refine ⟨rfl, ?_, F9⟩
  rw [HR.out]; rfl

set_option maxHeartbeats 2000000 in
theorem rd_shiftedByRcx_ok {w : World} {rb ib : Nat} {L : Ln} {a : Nat} {fs : Bool} {rex opc sz md rg rm : Int} (i : I) (hib : rb < ib) (ha : a ≤ L.len) (hr0 : 0 ≤ rm) (hr8 : rm < 8) (hg0 : 0 ≤ rg) (hg8 : rg < 8) (ho0 : 0 ≤ opc) (ho1 : opc < 65536) (m : Except Int (I × Nat)) (h : RS w rb L a fs rex opc sz md rg rm) (hI : IW w ib i) (o : O) (a1 : Nat) (hp : placeM L a fs rex md rm = .ok (o, a1)) (HR : Hid (m = .ok ((i.wTo o).wFr (regO 1), a1))) :
    Calls Try.prog 93 #[.pointer (some ⟨rb, 0, none⟩), .pointer (some ⟨ib, 0, none⟩)] w fun e w' => EndsR (m) (fun j a' => RS w' rb L a' fs rex opc sz md rg rm ∧ IW w' ib j) e ∧ Fr rb ib w w' := by
  have HP : Hid (∀ u, RS u rb L a fs rex opc sz md rg rm → Calls Try.prog 97 #[.pointer (some ⟨rb, 0, none⟩)] u fun e w' => Ends2 (.ok (o, a1)) O.val (fun a' => RS w' rb L a' fs rex opc sz md rg rm) e ∧ Fr rb rb u w') := ⟨fun u hu => hp ▸ place_any ha hr0 hr8 hu⟩
  (have x0_c := hI); obtain ⟨⟨x0_0, x0_1, x0_2, x0_3, x0_4, x0_5, x0_6, x0_7, x0_8, x0_9, x0_10, x0_11, x0_12, x0_13, x0_14, x0_15, x0_16, x0_17, x0_18, x0_19, x0_20, x0_21, x0_22, x0_23⟩, x0_z⟩ := x0_c
  (have y0_c := h); obtain ⟨y0_0, y0_1, y0_2, y0_3, y0_4, y0_5, y0_6, y0_7, y0_8, y0_z, y0_l⟩ := y0_c
  have hia : Hid (ib < w.heap.size) := ⟨World.block_lt_of_cell? w ⟨ib, 0, none⟩ hI.ia.c0⟩
  go_enter Try.func93, Try.ntmps93
  go_wp2_with (first
    | (go_at_call 97; (with_reducible refine (HP.out _ (h)).mono ?_); rintro e w1 ⟨he, hfr1⟩; obtain ⟨he', R1⟩ := he; subst he'; (have I1 := IW.fr (hI) hfr1 (by omega) (by omega)); (have F1 := ((Fr.refl rb ib w)).then (hfr1.wide)); (have x1_c := I1); obtain ⟨⟨x1_0, x1_1, x1_2, x1_3, x1_4, x1_5, x1_6, x1_7, x1_8, x1_9, x1_10, x1_11, x1_12, x1_13, x1_14, x1_15, x1_16, x1_17, x1_18, x1_19, x1_20, x1_21, x1_22, x1_23⟩, x1_z⟩ := x1_c; (have y1_c := R1); obtain ⟨y1_0, y1_1, y1_2, y1_3, y1_4, y1_5, y1_6, y1_7, y1_8, y1_z, y1_l⟩ := y1_c)
    | (go_at_call 98; (with_reducible refine (regO_any _ _).mono ?_); rintro e w2 ⟨rfl, hb2⟩; (have R2 := RS.bel (R1) hb2); (have I2 := IW.bel (I1) hb2); (have F2 := Fr.bel (F1) hb2); (have x2_c := I2); obtain ⟨⟨x2_0, x2_1, x2_2, x2_3, x2_4, x2_5, x2_6, x2_7, x2_8, x2_9, x2_10, x2_11, x2_12, x2_13, x2_14, x2_15, x2_16, x2_17, x2_18, x2_19, x2_20, x2_21, x2_22, x2_23⟩, x2_z⟩ := x2_c; (have y2_c := R2); obtain ⟨y2_0, y2_1, y2_2, y2_3, y2_4, y2_5, y2_6, y2_7, y2_8, y2_z, y2_l⟩ := y2_c))
  have R9 := RS.setFr (RS.setTo (R2) hib (o)) hib (regO 1)
  have I9 := IW.setFr (IW.setTo (I2) (o)) (regO 1)
  have F9 := Fr.setFr (Fr.setTo (F2) (.inr (.inl rfl)) (o)) (.inr (.inl rfl)) (regO 1)
  try dsimp only [setTo, setFr, I.wTo, I.wFr, I.wSz, I.wSh] at R9 I9 F9
  first | go_end0 | refine bodyPost_ret (results_none rfl _ _ _) rfl ?_
  refine ⟨?_, F9⟩
  rw [HR.out]
  exact ⟨rfl, R9, I9⟩

set_option maxHeartbeats 2000000 in
theorem rd_shiftedByRcx_no {w : World} {rb ib : Nat} {L : Ln} {a : Nat} {fs : Bool} {rex opc sz md rg rm : Int} (i : I) (hib : rb < ib) (ha : a ≤ L.len) (hr0 : 0 ≤ rm) (hr8 : rm < 8) (hg0 : 0 ≤ rg) (hg8 : rg < 8) (ho0 : 0 ≤ opc) (ho1 : opc < 65536) (m : Except Int (I × Nat)) (h : RS w rb L a fs rex opc sz md rg rm) (hI : IW w ib i) (n : Int) (hp : placeM L a fs rex md rm = .error n) (HR : Hid (m = .error n)) :
    Calls Try.prog 93 #[.pointer (some ⟨rb, 0, none⟩), .pointer (some ⟨ib, 0, none⟩)] w fun e w' => EndsR (m) (fun j a' => RS w' rb L a' fs rex opc sz md rg rm ∧ IW w' ib j) e ∧ Fr rb ib w w' := by
  have HP : Hid (∀ u, RS u rb L a fs rex opc sz md rg rm → Calls Try.prog 97 #[.pointer (some ⟨rb, 0, none⟩)] u fun e w' => Ends2 (.error n) O.val (fun a' => RS w' rb L a' fs rex opc sz md rg rm) e ∧ Fr rb rb u w') := ⟨fun u hu => hp ▸ place_any ha hr0 hr8 hu⟩
  (have x0_c := hI); obtain ⟨⟨x0_0, x0_1, x0_2, x0_3, x0_4, x0_5, x0_6, x0_7, x0_8, x0_9, x0_10, x0_11, x0_12, x0_13, x0_14, x0_15, x0_16, x0_17, x0_18, x0_19, x0_20, x0_21, x0_22, x0_23⟩, x0_z⟩ := x0_c
  (have y0_c := h); obtain ⟨y0_0, y0_1, y0_2, y0_3, y0_4, y0_5, y0_6, y0_7, y0_8, y0_z, y0_l⟩ := y0_c
  have hia : Hid (ib < w.heap.size) := ⟨World.block_lt_of_cell? w ⟨ib, 0, none⟩ hI.ia.c0⟩
  go_enter Try.func93, Try.ntmps93
  go_wp2_with (first
    | (go_at_call 97; (with_reducible refine (HP.out _ (h)).mono ?_); rintro e w1 ⟨he, hfr1⟩; (have he' : _ = _ := he); subst he'))
  have F9 := (((Fr.refl rb ib w)).then (hfr1.wide))
  refine ⟨rfl, ?_, F9⟩
  rw [HR.out]; rfl

set_option maxHeartbeats 2000000 in
theorem rd_pushedRegister_ok {w : World} {rb ib : Nat} {L : Ln} {a : Nat} {fs : Bool} {rex opc sz md rg rm : Int} (i : I) (hib : rb < ib) (ha : a ≤ L.len) (hr0 : 0 ≤ rm) (hr8 : rm < 8) (hg0 : 0 ≤ rg) (hg8 : rg < 8) (ho0 : 0 ≤ opc) (ho1 : opc < 65536) (m : Except Int (I × Nat)) (h : RS w rb L a fs rex opc sz md rg rm) (hI : IW w ib i)  (HR : Hid (m = .ok (i.wFr (regO (regOf rex (opc % 8) 1)), a))) :
    Calls Try.prog 78 #[.pointer (some ⟨rb, 0, none⟩), .pointer (some ⟨ib, 0, none⟩)] w fun e w' => EndsR (m) (fun j a' => RS w' rb L a' fs rex opc sz md rg rm ∧ IW w' ib j) e ∧ Fr rb ib w w' := by
  have HW : Hid (∀ u, RS u rb L a fs rex opc sz md rg rm → Calls Try.prog 99 #[.pointer (some ⟨rb, 0, none⟩)] u fun e w' => e = .returned (.int .i64 (regOf rex (opc % 8) 1)) ∧ w' = u) := ⟨fun u hu => withinNumber_any ho0 ho1 hu⟩
  (have x0_c := hI); obtain ⟨⟨x0_0, x0_1, x0_2, x0_3, x0_4, x0_5, x0_6, x0_7, x0_8, x0_9, x0_10, x0_11, x0_12, x0_13, x0_14, x0_15, x0_16, x0_17, x0_18, x0_19, x0_20, x0_21, x0_22, x0_23⟩, x0_z⟩ := x0_c
  (have y0_c := h); obtain ⟨y0_0, y0_1, y0_2, y0_3, y0_4, y0_5, y0_6, y0_7, y0_8, y0_z, y0_l⟩ := y0_c
  have hia : Hid (ib < w.heap.size) := ⟨World.block_lt_of_cell? w ⟨ib, 0, none⟩ hI.ia.c0⟩
  go_enter Try.func78, Try.ntmps78
  go_wp2_with (first
    | (go_at_call 99; (with_reducible refine (HW.out _ (h)).mono ?_); rintro e wz ⟨rfl, hwz⟩; subst wz)
    | (go_at_call 98; (with_reducible refine (regO_any _ _).mono ?_); rintro e w2 ⟨rfl, hb2⟩; (have R2 := RS.bel (h) hb2); (have I2 := IW.bel (hI) hb2); (have F2 := Fr.bel ((Fr.refl rb ib w)) hb2); (have x2_c := I2); obtain ⟨⟨x2_0, x2_1, x2_2, x2_3, x2_4, x2_5, x2_6, x2_7, x2_8, x2_9, x2_10, x2_11, x2_12, x2_13, x2_14, x2_15, x2_16, x2_17, x2_18, x2_19, x2_20, x2_21, x2_22, x2_23⟩, x2_z⟩ := x2_c; (have y2_c := R2); obtain ⟨y2_0, y2_1, y2_2, y2_3, y2_4, y2_5, y2_6, y2_7, y2_8, y2_z, y2_l⟩ := y2_c))
  have R9 := RS.setFr (R2) hib (regO (regOf rex (opc % 8) 1))
  have I9 := IW.setFr (I2) (regO (regOf rex (opc % 8) 1))
  have F9 := Fr.setFr (F2) (.inr (.inl rfl)) (regO (regOf rex (opc % 8) 1))
  try dsimp only [setTo, setFr, I.wTo, I.wFr, I.wSz, I.wSh] at R9 I9 F9
  first | go_end0 | refine bodyPost_ret (results_none rfl _ _ _) rfl ?_
  refine ⟨?_, F9⟩
  rw [HR.out]
  exact ⟨rfl, R9, I9⟩

set_option maxHeartbeats 2000000 in
theorem rd_poppedRegister_ok {w : World} {rb ib : Nat} {L : Ln} {a : Nat} {fs : Bool} {rex opc sz md rg rm : Int} (i : I) (hib : rb < ib) (ha : a ≤ L.len) (hr0 : 0 ≤ rm) (hr8 : rm < 8) (hg0 : 0 ≤ rg) (hg8 : rg < 8) (ho0 : 0 ≤ opc) (ho1 : opc < 65536) (m : Except Int (I × Nat)) (h : RS w rb L a fs rex opc sz md rg rm) (hI : IW w ib i)  (HR : Hid (m = .ok (i.wTo (regO (regOf rex (opc % 8) 1)), a))) :
    Calls Try.prog 79 #[.pointer (some ⟨rb, 0, none⟩), .pointer (some ⟨ib, 0, none⟩)] w fun e w' => EndsR (m) (fun j a' => RS w' rb L a' fs rex opc sz md rg rm ∧ IW w' ib j) e ∧ Fr rb ib w w' := by
  have HW : Hid (∀ u, RS u rb L a fs rex opc sz md rg rm → Calls Try.prog 99 #[.pointer (some ⟨rb, 0, none⟩)] u fun e w' => e = .returned (.int .i64 (regOf rex (opc % 8) 1)) ∧ w' = u) := ⟨fun u hu => withinNumber_any ho0 ho1 hu⟩
  (have x0_c := hI); obtain ⟨⟨x0_0, x0_1, x0_2, x0_3, x0_4, x0_5, x0_6, x0_7, x0_8, x0_9, x0_10, x0_11, x0_12, x0_13, x0_14, x0_15, x0_16, x0_17, x0_18, x0_19, x0_20, x0_21, x0_22, x0_23⟩, x0_z⟩ := x0_c
  (have y0_c := h); obtain ⟨y0_0, y0_1, y0_2, y0_3, y0_4, y0_5, y0_6, y0_7, y0_8, y0_z, y0_l⟩ := y0_c
  have hia : Hid (ib < w.heap.size) := ⟨World.block_lt_of_cell? w ⟨ib, 0, none⟩ hI.ia.c0⟩
  go_enter Try.func79, Try.ntmps79
  go_wp2_with (first
    | (go_at_call 99; (with_reducible refine (HW.out _ (h)).mono ?_); rintro e wz ⟨rfl, hwz⟩; subst wz)
    | (go_at_call 98; (with_reducible refine (regO_any _ _).mono ?_); rintro e w2 ⟨rfl, hb2⟩; (have R2 := RS.bel (h) hb2); (have I2 := IW.bel (hI) hb2); (have F2 := Fr.bel ((Fr.refl rb ib w)) hb2); (have x2_c := I2); obtain ⟨⟨x2_0, x2_1, x2_2, x2_3, x2_4, x2_5, x2_6, x2_7, x2_8, x2_9, x2_10, x2_11, x2_12, x2_13, x2_14, x2_15, x2_16, x2_17, x2_18, x2_19, x2_20, x2_21, x2_22, x2_23⟩, x2_z⟩ := x2_c; (have y2_c := R2); obtain ⟨y2_0, y2_1, y2_2, y2_3, y2_4, y2_5, y2_6, y2_7, y2_8, y2_z, y2_l⟩ := y2_c))
  have R9 := RS.setTo (R2) hib (regO (regOf rex (opc % 8) 1))
  have I9 := IW.setTo (I2) (regO (regOf rex (opc % 8) 1))
  have F9 := Fr.setTo (F2) (.inr (.inl rfl)) (regO (regOf rex (opc % 8) 1))
  try dsimp only [setTo, setFr, I.wTo, I.wFr, I.wSz, I.wSh] at R9 I9 F9
  first | go_end0 | refine bodyPost_ret (results_none rfl _ _ _) rfl ?_
  refine ⟨?_, F9⟩
  rw [HR.out]
  exact ⟨rfl, R9, I9⟩

set_option maxHeartbeats 2000000 in
theorem rd_alone_ok {w : World} {rb ib : Nat} {L : Ln} {a : Nat} {fs : Bool} {rex opc sz md rg rm : Int} (i : I) (hib : rb < ib) (ha : a ≤ L.len) (hr0 : 0 ≤ rm) (hr8 : rm < 8) (hg0 : 0 ≤ rg) (hg8 : rg < 8) (ho0 : 0 ≤ opc) (ho1 : opc < 65536) (m : Except Int (I × Nat)) (h : RS w rb L a fs rex opc sz md rg rm) (hI : IW w ib i)  (HR : Hid (m = .ok (i, a))) :
    Calls Try.prog 87 #[.pointer (some ⟨rb, 0, none⟩), .pointer (some ⟨ib, 0, none⟩)] w fun e w' => EndsR (m) (fun j a' => RS w' rb L a' fs rex opc sz md rg rm ∧ IW w' ib j) e ∧ Fr rb ib w w' := by
  (have x0_c := hI); obtain ⟨⟨x0_0, x0_1, x0_2, x0_3, x0_4, x0_5, x0_6, x0_7, x0_8, x0_9, x0_10, x0_11, x0_12, x0_13, x0_14, x0_15, x0_16, x0_17, x0_18, x0_19, x0_20, x0_21, x0_22, x0_23⟩, x0_z⟩ := x0_c
  (have y0_c := h); obtain ⟨y0_0, y0_1, y0_2, y0_3, y0_4, y0_5, y0_6, y0_7, y0_8, y0_z, y0_l⟩ := y0_c
  have hia : Hid (ib < w.heap.size) := ⟨World.block_lt_of_cell? w ⟨ib, 0, none⟩ hI.ia.c0⟩
  go_enter Try.func87, Try.ntmps87
  go_wp2
  have R9 := h
  have I9 := hI
  have F9 := (Fr.refl rb ib w)
  first | go_end0 | refine bodyPost_ret (results_none rfl _ _ _) rfl ?_
  refine ⟨?_, F9⟩
  rw [HR.out]
  exact ⟨rfl, R9, I9⟩

set_option maxHeartbeats 2000000 in
theorem rd_aloneWide_ok {w : World} {rb ib : Nat} {L : Ln} {a : Nat} {fs : Bool} {rex opc sz md rg rm : Int} (i : I) (hib : rb < ib) (ha : a ≤ L.len) (hr0 : 0 ≤ rm) (hr8 : rm < 8) (hg0 : 0 ≤ rg) (hg8 : rg < 8) (ho0 : 0 ≤ opc) (ho1 : opc < 65536) (m : Except Int (I × Nat)) (h : RS w rb L a fs rex opc sz md rg rm) (hI : IW w ib i) (h8 : (sz == 8) = true) (HR : Hid (m = .ok (i.wSz 0, a))) :
    Calls Try.prog 88 #[.pointer (some ⟨rb, 0, none⟩), .pointer (some ⟨ib, 0, none⟩)] w fun e w' => EndsR (m) (fun j a' => RS w' rb L a' fs rex opc sz md rg rm ∧ IW w' ib j) e ∧ Fr rb ib w w' := by
  (have x0_c := hI); obtain ⟨⟨x0_0, x0_1, x0_2, x0_3, x0_4, x0_5, x0_6, x0_7, x0_8, x0_9, x0_10, x0_11, x0_12, x0_13, x0_14, x0_15, x0_16, x0_17, x0_18, x0_19, x0_20, x0_21, x0_22, x0_23⟩, x0_z⟩ := x0_c
  (have y0_c := h); obtain ⟨y0_0, y0_1, y0_2, y0_3, y0_4, y0_5, y0_6, y0_7, y0_8, y0_z, y0_l⟩ := y0_c
  have hia : Hid (ib < w.heap.size) := ⟨World.block_lt_of_cell? w ⟨ib, 0, none⟩ hI.ia.c0⟩
  go_enter Try.func88, Try.ntmps88
  go_wp2_with (first
    | (go_at_call 66; (with_reducible refine (insist_yes _).mono ?_); rintro e wz ⟨rfl, hwz⟩; subst wz))
  have R9 := RS.fr (h) ((Fr.refl ib ib _).setA 1 (.int .i64 0)) hib hib
  have I9 := IW.size (hI) (0)
  have F9 := Fr.setB ((Fr.refl rb ib w)) 1 (.int .i64 0)
  try dsimp only [setTo, setFr, I.wTo, I.wFr, I.wSz, I.wSh] at R9 I9 F9
  first | go_end0 | refine bodyPost_ret (results_none rfl _ _ _) rfl ?_
  refine ⟨?_, F9⟩
  rw [HR.out]
  exact ⟨rfl, R9, I9⟩

set_option maxHeartbeats 2000000 in
theorem rd_aloneWide_no {w : World} {rb ib : Nat} {L : Ln} {a : Nat} {fs : Bool} {rex opc sz md rg rm : Int} (i : I) (hib : rb < ib) (ha : a ≤ L.len) (hr0 : 0 ≤ rm) (hr8 : rm < 8) (hg0 : 0 ≤ rg) (hg8 : rg < 8) (ho0 : 0 ≤ opc) (ho1 : opc < 65536) (m : Except Int (I × Nat)) (h : RS w rb L a fs rex opc sz md rg rm) (hI : IW w ib i) (h8 : (sz == 8) = false) (HR : Hid (m = .error 30)) :
    Calls Try.prog 88 #[.pointer (some ⟨rb, 0, none⟩), .pointer (some ⟨ib, 0, none⟩)] w fun e w' => EndsR (m) (fun j a' => RS w' rb L a' fs rex opc sz md rg rm ∧ IW w' ib j) e ∧ Fr rb ib w w' := by
  (have x0_c := hI); obtain ⟨⟨x0_0, x0_1, x0_2, x0_3, x0_4, x0_5, x0_6, x0_7, x0_8, x0_9, x0_10, x0_11, x0_12, x0_13, x0_14, x0_15, x0_16, x0_17, x0_18, x0_19, x0_20, x0_21, x0_22, x0_23⟩, x0_z⟩ := x0_c
  (have y0_c := h); obtain ⟨y0_0, y0_1, y0_2, y0_3, y0_4, y0_5, y0_6, y0_7, y0_8, y0_z, y0_l⟩ := y0_c
  have hia : Hid (ib < w.heap.size) := ⟨World.block_lt_of_cell? w ⟨ib, 0, none⟩ hI.ia.c0⟩
  go_enter Try.func88, Try.ntmps88
  go_wp2_with (first
    | (go_at_call 66; (with_reducible refine (insist_no _).mono ?_); rintro e wz ⟨rfl, hwz⟩; subst wz))
  have F9 := (Fr.refl rb ib w)
  refine ⟨rfl, ?_, F9⟩
  rw [HR.out]; rfl

end Go.Proofs.Ytjbepojopfbajaa
