/- The contracts of opIn. -/
import Derived.Test.YtjbepojopfbajaaDSize
namespace Go.Proofs.Ytjbepojopfbajaa
open Go.ChangeShapes Go.WideShapes Go.ChangeAt Go.RowKit
set_option linter.unusedVariables false
set_option linter.unusedSimpArgs false

section
variable {w : World} {rb : Nat} {L : Ln} {a : Nat} {fs : Bool} {rex opc sz md rg rm : Int}

theorem two (y : Int) : ((y != 0) = true ∧ (y == 0) = false) ∨ ((y != 0) = false ∧ (y == 0) = true) := by by_cases e : y = 0 <;> simp [e]

theorem opIn_0 (q : Q) (o0 : 0 ≤ opc) (o1 : opc < 65536) (hK : opK opc rg q = 0) (hb : 0 ≤ q.o0 ∧ q.o0 < 256) (h : RS w rb L a fs rex opc sz md rg rm) :
    Calls Try.prog 55 #[.pointer (some ⟨rb, 0, none⟩), q.val] w fun e w' => EndsI (must (q.o0 != 0) (.ok q.o0)) e ∧ Below w.heap.size w w' := by
  have H2 := h.up q.box
  have HB : Hid (∀ v, Calls Try.prog 69 #[q.val, .int .i64 4] v fun e w' => e = .returned (.bool (q.has 4)) ∧ Below v.heap.size v w') := ⟨rhas q 4⟩
  have HR : Hid (must (q.o0 != 0) (.ok q.o0) = must (q.o0 != 0) (.ok q.o0)) := ⟨rfl⟩
  generalize hm : must (q.o0 != 0) (.ok q.o0) = m at HR ⊢
  have HM : Hid (m = must (q.o0 != 0) (.ok q.o0)) := ⟨hm.symm⟩
  clear HR hm
  have HK : (if (q.vr == 57) = true then opc / 8 else if q.has 4 = true then 0 else rg) = 0 := hK
  generalize q.has 4 = z at *
  have HX : Hid (∀ v, Below (w.alloc q.box).heap.size (w.alloc q.box) v → v.cell? ⟨w.heap.size, 2 + 0, none⟩ = some (.int .u8 q.o0) ∧ RS v rb L a fs rex opc sz md rg rm) := ⟨fun v hv => ⟨to_bel hv (by simp), H2.bel hv⟩⟩
  obtain ⟨c0, c1, c2, c3, c4, c5, c6, c7, c8, fz, lies⟩ := H2
  clear h hK
  rcases two q.o0 with ⟨e1, e2⟩ | ⟨e1, e2⟩
  all_goals
    rw [e1] at HM
    cases h1 : (q.vr == 57) <;> cases z
  all_goals
    rw [h1] at HK
    simp only [if_true, if_false, Bool.false_eq_true] at HK
  all_goals try omega
  all_goals
    go_enter Try.func55, Try.ntmps55
    go_wp2_with (first
      | (go_at_call 69; (with_reducible refine (HB.out _).mono ?_); rintro e w1 ⟨rfl, hb1⟩; obtain ⟨HO1, H1⟩ := HX.out _ hb1; obtain ⟨d0, d1, d2, d3, d4, d5, d6, d7, d8, dz, _⟩ := H1)
      | (go_at_call 66; (with_reducible refine (insist_yes _).mono ?_); rintro e w1 ⟨rfl, hw1⟩; subst w1)
      | (go_at_call 66; (with_reducible refine (insist_no _).mono ?_); rintro e w1 ⟨rfl, hw1⟩; subst w1))
    first
    | (go_ret; refine ⟨?_, by first | exact bel_trans (bel_alloc (Below.refl _ _) _) hb1 | exact bel_alloc (Below.refl _ _) _⟩; rw [HM.out]; rfl)
    | (refine ⟨rfl, ?_, by first | exact bel_trans (bel_alloc (Below.refl _ _) _) hb1 | exact bel_alloc (Below.refl _ _) _⟩; rw [HM.out]; rfl)
theorem opIn_1 (q : Q) (o0 : 0 ≤ opc) (o1 : opc < 65536) (hK : opK opc rg q = 1) (hb : 0 ≤ q.o1 ∧ q.o1 < 256) (h : RS w rb L a fs rex opc sz md rg rm) :
    Calls Try.prog 55 #[.pointer (some ⟨rb, 0, none⟩), q.val] w fun e w' => EndsI (must (q.o1 != 0) (.ok q.o1)) e ∧ Below w.heap.size w w' := by
  have H2 := h.up q.box
  have HB : Hid (∀ v, Calls Try.prog 69 #[q.val, .int .i64 4] v fun e w' => e = .returned (.bool (q.has 4)) ∧ Below v.heap.size v w') := ⟨rhas q 4⟩
  have HR : Hid (must (q.o1 != 0) (.ok q.o1) = must (q.o1 != 0) (.ok q.o1)) := ⟨rfl⟩
  generalize hm : must (q.o1 != 0) (.ok q.o1) = m at HR ⊢
  have HM : Hid (m = must (q.o1 != 0) (.ok q.o1)) := ⟨hm.symm⟩
  clear HR hm
  have HK : (if (q.vr == 57) = true then opc / 8 else if q.has 4 = true then 0 else rg) = 1 := hK
  generalize q.has 4 = z at *
  have HX : Hid (∀ v, Below (w.alloc q.box).heap.size (w.alloc q.box) v → v.cell? ⟨w.heap.size, 2 + 1, none⟩ = some (.int .u8 q.o1) ∧ RS v rb L a fs rex opc sz md rg rm) := ⟨fun v hv => ⟨to_bel hv (by simp), H2.bel hv⟩⟩
  obtain ⟨c0, c1, c2, c3, c4, c5, c6, c7, c8, fz, lies⟩ := H2
  clear h hK
  rcases two q.o1 with ⟨e1, e2⟩ | ⟨e1, e2⟩
  all_goals
    rw [e1] at HM
    cases h1 : (q.vr == 57) <;> cases z
  all_goals
    rw [h1] at HK
    simp only [if_true, if_false, Bool.false_eq_true] at HK
  all_goals try omega
  all_goals
    go_enter Try.func55, Try.ntmps55
    go_wp2_with (first
      | (go_at_call 69; (with_reducible refine (HB.out _).mono ?_); rintro e w1 ⟨rfl, hb1⟩; obtain ⟨HO1, H1⟩ := HX.out _ hb1; obtain ⟨d0, d1, d2, d3, d4, d5, d6, d7, d8, dz, _⟩ := H1)
      | (go_at_call 66; (with_reducible refine (insist_yes _).mono ?_); rintro e w1 ⟨rfl, hw1⟩; subst w1)
      | (go_at_call 66; (with_reducible refine (insist_no _).mono ?_); rintro e w1 ⟨rfl, hw1⟩; subst w1))
    first
    | (go_ret; refine ⟨?_, by first | exact bel_trans (bel_alloc (Below.refl _ _) _) hb1 | exact bel_alloc (Below.refl _ _) _⟩; rw [HM.out]; rfl)
    | (refine ⟨rfl, ?_, by first | exact bel_trans (bel_alloc (Below.refl _ _) _) hb1 | exact bel_alloc (Below.refl _ _) _⟩; rw [HM.out]; rfl)
theorem opIn_2 (q : Q) (o0 : 0 ≤ opc) (o1 : opc < 65536) (hK : opK opc rg q = 2) (hb : 0 ≤ q.o2 ∧ q.o2 < 256) (h : RS w rb L a fs rex opc sz md rg rm) :
    Calls Try.prog 55 #[.pointer (some ⟨rb, 0, none⟩), q.val] w fun e w' => EndsI (must (q.o2 != 0) (.ok q.o2)) e ∧ Below w.heap.size w w' := by
  have H2 := h.up q.box
  have HB : Hid (∀ v, Calls Try.prog 69 #[q.val, .int .i64 4] v fun e w' => e = .returned (.bool (q.has 4)) ∧ Below v.heap.size v w') := ⟨rhas q 4⟩
  have HR : Hid (must (q.o2 != 0) (.ok q.o2) = must (q.o2 != 0) (.ok q.o2)) := ⟨rfl⟩
  generalize hm : must (q.o2 != 0) (.ok q.o2) = m at HR ⊢
  have HM : Hid (m = must (q.o2 != 0) (.ok q.o2)) := ⟨hm.symm⟩
  clear HR hm
  have HK : (if (q.vr == 57) = true then opc / 8 else if q.has 4 = true then 0 else rg) = 2 := hK
  generalize q.has 4 = z at *
  have HX : Hid (∀ v, Below (w.alloc q.box).heap.size (w.alloc q.box) v → v.cell? ⟨w.heap.size, 2 + 2, none⟩ = some (.int .u8 q.o2) ∧ RS v rb L a fs rex opc sz md rg rm) := ⟨fun v hv => ⟨to_bel hv (by simp), H2.bel hv⟩⟩
  obtain ⟨c0, c1, c2, c3, c4, c5, c6, c7, c8, fz, lies⟩ := H2
  clear h hK
  rcases two q.o2 with ⟨e1, e2⟩ | ⟨e1, e2⟩
  all_goals
    rw [e1] at HM
    cases h1 : (q.vr == 57) <;> cases z
  all_goals
    rw [h1] at HK
    simp only [if_true, if_false, Bool.false_eq_true] at HK
  all_goals try omega
  all_goals
    go_enter Try.func55, Try.ntmps55
    go_wp2_with (first
      | (go_at_call 69; (with_reducible refine (HB.out _).mono ?_); rintro e w1 ⟨rfl, hb1⟩; obtain ⟨HO1, H1⟩ := HX.out _ hb1; obtain ⟨d0, d1, d2, d3, d4, d5, d6, d7, d8, dz, _⟩ := H1)
      | (go_at_call 66; (with_reducible refine (insist_yes _).mono ?_); rintro e w1 ⟨rfl, hw1⟩; subst w1)
      | (go_at_call 66; (with_reducible refine (insist_no _).mono ?_); rintro e w1 ⟨rfl, hw1⟩; subst w1))
    first
    | (go_ret; refine ⟨?_, by first | exact bel_trans (bel_alloc (Below.refl _ _) _) hb1 | exact bel_alloc (Below.refl _ _) _⟩; rw [HM.out]; rfl)
    | (refine ⟨rfl, ?_, by first | exact bel_trans (bel_alloc (Below.refl _ _) _) hb1 | exact bel_alloc (Below.refl _ _) _⟩; rw [HM.out]; rfl)
theorem opIn_3 (q : Q) (o0 : 0 ≤ opc) (o1 : opc < 65536) (hK : opK opc rg q = 3) (hb : 0 ≤ q.o3 ∧ q.o3 < 256) (h : RS w rb L a fs rex opc sz md rg rm) :
    Calls Try.prog 55 #[.pointer (some ⟨rb, 0, none⟩), q.val] w fun e w' => EndsI (must (q.o3 != 0) (.ok q.o3)) e ∧ Below w.heap.size w w' := by
  have H2 := h.up q.box
  have HB : Hid (∀ v, Calls Try.prog 69 #[q.val, .int .i64 4] v fun e w' => e = .returned (.bool (q.has 4)) ∧ Below v.heap.size v w') := ⟨rhas q 4⟩
  have HR : Hid (must (q.o3 != 0) (.ok q.o3) = must (q.o3 != 0) (.ok q.o3)) := ⟨rfl⟩
  generalize hm : must (q.o3 != 0) (.ok q.o3) = m at HR ⊢
  have HM : Hid (m = must (q.o3 != 0) (.ok q.o3)) := ⟨hm.symm⟩
  clear HR hm
  have HK : (if (q.vr == 57) = true then opc / 8 else if q.has 4 = true then 0 else rg) = 3 := hK
  generalize q.has 4 = z at *
  have HX : Hid (∀ v, Below (w.alloc q.box).heap.size (w.alloc q.box) v → v.cell? ⟨w.heap.size, 2 + 3, none⟩ = some (.int .u8 q.o3) ∧ RS v rb L a fs rex opc sz md rg rm) := ⟨fun v hv => ⟨to_bel hv (by simp), H2.bel hv⟩⟩
  obtain ⟨c0, c1, c2, c3, c4, c5, c6, c7, c8, fz, lies⟩ := H2
  clear h hK
  rcases two q.o3 with ⟨e1, e2⟩ | ⟨e1, e2⟩
  all_goals
    rw [e1] at HM
    cases h1 : (q.vr == 57) <;> cases z
  all_goals
    rw [h1] at HK
    simp only [if_true, if_false, Bool.false_eq_true] at HK
  all_goals try omega
  all_goals
    go_enter Try.func55, Try.ntmps55
    go_wp2_with (first
      | (go_at_call 69; (with_reducible refine (HB.out _).mono ?_); rintro e w1 ⟨rfl, hb1⟩; obtain ⟨HO1, H1⟩ := HX.out _ hb1; obtain ⟨d0, d1, d2, d3, d4, d5, d6, d7, d8, dz, _⟩ := H1)
      | (go_at_call 66; (with_reducible refine (insist_yes _).mono ?_); rintro e w1 ⟨rfl, hw1⟩; subst w1)
      | (go_at_call 66; (with_reducible refine (insist_no _).mono ?_); rintro e w1 ⟨rfl, hw1⟩; subst w1))
    first
    | (go_ret; refine ⟨?_, by first | exact bel_trans (bel_alloc (Below.refl _ _) _) hb1 | exact bel_alloc (Below.refl _ _) _⟩; rw [HM.out]; rfl)
    | (refine ⟨rfl, ?_, by first | exact bel_trans (bel_alloc (Below.refl _ _) _) hb1 | exact bel_alloc (Below.refl _ _) _⟩; rw [HM.out]; rfl)
theorem opIn_4 (q : Q) (o0 : 0 ≤ opc) (o1 : opc < 65536) (hK : opK opc rg q = 4) (hb : 0 ≤ q.o4 ∧ q.o4 < 256) (h : RS w rb L a fs rex opc sz md rg rm) :
    Calls Try.prog 55 #[.pointer (some ⟨rb, 0, none⟩), q.val] w fun e w' => EndsI (must (q.o4 != 0) (.ok q.o4)) e ∧ Below w.heap.size w w' := by
  have H2 := h.up q.box
  have HB : Hid (∀ v, Calls Try.prog 69 #[q.val, .int .i64 4] v fun e w' => e = .returned (.bool (q.has 4)) ∧ Below v.heap.size v w') := ⟨rhas q 4⟩
  have HR : Hid (must (q.o4 != 0) (.ok q.o4) = must (q.o4 != 0) (.ok q.o4)) := ⟨rfl⟩
  generalize hm : must (q.o4 != 0) (.ok q.o4) = m at HR ⊢
  have HM : Hid (m = must (q.o4 != 0) (.ok q.o4)) := ⟨hm.symm⟩
  clear HR hm
  have HK : (if (q.vr == 57) = true then opc / 8 else if q.has 4 = true then 0 else rg) = 4 := hK
  generalize q.has 4 = z at *
  have HX : Hid (∀ v, Below (w.alloc q.box).heap.size (w.alloc q.box) v → v.cell? ⟨w.heap.size, 2 + 4, none⟩ = some (.int .u8 q.o4) ∧ RS v rb L a fs rex opc sz md rg rm) := ⟨fun v hv => ⟨to_bel hv (by simp), H2.bel hv⟩⟩
  obtain ⟨c0, c1, c2, c3, c4, c5, c6, c7, c8, fz, lies⟩ := H2
  clear h hK
  rcases two q.o4 with ⟨e1, e2⟩ | ⟨e1, e2⟩
  all_goals
    rw [e1] at HM
    cases h1 : (q.vr == 57) <;> cases z
  all_goals
    rw [h1] at HK
    simp only [if_true, if_false, Bool.false_eq_true] at HK
  all_goals try omega
  all_goals
    go_enter Try.func55, Try.ntmps55
    go_wp2_with (first
      | (go_at_call 69; (with_reducible refine (HB.out _).mono ?_); rintro e w1 ⟨rfl, hb1⟩; obtain ⟨HO1, H1⟩ := HX.out _ hb1; obtain ⟨d0, d1, d2, d3, d4, d5, d6, d7, d8, dz, _⟩ := H1)
      | (go_at_call 66; (with_reducible refine (insist_yes _).mono ?_); rintro e w1 ⟨rfl, hw1⟩; subst w1)
      | (go_at_call 66; (with_reducible refine (insist_no _).mono ?_); rintro e w1 ⟨rfl, hw1⟩; subst w1))
    first
    | (go_ret; refine ⟨?_, by first | exact bel_trans (bel_alloc (Below.refl _ _) _) hb1 | exact bel_alloc (Below.refl _ _) _⟩; rw [HM.out]; rfl)
    | (refine ⟨rfl, ?_, by first | exact bel_trans (bel_alloc (Below.refl _ _) _) hb1 | exact bel_alloc (Below.refl _ _) _⟩; rw [HM.out]; rfl)
theorem opIn_5 (q : Q) (o0 : 0 ≤ opc) (o1 : opc < 65536) (hK : opK opc rg q = 5) (hb : 0 ≤ q.o5 ∧ q.o5 < 256) (h : RS w rb L a fs rex opc sz md rg rm) :
    Calls Try.prog 55 #[.pointer (some ⟨rb, 0, none⟩), q.val] w fun e w' => EndsI (must (q.o5 != 0) (.ok q.o5)) e ∧ Below w.heap.size w w' := by
  have H2 := h.up q.box
  have HB : Hid (∀ v, Calls Try.prog 69 #[q.val, .int .i64 4] v fun e w' => e = .returned (.bool (q.has 4)) ∧ Below v.heap.size v w') := ⟨rhas q 4⟩
  have HR : Hid (must (q.o5 != 0) (.ok q.o5) = must (q.o5 != 0) (.ok q.o5)) := ⟨rfl⟩
  generalize hm : must (q.o5 != 0) (.ok q.o5) = m at HR ⊢
  have HM : Hid (m = must (q.o5 != 0) (.ok q.o5)) := ⟨hm.symm⟩
  clear HR hm
  have HK : (if (q.vr == 57) = true then opc / 8 else if q.has 4 = true then 0 else rg) = 5 := hK
  generalize q.has 4 = z at *
  have HX : Hid (∀ v, Below (w.alloc q.box).heap.size (w.alloc q.box) v → v.cell? ⟨w.heap.size, 2 + 5, none⟩ = some (.int .u8 q.o5) ∧ RS v rb L a fs rex opc sz md rg rm) := ⟨fun v hv => ⟨to_bel hv (by simp), H2.bel hv⟩⟩
  obtain ⟨c0, c1, c2, c3, c4, c5, c6, c7, c8, fz, lies⟩ := H2
  clear h hK
  rcases two q.o5 with ⟨e1, e2⟩ | ⟨e1, e2⟩
  all_goals
    rw [e1] at HM
    cases h1 : (q.vr == 57) <;> cases z
  all_goals
    rw [h1] at HK
    simp only [if_true, if_false, Bool.false_eq_true] at HK
  all_goals try omega
  all_goals
    go_enter Try.func55, Try.ntmps55
    go_wp2_with (first
      | (go_at_call 69; (with_reducible refine (HB.out _).mono ?_); rintro e w1 ⟨rfl, hb1⟩; obtain ⟨HO1, H1⟩ := HX.out _ hb1; obtain ⟨d0, d1, d2, d3, d4, d5, d6, d7, d8, dz, _⟩ := H1)
      | (go_at_call 66; (with_reducible refine (insist_yes _).mono ?_); rintro e w1 ⟨rfl, hw1⟩; subst w1)
      | (go_at_call 66; (with_reducible refine (insist_no _).mono ?_); rintro e w1 ⟨rfl, hw1⟩; subst w1))
    first
    | (go_ret; refine ⟨?_, by first | exact bel_trans (bel_alloc (Below.refl _ _) _) hb1 | exact bel_alloc (Below.refl _ _) _⟩; rw [HM.out]; rfl)
    | (refine ⟨rfl, ?_, by first | exact bel_trans (bel_alloc (Below.refl _ _) _) hb1 | exact bel_alloc (Below.refl _ _) _⟩; rw [HM.out]; rfl)
theorem opIn_6 (q : Q) (o0 : 0 ≤ opc) (o1 : opc < 65536) (hK : opK opc rg q = 6) (hb : 0 ≤ q.o6 ∧ q.o6 < 256) (h : RS w rb L a fs rex opc sz md rg rm) :
    Calls Try.prog 55 #[.pointer (some ⟨rb, 0, none⟩), q.val] w fun e w' => EndsI (must (q.o6 != 0) (.ok q.o6)) e ∧ Below w.heap.size w w' := by
  have H2 := h.up q.box
  have HB : Hid (∀ v, Calls Try.prog 69 #[q.val, .int .i64 4] v fun e w' => e = .returned (.bool (q.has 4)) ∧ Below v.heap.size v w') := ⟨rhas q 4⟩
  have HR : Hid (must (q.o6 != 0) (.ok q.o6) = must (q.o6 != 0) (.ok q.o6)) := ⟨rfl⟩
  generalize hm : must (q.o6 != 0) (.ok q.o6) = m at HR ⊢
  have HM : Hid (m = must (q.o6 != 0) (.ok q.o6)) := ⟨hm.symm⟩
  clear HR hm
  have HK : (if (q.vr == 57) = true then opc / 8 else if q.has 4 = true then 0 else rg) = 6 := hK
  generalize q.has 4 = z at *
  have HX : Hid (∀ v, Below (w.alloc q.box).heap.size (w.alloc q.box) v → v.cell? ⟨w.heap.size, 2 + 6, none⟩ = some (.int .u8 q.o6) ∧ RS v rb L a fs rex opc sz md rg rm) := ⟨fun v hv => ⟨to_bel hv (by simp), H2.bel hv⟩⟩
  obtain ⟨c0, c1, c2, c3, c4, c5, c6, c7, c8, fz, lies⟩ := H2
  clear h hK
  rcases two q.o6 with ⟨e1, e2⟩ | ⟨e1, e2⟩
  all_goals
    rw [e1] at HM
    cases h1 : (q.vr == 57) <;> cases z
  all_goals
    rw [h1] at HK
    simp only [if_true, if_false, Bool.false_eq_true] at HK
  all_goals try omega
  all_goals
    go_enter Try.func55, Try.ntmps55
    go_wp2_with (first
      | (go_at_call 69; (with_reducible refine (HB.out _).mono ?_); rintro e w1 ⟨rfl, hb1⟩; obtain ⟨HO1, H1⟩ := HX.out _ hb1; obtain ⟨d0, d1, d2, d3, d4, d5, d6, d7, d8, dz, _⟩ := H1)
      | (go_at_call 66; (with_reducible refine (insist_yes _).mono ?_); rintro e w1 ⟨rfl, hw1⟩; subst w1)
      | (go_at_call 66; (with_reducible refine (insist_no _).mono ?_); rintro e w1 ⟨rfl, hw1⟩; subst w1))
    first
    | (go_ret; refine ⟨?_, by first | exact bel_trans (bel_alloc (Below.refl _ _) _) hb1 | exact bel_alloc (Below.refl _ _) _⟩; rw [HM.out]; rfl)
    | (refine ⟨rfl, ?_, by first | exact bel_trans (bel_alloc (Below.refl _ _) _) hb1 | exact bel_alloc (Below.refl _ _) _⟩; rw [HM.out]; rfl)
theorem opIn_7 (q : Q) (o0 : 0 ≤ opc) (o1 : opc < 65536) (hK : opK opc rg q = 7) (hb : 0 ≤ q.o7 ∧ q.o7 < 256) (h : RS w rb L a fs rex opc sz md rg rm) :
    Calls Try.prog 55 #[.pointer (some ⟨rb, 0, none⟩), q.val] w fun e w' => EndsI (must (q.o7 != 0) (.ok q.o7)) e ∧ Below w.heap.size w w' := by
  have H2 := h.up q.box
  have HB : Hid (∀ v, Calls Try.prog 69 #[q.val, .int .i64 4] v fun e w' => e = .returned (.bool (q.has 4)) ∧ Below v.heap.size v w') := ⟨rhas q 4⟩
  have HR : Hid (must (q.o7 != 0) (.ok q.o7) = must (q.o7 != 0) (.ok q.o7)) := ⟨rfl⟩
  generalize hm : must (q.o7 != 0) (.ok q.o7) = m at HR ⊢
  have HM : Hid (m = must (q.o7 != 0) (.ok q.o7)) := ⟨hm.symm⟩
  clear HR hm
  have HK : (if (q.vr == 57) = true then opc / 8 else if q.has 4 = true then 0 else rg) = 7 := hK
  generalize q.has 4 = z at *
  have HX : Hid (∀ v, Below (w.alloc q.box).heap.size (w.alloc q.box) v → v.cell? ⟨w.heap.size, 2 + 7, none⟩ = some (.int .u8 q.o7) ∧ RS v rb L a fs rex opc sz md rg rm) := ⟨fun v hv => ⟨to_bel hv (by simp), H2.bel hv⟩⟩
  obtain ⟨c0, c1, c2, c3, c4, c5, c6, c7, c8, fz, lies⟩ := H2
  clear h hK
  rcases two q.o7 with ⟨e1, e2⟩ | ⟨e1, e2⟩
  all_goals
    rw [e1] at HM
    cases h1 : (q.vr == 57) <;> cases z
  all_goals
    rw [h1] at HK
    simp only [if_true, if_false, Bool.false_eq_true] at HK
  all_goals try omega
  all_goals
    go_enter Try.func55, Try.ntmps55
    go_wp2_with (first
      | (go_at_call 69; (with_reducible refine (HB.out _).mono ?_); rintro e w1 ⟨rfl, hb1⟩; obtain ⟨HO1, H1⟩ := HX.out _ hb1; obtain ⟨d0, d1, d2, d3, d4, d5, d6, d7, d8, dz, _⟩ := H1)
      | (go_at_call 66; (with_reducible refine (insist_yes _).mono ?_); rintro e w1 ⟨rfl, hw1⟩; subst w1)
      | (go_at_call 66; (with_reducible refine (insist_no _).mono ?_); rintro e w1 ⟨rfl, hw1⟩; subst w1))
    first
    | (go_ret; refine ⟨?_, by first | exact bel_trans (bel_alloc (Below.refl _ _) _) hb1 | exact bel_alloc (Below.refl _ _) _⟩; rw [HM.out]; rfl)
    | (refine ⟨rfl, ?_, by first | exact bel_trans (bel_alloc (Below.refl _ _) _) hb1 | exact bel_alloc (Below.refl _ _) _⟩; rw [HM.out]; rfl)

theorem opIn_any (q : Q) (o0 : 0 ≤ opc) (o1 : opc < 65536) (hk0 : 0 ≤ opK opc rg q) (hk1 : opK opc rg q < 8) (hb : ∀ k, 0 ≤ q.op k ∧ q.op k < 256) (h : RS w rb L a fs rex opc sz md rg rm) :
    Calls Try.prog 55 #[.pointer (some ⟨rb, 0, none⟩), q.val] w fun e w' => EndsI (opM opc rg q) e ∧ Below w.heap.size w w' := by
  have kk : opK opc rg q = 0 ∨ opK opc rg q = 1 ∨ opK opc rg q = 2 ∨ opK opc rg q = 3 ∨ opK opc rg q = 4 ∨ opK opc rg q = 5 ∨ opK opc rg q = 6 ∨ opK opc rg q = 7 := by omega
  unfold opM
  rcases kk with e | e | e | e | e | e | e | e
  · rw [e]; exact opIn_0 q o0 o1 e (hb 0) h
  · rw [e]; exact opIn_1 q o0 o1 e (hb 1) h
  · rw [e]; exact opIn_2 q o0 o1 e (hb 2) h
  · rw [e]; exact opIn_3 q o0 o1 e (hb 3) h
  · rw [e]; exact opIn_4 q o0 o1 e (hb 4) h
  · rw [e]; exact opIn_5 q o0 o1 e (hb 5) h
  · rw [e]; exact opIn_6 q o0 o1 e (hb 6) h
  · rw [e]; exact opIn_7 q o0 o1 e (hb 7) h
end
end Go.Proofs.Ytjbepojopfbajaa
