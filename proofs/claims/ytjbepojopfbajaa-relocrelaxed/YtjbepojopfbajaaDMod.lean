/- The contract of modRM. -/
import Derived.Test.YtjbepojopfbajaaDSize
import Derived.Test.YtjbepojopfbajaaDPre
import Derived.Deep.CutRange
namespace Go.Proofs.Ytjbepojopfbajaa
open Go.ChangeShapes Go.WideShapes Go.ChangeAt Go.RowKit
set_option linter.unusedVariables false
set_option linter.unusedSimpArgs false

/-- A row lies in a block. -/
structure QA (w : World) (b : Nat) (q : Q) : Prop where
  c0 : w.cell? ⟨b, 0, none⟩ = some (.int .i64 q.code)
  c1 : w.cell? ⟨b, 1, none⟩ = some (.int .i64 q.vr)
  c2 : w.cell? ⟨b, 2, none⟩ = some (.int .u8 q.o0)
  c3 : w.cell? ⟨b, 3, none⟩ = some (.int .u8 q.o1)
  c4 : w.cell? ⟨b, 4, none⟩ = some (.int .u8 q.o2)
  c5 : w.cell? ⟨b, 5, none⟩ = some (.int .u8 q.o3)
  c6 : w.cell? ⟨b, 6, none⟩ = some (.int .u8 q.o4)
  c7 : w.cell? ⟨b, 7, none⟩ = some (.int .u8 q.o5)
  c8 : w.cell? ⟨b, 8, none⟩ = some (.int .u8 q.o6)
  c9 : w.cell? ⟨b, 9, none⟩ = some (.int .u8 q.o7)
  c10 : w.cell? ⟨b, 10, none⟩ = some (.int .i64 q.size)
  c11 : w.cell? ⟨b, 11, none⟩ = some (.int .i64 q.bes)
  c12 : w.cell? ⟨b, 12, none⟩ = some (.func (.func q.f) #[] #[])
theorem QA.fr {w v : World} {b : Nat} {q : Q} (h : QA w b q) {c d : Nat} (g : Fr c d w v) (hc : b ≠ c) (hd : b ≠ d) : QA v b q :=
  ⟨g.cell h.c0 hc hd, g.cell h.c1 hc hd, g.cell h.c2 hc hd, g.cell h.c3 hc hd, g.cell h.c4 hc hd, g.cell h.c5 hc hd, g.cell h.c6 hc hd, g.cell h.c7 hc hd, g.cell h.c8 hc hd, g.cell h.c9 hc hd, g.cell h.c10 hc hd, g.cell h.c11 hc hd, g.cell h.c12 hc hd⟩
theorem QA.new (w : World) (q : Q) : QA (w.alloc q.box) w.heap.size q := by constructor <;> simp
theorem QA.bel {w v : World} {b : Nat} {q : Q} (h : QA w b q) (g : Below w.heap.size w v) : QA v b q := h.fr (Fr.of g (b + 1) (b + 1)) (by omega) (by omega)

def EndsM (m : Except Int (Int × Int × Int)) (R : Int → Int → Int → Prop) (e : Ending) : Prop :=
  match m with
  | .ok (md, rg, rm) => e = .returned (.tuple #[]) ∧ R md rg rm
  | .error n => e = bad n

/-- What ModRM's fields must be. -/
def modA (fs : Bool) (rex sz : Int) (q : Q) (md rg rm : Int) : Except Int (Int × Int × Int) :=
  must (!(md == 3) || q.has 16) (must (!fs || (md == 0 && rm == 4)) (must (!hasX rex 2 || (!(md == 3) && rm == 4)) (must (!hasX rex 1 || !(md == 0 && rm == 5))
    (must (byteOk rex ((((sz == 1) && q.has 4) && above (regOf rex rg 4)) || (((sz == 1 || q.has 32) && (md == 3)) && above (regOf rex rm 1)))) (.ok (md, rg, rm))))))

set_option maxHeartbeats 4000000 in
theorem modRM_ok {w : World} {rb : Nat} {L : Ln} {a : Nat} {fs : Bool} {rex opc sz md0 rg0 rm0 : Int} (q : Q) (ha : a < L.len) (h : RS w rb L a fs rex opc sz md0 rg0 rm0) :
    Calls Try.prog 54 #[.pointer (some ⟨rb, 0, none⟩), q.val] w fun e w' =>
      EndsM (modA fs rex sz q (L.bs a / 64) (L.bs a / 8 % 8) (L.bs a % 8)) (fun md rg rm => RS w' rb L (a + 1) fs rex opc sz md rg rm) e ∧ Fr rb rb w w' := by
  have hby := h.lies.byte a
  have hlt := h.lt
  have H0 := h.up q.box
  have Q0 := QA.new w q
  have e1 := mask7 (L.bs a / 8) (by omega) (by omega)
  have e2 := mask7 (L.bs a) (by omega) (by omega)
  have x3 : 0 ≤ L.bs a / 64 := by omega
  have x4 : 0 ≤ L.bs a / 8 % 8 ∧ L.bs a / 8 % 8 < 8 := by omega
  have x5 : 0 ≤ L.bs a % 8 ∧ L.bs a % 8 < 8 := by omega
  generalize hx : L.bs a = X at *
  have HM : Hid (modA fs rex sz q (X / 64) (X / 8 % 8) (X % 8) = must (!(X / 64 == 3) || q.has 16) (must (!fs || (X / 64 == 0 && X % 8 == 4)) (must (!hasX rex 2 || (!(X / 64 == 3) && X % 8 == 4)) (must (!hasX rex 1 || !(X / 64 == 0 && X % 8 == 5))
    (must (byteOk rex ((((sz == 1) && q.has 4) && above (regOf rex (X / 8 % 8) 4)) || (((sz == 1 || q.has 32) && (X / 64 == 3)) && above (regOf rex (X % 8) 1)))) (.ok (X / 64, X / 8 % 8, X % 8))))))) := ⟨rfl⟩
  generalize modA fs rex sz q (X / 64) (X / 8 % 8) (X % 8) = m at *
  clear h
  go_enter Try.func54, Try.ntmps54
  go_upto_region 3 with (go_at_call 65; (with_reducible refine (next_ok H0 ha).mono ?_); rintro e w1 ⟨he, hrs, hfr⟩; (rw [hx] at he); subst he; (have hcs := hrs); obtain ⟨d0, d1, d2, d3, d4, d5, d6, d7, d8, dz, dl⟩ := hcs)
  have R1 := ((hrs.set6 (X / 64)).set7 (X / 8 % 8)).set8 (X % 8)
  have Q1 : QA (((w1.setCell ⟨rb, 6, none⟩ (.int .i64 (X / 64))).setCell ⟨rb, 7, none⟩ (.int .i64 (X / 8 % 8))).setCell ⟨rb, 8, none⟩ (.int .i64 (X % 8))) w.heap.size q :=
    Q0.fr (((hfr.setA 6 _).setA 7 _).setA 8 _) (by omega) (by omega)
  have F1 : Fr rb rb w (((w1.setCell ⟨rb, 6, none⟩ (.int .i64 (X / 64))).setCell ⟨rb, 7, none⟩ (.int .i64 (X / 8 % 8))).setCell ⟨rb, 8, none⟩ (.int .i64 (X % 8))) :=
    (((((Fr.refl rb rb w).alloc _).then hfr).setA 6 _).setA 7 _).setA 8 _
  generalize ((w1.setCell ⟨rb, 6, none⟩ (.int .i64 (X / 64))).setCell ⟨rb, 7, none⟩ (.int .i64 (X / 8 % 8))).setCell ⟨rb, 8, none⟩ (.int .i64 (X % 8)) = v at *
  clear d0 d1 d2 d3 d4 d5 d6 d7 d8 dz dl hrs hfr H0 Q0 e1 e2 hby
  generalize X / 64 = md at *
  generalize X / 8 % 8 = rg at *
  generalize X % 8 = rm at *
  have HRN : Hid (∀ u, RS u rb L (a + 1) fs rex opc sz md rg rm → Calls Try.prog 73 #[.pointer (some ⟨rb, 0, none⟩)] u fun e w' => e = .returned (.int .i64 (regOf rex rg 4)) ∧ w' = u) := ⟨fun u hu => regNumber_any x4.1 x4.2 hu⟩
  have HRO : Hid (∀ u, RS u rb L (a + 1) fs rex opc sz md rg rm → Calls Try.prog 74 #[.pointer (some ⟨rb, 0, none⟩), .int .i64 rm, .int .i64 1] u fun e w' => e = .returned (.int .i64 (regOf rex rm 1)) ∧ w' = u) := ⟨fun u hu => registerOf_any rm 1 x5.1 x5.2 hu⟩
  have HAR : Hid (∀ u, Calls Try.prog 72 #[.int .i64 (regOf rex rg 4)] u fun e w' => e = .returned (.bool (above (regOf rex rg 4))) ∧ w' = u) := ⟨isAbove_any _⟩
  have HAP : Hid (∀ u, Calls Try.prog 72 #[.int .i64 (regOf rex rm 1)] u fun e w' => e = .returned (.bool (above (regOf rex rm 1))) ∧ w' = u) := ⟨isAbove_any _⟩
  have HFR : Hid (∀ u, RS u rb L (a + 1) fs rex opc sz md rg rm → Calls Try.prog 71 #[.pointer (some ⟨rb, 0, none⟩)] u fun e w' => e = .returned (.bool (md == 0 && rm == 5)) ∧ w' = u) := ⟨fun u hu => isFromRip_any hu⟩
  have HH2 : Hid (∀ u, RS u rb L (a + 1) fs rex opc sz md rg rm → Calls Try.prog 67 #[.pointer (some ⟨rb, 0, none⟩), .int .i64 2] u fun e w' => e = .returned (.bool (hasX rex 2)) ∧ w' = u) := ⟨fun u hu => has_x 2 hu⟩
  have HH1 : Hid (∀ u, RS u rb L (a + 1) fs rex opc sz md rg rm → Calls Try.prog 67 #[.pointer (some ⟨rb, 0, none⟩), .int .i64 1] u fun e w' => e = .returned (.bool (hasX rex 1)) ∧ w' = u) := ⟨fun u hu => has_x 1 hu⟩
  have HQ16 : Hid (∀ u, Calls Try.prog 69 #[q.val, .int .i64 16] u fun e w' => e = .returned (.bool (q.has 16)) ∧ Below u.heap.size u w') := ⟨rhas q 16⟩
  have HQ4 : Hid (∀ u, Calls Try.prog 69 #[q.val, .int .i64 4] u fun e w' => e = .returned (.bool (q.has 4)) ∧ Below u.heap.size u w') := ⟨rhas q 4⟩
  have HBA : Hid (∀ u, RS u rb L (a + 1) fs rex opc sz md rg rm → Calls Try.prog 70 #[.pointer (some ⟨rb, 0, none⟩), q.val] u fun e w' => e = .returned (.bool (sz == 1 || q.has 32)) ∧ Below u.heap.size u w') := ⟨fun u hu => byteAt_any q hu⟩
  have HSB : Hid (∀ u one, RS u rb L (a + 1) fs rex opc sz md rg rm → Calls Try.prog 75 #[.pointer (some ⟨rb, 0, none⟩), .bool one] u fun e w' => Ends (must (byteOk rex one) (.ok (.tuple #[]))) e ∧ w' = u) := ⟨fun u one hu => settleByte_any one hu⟩
  generalize above (regOf rex rg 4) = aR at *
  generalize above (regOf rex rm 1) = aP at *
  generalize regOf rex rg 4 = nR at *
  generalize regOf rex rm 1 = nP at *
  generalize hasX rex 2 = hI at *
  generalize hasX rex 1 = hB at *
  generalize q.has 16 = q16 at *
  generalize q.has 4 = q4 at *
  generalize (sz == 1 || q.has 32) = bA at *
  (have rc := R1); obtain ⟨d0, d1, d2, d3, d4, d5, d6, d7, d8, dz, dl⟩ := rc
  (have qc := Q1); obtain ⟨q0, q1, q2, q3, q4c, q5, q6, q7, q8, q9, q10, q11, q12⟩ := qc
  go_upto_region 4 with (fail)
  generalize (md == 3) = m3 at *
  generalize (md == 0 && rm == 5) = f5 at *
  go_cut [] from 31 to 37 (fun wx => Hid ((!m3 || q16) = true ∧ RS wx rb L (a + 1) fs rex opc sz md rg rm ∧ QA wx w.heap.size q ∧ Fr rb rb w wx))
  case first =>
    cases m3
    case' true => cases q16
    all_goals
      go_wp2_with (first
      | (go_at_call 69; (with_reducible refine (HQ16.out _).mono ?_); rintro e w2 ⟨rfl, hb⟩)
      | (go_at_call 66; (with_reducible refine (insist_yes _).mono ?_); rintro e w2 ⟨rfl, hw2⟩; subst w2)
      | (go_at_call 66; (with_reducible refine (insist_no _).mono ?_); rintro e w2 ⟨rfl, hw2⟩; subst w2))
    all_goals
      first
      | (go_meet; first | exact ⟨⟨rfl, R1, Q1, F1⟩⟩ | exact ⟨⟨rfl, R1.bel hb, Q1.bel hb, F1.bel hb⟩⟩)
      | (refine ⟨rfl, ?_, by first | exact F1 | exact F1.bel hb⟩; rw [HM.out]; rfl)
  case rest =>
  clear d0 d1 d2 d3 d4 d5 d6 d7 d8 dz dl q0 q1 q2 q3 q4c q5 q6 q7 q8 q9 q10 q11 q12
  clear R1 Q1 F1
  obtain ⟨hbb, R1, Q1, F1⟩ := hcut.out
  rw [hbb, must_true] at HM
  clear hbb hcut
  (have rc := R1); obtain ⟨d0, d1, d2, d3, d4, d5, d6, d7, d8, dz, dl⟩ := rc
  (have qc := Q1); obtain ⟨q0, q1, q2, q3, q4c, q5, q6, q7, q8, q9, q10, q11, q12⟩ := qc
  generalize h0 : (md == 0) = m0 at *
  generalize h4 : (rm == 4) = r4 at *
  go_upto_region 5 with (fail)
  go_cut [] from 38 to 57 (fun wx => Hid ((!fs || (m0 && r4)) = true ∧ RS wx rb L (a + 1) fs rex opc sz md rg rm ∧ QA wx w.heap.size q ∧ Fr rb rb w wx))
  case first =>
    cases fs
    case' true => cases m0
    case' true.true => cases r4
    all_goals
      go_wp2_with (first
      | (go_at_call 66; (with_reducible refine (insist_yes _).mono ?_); rintro e w2 ⟨rfl, hw2⟩; subst w2)
      | (go_at_call 66; (with_reducible refine (insist_no _).mono ?_); rintro e w2 ⟨rfl, hw2⟩; subst w2))
    all_goals
      first
      | (go_meet; first | exact ⟨⟨rfl, R1, Q1, F1⟩⟩ | exact ⟨⟨rfl, R1.bel hb, Q1.bel hb, F1.bel hb⟩⟩)
      | (refine ⟨rfl, ?_, by first | exact F1 | exact F1.bel hb⟩; rw [HM.out]; rfl)
  case rest =>
  clear d0 d1 d2 d3 d4 d5 d6 d7 d8 dz dl q0 q1 q2 q3 q4c q5 q6 q7 q8 q9 q10 q11 q12
  clear R1 Q1 F1
  obtain ⟨hbb, R1, Q1, F1⟩ := hcut.out
  rw [hbb, must_true] at HM
  clear hbb hcut
  (have rc := R1); obtain ⟨d0, d1, d2, d3, d4, d5, d6, d7, d8, dz, dl⟩ := rc
  (have qc := Q1); obtain ⟨q0, q1, q2, q3, q4c, q5, q6, q7, q8, q9, q10, q11, q12⟩ := qc
  go_upto_region 6 with (fail)
  go_cut [] from 58 to 72 (fun wx => Hid ((!hI || (!m3 && r4)) = true ∧ RS wx rb L (a + 1) fs rex opc sz md rg rm ∧ QA wx w.heap.size q ∧ Fr rb rb w wx))
  case first =>
    cases hI
    case' true => cases m3
    case' true.false => cases r4
    all_goals
      go_wp2_with (first
      | (go_at_call 67; (with_reducible refine (HH2.out _ R1).mono ?_); rintro e w2 ⟨rfl, hw2⟩; subst w2)
      | (go_at_call 66; (with_reducible refine (insist_yes _).mono ?_); rintro e w2 ⟨rfl, hw2⟩; subst w2)
      | (go_at_call 66; (with_reducible refine (insist_no _).mono ?_); rintro e w2 ⟨rfl, hw2⟩; subst w2))
    all_goals
      first
      | (go_meet; first | exact ⟨⟨rfl, R1, Q1, F1⟩⟩ | exact ⟨⟨rfl, R1.bel hb, Q1.bel hb, F1.bel hb⟩⟩)
      | (refine ⟨rfl, ?_, by first | exact F1 | exact F1.bel hb⟩; rw [HM.out]; rfl)
  case rest =>
  clear d0 d1 d2 d3 d4 d5 d6 d7 d8 dz dl q0 q1 q2 q3 q4c q5 q6 q7 q8 q9 q10 q11 q12
  clear R1 Q1 F1
  obtain ⟨hbb, R1, Q1, F1⟩ := hcut.out
  rw [hbb, must_true] at HM
  clear hbb hcut
  (have rc := R1); obtain ⟨d0, d1, d2, d3, d4, d5, d6, d7, d8, dz, dl⟩ := rc
  (have qc := Q1); obtain ⟨q0, q1, q2, q3, q4c, q5, q6, q7, q8, q9, q10, q11, q12⟩ := qc
  go_upto_region 7 with (fail)
  go_cut [] from 73 to 81 (fun wx => Hid ((!hB || !f5) = true ∧ RS wx rb L (a + 1) fs rex opc sz md rg rm ∧ QA wx w.heap.size q ∧ Fr rb rb w wx))
  case first =>
    cases hB
    case' true => cases f5
    all_goals
      go_wp2_with (first
      | (go_at_call 67; (with_reducible refine (HH1.out _ R1).mono ?_); rintro e w2 ⟨rfl, hw2⟩; subst w2)
      | (go_at_call 71; (with_reducible refine (HFR.out _ R1).mono ?_); rintro e w2 ⟨rfl, hw2⟩; subst w2)
      | (go_at_call 66; (with_reducible refine (insist_yes _).mono ?_); rintro e w2 ⟨rfl, hw2⟩; subst w2)
      | (go_at_call 66; (with_reducible refine (insist_no _).mono ?_); rintro e w2 ⟨rfl, hw2⟩; subst w2))
    all_goals
      first
      | (go_meet; first | exact ⟨⟨rfl, R1, Q1, F1⟩⟩ | exact ⟨⟨rfl, R1.bel hb, Q1.bel hb, F1.bel hb⟩⟩)
      | (refine ⟨rfl, ?_, by first | exact F1 | exact F1.bel hb⟩; rw [HM.out]; rfl)
  case rest =>
  clear d0 d1 d2 d3 d4 d5 d6 d7 d8 dz dl q0 q1 q2 q3 q4c q5 q6 q7 q8 q9 q10 q11 q12
  clear R1 Q1 F1
  obtain ⟨hbb, R1, Q1, F1⟩ := hcut.out
  rw [hbb, must_true] at HM
  clear hbb hcut
  (have rc := R1); obtain ⟨d0, d1, d2, d3, d4, d5, d6, d7, d8, dz, dl⟩ := rc
  (have qc := Q1); obtain ⟨q0, q1, q2, q3, q4c, q5, q6, q7, q8, q9, q10, q11, q12⟩ := qc
  go_upto_region 8 with (fail)
  generalize h1 : (sz == 1) = s1 at *
  go_cut [6] from 82 to 95 (fun s6 wx => s6 = .bool (s1 && q4 && aR) ∧ Hid (RS wx rb L (a + 1) fs rex opc sz md rg rm ∧ QA wx w.heap.size q ∧ Fr rb rb w wx))
  case first =>
    cases s1
    case' true => cases q4
    all_goals
      go_wp2_with (first
      | (go_at_call 69; (with_reducible refine (HQ4.out _).mono ?_); rintro e w2 ⟨rfl, hb⟩; (have R2 := R1.bel hb))
      | (go_at_call 73; (with_reducible refine (HRN.out _ R2).mono ?_); rintro e w3 ⟨rfl, hw3⟩; subst w3)
      | (go_at_call 72; (with_reducible refine (HAR.out _).mono ?_); rintro e w3 ⟨rfl, hw3⟩; subst w3))
    all_goals
      (go_meet; first | exact ⟨rfl, ⟨R1, Q1, F1⟩⟩ | exact ⟨rfl, ⟨R1.bel hb, Q1.bel hb, F1.bel hb⟩⟩)
  case rest =>
  clear d0 d1 d2 d3 d4 d5 d6 d7 d8 dz dl q0 q1 q2 q3 q4c q5 q6 q7 q8 q9 q10 q11 q12
  clear R1 Q1 F1
  obtain ⟨hs6, hc6⟩ := hcut
  obtain ⟨R1, Q1, F1⟩ := hc6.out
  subst hs6
  clear hc6
  (have rc := R1); obtain ⟨d0, d1, d2, d3, d4, d5, d6, d7, d8, dz, dl⟩ := rc
  (have qc := Q1); obtain ⟨q0, q1, q2, q3, q4c, q5, q6, q7, q8, q9, q10, q11, q12⟩ := qc
  generalize (s1 && q4 && aR) = z6 at *
  go_upto_region 9 with (fail)
  go_cut [7] from 96 to 110 (fun s7 wx => s7 = .bool (bA && m3 && aP) ∧ Hid (RS wx rb L (a + 1) fs rex opc sz md rg rm ∧ QA wx w.heap.size q ∧ Fr rb rb w wx))
  case first =>
    cases bA
    case' true => cases m3
    all_goals
      go_wp2_with (first
      | (go_at_call 70; (with_reducible refine (HBA.out _ R1).mono ?_); rintro e w2 ⟨rfl, hb⟩; (have R2 := R1.bel hb); (have r2 := R2); obtain ⟨p0, p1, p2, p3, p4, p5, p6, p7, p8, pz, pl⟩ := r2)
      | (go_at_call 74; (with_reducible refine (HRO.out _ R2).mono ?_); rintro e w3 ⟨rfl, hw3⟩; subst w3)
      | (go_at_call 72; (with_reducible refine (HAP.out _).mono ?_); rintro e w3 ⟨rfl, hw3⟩; subst w3))
    all_goals
      (go_meet; exact ⟨rfl, ⟨R1.bel hb, Q1.bel hb, F1.bel hb⟩⟩)
  case rest =>
  clear d0 d1 d2 d3 d4 d5 d6 d7 d8 dz dl q0 q1 q2 q3 q4c q5 q6 q7 q8 q9 q10 q11 q12
  clear R1 Q1 F1
  obtain ⟨hs7, hc7⟩ := hcut
  obtain ⟨R1, Q1, F1⟩ := hc7.out
  subst hs7
  clear hc7
  generalize (bA && m3 && aP) = z7 at *
  cases hbo : byteOk rex (z6 || z7)
  all_goals
    rw [hbo] at HM
    have HS := HSB.out wc (z6 || z7) R1
    rw [hbo] at HS
    clear hbo HSB
    cases z6
    case' false => cases z7
  all_goals
    simp only [Bool.or_false, Bool.or_true, Bool.true_or] at HS
    go_wp2_with (go_at_call 75; (with_reducible refine HS.mono ?_); rintro e w3 ⟨he, hw3⟩; (have he' : _ = _ := he); subst he' w3)
    first
    | (go_end0; refine ⟨?_, F1⟩; rw [HM.out]; exact ⟨rfl, R1⟩)
    | (refine ⟨rfl, ?_, F1⟩; rw [HM.out]; rfl)

theorem modRM_end {w : World} {rb : Nat} {L : Ln} {a : Nat} {fs : Bool} {rex opc sz md0 rg0 rm0 : Int} (q : Q) (ha : a = L.len) (h : RS w rb L a fs rex opc sz md0 rg0 rm0) :
    Calls Try.prog 54 #[.pointer (some ⟨rb, 0, none⟩), q.val] w fun e w' => e = bad 20 ∧ Fr rb rb w w' := by
  have H0 := h.up q.box
  go_enter Try.func54, Try.ntmps54
  go_wp2_with (go_at_call 65; (with_reducible refine (next_end H0 ha).mono ?_); rintro e w1 ⟨rfl, hfr⟩)
  exact ⟨rfl, rfl, ((Fr.refl rb rb w).alloc _).then hfr⟩
end Go.Proofs.Ytjbepojopfbajaa
