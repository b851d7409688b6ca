/- The contract of instruction: the ways. -/
import Derived.Test.YtjbepojopfbajaaDInsA
namespace Go.Proofs.Ytjbepojopfbajaa
open Go.ChangeShapes Go.WideShapes Go.ChangeAt Go.RowKit
set_option linter.unusedVariables false
set_option linter.unusedSimpArgs false

/- the ways -/
def modM (L : Ln) (a : Nat) (fs : Bool) (rex sz : Int) (q : Q) : Except Int ((Int × Int × Int) × Nat) :=
  if q.has 2 = true then (if a < L.len then modA fs rex sz q (L.bs a / 64) (L.bs a / 8 % 8) (L.bs a % 8) >>= fun t => .ok (t, a + 1) else .error 20) else .ok ((0, 0, 0), a)
def condM (opc : Int) (q : Q) : Int := if (q.vr == 15) = true then opc % 16 else 0
/-- The instruction that the bytes begin with. -/
def instM (L : Ln) : Except Int (I × Nat) :=
  pre L >>= fun p => match rowM p.2.2.2 with
    | none => .error 30
    | some q => sizeM p.2.2.1 p.2.2.2 q >>= fun sz => setA p.2.1 p.2.2.1 sz q >>= fun _ => modM L p.1 p.2.1 p.2.2.1 sz q >>= fun t => opM p.2.2.2 t.1.2.1 q >>= fun op =>
      readM q.f L t.2 p.2.1 p.2.2.1 p.2.2.2 sz t.1.1 t.1.2.1 t.1.2.2 ⟨op, sz, condM p.2.2.2 q, zeroO, zeroO, false⟩


theorem store_fn (q : Q) (v : World) : Sem.run Try.prog (store ⟨v.heap.size, 12, none⟩ (.func (.func q.f) #[] #[])) (v.alloc (.cells #[.int .i64 q.code, .int .i64 q.vr, .int .u8 q.o0, .int .u8 q.o1, .int .u8 q.o2, .int .u8 q.o3, .int .u8 q.o4, .int .u8 q.o5, .int .u8 q.o6, .int .u8 q.o7, .int .i64 q.size, .int .i64 q.bes, .nilFunc] 95)) = .ok () (v.alloc q.box) := by
  have hg := heap_alloc_last v (.cells #[.int .i64 q.code, .int .i64 q.vr, .int .u8 q.o0, .int .u8 q.o1, .int .u8 q.o2, .int .u8 q.o3, .int .u8 q.o4, .int .u8 q.o5, .int .u8 q.o6, .int .u8 q.o7, .int .i64 q.size, .int .i64 q.bes, .nilFunc] 95)
  have hc : (v.alloc (.cells #[.int .i64 q.code, .int .i64 q.vr, .int .u8 q.o0, .int .u8 q.o1, .int .u8 q.o2, .int .u8 q.o3, .int .u8 q.o4, .int .u8 q.o5, .int .u8 q.o6, .int .u8 q.o7, .int .i64 q.size, .int .i64 q.bes, .nilFunc] 95)).cell? ⟨v.heap.size, 12, none⟩ = some .nilFunc := by simp only [World.cell?]; rw [hg]; rfl
  rw [run_store Try.prog _ _ _ _ rfl, hc]
  have hz := fz_new v #[.int .i64 q.code, .int .i64 q.vr, .int .u8 q.o0, .int .u8 q.o1, .int .u8 q.o2, .int .u8 q.o3, .int .u8 q.o4, .int .u8 q.o5, .int .u8 q.o6, .int .u8 q.o7, .int .i64 q.size, .int .i64 q.bes, .nilFunc] 95 12
  rw [hz, setCell_eq_setRow _ _ _ _ _ _ _ hg, World.setRow_alloc_new]
  rfl

set_option maxHeartbeats 4000000 in
theorem ins_pre {w : World} {rb : Nat} {L : Ln} (m : Except Int (I × Nat)) (h : RS w rb L 0 false 0 0 0 0 0 0) (n : Int) (hp : pre L = .error n) (HR : Hid (m = .error n)) :
    Calls Try.prog 40 #[.pointer (some ⟨rb, 0, none⟩)] w fun e w' => Ends2 m I.val (fun a' => w'.cell? ⟨rb, 1, none⟩ = some (.int .i64 a')) e ∧ Fr rb rb w w' := by
  have hlt := h.lt
  have R0 := h.up zI.box
  have P0 : IW (w.alloc zI.box) w.heap.size zeroI := ⟨by exact IA.new w zI, fun j => fz_new _ _ _ _⟩
  have F0 : Fr rb rb w (w.alloc zI.box) := (Fr.refl rb rb w).alloc _
  have G0 : Fr rb rb (w.alloc zI.box) (w.alloc zI.box) := Fr.refl _ _ _
  have HPRE := prefixes_any R0
  rw [hp] at HPRE
  clear h
  go_enter Try.func40, Try.ntmps40
  go_wp2_with (first
    | (go_at_call 49; (with_reducible refine HPRE.mono ?_); rintro e w1 ⟨he, hfr1⟩; (have he' : _ = _ := he); subst he'))
  refine ⟨rfl, ?_, F0.then hfr1⟩
  rw [HR.out]; rfl

set_option maxHeartbeats 4000000 in
theorem ins_row {w : World} {rb : Nat} {L : Ln} (m : Except Int (I × Nat)) (h : RS w rb L 0 false 0 0 0 0 0 0) (a : Nat) (fs : Bool) (rex opc : Int) (hp : pre L = .ok (a, fs, rex, opc)) (ho0 : 0 ≤ opc) (ho1 : opc < 65536) (hq : rowM opc = none) (HR : Hid (m = .error 30)) :
    Calls Try.prog 40 #[.pointer (some ⟨rb, 0, none⟩)] w fun e w' => Ends2 m I.val (fun a' => w'.cell? ⟨rb, 1, none⟩ = some (.int .i64 a')) e ∧ Fr rb rb w w' := by
  have hlt := h.lt
  have R0 := h.up zI.box
  have P0 : IW (w.alloc zI.box) w.heap.size zeroI := ⟨by exact IA.new w zI, fun j => fz_new _ _ _ _⟩
  have F0 : Fr rb rb w (w.alloc zI.box) := (Fr.refl rb rb w).alloc _
  have G0 : Fr rb rb (w.alloc zI.box) (w.alloc zI.box) := Fr.refl _ _ _
  have HPRE := prefixes_any R0
  rw [hp] at HPRE
  have HROW := rowOf_any opc
  rw [hq] at HROW
  clear h
  go_enter Try.func40, Try.ntmps40
  go_wp2_with (first
    | (go_at_call 49; (with_reducible refine HPRE.mono ?_); rintro e w1 ⟨he, hfr1⟩; obtain ⟨he', R1⟩ := he; subst he'; (have P1 := P0.fr hfr1 (by omega) (by omega)); (have F1 := F0.then hfr1); (have G1 := G0.then hfr1); (have bc := R1); obtain ⟨b0, b1, b2, b3, b4, b5, b6, b7, b8, bz, bl⟩ := bc)
    | (go_at_call 50; (with_reducible refine (HROW _).mono ?_); rintro e w2 ⟨he, hb2⟩; (have he' : _ = _ := he); subst he'))
  refine ⟨rfl, ?_, F1.bel hb2⟩
  rw [HR.out]; rfl

set_option maxHeartbeats 4000000 in
theorem ins_size {w : World} {rb : Nat} {L : Ln} (m : Except Int (I × Nat)) (h : RS w rb L 0 false 0 0 0 0 0 0) (a : Nat) (fs : Bool) (rex opc : Int) (hp : pre L = .ok (a, fs, rex, opc)) (ho0 : 0 ≤ opc) (ho1 : opc < 65536) (q : Q) (hq : rowM opc = some q) (n : Int) (hs : sizeM rex opc q = .error n) (HR : Hid (m = .error n)) :
    Calls Try.prog 40 #[.pointer (some ⟨rb, 0, none⟩)] w fun e w' => Ends2 m I.val (fun a' => w'.cell? ⟨rb, 1, none⟩ = some (.int .i64 a')) e ∧ Fr rb rb w w' := by
  have hlt := h.lt
  have R0 := h.up zI.box
  have P0 : IW (w.alloc zI.box) w.heap.size zeroI := ⟨by exact IA.new w zI, fun j => fz_new _ _ _ _⟩
  have F0 : Fr rb rb w (w.alloc zI.box) := (Fr.refl rb rb w).alloc _
  have G0 : Fr rb rb (w.alloc zI.box) (w.alloc zI.box) := Fr.refl _ _ _
  have HPRE := prefixes_any R0
  rw [hp] at HPRE
  have HROW := rowOf_any opc
  rw [hq] at HROW
  have HST := store_fn q
  have HSZ : Hid (∀ u, RS u rb L a fs rex opc 0 0 0 0 → Calls Try.prog 51 #[.pointer (some ⟨rb, 0, none⟩), q.val] u fun e w' => EndsI (.error n) e ∧ Below u.heap.size u w') := ⟨fun u hu => hs ▸ sizeIn_any q ho0 ho1 hu⟩
  clear h
  go_enter Try.func40, Try.ntmps40
  go_wp2_with (first
    | (go_at_call 49; (with_reducible refine HPRE.mono ?_); rintro e w1 ⟨he, hfr1⟩; obtain ⟨he', R1⟩ := he; subst he'; (have P1 := P0.fr hfr1 (by omega) (by omega)); (have F1 := F0.then hfr1); (have G1 := G0.then hfr1); (have bc := R1); obtain ⟨b0, b1, b2, b3, b4, b5, b6, b7, b8, bz, bl⟩ := bc)
    | (go_at_call 50; (with_reducible refine (HROW _).mono ?_); rintro e w2 ⟨he, hb2⟩; (have he' : e = .returned q.val := he); subst he'; (have R2 := (R1.bel hb2).up q.box); (have Q2 := QA.new w2 q); (have P2 := (P1.bel hb2).bel (bel_alloc (Below.refl _ _) q.box)); (have F2 := (F1.bel hb2).alloc q.box); (have G2 := (G1.bel hb2).alloc q.box); (have hqb : rb < w2.heap.size ∧ w.heap.size < w2.heap.size := ⟨(R1.bel hb2).lt, World.block_lt_of_cell? w2 ⟨w.heap.size, 0, none⟩ (P1.bel hb2).ia.c0⟩); (have cc := R2); obtain ⟨c0, c1, c2, c3, c4, c5, c6, c7, c8, cz, cl⟩ := cc)
    | (go_at_call 51; (with_reducible refine (HSZ.out _ R2).mono ?_); rintro e w3 ⟨he, hb3⟩; (have he' : _ = _ := he); subst he'))
  refine ⟨rfl, ?_, F2.bel hb3⟩
  rw [HR.out]; rfl

set_option maxHeartbeats 4000000 in
theorem ins_set {w : World} {rb : Nat} {L : Ln} (m : Except Int (I × Nat)) (h : RS w rb L 0 false 0 0 0 0 0 0) (a : Nat) (fs : Bool) (rex opc : Int) (hp : pre L = .ok (a, fs, rex, opc)) (ho0 : 0 ≤ opc) (ho1 : opc < 65536) (q : Q) (hq : rowM opc = some q) (sz : Int) (hs : sizeM rex opc q = .ok sz) (n : Int) (ht : setA fs rex sz q = .error n) (HR : Hid (m = .error n)) :
    Calls Try.prog 40 #[.pointer (some ⟨rb, 0, none⟩)] w fun e w' => Ends2 m I.val (fun a' => w'.cell? ⟨rb, 1, none⟩ = some (.int .i64 a')) e ∧ Fr rb rb w w' := by
  have hlt := h.lt
  have R0 := h.up zI.box
  have P0 : IW (w.alloc zI.box) w.heap.size zeroI := ⟨by exact IA.new w zI, fun j => fz_new _ _ _ _⟩
  have F0 : Fr rb rb w (w.alloc zI.box) := (Fr.refl rb rb w).alloc _
  have G0 : Fr rb rb (w.alloc zI.box) (w.alloc zI.box) := Fr.refl _ _ _
  have HPRE := prefixes_any R0
  rw [hp] at HPRE
  have HROW := rowOf_any opc
  rw [hq] at HROW
  have HST := store_fn q
  have HSZ : Hid (∀ u, RS u rb L a fs rex opc 0 0 0 0 → Calls Try.prog 51 #[.pointer (some ⟨rb, 0, none⟩), q.val] u fun e w' => EndsI (.ok sz) e ∧ Below u.heap.size u w') := ⟨fun u hu => hs ▸ sizeIn_any q ho0 ho1 hu⟩
  have HSET : Hid (∀ u, RS u rb L a fs rex opc sz 0 0 0 → Calls Try.prog 52 #[.pointer (some ⟨rb, 0, none⟩), q.val] u fun e w' => Ends (.error n) e ∧ Below u.heap.size u w') := ⟨fun u hu => ht ▸ settle_any q hu⟩
  clear h
  go_enter Try.func40, Try.ntmps40
  go_wp2_with (first
    | (go_at_call 49; (with_reducible refine HPRE.mono ?_); rintro e w1 ⟨he, hfr1⟩; obtain ⟨he', R1⟩ := he; subst he'; (have P1 := P0.fr hfr1 (by omega) (by omega)); (have F1 := F0.then hfr1); (have G1 := G0.then hfr1); (have bc := R1); obtain ⟨b0, b1, b2, b3, b4, b5, b6, b7, b8, bz, bl⟩ := bc)
    | (go_at_call 50; (with_reducible refine (HROW _).mono ?_); rintro e w2 ⟨he, hb2⟩; (have he' : e = .returned q.val := he); subst he'; (have R2 := (R1.bel hb2).up q.box); (have Q2 := QA.new w2 q); (have P2 := (P1.bel hb2).bel (bel_alloc (Below.refl _ _) q.box)); (have F2 := (F1.bel hb2).alloc q.box); (have G2 := (G1.bel hb2).alloc q.box); (have hqb : rb < w2.heap.size ∧ w.heap.size < w2.heap.size := ⟨(R1.bel hb2).lt, World.block_lt_of_cell? w2 ⟨w.heap.size, 0, none⟩ (P1.bel hb2).ia.c0⟩); (have cc := R2); obtain ⟨c0, c1, c2, c3, c4, c5, c6, c7, c8, cz, cl⟩ := cc)
    | (go_at_call 51; (with_reducible refine (HSZ.out _ R2).mono ?_); rintro e w3 ⟨he, hb3⟩; (have he' : e = .returned (.int .i64 sz) := he); subst he'; (have R3 := (R2.bel hb3).set5 sz); (have Q3 := (Q2.bel hb3).fr ((Fr.refl rb rb w3).setA 5 (.int .i64 sz)) (by omega) (by omega)); (have P3 := (P2.bel hb3).fr ((Fr.refl rb rb w3).setA 5 (.int .i64 sz)) (by omega) (by omega)); (have F3 := (F2.bel hb3).setA 5 (.int .i64 sz)); (have G3 := (G2.bel hb3).setA 5 (.int .i64 sz)); (have R3' := R2.bel hb3); (have dc := R3'); obtain ⟨d0, d1, d2, d3, d4, d5, d6, d7, d8, dz, dl⟩ := dc; (have ddc := R3); obtain ⟨dd0, dd1, dd2, dd3, dd4, dd5, dd6, dd7, dd8, ddz, ddl⟩ := ddc; (have fc := Q3); obtain ⟨f0, f1, f2, f3, f4, f5, f6, f7, f8, f9, f10, f11, f12⟩ := fc)
    | (go_at_call 52; (with_reducible refine (HSET.out _ R3).mono ?_); rintro e w4 ⟨he, hb4⟩; (have he' : _ = _ := he); subst he'))
  refine ⟨rfl, ?_, F3.bel hb4⟩
  rw [HR.out]; rfl

set_option maxHeartbeats 4000000 in
theorem ins_end {w : World} {rb : Nat} {L : Ln} (m : Except Int (I × Nat)) (h : RS w rb L 0 false 0 0 0 0 0 0) (a : Nat) (fs : Bool) (rex opc : Int) (hp : pre L = .ok (a, fs, rex, opc)) (ho0 : 0 ≤ opc) (ho1 : opc < 65536) (q : Q) (hq : rowM opc = some q) (sz : Int) (hs : sizeM rex opc q = .ok sz) (ht : setA fs rex sz q = .ok (.tuple #[])) (hm : q.has 2 = true) (hl : a = L.len) (HR : Hid (m = .error 20)) :
    Calls Try.prog 40 #[.pointer (some ⟨rb, 0, none⟩)] w fun e w' => Ends2 m I.val (fun a' => w'.cell? ⟨rb, 1, none⟩ = some (.int .i64 a')) e ∧ Fr rb rb w w' := by
  have hlt := h.lt
  have R0 := h.up zI.box
  have P0 : IW (w.alloc zI.box) w.heap.size zeroI := ⟨by exact IA.new w zI, fun j => fz_new _ _ _ _⟩
  have F0 : Fr rb rb w (w.alloc zI.box) := (Fr.refl rb rb w).alloc _
  have G0 : Fr rb rb (w.alloc zI.box) (w.alloc zI.box) := Fr.refl _ _ _
  have HPRE := prefixes_any R0
  rw [hp] at HPRE
  have HROW := rowOf_any opc
  rw [hq] at HROW
  have HST := store_fn q
  have HSZ : Hid (∀ u, RS u rb L a fs rex opc 0 0 0 0 → Calls Try.prog 51 #[.pointer (some ⟨rb, 0, none⟩), q.val] u fun e w' => EndsI (.ok sz) e ∧ Below u.heap.size u w') := ⟨fun u hu => hs ▸ sizeIn_any q ho0 ho1 hu⟩
  have HSET : Hid (∀ u, RS u rb L a fs rex opc sz 0 0 0 → Calls Try.prog 52 #[.pointer (some ⟨rb, 0, none⟩), q.val] u fun e w' => Ends (.ok (.tuple #[])) e ∧ Below u.heap.size u w') := ⟨fun u hu => ht ▸ settle_any q hu⟩
  have HMM := hasModRM q
  rw [hm] at HMM
  clear h
  go_enter Try.func40, Try.ntmps40
  go_wp2_with (first
    | (go_at_call 49; (with_reducible refine HPRE.mono ?_); rintro e w1 ⟨he, hfr1⟩; obtain ⟨he', R1⟩ := he; subst he'; (have P1 := P0.fr hfr1 (by omega) (by omega)); (have F1 := F0.then hfr1); (have G1 := G0.then hfr1); (have bc := R1); obtain ⟨b0, b1, b2, b3, b4, b5, b6, b7, b8, bz, bl⟩ := bc)
    | (go_at_call 50; (with_reducible refine (HROW _).mono ?_); rintro e w2 ⟨he, hb2⟩; (have he' : e = .returned q.val := he); subst he'; (have R2 := (R1.bel hb2).up q.box); (have Q2 := QA.new w2 q); (have P2 := (P1.bel hb2).bel (bel_alloc (Below.refl _ _) q.box)); (have F2 := (F1.bel hb2).alloc q.box); (have G2 := (G1.bel hb2).alloc q.box); (have hqb : rb < w2.heap.size ∧ w.heap.size < w2.heap.size := ⟨(R1.bel hb2).lt, World.block_lt_of_cell? w2 ⟨w.heap.size, 0, none⟩ (P1.bel hb2).ia.c0⟩); (have cc := R2); obtain ⟨c0, c1, c2, c3, c4, c5, c6, c7, c8, cz, cl⟩ := cc)
    | (go_at_call 51; (with_reducible refine (HSZ.out _ R2).mono ?_); rintro e w3 ⟨he, hb3⟩; (have he' : e = .returned (.int .i64 sz) := he); subst he'; (have R3 := (R2.bel hb3).set5 sz); (have Q3 := (Q2.bel hb3).fr ((Fr.refl rb rb w3).setA 5 (.int .i64 sz)) (by omega) (by omega)); (have P3 := (P2.bel hb3).fr ((Fr.refl rb rb w3).setA 5 (.int .i64 sz)) (by omega) (by omega)); (have F3 := (F2.bel hb3).setA 5 (.int .i64 sz)); (have G3 := (G2.bel hb3).setA 5 (.int .i64 sz)); (have R3' := R2.bel hb3); (have dc := R3'); obtain ⟨d0, d1, d2, d3, d4, d5, d6, d7, d8, dz, dl⟩ := dc; (have ddc := R3); obtain ⟨dd0, dd1, dd2, dd3, dd4, dd5, dd6, dd7, dd8, ddz, ddl⟩ := ddc; (have fc := Q3); obtain ⟨f0, f1, f2, f3, f4, f5, f6, f7, f8, f9, f10, f11, f12⟩ := fc)
    | (go_at_call 52; (with_reducible refine (HSET.out _ R3).mono ?_); rintro e w4 ⟨he, hb4⟩; (have he' : e = .returned (.tuple #[]) := he); subst he'; (have R4 := R3.bel hb4); (have Q4 := Q3.bel hb4); (have P4 := P3.bel hb4); (have F4 := F3.bel hb4); (have G4 := G3.bel hb4); (have gc := R4); obtain ⟨g0, g1, g2, g3, g4, g5, g6, g7, g8, gz, gl⟩ := gc; (have kc := Q4); obtain ⟨k0, k1, k2, k3, k4, k5, k6, k7, k8, k9, k10, k11, k12⟩ := kc)
    | (go_at_call 53; (with_reducible refine (HMM _).mono ?_); rintro e w5 ⟨rfl, hb5⟩; (have R5 := R4.bel hb5); (have Q5 := Q4.bel hb5); (have P5 := P4.bel hb5); (have F5 := F4.bel hb5); (have G5 := G4.bel hb5); (have nc := R5); obtain ⟨n0, n1, n2, n3, n4, n5, n6, n7, n8, nz, nl⟩ := nc; (have oc := Q5); obtain ⟨o0, o1, o2, o3, o4, o5, o6, o7, o8, o9, o10, o11, o12⟩ := oc)
    | (go_at_call 54; (with_reducible refine (modRM_end q hl R5).mono ?_); rintro e w6 ⟨rfl, hfr6⟩))
  refine ⟨rfl, ?_, F5.then hfr6⟩
  rw [HR.out]; rfl

set_option maxHeartbeats 4000000 in
theorem ins_mod {w : World} {rb : Nat} {L : Ln} (m : Except Int (I × Nat)) (h : RS w rb L 0 false 0 0 0 0 0 0) (a : Nat) (fs : Bool) (rex opc : Int) (hp : pre L = .ok (a, fs, rex, opc)) (ho0 : 0 ≤ opc) (ho1 : opc < 65536) (q : Q) (hq : rowM opc = some q) (sz : Int) (hs : sizeM rex opc q = .ok sz) (ht : setA fs rex sz q = .ok (.tuple #[])) (hm : q.has 2 = true) (hl : a < L.len) (n : Int) (hx : modA fs rex sz q (L.bs a / 64) (L.bs a / 8 % 8) (L.bs a % 8) = .error n) (HR : Hid (m = .error n)) :
    Calls Try.prog 40 #[.pointer (some ⟨rb, 0, none⟩)] w fun e w' => Ends2 m I.val (fun a' => w'.cell? ⟨rb, 1, none⟩ = some (.int .i64 a')) e ∧ Fr rb rb w w' := by
  have hlt := h.lt
  have R0 := h.up zI.box
  have P0 : IW (w.alloc zI.box) w.heap.size zeroI := ⟨by exact IA.new w zI, fun j => fz_new _ _ _ _⟩
  have F0 : Fr rb rb w (w.alloc zI.box) := (Fr.refl rb rb w).alloc _
  have G0 : Fr rb rb (w.alloc zI.box) (w.alloc zI.box) := Fr.refl _ _ _
  have HPRE := prefixes_any R0
  rw [hp] at HPRE
  have HROW := rowOf_any opc
  rw [hq] at HROW
  have HST := store_fn q
  have HSZ : Hid (∀ u, RS u rb L a fs rex opc 0 0 0 0 → Calls Try.prog 51 #[.pointer (some ⟨rb, 0, none⟩), q.val] u fun e w' => EndsI (.ok sz) e ∧ Below u.heap.size u w') := ⟨fun u hu => hs ▸ sizeIn_any q ho0 ho1 hu⟩
  have HSET : Hid (∀ u, RS u rb L a fs rex opc sz 0 0 0 → Calls Try.prog 52 #[.pointer (some ⟨rb, 0, none⟩), q.val] u fun e w' => Ends (.ok (.tuple #[])) e ∧ Below u.heap.size u w') := ⟨fun u hu => ht ▸ settle_any q hu⟩
  have HMM := hasModRM q
  rw [hm] at HMM
  have HMOD : Hid (∀ u, RS u rb L a fs rex opc sz 0 0 0 → Calls Try.prog 54 #[.pointer (some ⟨rb, 0, none⟩), q.val] u fun e w' => EndsM (.error n) (fun md rg rm => RS w' rb L (a + 1) fs rex opc sz md rg rm) e ∧ Fr rb rb u w') := ⟨fun u hu => hx ▸ modRM_ok q hl hu⟩
  clear h
  go_enter Try.func40, Try.ntmps40
  go_wp2_with (first
    | (go_at_call 49; (with_reducible refine HPRE.mono ?_); rintro e w1 ⟨he, hfr1⟩; obtain ⟨he', R1⟩ := he; subst he'; (have P1 := P0.fr hfr1 (by omega) (by omega)); (have F1 := F0.then hfr1); (have G1 := G0.then hfr1); (have bc := R1); obtain ⟨b0, b1, b2, b3, b4, b5, b6, b7, b8, bz, bl⟩ := bc)
    | (go_at_call 50; (with_reducible refine (HROW _).mono ?_); rintro e w2 ⟨he, hb2⟩; (have he' : e = .returned q.val := he); subst he'; (have R2 := (R1.bel hb2).up q.box); (have Q2 := QA.new w2 q); (have P2 := (P1.bel hb2).bel (bel_alloc (Below.refl _ _) q.box)); (have F2 := (F1.bel hb2).alloc q.box); (have G2 := (G1.bel hb2).alloc q.box); (have hqb : rb < w2.heap.size ∧ w.heap.size < w2.heap.size := ⟨(R1.bel hb2).lt, World.block_lt_of_cell? w2 ⟨w.heap.size, 0, none⟩ (P1.bel hb2).ia.c0⟩); (have cc := R2); obtain ⟨c0, c1, c2, c3, c4, c5, c6, c7, c8, cz, cl⟩ := cc)
    | (go_at_call 51; (with_reducible refine (HSZ.out _ R2).mono ?_); rintro e w3 ⟨he, hb3⟩; (have he' : e = .returned (.int .i64 sz) := he); subst he'; (have R3 := (R2.bel hb3).set5 sz); (have Q3 := (Q2.bel hb3).fr ((Fr.refl rb rb w3).setA 5 (.int .i64 sz)) (by omega) (by omega)); (have P3 := (P2.bel hb3).fr ((Fr.refl rb rb w3).setA 5 (.int .i64 sz)) (by omega) (by omega)); (have F3 := (F2.bel hb3).setA 5 (.int .i64 sz)); (have G3 := (G2.bel hb3).setA 5 (.int .i64 sz)); (have R3' := R2.bel hb3); (have dc := R3'); obtain ⟨d0, d1, d2, d3, d4, d5, d6, d7, d8, dz, dl⟩ := dc; (have ddc := R3); obtain ⟨dd0, dd1, dd2, dd3, dd4, dd5, dd6, dd7, dd8, ddz, ddl⟩ := ddc; (have fc := Q3); obtain ⟨f0, f1, f2, f3, f4, f5, f6, f7, f8, f9, f10, f11, f12⟩ := fc)
    | (go_at_call 52; (with_reducible refine (HSET.out _ R3).mono ?_); rintro e w4 ⟨he, hb4⟩; (have he' : e = .returned (.tuple #[]) := he); subst he'; (have R4 := R3.bel hb4); (have Q4 := Q3.bel hb4); (have P4 := P3.bel hb4); (have F4 := F3.bel hb4); (have G4 := G3.bel hb4); (have gc := R4); obtain ⟨g0, g1, g2, g3, g4, g5, g6, g7, g8, gz, gl⟩ := gc; (have kc := Q4); obtain ⟨k0, k1, k2, k3, k4, k5, k6, k7, k8, k9, k10, k11, k12⟩ := kc)
    | (go_at_call 53; (with_reducible refine (HMM _).mono ?_); rintro e w5 ⟨rfl, hb5⟩; (have R5 := R4.bel hb5); (have Q5 := Q4.bel hb5); (have P5 := P4.bel hb5); (have F5 := F4.bel hb5); (have G5 := G4.bel hb5); (have nc := R5); obtain ⟨n0, n1, n2, n3, n4, n5, n6, n7, n8, nz, nl⟩ := nc; (have oc := Q5); obtain ⟨o0, o1, o2, o3, o4, o5, o6, o7, o8, o9, o10, o11, o12⟩ := oc)
    | (go_at_call 54; (with_reducible refine (HMOD.out _ R5).mono ?_); rintro e w6 ⟨he, hfr6⟩; (have he' : _ = _ := he); subst he'))
  refine ⟨rfl, ?_, F5.then hfr6⟩
  rw [HR.out]; rfl

end Go.Proofs.Ytjbepojopfbajaa
