/- The contract of instruction: the ways. -/
import Derived.Test.YtjbepojopfbajaaDInsB
namespace Go.Proofs.Ytjbepojopfbajaa
open Go.ChangeShapes Go.WideShapes Go.ChangeAt Go.RowKit
set_option linter.unusedVariables false
set_option linter.unusedSimpArgs false

set_option maxHeartbeats 4000000 in
set_option maxRecDepth 20000 in
theorem ins_op1 {w : World} {rb : Nat} {L : Ln} (m : Except Int (I × Nat)) (h : RS w rb L 0 false 0 0 0 0 0 0) (a : Nat) (fs : Bool) (rex opc : Int) (hp : pre L = .ok (a, fs, rex, opc)) (ho0 : 0 ≤ opc) (ho1 : opc < 65536) (q : Q) (hq : rowM opc = some q) (sz : Int) (hs : sizeM rex opc q = .ok sz) (ht : setA fs rex sz q = .ok (.tuple #[])) (hm : q.has 2 = true) (hl : a < L.len) (md rg rm : Int) (hr0 : 0 ≤ rm) (hr8 : rm < 8) (hg0 : 0 ≤ rg) (hg8 : rg < 8) (hx : modA fs rex sz q (L.bs a / 64) (L.bs a / 8 % 8) (L.bs a % 8) = .ok (md, rg, rm)) (hk0 : 0 ≤ opK opc rg q) (hk1 : opK opc rg q < 8) (hb : ∀ k, 0 ≤ q.op k ∧ q.op k < 256) (ha : (a + 1) ≤ L.len) (n : Int) (hop : opM opc rg q = .error n) (HR : Hid (m = .error n)) :
    Calls Try.prog 40 #[.pointer (some ⟨rb, 0, none⟩)] w fun e w' => Ends2 m I.val (fun a' => w'.cell? ⟨rb, 1, none⟩ = some (.int .i64 a')) e ∧ Fr rb rb w w' := by
  have hlt := h.lt
  have R0 := h.up zI.box
  have P0 : IW (w.alloc zI.box) w.heap.size zeroI := ⟨by exact IA.new w zI, fun j => fz_new _ _ _ _⟩
  have F0 : Fr rb rb w (w.alloc zI.box) := (Fr.refl rb rb w).alloc _
  have G0 : Fr rb rb (w.alloc zI.box) (w.alloc zI.box) := Fr.refl _ _ _
  have HPRE := prefixes_any R0
  rw [hp] at HPRE
  have HROW := rowOf_any opc
  rw [hq] at HROW
  have HST := store_fn q
  have HSZ : Hid (∀ u, RS u rb L a fs rex opc 0 0 0 0 → Calls Try.prog 51 #[.pointer (some ⟨rb, 0, none⟩), q.val] u fun e w' => EndsI (.ok sz) e ∧ Below u.heap.size u w') := ⟨fun u hu => hs ▸ sizeIn_any q ho0 ho1 hu⟩
  have HSET : Hid (∀ u, RS u rb L a fs rex opc sz 0 0 0 → Calls Try.prog 52 #[.pointer (some ⟨rb, 0, none⟩), q.val] u fun e w' => Ends (.ok (.tuple #[])) e ∧ Below u.heap.size u w') := ⟨fun u hu => ht ▸ settle_any q hu⟩
  have HMM := hasModRM q
  rw [hm] at HMM
  have HMOD : Hid (∀ u, RS u rb L a fs rex opc sz 0 0 0 → Calls Try.prog 54 #[.pointer (some ⟨rb, 0, none⟩), q.val] u fun e w' => EndsM (.ok (md, rg, rm)) (fun md rg rm => RS w' rb L (a + 1) fs rex opc sz md rg rm) e ∧ Fr rb rb u w') := ⟨fun u hu => hx ▸ modRM_ok q hl hu⟩
  have HOP : Hid (∀ u, RS u rb L (a + 1) fs rex opc sz md rg rm → Calls Try.prog 55 #[.pointer (some ⟨rb, 0, none⟩), q.val] u fun e w' => EndsI (.error n) e ∧ Below u.heap.size u w') := ⟨fun u hu => hop ▸ opIn_any q ho0 ho1 hk0 hk1 hb hu⟩
  have HCO : Hid (∀ u, RS u rb L (a + 1) fs rex opc sz md rg rm → Calls Try.prog 56 #[.pointer (some ⟨rb, 0, none⟩), q.val] u fun e w' => e = .returned (.int .i64 (condM opc q)) ∧ Below u.heap.size u w') := ⟨fun u hu => conditionIn_any q ho0 ho1 hu⟩
  clear h
  go_enter Try.func40, Try.ntmps40
  go_upto_region 7 with (first
    | (go_at_call 49; (with_reducible refine HPRE.mono ?_); rintro e w1 ⟨he, hfr1⟩; obtain ⟨he', R1⟩ := he; subst he'; (have P1 := P0.fr hfr1 (by omega) (by omega)); (have F1 := F0.then hfr1); (have G1 := G0.then hfr1); (have bc := R1); obtain ⟨b0, b1, b2, b3, b4, b5, b6, b7, b8, bz, bl⟩ := bc)
    | (go_at_call 50; (with_reducible refine (HROW _).mono ?_); rintro e w2 ⟨he, hb2⟩; (have he' : e = .returned q.val := he); subst he'; (have R2 := (R1.bel hb2).up q.box); (have Q2 := QA.new w2 q); (have P2 := (P1.bel hb2).bel (bel_alloc (Below.refl _ _) q.box)); (have F2 := (F1.bel hb2).alloc q.box); (have G2 := (G1.bel hb2).alloc q.box); (have hqb : rb < w2.heap.size ∧ w.heap.size < w2.heap.size := ⟨(R1.bel hb2).lt, World.block_lt_of_cell? w2 ⟨w.heap.size, 0, none⟩ (P1.bel hb2).ia.c0⟩); (have cc := R2); obtain ⟨c0, c1, c2, c3, c4, c5, c6, c7, c8, cz, cl⟩ := cc)
    | (go_at_call 51; (with_reducible refine (HSZ.out _ R2).mono ?_); rintro e w3 ⟨he, hb3⟩; (have he' : e = .returned (.int .i64 sz) := he); subst he'; (have R3 := (R2.bel hb3).set5 sz); (have Q3 := (Q2.bel hb3).fr ((Fr.refl rb rb w3).setA 5 (.int .i64 sz)) (by omega) (by omega)); (have P3 := (P2.bel hb3).fr ((Fr.refl rb rb w3).setA 5 (.int .i64 sz)) (by omega) (by omega)); (have F3 := (F2.bel hb3).setA 5 (.int .i64 sz)); (have G3 := (G2.bel hb3).setA 5 (.int .i64 sz)); (have R3' := R2.bel hb3); (have dc := R3'); obtain ⟨d0, d1, d2, d3, d4, d5, d6, d7, d8, dz, dl⟩ := dc; (have ddc := R3); obtain ⟨dd0, dd1, dd2, dd3, dd4, dd5, dd6, dd7, dd8, ddz, ddl⟩ := ddc; (have fc := Q3); obtain ⟨f0, f1, f2, f3, f4, f5, f6, f7, f8, f9, f10, f11, f12⟩ := fc)
    | (go_at_call 52; (with_reducible refine (HSET.out _ R3).mono ?_); rintro e w4 ⟨he, hb4⟩; (have he' : e = .returned (.tuple #[]) := he); subst he'; (have R4 := R3.bel hb4); (have Q4 := Q3.bel hb4); (have P4 := P3.bel hb4); (have F4 := F3.bel hb4); (have G4 := G3.bel hb4); (have gc := R4); obtain ⟨g0, g1, g2, g3, g4, g5, g6, g7, g8, gz, gl⟩ := gc; (have kc := Q4); obtain ⟨k0, k1, k2, k3, k4, k5, k6, k7, k8, k9, k10, k11, k12⟩ := kc)
    | (go_at_call 53; (with_reducible refine (HMM _).mono ?_); rintro e w5 ⟨rfl, hb5⟩; (have R5 := R4.bel hb5); (have Q5 := Q4.bel hb5); (have P5 := P4.bel hb5); (have F5 := F4.bel hb5); (have G5 := G4.bel hb5); (have nc := R5); obtain ⟨n0, n1, n2, n3, n4, n5, n6, n7, n8, nz, nl⟩ := nc; (have oc := Q5); obtain ⟨o0, o1, o2, o3, o4, o5, o6, o7, o8, o9, o10, o11, o12⟩ := oc)
    | (go_at_call 54; (with_reducible refine (HMOD.out _ R5).mono ?_); rintro e w6 ⟨he, hfr6⟩; obtain ⟨he', R6⟩ := he; subst he'; (have Q6 := Q5.fr hfr6 (by omega) (by omega)); (have P6 := P5.fr hfr6 (by omega) (by omega)); (have F6 := F5.then hfr6); (have G6 := G5.then hfr6)))
  have S0 : SI w w6 rb w.heap.size w2.heap.size L (a + 1) fs rex opc sz md rg rm q := ⟨R6, Q6, P6, F6, G6⟩
  have hsz5 : w2.heap.size < w6.heap.size := World.block_lt_of_cell? _ ⟨w2.heap.size, 0, none⟩ S0.qa.c0
  clear R1 P1 F1 R2 Q2 P2 F2 R3 R3' Q3 P3 F3 R4 Q4 P4 F4 R5 Q5 P5 F5 G1 G2 G3 G4 G5 G0 R6 Q6 P6 F6 G6 b0 b1 b2 b3 b4 b5 b6 b7 b8 bz bl c0 c1 c2 c3 c4 c5 c6 c7 c8 cz cl d0 d1 d2 d3 d4 d5 d6 d7 d8 dz dl dd0 dd1 dd2 dd3 dd4 dd5 dd6 dd7 dd8 ddz ddl f0 f1 f2 f3 f4 f5 f6 f7 f8 f9 f10 f11 f12 g0 g1 g2 g3 g4 g5 g6 g7 g8 gz gl k0 k1 k2 k3 k4 k5 k6 k7 k8 k9 k10 k11 k12 n0 n1 n2 n3 n4 n5 n6 n7 n8 nz nl o0 o1 o2 o3 o4 o5 o6 o7 o8 o9 o10 o11 o12
  clear HPRE HROW HST HSZ HSET HMM R0 P0 F0
  refine wp_region_held_drew (S := fun u => SI w u rb w.heap.size w2.heap.size L (a + 1) fs rex opc sz md rg rm q) (by kernel_rfl) (S0.bel (Below.refl _ _).drew) (fun hS => ?_)
  refine wpAnyH_take (i := 0) (v := .pointer (some ⟨rb, 0, none⟩)) rfl (by kernel_rfl) (by kernel_rfl) (by kernel_rfl) (fun _ _ _ h => h) (Or.inl ⟨by kernel_rfl, fun u hu => by kernel_rfl⟩) hS ?_
  simp only [Act.put, List.getElem_toArray, List.getElem_cons_succ, List.getElem_cons_zero, List.setIfInBounds_toArray, List.set_cons_zero, List.set_cons_succ]
  refine wpAnyH_take (i := 1) (v := q.val) rfl (by kernel_rfl) (by kernel_rfl) (by kernel_rfl) (fun _ _ _ h => h) (Or.inl ⟨by kernel_rfl, fun u hu => exec_loadV (t := 95) (x := .tmp 3) (p := ⟨w2.heap.size, 0, none⟩) rfl (by kernel_rfl) hu.qa.whole⟩) hS ?_
  simp only [Act.put, List.getElem_toArray, List.getElem_cons_succ, List.getElem_cons_zero, List.setIfInBounds_toArray, List.set_cons_zero, List.set_cons_succ]
  refine wpAnyH_take (i := 3) (v := .pointer (some ⟨rb, 0, none⟩)) rfl (by kernel_rfl) (by kernel_rfl) (by kernel_rfl) (fun _ _ _ h => h) (Or.inl ⟨by kernel_rfl, fun u hu => by kernel_rfl⟩) hS ?_
  simp only [Act.put, List.getElem_toArray, List.getElem_cons_succ, List.getElem_cons_zero, List.setIfInBounds_toArray, List.set_cons_zero, List.set_cons_succ]
  refine wpAnyH_take (i := 4) (v := .pointer (some ⟨rb, 0, none⟩)) rfl (by kernel_rfl) (by kernel_rfl) (by kernel_rfl) (fun _ _ _ h => h) (Or.inl ⟨by kernel_rfl, fun u hu => by kernel_rfl⟩) hS ?_
  simp only [Act.put, List.getElem_toArray, List.getElem_cons_succ, List.getElem_cons_zero, List.setIfInBounds_toArray, List.set_cons_zero, List.set_cons_succ]
  refine wpAnyH_take (i := 5) (v := .pointer (some ⟨rb, 5, none⟩)) rfl (by kernel_rfl) (by kernel_rfl) (by kernel_rfl) (fun _ _ _ h => h) (Or.inl ⟨by kernel_rfl, fun u hu => by kernel_rfl⟩) hS ?_
  simp only [Act.put, List.getElem_toArray, List.getElem_cons_succ, List.getElem_cons_zero, List.setIfInBounds_toArray, List.set_cons_zero, List.set_cons_succ]
  refine wpAnyH_take (i := 6) (v := .int .i64 sz) rfl (by kernel_rfl) (by kernel_rfl) (by kernel_rfl) (fun _ _ _ h => h) (Or.inl ⟨by kernel_rfl, fun u hu => exec_load3 (x := .tmp 31) (p := ⟨rb, 5, none⟩) rfl (by kernel_rfl) hu.rs.c5⟩) hS ?_
  simp only [Act.put, List.getElem_toArray, List.getElem_cons_succ, List.getElem_cons_zero, List.setIfInBounds_toArray, List.set_cons_zero, List.set_cons_succ]
  refine wpAnyH_take (i := 7) (v := .pointer (some ⟨rb, 0, none⟩)) rfl (by kernel_rfl) (by kernel_rfl) (by kernel_rfl) (fun _ _ _ h => h) (Or.inl ⟨by kernel_rfl, fun u hu => by kernel_rfl⟩) hS ?_
  simp only [Act.put, List.getElem_toArray, List.getElem_cons_succ, List.getElem_cons_zero, List.setIfInBounds_toArray, List.set_cons_zero, List.set_cons_succ]
  refine wpAnyH_take (i := 8) (v := q.val) rfl (by kernel_rfl) (by kernel_rfl) (by kernel_rfl) (fun _ _ _ h => h) (Or.inl ⟨by kernel_rfl, fun u hu => exec_loadV (t := 95) (x := .tmp 3) (p := ⟨w2.heap.size, 0, none⟩) rfl (by kernel_rfl) hu.qa.whole⟩) hS ?_
  simp only [Act.put, List.getElem_toArray, List.getElem_cons_succ, List.getElem_cons_zero, List.setIfInBounds_toArray, List.set_cons_zero, List.set_cons_succ]
  refine wpAnyH_ready (rs := [2, 11]) (by kernel_rfl) (by simp) ?_
  refine AllReadyH.cons rfl (fun K hK => ?_) (AllReadyH.cons rfl (fun K hK => ?_) AllReadyH.nil)
  all_goals simp only [List.getElem_toArray, List.getElem_cons_succ, List.getElem_cons_zero]
  · skip
    refine wp_if (by kernel_rfl) ?_
    refine wp_enter_bad (f := 55) (ch := [{ v := .iface 24 (.int .i64 n), recovered := false }]) (by kernel_rfl) (HOP.out _ hS.rs) ?_
    rintro e u2 ⟨he, hbo⟩
    exact ⟨he, rfl, (by rw [HR.out]; rfl), hS.fr.bel hbo⟩
  · skip
    refine wp_if (by kernel_rfl) ?_
    refine wp_of_value (v := .pointer (some ⟨w6.drew.heap.size, 0, none⟩)) (w' := w6.drew.alloc (.cells #[.int .i64 0, .int .i64 0, .int .i64 0, .int .i64 0, .int .i64 0, .int .i64 0, .int .i64 0, .int .i64 0, .bool false, .bool false, .int .i64 0, .string ⟨#[]⟩, .int .i64 0, .int .i64 0, .int .i64 0, .int .i64 0, .int .i64 0, .int .i64 0, .bool false, .bool false, .int .i64 0, .string ⟨#[]⟩, .int .i64 0, .bool false] 56)) (by kernel_rfl) ?_
    refine hK.out _ _ (hS.bel (bel_alloc (Below.refl _ _) _)) (fun h1 => ?_)
    clear hK
    simp only [Act.put, List.getElem_toArray, List.getElem_cons_succ, List.getElem_cons_zero, List.setIfInBounds_toArray, List.set_cons_zero, List.set_cons_succ]
    refine wpAnyH_ready (rs := [2]) (by kernel_rfl) (by simp) ?_
    refine AllReadyH.cons rfl (fun K hK => ?_) AllReadyH.nil
    simp only [List.getElem_toArray, List.getElem_cons_succ, List.getElem_cons_zero]
    refine wp_if (by kernel_rfl) ?_
    refine wp_enter_bad (f := 55) (ch := [{ v := .iface 24 (.int .i64 n), recovered := false }]) (by kernel_rfl) (HOP.out _ h1.rs) ?_
    rintro e u2 ⟨he, hbo⟩
    exact ⟨he, rfl, (by rw [HR.out]; rfl), h1.fr.bel hbo⟩

set_option maxHeartbeats 4000000 in
set_option maxRecDepth 20000 in
theorem ins_no1 {w : World} {rb : Nat} {L : Ln} (m : Except Int (I × Nat)) (h : RS w rb L 0 false 0 0 0 0 0 0) (a : Nat) (fs : Bool) (rex opc : Int) (hp : pre L = .ok (a, fs, rex, opc)) (ho0 : 0 ≤ opc) (ho1 : opc < 65536) (q : Q) (hq : rowM opc = some q) (sz : Int) (hs : sizeM rex opc q = .ok sz) (ht : setA fs rex sz q = .ok (.tuple #[])) (hm : q.has 2 = true) (hl : a < L.len) (md rg rm : Int) (hr0 : 0 ≤ rm) (hr8 : rm < 8) (hg0 : 0 ≤ rg) (hg8 : rg < 8) (hx : modA fs rex sz q (L.bs a / 64) (L.bs a / 8 % 8) (L.bs a % 8) = .ok (md, rg, rm)) (hk0 : 0 ≤ opK opc rg q) (hk1 : opK opc rg q < 8) (hb : ∀ k, 0 ≤ q.op k ∧ q.op k < 256) (ha : (a + 1) ≤ L.len) (op : Int) (hop : opM opc rg q = .ok op) (hf : q.f ∈ fnsL) (hsz : (sz = 1 ∨ sz = 4 ∨ sz = 8) ∨ q.f = 87) (n : Int) (hrd : readM q.f L (a + 1) fs rex opc sz md rg rm ⟨op, sz, condM opc q, zeroO, zeroO, false⟩ = .error n) (HR : Hid (m = .error n)) :
    Calls Try.prog 40 #[.pointer (some ⟨rb, 0, none⟩)] w fun e w' => Ends2 m I.val (fun a' => w'.cell? ⟨rb, 1, none⟩ = some (.int .i64 a')) e ∧ Fr rb rb w w' := by
  have hlt := h.lt
  have R0 := h.up zI.box
  have P0 : IW (w.alloc zI.box) w.heap.size zeroI := ⟨by exact IA.new w zI, fun j => fz_new _ _ _ _⟩
  have F0 : Fr rb rb w (w.alloc zI.box) := (Fr.refl rb rb w).alloc _
  have G0 : Fr rb rb (w.alloc zI.box) (w.alloc zI.box) := Fr.refl _ _ _
  have HPRE := prefixes_any R0
  rw [hp] at HPRE
  have HROW := rowOf_any opc
  rw [hq] at HROW
  have HST := store_fn q
  have HSZ : Hid (∀ u, RS u rb L a fs rex opc 0 0 0 0 → Calls Try.prog 51 #[.pointer (some ⟨rb, 0, none⟩), q.val] u fun e w' => EndsI (.ok sz) e ∧ Below u.heap.size u w') := ⟨fun u hu => hs ▸ sizeIn_any q ho0 ho1 hu⟩
  have HSET : Hid (∀ u, RS u rb L a fs rex opc sz 0 0 0 → Calls Try.prog 52 #[.pointer (some ⟨rb, 0, none⟩), q.val] u fun e w' => Ends (.ok (.tuple #[])) e ∧ Below u.heap.size u w') := ⟨fun u hu => ht ▸ settle_any q hu⟩
  have HMM := hasModRM q
  rw [hm] at HMM
  have HMOD : Hid (∀ u, RS u rb L a fs rex opc sz 0 0 0 → Calls Try.prog 54 #[.pointer (some ⟨rb, 0, none⟩), q.val] u fun e w' => EndsM (.ok (md, rg, rm)) (fun md rg rm => RS w' rb L (a + 1) fs rex opc sz md rg rm) e ∧ Fr rb rb u w') := ⟨fun u hu => hx ▸ modRM_ok q hl hu⟩
  have HOP : Hid (∀ u, RS u rb L (a + 1) fs rex opc sz md rg rm → Calls Try.prog 55 #[.pointer (some ⟨rb, 0, none⟩), q.val] u fun e w' => EndsI (.ok op) e ∧ Below u.heap.size u w') := ⟨fun u hu => hop ▸ opIn_any q ho0 ho1 hk0 hk1 hb hu⟩
  have HCO : Hid (∀ u, RS u rb L (a + 1) fs rex opc sz md rg rm → Calls Try.prog 56 #[.pointer (some ⟨rb, 0, none⟩), q.val] u fun e w' => e = .returned (.int .i64 (condM opc q)) ∧ Below u.heap.size u w') := ⟨fun u hu => conditionIn_any q ho0 ho1 hu⟩
  have HE := fns_enter q.f hf
  have HRD : Hid (∀ u ib, rb < ib → RS u rb L (a + 1) fs rex opc sz md rg rm → IW u ib ⟨op, sz, condM opc q, zeroO, zeroO, false⟩ → Calls Try.prog q.f #[.pointer (some ⟨rb, 0, none⟩), .pointer (some ⟨ib, 0, none⟩)] u fun e w' => EndsR (.error n) (fun j a' => RS w' rb L a' fs rex opc sz md rg rm ∧ IW w' ib j) e ∧ Fr rb ib u w') := ⟨fun u ib hib hu hI => hrd ▸ read_any q.f hf _ hib ha hr0 hr8 hg0 hg8 ho0 ho1 hsz hu hI⟩
  clear h
  go_enter Try.func40, Try.ntmps40
  go_upto_region 7 with (first
    | (go_at_call 49; (with_reducible refine HPRE.mono ?_); rintro e w1 ⟨he, hfr1⟩; obtain ⟨he', R1⟩ := he; subst he'; (have P1 := P0.fr hfr1 (by omega) (by omega)); (have F1 := F0.then hfr1); (have G1 := G0.then hfr1); (have bc := R1); obtain ⟨b0, b1, b2, b3, b4, b5, b6, b7, b8, bz, bl⟩ := bc)
    | (go_at_call 50; (with_reducible refine (HROW _).mono ?_); rintro e w2 ⟨he, hb2⟩; (have he' : e = .returned q.val := he); subst he'; (have R2 := (R1.bel hb2).up q.box); (have Q2 := QA.new w2 q); (have P2 := (P1.bel hb2).bel (bel_alloc (Below.refl _ _) q.box)); (have F2 := (F1.bel hb2).alloc q.box); (have G2 := (G1.bel hb2).alloc q.box); (have hqb : rb < w2.heap.size ∧ w.heap.size < w2.heap.size := ⟨(R1.bel hb2).lt, World.block_lt_of_cell? w2 ⟨w.heap.size, 0, none⟩ (P1.bel hb2).ia.c0⟩); (have cc := R2); obtain ⟨c0, c1, c2, c3, c4, c5, c6, c7, c8, cz, cl⟩ := cc)
    | (go_at_call 51; (with_reducible refine (HSZ.out _ R2).mono ?_); rintro e w3 ⟨he, hb3⟩; (have he' : e = .returned (.int .i64 sz) := he); subst he'; (have R3 := (R2.bel hb3).set5 sz); (have Q3 := (Q2.bel hb3).fr ((Fr.refl rb rb w3).setA 5 (.int .i64 sz)) (by omega) (by omega)); (have P3 := (P2.bel hb3).fr ((Fr.refl rb rb w3).setA 5 (.int .i64 sz)) (by omega) (by omega)); (have F3 := (F2.bel hb3).setA 5 (.int .i64 sz)); (have G3 := (G2.bel hb3).setA 5 (.int .i64 sz)); (have R3' := R2.bel hb3); (have dc := R3'); obtain ⟨d0, d1, d2, d3, d4, d5, d6, d7, d8, dz, dl⟩ := dc; (have ddc := R3); obtain ⟨dd0, dd1, dd2, dd3, dd4, dd5, dd6, dd7, dd8, ddz, ddl⟩ := ddc; (have fc := Q3); obtain ⟨f0, f1, f2, f3, f4, f5, f6, f7, f8, f9, f10, f11, f12⟩ := fc)
    | (go_at_call 52; (with_reducible refine (HSET.out _ R3).mono ?_); rintro e w4 ⟨he, hb4⟩; (have he' : e = .returned (.tuple #[]) := he); subst he'; (have R4 := R3.bel hb4); (have Q4 := Q3.bel hb4); (have P4 := P3.bel hb4); (have F4 := F3.bel hb4); (have G4 := G3.bel hb4); (have gc := R4); obtain ⟨g0, g1, g2, g3, g4, g5, g6, g7, g8, gz, gl⟩ := gc; (have kc := Q4); obtain ⟨k0, k1, k2, k3, k4, k5, k6, k7, k8, k9, k10, k11, k12⟩ := kc)
    | (go_at_call 53; (with_reducible refine (HMM _).mono ?_); rintro e w5 ⟨rfl, hb5⟩; (have R5 := R4.bel hb5); (have Q5 := Q4.bel hb5); (have P5 := P4.bel hb5); (have F5 := F4.bel hb5); (have G5 := G4.bel hb5); (have nc := R5); obtain ⟨n0, n1, n2, n3, n4, n5, n6, n7, n8, nz, nl⟩ := nc; (have oc := Q5); obtain ⟨o0, o1, o2, o3, o4, o5, o6, o7, o8, o9, o10, o11, o12⟩ := oc)
    | (go_at_call 54; (with_reducible refine (HMOD.out _ R5).mono ?_); rintro e w6 ⟨he, hfr6⟩; obtain ⟨he', R6⟩ := he; subst he'; (have Q6 := Q5.fr hfr6 (by omega) (by omega)); (have P6 := P5.fr hfr6 (by omega) (by omega)); (have F6 := F5.then hfr6); (have G6 := G5.then hfr6)))
  have S0 : SI w w6 rb w.heap.size w2.heap.size L (a + 1) fs rex opc sz md rg rm q := ⟨R6, Q6, P6, F6, G6⟩
  have hsz5 : w2.heap.size < w6.heap.size := World.block_lt_of_cell? _ ⟨w2.heap.size, 0, none⟩ S0.qa.c0
  clear R1 P1 F1 R2 Q2 P2 F2 R3 R3' Q3 P3 F3 R4 Q4 P4 F4 R5 Q5 P5 F5 G1 G2 G3 G4 G5 G0 R6 Q6 P6 F6 G6 b0 b1 b2 b3 b4 b5 b6 b7 b8 bz bl c0 c1 c2 c3 c4 c5 c6 c7 c8 cz cl d0 d1 d2 d3 d4 d5 d6 d7 d8 dz dl dd0 dd1 dd2 dd3 dd4 dd5 dd6 dd7 dd8 ddz ddl f0 f1 f2 f3 f4 f5 f6 f7 f8 f9 f10 f11 f12 g0 g1 g2 g3 g4 g5 g6 g7 g8 gz gl k0 k1 k2 k3 k4 k5 k6 k7 k8 k9 k10 k11 k12 n0 n1 n2 n3 n4 n5 n6 n7 n8 nz nl o0 o1 o2 o3 o4 o5 o6 o7 o8 o9 o10 o11 o12
  clear HPRE HROW HST HSZ HSET HMM R0 P0 F0
  refine wp_region_held_drew (S := fun u => SI w u rb w.heap.size w2.heap.size L (a + 1) fs rex opc sz md rg rm q) (by kernel_rfl) (S0.bel (Below.refl _ _).drew) (fun hS => ?_)
  refine wpAnyH_take (i := 0) (v := .pointer (some ⟨rb, 0, none⟩)) rfl (by kernel_rfl) (by kernel_rfl) (by kernel_rfl) (fun _ _ _ h => h) (Or.inl ⟨by kernel_rfl, fun u hu => by kernel_rfl⟩) hS ?_
  simp only [Act.put, List.getElem_toArray, List.getElem_cons_succ, List.getElem_cons_zero, List.setIfInBounds_toArray, List.set_cons_zero, List.set_cons_succ]
  refine wpAnyH_take (i := 1) (v := q.val) rfl (by kernel_rfl) (by kernel_rfl) (by kernel_rfl) (fun _ _ _ h => h) (Or.inl ⟨by kernel_rfl, fun u hu => exec_loadV (t := 95) (x := .tmp 3) (p := ⟨w2.heap.size, 0, none⟩) rfl (by kernel_rfl) hu.qa.whole⟩) hS ?_
  simp only [Act.put, List.getElem_toArray, List.getElem_cons_succ, List.getElem_cons_zero, List.setIfInBounds_toArray, List.set_cons_zero, List.set_cons_succ]
  refine wpAnyH_take (i := 3) (v := .pointer (some ⟨rb, 0, none⟩)) rfl (by kernel_rfl) (by kernel_rfl) (by kernel_rfl) (fun _ _ _ h => h) (Or.inl ⟨by kernel_rfl, fun u hu => by kernel_rfl⟩) hS ?_
  simp only [Act.put, List.getElem_toArray, List.getElem_cons_succ, List.getElem_cons_zero, List.setIfInBounds_toArray, List.set_cons_zero, List.set_cons_succ]
  refine wpAnyH_take (i := 4) (v := .pointer (some ⟨rb, 0, none⟩)) rfl (by kernel_rfl) (by kernel_rfl) (by kernel_rfl) (fun _ _ _ h => h) (Or.inl ⟨by kernel_rfl, fun u hu => by kernel_rfl⟩) hS ?_
  simp only [Act.put, List.getElem_toArray, List.getElem_cons_succ, List.getElem_cons_zero, List.setIfInBounds_toArray, List.set_cons_zero, List.set_cons_succ]
  refine wpAnyH_take (i := 5) (v := .pointer (some ⟨rb, 5, none⟩)) rfl (by kernel_rfl) (by kernel_rfl) (by kernel_rfl) (fun _ _ _ h => h) (Or.inl ⟨by kernel_rfl, fun u hu => by kernel_rfl⟩) hS ?_
  simp only [Act.put, List.getElem_toArray, List.getElem_cons_succ, List.getElem_cons_zero, List.setIfInBounds_toArray, List.set_cons_zero, List.set_cons_succ]
  refine wpAnyH_take (i := 6) (v := .int .i64 sz) rfl (by kernel_rfl) (by kernel_rfl) (by kernel_rfl) (fun _ _ _ h => h) (Or.inl ⟨by kernel_rfl, fun u hu => exec_load3 (x := .tmp 31) (p := ⟨rb, 5, none⟩) rfl (by kernel_rfl) hu.rs.c5⟩) hS ?_
  simp only [Act.put, List.getElem_toArray, List.getElem_cons_succ, List.getElem_cons_zero, List.setIfInBounds_toArray, List.set_cons_zero, List.set_cons_succ]
  refine wpAnyH_take (i := 7) (v := .pointer (some ⟨rb, 0, none⟩)) rfl (by kernel_rfl) (by kernel_rfl) (by kernel_rfl) (fun _ _ _ h => h) (Or.inl ⟨by kernel_rfl, fun u hu => by kernel_rfl⟩) hS ?_
  simp only [Act.put, List.getElem_toArray, List.getElem_cons_succ, List.getElem_cons_zero, List.setIfInBounds_toArray, List.set_cons_zero, List.set_cons_succ]
  refine wpAnyH_take (i := 8) (v := q.val) rfl (by kernel_rfl) (by kernel_rfl) (by kernel_rfl) (fun _ _ _ h => h) (Or.inl ⟨by kernel_rfl, fun u hu => exec_loadV (t := 95) (x := .tmp 3) (p := ⟨w2.heap.size, 0, none⟩) rfl (by kernel_rfl) hu.qa.whole⟩) hS ?_
  simp only [Act.put, List.getElem_toArray, List.getElem_cons_succ, List.getElem_cons_zero, List.setIfInBounds_toArray, List.set_cons_zero, List.set_cons_succ]
  refine wpAnyH_ready (rs := [2, 11]) (by kernel_rfl) (by simp) ?_
  refine AllReadyH.cons rfl (fun K hK => ?_) (AllReadyH.cons rfl (fun K hK => ?_) AllReadyH.nil)
  all_goals simp only [List.getElem_toArray, List.getElem_cons_succ, List.getElem_cons_zero]
  · skip
    refine wp_if (by kernel_rfl) ?_
    refine wp_enter (f := 55) (by kernel_rfl) (HOP.out _ hS.rs) ?_
    rintro e u2 ⟨he, hbo⟩
    refine ⟨.int .i64 op, he, hK.out _ _ (hS.bel hbo) (fun h1 => ?_)⟩
    clear hK
    simp only [Act.put, List.getElem_toArray, List.getElem_cons_succ, List.getElem_cons_zero, List.setIfInBounds_toArray, List.set_cons_zero, List.set_cons_succ]
    refine wpAnyH_ready (rs := [9, 11]) (by kernel_rfl) (by simp) ?_
    refine AllReadyH.cons rfl (fun K hK => ?_) (AllReadyH.cons rfl (fun K hK => ?_) AllReadyH.nil)
    all_goals simp only [List.getElem_toArray, List.getElem_cons_succ, List.getElem_cons_zero]
    · skip
      refine wp_if (by kernel_rfl) ?_
      refine wp_enter (f := 56) (by kernel_rfl) (HCO.out _ h1.rs) ?_
      rintro e u3 ⟨he, hbc⟩
      refine ⟨.int .i64 (condM opc q), he, hK.out _ _ (h1.bel hbc) (fun h2 => ?_)⟩
      clear hK
      simp only [Act.put, List.getElem_toArray, List.getElem_cons_succ, List.getElem_cons_zero, List.setIfInBounds_toArray, List.set_cons_zero, List.set_cons_succ]
      refine wpAnyH_take (i := 10) (v := .agg #[.int .i64 op, .int .i64 sz, .int .i64 (condM opc q), .int .i64 0, .int .i64 0, .int .i64 0, .int .i64 0, .int .i64 0, .bool false, .bool false, .int .i64 0, .string ⟨#[]⟩, .int .i64 0, .int .i64 0, .int .i64 0, .int .i64 0, .int .i64 0, .int .i64 0, .bool false, .bool false, .int .i64 0, .string ⟨#[]⟩, .int .i64 0, .bool false]) rfl (by kernel_rfl) (by kernel_rfl) (by kernel_rfl) (fun _ _ _ h => h) (Or.inl ⟨by kernel_rfl, fun u hu => by kernel_rfl⟩) h2 ?_
      simp only [Act.put, List.getElem_toArray, List.getElem_cons_succ, List.getElem_cons_zero, List.setIfInBounds_toArray, List.set_cons_zero, List.set_cons_succ]
      refine wpAnyH_ready (rs := [11]) (by kernel_rfl) (by simp) ?_
      refine AllReadyH.cons rfl (fun K hK => ?_) AllReadyH.nil
      simp only [List.getElem_toArray, List.getElem_cons_succ, List.getElem_cons_zero]
      refine wp_if (by kernel_rfl) ?_
      refine wp_of_value (v := .pointer (some ⟨u3.heap.size, 0, none⟩)) (w' := u3.alloc (.cells #[.int .i64 0, .int .i64 0, .int .i64 0, .int .i64 0, .int .i64 0, .int .i64 0, .int .i64 0, .int .i64 0, .bool false, .bool false, .int .i64 0, .string ⟨#[]⟩, .int .i64 0, .int .i64 0, .int .i64 0, .int .i64 0, .int .i64 0, .int .i64 0, .bool false, .bool false, .int .i64 0, .string ⟨#[]⟩, .int .i64 0, .bool false] 56)) (by kernel_rfl) ?_
      refine hK.out _ _ (h2.bel (bel_alloc (Below.refl _ _) _)) (fun h3 => ?_)
      clear hK
      simp only [Act.put, List.getElem_toArray, List.getElem_cons_succ, List.getElem_cons_zero, List.setIfInBounds_toArray, List.set_cons_zero, List.set_cons_succ]
      refine wpAnyH_ready (rs := [12]) (by kernel_rfl) (by simp) ?_
      refine AllReadyH.cons rfl (fun K hK => ?_) AllReadyH.nil
      simp only [List.getElem_toArray, List.getElem_cons_succ, List.getElem_cons_zero]
      refine wp_if (by kernel_rfl) ?_
      refine wp_store_row 56 _ _ rfl u3.heap.size #[.int .i64 op, .int .i64 sz, .int .i64 (condM opc q), .int .i64 0, .int .i64 0, .int .i64 0, .int .i64 0, .int .i64 0, .bool false, .bool false, .int .i64 0, .string ⟨#[]⟩, .int .i64 0, .int .i64 0, .int .i64 0, .int .i64 0, .int .i64 0, .int .i64 0, .bool false, .bool false, .int .i64 0, .string ⟨#[]⟩, .int .i64 0, .bool false] (by kernel_rfl) (by kernel_rfl) 56 #[.int .i64 0, .int .i64 0, .int .i64 0, .int .i64 0, .int .i64 0, .int .i64 0, .int .i64 0, .int .i64 0, .bool false, .bool false, .int .i64 0, .string ⟨#[]⟩, .int .i64 0, .int .i64 0, .int .i64 0, .int .i64 0, .int .i64 0, .int .i64 0, .bool false, .bool false, .int .i64 0, .string ⟨#[]⟩, .int .i64 0, .bool false] (heap_alloc_last u3 _) (by kernel_rfl) (by kernel_rfl) (by kernel_rfl) ?_
      have IW9 : IW ((u3.alloc (.cells #[.int .i64 0, .int .i64 0, .int .i64 0, .int .i64 0, .int .i64 0, .int .i64 0, .int .i64 0, .int .i64 0, .bool false, .bool false, .int .i64 0, .string ⟨#[]⟩, .int .i64 0, .int .i64 0, .int .i64 0, .int .i64 0, .int .i64 0, .int .i64 0, .bool false, .bool false, .int .i64 0, .string ⟨#[]⟩, .int .i64 0, .bool false] 56)).setRow u3.heap.size #[.int .i64 op, .int .i64 sz, .int .i64 (condM opc q), .int .i64 0, .int .i64 0, .int .i64 0, .int .i64 0, .int .i64 0, .bool false, .bool false, .int .i64 0, .string ⟨#[]⟩, .int .i64 0, .int .i64 0, .int .i64 0, .int .i64 0, .int .i64 0, .int .i64 0, .bool false, .bool false, .int .i64 0, .string ⟨#[]⟩, .int .i64 0, .bool false]) u3.heap.size ⟨op, sz, condM opc q, zeroO, zeroO, false⟩ := IW.row (heap_alloc_last u3 _) ⟨op, sz, condM opc q, zeroO, zeroO, false⟩
      have FR9 : Fr u3.heap.size u3.heap.size (u3.alloc (.cells #[.int .i64 0, .int .i64 0, .int .i64 0, .int .i64 0, .int .i64 0, .int .i64 0, .int .i64 0, .int .i64 0, .bool false, .bool false, .int .i64 0, .string ⟨#[]⟩, .int .i64 0, .int .i64 0, .int .i64 0, .int .i64 0, .int .i64 0, .int .i64 0, .bool false, .bool false, .int .i64 0, .string ⟨#[]⟩, .int .i64 0, .bool false] 56)) ((u3.alloc (.cells #[.int .i64 0, .int .i64 0, .int .i64 0, .int .i64 0, .int .i64 0, .int .i64 0, .int .i64 0, .int .i64 0, .bool false, .bool false, .int .i64 0, .string ⟨#[]⟩, .int .i64 0, .int .i64 0, .int .i64 0, .int .i64 0, .int .i64 0, .int .i64 0, .bool false, .bool false, .int .i64 0, .string ⟨#[]⟩, .int .i64 0, .bool false] 56)).setRow u3.heap.size #[.int .i64 op, .int .i64 sz, .int .i64 (condM opc q), .int .i64 0, .int .i64 0, .int .i64 0, .int .i64 0, .int .i64 0, .bool false, .bool false, .int .i64 0, .string ⟨#[]⟩, .int .i64 0, .int .i64 0, .int .i64 0, .int .i64 0, .int .i64 0, .int .i64 0, .bool false, .bool false, .int .i64 0, .string ⟨#[]⟩, .int .i64 0, .bool false]) := ⟨rfl, rfl, rfl, by simp, fun k hk hn _ => setRow_other _ _ k _ hn⟩
      have hgo : rb < u3.heap.size ∧ w2.heap.size < u3.heap.size ∧ w.heap.size < u3.heap.size := ⟨h2.rs.lt, World.block_lt_of_cell? _ ⟨w2.heap.size, 0, none⟩ h2.qa.c0, World.block_lt_of_cell? _ ⟨w.heap.size, 0, none⟩ h2.iw.ia.c0⟩
      have hgb : rb < u3.heap.size ∧ w2.heap.size < u3.heap.size ∧ w.heap.size < u3.heap.size := by first | (have := hgo; omega) | omega
      have S9 : SI w ((u3.alloc (.cells #[.int .i64 0, .int .i64 0, .int .i64 0, .int .i64 0, .int .i64 0, .int .i64 0, .int .i64 0, .int .i64 0, .bool false, .bool false, .int .i64 0, .string ⟨#[]⟩, .int .i64 0, .int .i64 0, .int .i64 0, .int .i64 0, .int .i64 0, .int .i64 0, .bool false, .bool false, .int .i64 0, .string ⟨#[]⟩, .int .i64 0, .bool false] 56)).setRow u3.heap.size #[.int .i64 op, .int .i64 sz, .int .i64 (condM opc q), .int .i64 0, .int .i64 0, .int .i64 0, .int .i64 0, .int .i64 0, .bool false, .bool false, .int .i64 0, .string ⟨#[]⟩, .int .i64 0, .int .i64 0, .int .i64 0, .int .i64 0, .int .i64 0, .int .i64 0, .bool false, .bool false, .int .i64 0, .string ⟨#[]⟩, .int .i64 0, .bool false]) rb w.heap.size w2.heap.size L (a + 1) fs rex opc sz md rg rm q := ⟨h3.rs.fr FR9 hgb.1 hgb.1, h3.qa.fr FR9 (by omega) (by omega), h3.iw.fr FR9 (by omega) (by omega), h3.fr.trans FR9 (.inr (.inr (by omega))) (.inr (.inr (by omega))), h3.gr.trans FR9 (.inr (.inr (by simp; omega))) (.inr (.inr (by simp; omega)))⟩
      refine hK.out _ _ S9 (fun _ => ?_)
      clear hK
      simp only [Act.put, List.getElem_toArray, List.getElem_cons_succ, List.getElem_cons_zero, List.setIfInBounds_toArray, List.set_cons_zero, List.set_cons_succ]
      refine wpAnyH_done (by kernel_rfl) ?_ _
      generalize (u3.alloc (.cells #[.int .i64 0, .int .i64 0, .int .i64 0, .int .i64 0, .int .i64 0, .int .i64 0, .int .i64 0, .int .i64 0, .bool false, .bool false, .int .i64 0, .string ⟨#[]⟩, .int .i64 0, .int .i64 0, .int .i64 0, .int .i64 0, .int .i64 0, .int .i64 0, .bool false, .bool false, .int .i64 0, .string ⟨#[]⟩, .int .i64 0, .bool false] 56)).setRow u3.heap.size #[.int .i64 op, .int .i64 sz, .int .i64 (condM opc q), .int .i64 0, .int .i64 0, .int .i64 0, .int .i64 0, .int .i64 0, .bool false, .bool false, .int .i64 0, .string ⟨#[]⟩, .int .i64 0, .int .i64 0, .int .i64 0, .int .i64 0, .int .i64 0, .int .i64 0, .bool false, .bool false, .int .i64 0, .string ⟨#[]⟩, .int .i64 0, .bool false] = v9 at *
      (have pc := S9.rs); obtain ⟨p0, p1, p2, p3, p4, p5, p6, p7, p8, pz, pl⟩ := pc
      (have sc := S9.qa); obtain ⟨s0, s1, s2, s3, s4, s5, s6, s7, s8, s9, s10, s11, s12⟩ := sc
      go_wp2_with (go_at_fn q.f; refine (HRD.out _ _ hgb.1 S9.rs IW9).mono ?_; rintro e w7 ⟨he, hfr7⟩; (have he' : _ = _ := he); subst he')
      refine ⟨rfl, ?_, S9.fr.trans hfr7 (.inl rfl) (.inr (.inr (by omega)))⟩
      rw [HR.out]; rfl
    · skip
      refine wp_if (by kernel_rfl) ?_
      refine wp_of_value (v := .pointer (some ⟨u2.heap.size, 0, none⟩)) (w' := u2.alloc (.cells #[.int .i64 0, .int .i64 0, .int .i64 0, .int .i64 0, .int .i64 0, .int .i64 0, .int .i64 0, .int .i64 0, .bool false, .bool false, .int .i64 0, .string ⟨#[]⟩, .int .i64 0, .int .i64 0, .int .i64 0, .int .i64 0, .int .i64 0, .int .i64 0, .bool false, .bool false, .int .i64 0, .string ⟨#[]⟩, .int .i64 0, .bool false] 56)) (by kernel_rfl) ?_
      refine hK.out _ _ (h1.bel (bel_alloc (Below.refl _ _) _)) (fun h2 => ?_)
      clear hK
      simp only [Act.put, List.getElem_toArray, List.getElem_cons_succ, List.getElem_cons_zero, List.setIfInBounds_toArray, List.set_cons_zero, List.set_cons_succ]
      refine wpAnyH_ready (rs := [9]) (by kernel_rfl) (by simp) ?_
      refine AllReadyH.cons rfl (fun K hK => ?_) AllReadyH.nil
      simp only [List.getElem_toArray, List.getElem_cons_succ, List.getElem_cons_zero]
      refine wp_if (by kernel_rfl) ?_
      refine wp_enter (f := 56) (by kernel_rfl) (HCO.out _ h2.rs) ?_
      rintro e u3 ⟨he, hbc⟩
      refine ⟨.int .i64 (condM opc q), he, hK.out _ _ (h2.bel hbc) (fun h3 => ?_)⟩
      clear hK
      simp only [Act.put, List.getElem_toArray, List.getElem_cons_succ, List.getElem_cons_zero, List.setIfInBounds_toArray, List.set_cons_zero, List.set_cons_succ]
      refine wpAnyH_take (i := 10) (v := .agg #[.int .i64 op, .int .i64 sz, .int .i64 (condM opc q), .int .i64 0, .int .i64 0, .int .i64 0, .int .i64 0, .int .i64 0, .bool false, .bool false, .int .i64 0, .string ⟨#[]⟩, .int .i64 0, .int .i64 0, .int .i64 0, .int .i64 0, .int .i64 0, .int .i64 0, .bool false, .bool false, .int .i64 0, .string ⟨#[]⟩, .int .i64 0, .bool false]) rfl (by kernel_rfl) (by kernel_rfl) (by kernel_rfl) (fun _ _ _ h => h) (Or.inl ⟨by kernel_rfl, fun u hu => by kernel_rfl⟩) h3 ?_
      simp only [Act.put, List.getElem_toArray, List.getElem_cons_succ, List.getElem_cons_zero, List.setIfInBounds_toArray, List.set_cons_zero, List.set_cons_succ]
      have hgg : u3.heap[u2.heap.size]? = some (.cells #[.int .i64 0, .int .i64 0, .int .i64 0, .int .i64 0, .int .i64 0, .int .i64 0, .int .i64 0, .int .i64 0, .bool false, .bool false, .int .i64 0, .string ⟨#[]⟩, .int .i64 0, .int .i64 0, .int .i64 0, .int .i64 0, .int .i64 0, .int .i64 0, .bool false, .bool false, .int .i64 0, .string ⟨#[]⟩, .int .i64 0, .bool false] 56) := (hbc.block _ (by simp)).trans (heap_alloc_last u2 _)
      refine wpAnyH_ready (rs := [12]) (by kernel_rfl) (by simp) ?_
      refine AllReadyH.cons rfl (fun K hK => ?_) AllReadyH.nil
      simp only [List.getElem_toArray, List.getElem_cons_succ, List.getElem_cons_zero]
      refine wp_if (by kernel_rfl) ?_
      refine wp_store_row 56 _ _ rfl u2.heap.size #[.int .i64 op, .int .i64 sz, .int .i64 (condM opc q), .int .i64 0, .int .i64 0, .int .i64 0, .int .i64 0, .int .i64 0, .bool false, .bool false, .int .i64 0, .string ⟨#[]⟩, .int .i64 0, .int .i64 0, .int .i64 0, .int .i64 0, .int .i64 0, .int .i64 0, .bool false, .bool false, .int .i64 0, .string ⟨#[]⟩, .int .i64 0, .bool false] (by kernel_rfl) (by kernel_rfl) 56 #[.int .i64 0, .int .i64 0, .int .i64 0, .int .i64 0, .int .i64 0, .int .i64 0, .int .i64 0, .int .i64 0, .bool false, .bool false, .int .i64 0, .string ⟨#[]⟩, .int .i64 0, .int .i64 0, .int .i64 0, .int .i64 0, .int .i64 0, .int .i64 0, .bool false, .bool false, .int .i64 0, .string ⟨#[]⟩, .int .i64 0, .bool false] hgg (by kernel_rfl) (by kernel_rfl) (by kernel_rfl) ?_
      have IW9 : IW (u3.setRow u2.heap.size #[.int .i64 op, .int .i64 sz, .int .i64 (condM opc q), .int .i64 0, .int .i64 0, .int .i64 0, .int .i64 0, .int .i64 0, .bool false, .bool false, .int .i64 0, .string ⟨#[]⟩, .int .i64 0, .int .i64 0, .int .i64 0, .int .i64 0, .int .i64 0, .int .i64 0, .bool false, .bool false, .int .i64 0, .string ⟨#[]⟩, .int .i64 0, .bool false]) u2.heap.size ⟨op, sz, condM opc q, zeroO, zeroO, false⟩ := IW.row hgg ⟨op, sz, condM opc q, zeroO, zeroO, false⟩
      have FR9 : Fr u2.heap.size u2.heap.size u3 (u3.setRow u2.heap.size #[.int .i64 op, .int .i64 sz, .int .i64 (condM opc q), .int .i64 0, .int .i64 0, .int .i64 0, .int .i64 0, .int .i64 0, .bool false, .bool false, .int .i64 0, .string ⟨#[]⟩, .int .i64 0, .int .i64 0, .int .i64 0, .int .i64 0, .int .i64 0, .int .i64 0, .bool false, .bool false, .int .i64 0, .string ⟨#[]⟩, .int .i64 0, .bool false]) := ⟨rfl, rfl, rfl, by simp, fun k hk hn _ => setRow_other _ _ k _ hn⟩
      have hgo : rb < u2.heap.size ∧ w2.heap.size < u2.heap.size ∧ w.heap.size < u2.heap.size := ⟨h1.rs.lt, World.block_lt_of_cell? _ ⟨w2.heap.size, 0, none⟩ h1.qa.c0, World.block_lt_of_cell? _ ⟨w.heap.size, 0, none⟩ h1.iw.ia.c0⟩
      have hgb : rb < u2.heap.size ∧ w2.heap.size < u2.heap.size ∧ w.heap.size < u2.heap.size := by first | (have := hgo; omega) | omega
      have S9 : SI w (u3.setRow u2.heap.size #[.int .i64 op, .int .i64 sz, .int .i64 (condM opc q), .int .i64 0, .int .i64 0, .int .i64 0, .int .i64 0, .int .i64 0, .bool false, .bool false, .int .i64 0, .string ⟨#[]⟩, .int .i64 0, .int .i64 0, .int .i64 0, .int .i64 0, .int .i64 0, .int .i64 0, .bool false, .bool false, .int .i64 0, .string ⟨#[]⟩, .int .i64 0, .bool false]) rb w.heap.size w2.heap.size L (a + 1) fs rex opc sz md rg rm q := ⟨h3.rs.fr FR9 hgb.1 hgb.1, h3.qa.fr FR9 (by omega) (by omega), h3.iw.fr FR9 (by omega) (by omega), h3.fr.trans FR9 (.inr (.inr (by omega))) (.inr (.inr (by omega))), h3.gr.trans FR9 (.inr (.inr (by simp; omega))) (.inr (.inr (by simp; omega)))⟩
      refine hK.out _ _ S9 (fun _ => ?_)
      clear hK
      simp only [Act.put, List.getElem_toArray, List.getElem_cons_succ, List.getElem_cons_zero, List.setIfInBounds_toArray, List.set_cons_zero, List.set_cons_succ]
      refine wpAnyH_done (by kernel_rfl) ?_ _
      generalize u3.setRow u2.heap.size #[.int .i64 op, .int .i64 sz, .int .i64 (condM opc q), .int .i64 0, .int .i64 0, .int .i64 0, .int .i64 0, .int .i64 0, .bool false, .bool false, .int .i64 0, .string ⟨#[]⟩, .int .i64 0, .int .i64 0, .int .i64 0, .int .i64 0, .int .i64 0, .int .i64 0, .bool false, .bool false, .int .i64 0, .string ⟨#[]⟩, .int .i64 0, .bool false] = v9 at *
      (have pc := S9.rs); obtain ⟨p0, p1, p2, p3, p4, p5, p6, p7, p8, pz, pl⟩ := pc
      (have sc := S9.qa); obtain ⟨s0, s1, s2, s3, s4, s5, s6, s7, s8, s9, s10, s11, s12⟩ := sc
      go_wp2_with (go_at_fn q.f; refine (HRD.out _ _ hgb.1 S9.rs IW9).mono ?_; rintro e w7 ⟨he, hfr7⟩; (have he' : _ = _ := he); subst he')
      refine ⟨rfl, ?_, S9.fr.trans hfr7 (.inl rfl) (.inr (.inr (by omega)))⟩
      rw [HR.out]; rfl
  · skip
    refine wp_if (by kernel_rfl) ?_
    refine wp_of_value (v := .pointer (some ⟨w6.drew.heap.size, 0, none⟩)) (w' := w6.drew.alloc (.cells #[.int .i64 0, .int .i64 0, .int .i64 0, .int .i64 0, .int .i64 0, .int .i64 0, .int .i64 0, .int .i64 0, .bool false, .bool false, .int .i64 0, .string ⟨#[]⟩, .int .i64 0, .int .i64 0, .int .i64 0, .int .i64 0, .int .i64 0, .int .i64 0, .bool false, .bool false, .int .i64 0, .string ⟨#[]⟩, .int .i64 0, .bool false] 56)) (by kernel_rfl) ?_
    refine hK.out _ _ (hS.bel (bel_alloc (Below.refl _ _) _)) (fun h1 => ?_)
    clear hK
    simp only [Act.put, List.getElem_toArray, List.getElem_cons_succ, List.getElem_cons_zero, List.setIfInBounds_toArray, List.set_cons_zero, List.set_cons_succ]
    refine wpAnyH_ready (rs := [2]) (by kernel_rfl) (by simp) ?_
    refine AllReadyH.cons rfl (fun K hK => ?_) AllReadyH.nil
    simp only [List.getElem_toArray, List.getElem_cons_succ, List.getElem_cons_zero]
    refine wp_if (by kernel_rfl) ?_
    refine wp_enter (f := 55) (by kernel_rfl) (HOP.out _ h1.rs) ?_
    rintro e u2 ⟨he, hbo⟩
    refine ⟨.int .i64 op, he, hK.out _ _ (h1.bel hbo) (fun h2 => ?_)⟩
    clear hK
    simp only [Act.put, List.getElem_toArray, List.getElem_cons_succ, List.getElem_cons_zero, List.setIfInBounds_toArray, List.set_cons_zero, List.set_cons_succ]
    refine wpAnyH_ready (rs := [9]) (by kernel_rfl) (by simp) ?_
    refine AllReadyH.cons rfl (fun K hK => ?_) AllReadyH.nil
    simp only [List.getElem_toArray, List.getElem_cons_succ, List.getElem_cons_zero]
    refine wp_if (by kernel_rfl) ?_
    refine wp_enter (f := 56) (by kernel_rfl) (HCO.out _ h2.rs) ?_
    rintro e u3 ⟨he, hbc⟩
    refine ⟨.int .i64 (condM opc q), he, hK.out _ _ (h2.bel hbc) (fun h3 => ?_)⟩
    clear hK
    simp only [Act.put, List.getElem_toArray, List.getElem_cons_succ, List.getElem_cons_zero, List.setIfInBounds_toArray, List.set_cons_zero, List.set_cons_succ]
    refine wpAnyH_take (i := 10) (v := .agg #[.int .i64 op, .int .i64 sz, .int .i64 (condM opc q), .int .i64 0, .int .i64 0, .int .i64 0, .int .i64 0, .int .i64 0, .bool false, .bool false, .int .i64 0, .string ⟨#[]⟩, .int .i64 0, .int .i64 0, .int .i64 0, .int .i64 0, .int .i64 0, .int .i64 0, .bool false, .bool false, .int .i64 0, .string ⟨#[]⟩, .int .i64 0, .bool false]) rfl (by kernel_rfl) (by kernel_rfl) (by kernel_rfl) (fun _ _ _ h => h) (Or.inl ⟨by kernel_rfl, fun u hu => by kernel_rfl⟩) h3 ?_
    simp only [Act.put, List.getElem_toArray, List.getElem_cons_succ, List.getElem_cons_zero, List.setIfInBounds_toArray, List.set_cons_zero, List.set_cons_succ]
    have hgg : u3.heap[w6.drew.heap.size]? = some (.cells #[.int .i64 0, .int .i64 0, .int .i64 0, .int .i64 0, .int .i64 0, .int .i64 0, .int .i64 0, .int .i64 0, .bool false, .bool false, .int .i64 0, .string ⟨#[]⟩, .int .i64 0, .int .i64 0, .int .i64 0, .int .i64 0, .int .i64 0, .int .i64 0, .bool false, .bool false, .int .i64 0, .string ⟨#[]⟩, .int .i64 0, .bool false] 56) := (hbc.block _ (by have := hbo.size; simp at this ⊢; omega)).trans ((hbo.block _ (by simp)).trans (heap_alloc_last w6.drew _))
    refine wpAnyH_ready (rs := [12]) (by kernel_rfl) (by simp) ?_
    refine AllReadyH.cons rfl (fun K hK => ?_) AllReadyH.nil
    simp only [List.getElem_toArray, List.getElem_cons_succ, List.getElem_cons_zero]
    refine wp_if (by kernel_rfl) ?_
    refine wp_store_row 56 _ _ rfl w6.drew.heap.size #[.int .i64 op, .int .i64 sz, .int .i64 (condM opc q), .int .i64 0, .int .i64 0, .int .i64 0, .int .i64 0, .int .i64 0, .bool false, .bool false, .int .i64 0, .string ⟨#[]⟩, .int .i64 0, .int .i64 0, .int .i64 0, .int .i64 0, .int .i64 0, .int .i64 0, .bool false, .bool false, .int .i64 0, .string ⟨#[]⟩, .int .i64 0, .bool false] (by kernel_rfl) (by kernel_rfl) 56 #[.int .i64 0, .int .i64 0, .int .i64 0, .int .i64 0, .int .i64 0, .int .i64 0, .int .i64 0, .int .i64 0, .bool false, .bool false, .int .i64 0, .string ⟨#[]⟩, .int .i64 0, .int .i64 0, .int .i64 0, .int .i64 0, .int .i64 0, .int .i64 0, .bool false, .bool false, .int .i64 0, .string ⟨#[]⟩, .int .i64 0, .bool false] hgg (by kernel_rfl) (by kernel_rfl) (by kernel_rfl) ?_
    have IW9 : IW (u3.setRow w6.drew.heap.size #[.int .i64 op, .int .i64 sz, .int .i64 (condM opc q), .int .i64 0, .int .i64 0, .int .i64 0, .int .i64 0, .int .i64 0, .bool false, .bool false, .int .i64 0, .string ⟨#[]⟩, .int .i64 0, .int .i64 0, .int .i64 0, .int .i64 0, .int .i64 0, .int .i64 0, .bool false, .bool false, .int .i64 0, .string ⟨#[]⟩, .int .i64 0, .bool false]) w6.drew.heap.size ⟨op, sz, condM opc q, zeroO, zeroO, false⟩ := IW.row hgg ⟨op, sz, condM opc q, zeroO, zeroO, false⟩
    have FR9 : Fr w6.drew.heap.size w6.drew.heap.size u3 (u3.setRow w6.drew.heap.size #[.int .i64 op, .int .i64 sz, .int .i64 (condM opc q), .int .i64 0, .int .i64 0, .int .i64 0, .int .i64 0, .int .i64 0, .bool false, .bool false, .int .i64 0, .string ⟨#[]⟩, .int .i64 0, .int .i64 0, .int .i64 0, .int .i64 0, .int .i64 0, .int .i64 0, .bool false, .bool false, .int .i64 0, .string ⟨#[]⟩, .int .i64 0, .bool false]) := ⟨rfl, rfl, rfl, by simp, fun k hk hn _ => setRow_other _ _ k _ hn⟩
    have hgo : rb < w6.drew.heap.size ∧ w2.heap.size < w6.drew.heap.size ∧ w.heap.size < w6.drew.heap.size := ⟨hS.rs.lt, World.block_lt_of_cell? _ ⟨w2.heap.size, 0, none⟩ hS.qa.c0, World.block_lt_of_cell? _ ⟨w.heap.size, 0, none⟩ hS.iw.ia.c0⟩
    have hgb : rb < w6.drew.heap.size ∧ w2.heap.size < w6.drew.heap.size ∧ w.heap.size < w6.drew.heap.size := by first | (have := hgo; omega) | omega
    have S9 : SI w (u3.setRow w6.drew.heap.size #[.int .i64 op, .int .i64 sz, .int .i64 (condM opc q), .int .i64 0, .int .i64 0, .int .i64 0, .int .i64 0, .int .i64 0, .bool false, .bool false, .int .i64 0, .string ⟨#[]⟩, .int .i64 0, .int .i64 0, .int .i64 0, .int .i64 0, .int .i64 0, .int .i64 0, .bool false, .bool false, .int .i64 0, .string ⟨#[]⟩, .int .i64 0, .bool false]) rb w.heap.size w2.heap.size L (a + 1) fs rex opc sz md rg rm q := ⟨h3.rs.fr FR9 hgb.1 hgb.1, h3.qa.fr FR9 (by omega) (by omega), h3.iw.fr FR9 (by omega) (by omega), h3.fr.trans FR9 (.inr (.inr (by omega))) (.inr (.inr (by omega))), h3.gr.trans FR9 (.inr (.inr (by simp; omega))) (.inr (.inr (by simp; omega)))⟩
    refine hK.out _ _ S9 (fun _ => ?_)
    clear hK
    simp only [Act.put, List.getElem_toArray, List.getElem_cons_succ, List.getElem_cons_zero, List.setIfInBounds_toArray, List.set_cons_zero, List.set_cons_succ]
    refine wpAnyH_done (by kernel_rfl) ?_ _
    generalize u3.setRow w6.drew.heap.size #[.int .i64 op, .int .i64 sz, .int .i64 (condM opc q), .int .i64 0, .int .i64 0, .int .i64 0, .int .i64 0, .int .i64 0, .bool false, .bool false, .int .i64 0, .string ⟨#[]⟩, .int .i64 0, .int .i64 0, .int .i64 0, .int .i64 0, .int .i64 0, .int .i64 0, .bool false, .bool false, .int .i64 0, .string ⟨#[]⟩, .int .i64 0, .bool false] = v9 at *
    (have pc := S9.rs); obtain ⟨p0, p1, p2, p3, p4, p5, p6, p7, p8, pz, pl⟩ := pc
    (have sc := S9.qa); obtain ⟨s0, s1, s2, s3, s4, s5, s6, s7, s8, s9, s10, s11, s12⟩ := sc
    go_wp2_with (go_at_fn q.f; refine (HRD.out _ _ hgb.1 S9.rs IW9).mono ?_; rintro e w7 ⟨he, hfr7⟩; (have he' : _ = _ := he); subst he')
    refine ⟨rfl, ?_, S9.fr.trans hfr7 (.inl rfl) (.inr (.inr (by omega)))⟩
    rw [HR.out]; rfl

end Go.Proofs.Ytjbepojopfbajaa
