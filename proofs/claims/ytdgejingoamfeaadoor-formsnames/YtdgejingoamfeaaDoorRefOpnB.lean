/- The document's operands, op by op: all others. -/
import Derived.Test.YtdgejingoamfeaaDoorRefOps
import Derived.Test.YtdgejingoamfeaaDoorWhole
import Derived.Deep.RegionWith
namespace Go.Proofs.YtdgejingoamfeaaDoor
open Go.ChangeShapes Go.WideShapes Go.ChangeAt Go.RowKit
set_option linter.unusedVariables false

set_option maxHeartbeats 2000000 in
theorem opn_2 (i : I) (w : World) (h : NB i) (hop : i.op = 2) :
    Calls Tryd.prog 37 #[i.val] w fun e w' => e = .returned (.bool ((regB i.to && memRB i.fr) && !i.fr.fs)) ∧ Below w.heap.size w w' := by
  have L0 : Hid (∀ v, IA v w.heap.size i → (loadVar 25 ⟨w.heap.size, 0, none⟩).run Tryd.prog v = .ok (.agg #[.int .i64 i.op, .int .i64 i.sz, .int .i64 i.cd, .int .i64 i.to.k, .int .i64 i.to.r, .int .i64 i.to.b, .int .i64 i.to.x, .int .i64 i.to.s, .bool i.to.rip, .bool i.to.fs, .int .i64 i.to.n, .string i.to.nm, .int .i64 i.to.m, .int .i64 i.fr.k, .int .i64 i.fr.r, .int .i64 i.fr.b, .int .i64 i.fr.x, .int .i64 i.fr.s, .bool i.fr.rip, .bool i.fr.fs, .int .i64 i.fr.n, .string i.fr.nm, .int .i64 i.fr.m, .bool i.sh]) v) := ⟨fun v h => h.whole⟩
  have CRT : Hid (∀ v, Calls Tryd.prog 62 #[.agg #[.int .i64 i.to.k, .int .i64 i.to.r, .int .i64 i.to.b, .int .i64 i.to.x, .int .i64 i.to.s, .bool i.to.rip, .bool i.to.fs, .int .i64 i.to.n, .string i.to.nm, .int .i64 i.to.m]] v fun e w' => e = .returned (.bool (regB i.to)) ∧ Below v.heap.size v w') := ⟨fun v => refReg_any i.to v⟩
  have CMF : Hid (∀ v, Calls Tryd.prog 64 #[.agg #[.int .i64 i.fr.k, .int .i64 i.fr.r, .int .i64 i.fr.b, .int .i64 i.fr.x, .int .i64 i.fr.s, .bool i.fr.rip, .bool i.fr.fs, .int .i64 i.fr.n, .string i.fr.nm, .int .i64 i.fr.m]] v fun e w' => e = .returned (.bool (memRB i.fr)) ∧ Below v.heap.size v w') := ⟨fun v => refMem_any i.fr v h.f⟩
  have e22 : (i.op == 22) = false := by rw [hop]; rfl
  have e23 : (i.op == 23) = false := by rw [hop]; rfl
  have e24 : (i.op == 24) = false := by rw [hop]; rfl
  have e1 : (i.op == 1) = false := by rw [hop]; rfl
  have e3 : (i.op == 3) = false := by rw [hop]; rfl
  have e4 : (i.op == 4) = false := by rw [hop]; rfl
  have e5 : (i.op == 5) = false := by rw [hop]; rfl
  have e6 : (i.op == 6) = false := by rw [hop]; rfl
  have e7 : (i.op == 7) = false := by rw [hop]; rfl
  have e8 : (i.op == 8) = false := by rw [hop]; rfl
  have e9 : (i.op == 9) = false := by rw [hop]; rfl
  have e10 : (i.op == 10) = false := by rw [hop]; rfl
  have e11 : (i.op == 11) = false := by rw [hop]; rfl
  have e2 : (i.op == 2) = true := by rw [hop]; rfl
  generalize (regB i.to) = b at *
  generalize (memRB i.fr) = f at *
  unfold I.val
  clear h hop
  rcases b with _ | _
  case' true => rcases f with _ | _
  all_goals
    have AX : True := trivial
    go_enter Tryd.func37, Tryd.ntmps37
    go_wp2_with (first
      | (go_at_call 62; refine (CRT.out _).mono ?_; rintro e wx ⟨rfl, hbx⟩; (first | (have AY : Hid (IA wx w.heap.size i ∧ Below w.heap.size w wx) := ⟨AX.out.1.bel hbx, bel_trans AX.out.2 hbx⟩) | (have AY : Hid (IA wx w.heap.size i ∧ Below w.heap.size w wx) := ⟨(IA.new w i 25).bel hbx, bel_trans (bel_alloc (Below.refl _ _) _) hbx⟩)); clear hbx; (try clear p0 p1 p2 p3 p4 p5 p6 p7 p8 p9 p10 p11 p12 p13 p14 p15 p16 p17 p18 p19 p20 p21 p22 p23); (try clear AX); have AX := AY; clear AY; obtain ⟨p0, p1, p2, p3, p4, p5, p6, p7, p8, p9, p10, p11, p12, p13, p14, p15, p16, p17, p18, p19, p20, p21, p22, p23⟩ := AX.out.1)
      | (go_at_call 64; refine (CMF.out _).mono ?_; rintro e wx ⟨rfl, hbx⟩; (first | (have AY : Hid (IA wx w.heap.size i ∧ Below w.heap.size w wx) := ⟨AX.out.1.bel hbx, bel_trans AX.out.2 hbx⟩) | (have AY : Hid (IA wx w.heap.size i ∧ Below w.heap.size w wx) := ⟨(IA.new w i 25).bel hbx, bel_trans (bel_alloc (Below.refl _ _) _) hbx⟩)); clear hbx; (try clear p0 p1 p2 p3 p4 p5 p6 p7 p8 p9 p10 p11 p12 p13 p14 p15 p16 p17 p18 p19 p20 p21 p22 p23); (try clear AX); have AX := AY; clear AY; obtain ⟨p0, p1, p2, p3, p4, p5, p6, p7, p8, p9, p10, p11, p12, p13, p14, p15, p16, p17, p18, p19, p20, p21, p22, p23⟩ := AX.out.1))
    go_ret
    exact ⟨rfl, AX.out.2⟩

set_option maxHeartbeats 2000000 in
theorem opn_12 (i : I) (w : World) (h : NB i) (hop : i.op = 12) :
    Calls Tryd.prog 37 #[i.val] w fun e w' => e = .returned (.bool (regB i.to && rmB i.fr)) ∧ Below w.heap.size w w' := by
  have L0 : Hid (∀ v, IA v w.heap.size i → (loadVar 25 ⟨w.heap.size, 0, none⟩).run Tryd.prog v = .ok (.agg #[.int .i64 i.op, .int .i64 i.sz, .int .i64 i.cd, .int .i64 i.to.k, .int .i64 i.to.r, .int .i64 i.to.b, .int .i64 i.to.x, .int .i64 i.to.s, .bool i.to.rip, .bool i.to.fs, .int .i64 i.to.n, .string i.to.nm, .int .i64 i.to.m, .int .i64 i.fr.k, .int .i64 i.fr.r, .int .i64 i.fr.b, .int .i64 i.fr.x, .int .i64 i.fr.s, .bool i.fr.rip, .bool i.fr.fs, .int .i64 i.fr.n, .string i.fr.nm, .int .i64 i.fr.m, .bool i.sh]) v) := ⟨fun v h => h.whole⟩
  have CRT : Hid (∀ v, Calls Tryd.prog 62 #[.agg #[.int .i64 i.to.k, .int .i64 i.to.r, .int .i64 i.to.b, .int .i64 i.to.x, .int .i64 i.to.s, .bool i.to.rip, .bool i.to.fs, .int .i64 i.to.n, .string i.to.nm, .int .i64 i.to.m]] v fun e w' => e = .returned (.bool (regB i.to)) ∧ Below v.heap.size v w') := ⟨fun v => refReg_any i.to v⟩
  have CMR : Hid (∀ v, Calls Tryd.prog 65 #[.agg #[.int .i64 i.fr.k, .int .i64 i.fr.r, .int .i64 i.fr.b, .int .i64 i.fr.x, .int .i64 i.fr.s, .bool i.fr.rip, .bool i.fr.fs, .int .i64 i.fr.n, .string i.fr.nm, .int .i64 i.fr.m]] v fun e w' => e = .returned (.bool (rmB i.fr)) ∧ Below v.heap.size v w') := ⟨fun v => refRm_any i.fr v h.f⟩
  have e22 : (i.op == 22) = false := by rw [hop]; rfl
  have e23 : (i.op == 23) = false := by rw [hop]; rfl
  have e24 : (i.op == 24) = false := by rw [hop]; rfl
  have e1 : (i.op == 1) = false := by rw [hop]; rfl
  have e3 : (i.op == 3) = false := by rw [hop]; rfl
  have e4 : (i.op == 4) = false := by rw [hop]; rfl
  have e5 : (i.op == 5) = false := by rw [hop]; rfl
  have e6 : (i.op == 6) = false := by rw [hop]; rfl
  have e7 : (i.op == 7) = false := by rw [hop]; rfl
  have e8 : (i.op == 8) = false := by rw [hop]; rfl
  have e9 : (i.op == 9) = false := by rw [hop]; rfl
  have e10 : (i.op == 10) = false := by rw [hop]; rfl
  have e11 : (i.op == 11) = false := by rw [hop]; rfl
  have e2 : (i.op == 2) = false := by rw [hop]; rfl
  have e12 : (i.op == 12) = true := by rw [hop]; rfl
  generalize (regB i.to) = b at *
  generalize (rmB i.fr) = c at *
  unfold I.val
  clear h hop
  rcases b with _ | _
  all_goals
    have AX : True := trivial
    go_enter Tryd.func37, Tryd.ntmps37
    go_wp2_with (first
      | (go_at_call 62; refine (CRT.out _).mono ?_; rintro e wx ⟨rfl, hbx⟩; (first | (have AY : Hid (IA wx w.heap.size i ∧ Below w.heap.size w wx) := ⟨AX.out.1.bel hbx, bel_trans AX.out.2 hbx⟩) | (have AY : Hid (IA wx w.heap.size i ∧ Below w.heap.size w wx) := ⟨(IA.new w i 25).bel hbx, bel_trans (bel_alloc (Below.refl _ _) _) hbx⟩)); clear hbx; (try clear p0 p1 p2 p3 p4 p5 p6 p7 p8 p9 p10 p11 p12 p13 p14 p15 p16 p17 p18 p19 p20 p21 p22 p23); (try clear AX); have AX := AY; clear AY; obtain ⟨p0, p1, p2, p3, p4, p5, p6, p7, p8, p9, p10, p11, p12, p13, p14, p15, p16, p17, p18, p19, p20, p21, p22, p23⟩ := AX.out.1)
      | (go_at_call 65; refine (CMR.out _).mono ?_; rintro e wx ⟨rfl, hbx⟩; (first | (have AY : Hid (IA wx w.heap.size i ∧ Below w.heap.size w wx) := ⟨AX.out.1.bel hbx, bel_trans AX.out.2 hbx⟩) | (have AY : Hid (IA wx w.heap.size i ∧ Below w.heap.size w wx) := ⟨(IA.new w i 25).bel hbx, bel_trans (bel_alloc (Below.refl _ _) _) hbx⟩)); clear hbx; (try clear p0 p1 p2 p3 p4 p5 p6 p7 p8 p9 p10 p11 p12 p13 p14 p15 p16 p17 p18 p19 p20 p21 p22 p23); (try clear AX); have AX := AY; clear AY; obtain ⟨p0, p1, p2, p3, p4, p5, p6, p7, p8, p9, p10, p11, p12, p13, p14, p15, p16, p17, p18, p19, p20, p21, p22, p23⟩ := AX.out.1))
    go_ret
    exact ⟨rfl, AX.out.2⟩

set_option maxHeartbeats 2000000 in
theorem opn_13 (i : I) (w : World) (h : NB i) (hop : i.op = 13) :
    Calls Tryd.prog 37 #[i.val] w fun e w' => e = .returned (.bool (rmB i.to && noneB i.fr)) ∧ Below w.heap.size w w' := by
  have L0 : Hid (∀ v, IA v w.heap.size i → (loadVar 25 ⟨w.heap.size, 0, none⟩).run Tryd.prog v = .ok (.agg #[.int .i64 i.op, .int .i64 i.sz, .int .i64 i.cd, .int .i64 i.to.k, .int .i64 i.to.r, .int .i64 i.to.b, .int .i64 i.to.x, .int .i64 i.to.s, .bool i.to.rip, .bool i.to.fs, .int .i64 i.to.n, .string i.to.nm, .int .i64 i.to.m, .int .i64 i.fr.k, .int .i64 i.fr.r, .int .i64 i.fr.b, .int .i64 i.fr.x, .int .i64 i.fr.s, .bool i.fr.rip, .bool i.fr.fs, .int .i64 i.fr.n, .string i.fr.nm, .int .i64 i.fr.m, .bool i.sh]) v) := ⟨fun v h => h.whole⟩
  have CMT : Hid (∀ v, Calls Tryd.prog 65 #[.agg #[.int .i64 i.to.k, .int .i64 i.to.r, .int .i64 i.to.b, .int .i64 i.to.x, .int .i64 i.to.s, .bool i.to.rip, .bool i.to.fs, .int .i64 i.to.n, .string i.to.nm, .int .i64 i.to.m]] v fun e w' => e = .returned (.bool (rmB i.to)) ∧ Below v.heap.size v w') := ⟨fun v => refRm_any i.to v h.t⟩
  have CNF : Hid (∀ v, Calls Tryd.prog 29 #[.agg #[.int .i64 i.fr.k, .int .i64 i.fr.r, .int .i64 i.fr.b, .int .i64 i.fr.x, .int .i64 i.fr.s, .bool i.fr.rip, .bool i.fr.fs, .int .i64 i.fr.n, .string i.fr.nm, .int .i64 i.fr.m]] v fun e w' => e = .returned (.bool (noneB i.fr)) ∧ Below v.heap.size v w') := ⟨fun v => refNone_any i.fr v⟩
  have e22 : (i.op == 22) = false := by rw [hop]; rfl
  have e23 : (i.op == 23) = false := by rw [hop]; rfl
  have e24 : (i.op == 24) = false := by rw [hop]; rfl
  have e1 : (i.op == 1) = false := by rw [hop]; rfl
  have e3 : (i.op == 3) = false := by rw [hop]; rfl
  have e4 : (i.op == 4) = false := by rw [hop]; rfl
  have e5 : (i.op == 5) = false := by rw [hop]; rfl
  have e6 : (i.op == 6) = false := by rw [hop]; rfl
  have e7 : (i.op == 7) = false := by rw [hop]; rfl
  have e8 : (i.op == 8) = false := by rw [hop]; rfl
  have e9 : (i.op == 9) = false := by rw [hop]; rfl
  have e10 : (i.op == 10) = false := by rw [hop]; rfl
  have e11 : (i.op == 11) = false := by rw [hop]; rfl
  have e2 : (i.op == 2) = false := by rw [hop]; rfl
  have e12 : (i.op == 12) = false := by rw [hop]; rfl
  have e28 : (i.op == 28) = false := by rw [hop]; rfl
  have e29 : (i.op == 29) = false := by rw [hop]; rfl
  have e30 : (i.op == 30) = false := by rw [hop]; rfl
  have e13 : (i.op == 13) = true := by rw [hop]; rfl
  generalize (rmB i.to) = b at *
  generalize (noneB i.fr) = g at *
  unfold I.val
  clear h hop
  rcases b with _ | _
  all_goals
    have AX : True := trivial
    go_enter Tryd.func37, Tryd.ntmps37
    go_wp2_with (first
      | (go_at_call 65; refine (CMT.out _).mono ?_; rintro e wx ⟨rfl, hbx⟩; (first | (have AY : Hid (IA wx w.heap.size i ∧ Below w.heap.size w wx) := ⟨AX.out.1.bel hbx, bel_trans AX.out.2 hbx⟩) | (have AY : Hid (IA wx w.heap.size i ∧ Below w.heap.size w wx) := ⟨(IA.new w i 25).bel hbx, bel_trans (bel_alloc (Below.refl _ _) _) hbx⟩)); clear hbx; (try clear p0 p1 p2 p3 p4 p5 p6 p7 p8 p9 p10 p11 p12 p13 p14 p15 p16 p17 p18 p19 p20 p21 p22 p23); (try clear AX); have AX := AY; clear AY; obtain ⟨p0, p1, p2, p3, p4, p5, p6, p7, p8, p9, p10, p11, p12, p13, p14, p15, p16, p17, p18, p19, p20, p21, p22, p23⟩ := AX.out.1)
      | (go_at_call 29; refine (CNF.out _).mono ?_; rintro e wx ⟨rfl, hbx⟩; (first | (have AY : Hid (IA wx w.heap.size i ∧ Below w.heap.size w wx) := ⟨AX.out.1.bel hbx, bel_trans AX.out.2 hbx⟩) | (have AY : Hid (IA wx w.heap.size i ∧ Below w.heap.size w wx) := ⟨(IA.new w i 25).bel hbx, bel_trans (bel_alloc (Below.refl _ _) _) hbx⟩)); clear hbx; (try clear p0 p1 p2 p3 p4 p5 p6 p7 p8 p9 p10 p11 p12 p13 p14 p15 p16 p17 p18 p19 p20 p21 p22 p23); (try clear AX); have AX := AY; clear AY; obtain ⟨p0, p1, p2, p3, p4, p5, p6, p7, p8, p9, p10, p11, p12, p13, p14, p15, p16, p17, p18, p19, p20, p21, p22, p23⟩ := AX.out.1))
    go_ret
    exact ⟨rfl, AX.out.2⟩

set_option maxHeartbeats 2000000 in
theorem opn_14 (i : I) (w : World) (h : NB i) (hop : i.op = 14) :
    Calls Tryd.prog 37 #[i.val] w fun e w' => e = .returned (.bool (rmB i.to && noneB i.fr)) ∧ Below w.heap.size w w' := by
  have L0 : Hid (∀ v, IA v w.heap.size i → (loadVar 25 ⟨w.heap.size, 0, none⟩).run Tryd.prog v = .ok (.agg #[.int .i64 i.op, .int .i64 i.sz, .int .i64 i.cd, .int .i64 i.to.k, .int .i64 i.to.r, .int .i64 i.to.b, .int .i64 i.to.x, .int .i64 i.to.s, .bool i.to.rip, .bool i.to.fs, .int .i64 i.to.n, .string i.to.nm, .int .i64 i.to.m, .int .i64 i.fr.k, .int .i64 i.fr.r, .int .i64 i.fr.b, .int .i64 i.fr.x, .int .i64 i.fr.s, .bool i.fr.rip, .bool i.fr.fs, .int .i64 i.fr.n, .string i.fr.nm, .int .i64 i.fr.m, .bool i.sh]) v) := ⟨fun v h => h.whole⟩
  have CMT : Hid (∀ v, Calls Tryd.prog 65 #[.agg #[.int .i64 i.to.k, .int .i64 i.to.r, .int .i64 i.to.b, .int .i64 i.to.x, .int .i64 i.to.s, .bool i.to.rip, .bool i.to.fs, .int .i64 i.to.n, .string i.to.nm, .int .i64 i.to.m]] v fun e w' => e = .returned (.bool (rmB i.to)) ∧ Below v.heap.size v w') := ⟨fun v => refRm_any i.to v h.t⟩
  have CNF : Hid (∀ v, Calls Tryd.prog 29 #[.agg #[.int .i64 i.fr.k, .int .i64 i.fr.r, .int .i64 i.fr.b, .int .i64 i.fr.x, .int .i64 i.fr.s, .bool i.fr.rip, .bool i.fr.fs, .int .i64 i.fr.n, .string i.fr.nm, .int .i64 i.fr.m]] v fun e w' => e = .returned (.bool (noneB i.fr)) ∧ Below v.heap.size v w') := ⟨fun v => refNone_any i.fr v⟩
  have e22 : (i.op == 22) = false := by rw [hop]; rfl
  have e23 : (i.op == 23) = false := by rw [hop]; rfl
  have e24 : (i.op == 24) = false := by rw [hop]; rfl
  have e1 : (i.op == 1) = false := by rw [hop]; rfl
  have e3 : (i.op == 3) = false := by rw [hop]; rfl
  have e4 : (i.op == 4) = false := by rw [hop]; rfl
  have e5 : (i.op == 5) = false := by rw [hop]; rfl
  have e6 : (i.op == 6) = false := by rw [hop]; rfl
  have e7 : (i.op == 7) = false := by rw [hop]; rfl
  have e8 : (i.op == 8) = false := by rw [hop]; rfl
  have e9 : (i.op == 9) = false := by rw [hop]; rfl
  have e10 : (i.op == 10) = false := by rw [hop]; rfl
  have e11 : (i.op == 11) = false := by rw [hop]; rfl
  have e2 : (i.op == 2) = false := by rw [hop]; rfl
  have e12 : (i.op == 12) = false := by rw [hop]; rfl
  have e28 : (i.op == 28) = false := by rw [hop]; rfl
  have e29 : (i.op == 29) = false := by rw [hop]; rfl
  have e30 : (i.op == 30) = false := by rw [hop]; rfl
  have e13 : (i.op == 13) = false := by rw [hop]; rfl
  have e14 : (i.op == 14) = true := by rw [hop]; rfl
  generalize (rmB i.to) = b at *
  generalize (noneB i.fr) = g at *
  unfold I.val
  clear h hop
  rcases b with _ | _
  all_goals
    have AX : True := trivial
    go_enter Tryd.func37, Tryd.ntmps37
    go_wp2_with (first
      | (go_at_call 65; refine (CMT.out _).mono ?_; rintro e wx ⟨rfl, hbx⟩; (first | (have AY : Hid (IA wx w.heap.size i ∧ Below w.heap.size w wx) := ⟨AX.out.1.bel hbx, bel_trans AX.out.2 hbx⟩) | (have AY : Hid (IA wx w.heap.size i ∧ Below w.heap.size w wx) := ⟨(IA.new w i 25).bel hbx, bel_trans (bel_alloc (Below.refl _ _) _) hbx⟩)); clear hbx; (try clear p0 p1 p2 p3 p4 p5 p6 p7 p8 p9 p10 p11 p12 p13 p14 p15 p16 p17 p18 p19 p20 p21 p22 p23); (try clear AX); have AX := AY; clear AY; obtain ⟨p0, p1, p2, p3, p4, p5, p6, p7, p8, p9, p10, p11, p12, p13, p14, p15, p16, p17, p18, p19, p20, p21, p22, p23⟩ := AX.out.1)
      | (go_at_call 29; refine (CNF.out _).mono ?_; rintro e wx ⟨rfl, hbx⟩; (first | (have AY : Hid (IA wx w.heap.size i ∧ Below w.heap.size w wx) := ⟨AX.out.1.bel hbx, bel_trans AX.out.2 hbx⟩) | (have AY : Hid (IA wx w.heap.size i ∧ Below w.heap.size w wx) := ⟨(IA.new w i 25).bel hbx, bel_trans (bel_alloc (Below.refl _ _) _) hbx⟩)); clear hbx; (try clear p0 p1 p2 p3 p4 p5 p6 p7 p8 p9 p10 p11 p12 p13 p14 p15 p16 p17 p18 p19 p20 p21 p22 p23); (try clear AX); have AX := AY; clear AY; obtain ⟨p0, p1, p2, p3, p4, p5, p6, p7, p8, p9, p10, p11, p12, p13, p14, p15, p16, p17, p18, p19, p20, p21, p22, p23⟩ := AX.out.1))
    go_ret
    exact ⟨rfl, AX.out.2⟩

set_option maxHeartbeats 2000000 in
theorem opn_15 (i : I) (w : World) (h : NB i) (hop : i.op = 15) :
    Calls Tryd.prog 37 #[i.val] w fun e w' => e = .returned (.bool (rmB i.to && noneB i.fr)) ∧ Below w.heap.size w w' := by
  have L0 : Hid (∀ v, IA v w.heap.size i → (loadVar 25 ⟨w.heap.size, 0, none⟩).run Tryd.prog v = .ok (.agg #[.int .i64 i.op, .int .i64 i.sz, .int .i64 i.cd, .int .i64 i.to.k, .int .i64 i.to.r, .int .i64 i.to.b, .int .i64 i.to.x, .int .i64 i.to.s, .bool i.to.rip, .bool i.to.fs, .int .i64 i.to.n, .string i.to.nm, .int .i64 i.to.m, .int .i64 i.fr.k, .int .i64 i.fr.r, .int .i64 i.fr.b, .int .i64 i.fr.x, .int .i64 i.fr.s, .bool i.fr.rip, .bool i.fr.fs, .int .i64 i.fr.n, .string i.fr.nm, .int .i64 i.fr.m, .bool i.sh]) v) := ⟨fun v h => h.whole⟩
  have CMT : Hid (∀ v, Calls Tryd.prog 65 #[.agg #[.int .i64 i.to.k, .int .i64 i.to.r, .int .i64 i.to.b, .int .i64 i.to.x, .int .i64 i.to.s, .bool i.to.rip, .bool i.to.fs, .int .i64 i.to.n, .string i.to.nm, .int .i64 i.to.m]] v fun e w' => e = .returned (.bool (rmB i.to)) ∧ Below v.heap.size v w') := ⟨fun v => refRm_any i.to v h.t⟩
  have CNF : Hid (∀ v, Calls Tryd.prog 29 #[.agg #[.int .i64 i.fr.k, .int .i64 i.fr.r, .int .i64 i.fr.b, .int .i64 i.fr.x, .int .i64 i.fr.s, .bool i.fr.rip, .bool i.fr.fs, .int .i64 i.fr.n, .string i.fr.nm, .int .i64 i.fr.m]] v fun e w' => e = .returned (.bool (noneB i.fr)) ∧ Below v.heap.size v w') := ⟨fun v => refNone_any i.fr v⟩
  have e22 : (i.op == 22) = false := by rw [hop]; rfl
  have e23 : (i.op == 23) = false := by rw [hop]; rfl
  have e24 : (i.op == 24) = false := by rw [hop]; rfl
  have e1 : (i.op == 1) = false := by rw [hop]; rfl
  have e3 : (i.op == 3) = false := by rw [hop]; rfl
  have e4 : (i.op == 4) = false := by rw [hop]; rfl
  have e5 : (i.op == 5) = false := by rw [hop]; rfl
  have e6 : (i.op == 6) = false := by rw [hop]; rfl
  have e7 : (i.op == 7) = false := by rw [hop]; rfl
  have e8 : (i.op == 8) = false := by rw [hop]; rfl
  have e9 : (i.op == 9) = false := by rw [hop]; rfl
  have e10 : (i.op == 10) = false := by rw [hop]; rfl
  have e11 : (i.op == 11) = false := by rw [hop]; rfl
  have e2 : (i.op == 2) = false := by rw [hop]; rfl
  have e12 : (i.op == 12) = false := by rw [hop]; rfl
  have e28 : (i.op == 28) = false := by rw [hop]; rfl
  have e29 : (i.op == 29) = false := by rw [hop]; rfl
  have e30 : (i.op == 30) = false := by rw [hop]; rfl
  have e13 : (i.op == 13) = false := by rw [hop]; rfl
  have e14 : (i.op == 14) = false := by rw [hop]; rfl
  have e15 : (i.op == 15) = true := by rw [hop]; rfl
  generalize (rmB i.to) = b at *
  generalize (noneB i.fr) = g at *
  unfold I.val
  clear h hop
  rcases b with _ | _
  all_goals
    have AX : True := trivial
    go_enter Tryd.func37, Tryd.ntmps37
    go_wp2_with (first
      | (go_at_call 65; refine (CMT.out _).mono ?_; rintro e wx ⟨rfl, hbx⟩; (first | (have AY : Hid (IA wx w.heap.size i ∧ Below w.heap.size w wx) := ⟨AX.out.1.bel hbx, bel_trans AX.out.2 hbx⟩) | (have AY : Hid (IA wx w.heap.size i ∧ Below w.heap.size w wx) := ⟨(IA.new w i 25).bel hbx, bel_trans (bel_alloc (Below.refl _ _) _) hbx⟩)); clear hbx; (try clear p0 p1 p2 p3 p4 p5 p6 p7 p8 p9 p10 p11 p12 p13 p14 p15 p16 p17 p18 p19 p20 p21 p22 p23); (try clear AX); have AX := AY; clear AY; obtain ⟨p0, p1, p2, p3, p4, p5, p6, p7, p8, p9, p10, p11, p12, p13, p14, p15, p16, p17, p18, p19, p20, p21, p22, p23⟩ := AX.out.1)
      | (go_at_call 29; refine (CNF.out _).mono ?_; rintro e wx ⟨rfl, hbx⟩; (first | (have AY : Hid (IA wx w.heap.size i ∧ Below w.heap.size w wx) := ⟨AX.out.1.bel hbx, bel_trans AX.out.2 hbx⟩) | (have AY : Hid (IA wx w.heap.size i ∧ Below w.heap.size w wx) := ⟨(IA.new w i 25).bel hbx, bel_trans (bel_alloc (Below.refl _ _) _) hbx⟩)); clear hbx; (try clear p0 p1 p2 p3 p4 p5 p6 p7 p8 p9 p10 p11 p12 p13 p14 p15 p16 p17 p18 p19 p20 p21 p22 p23); (try clear AX); have AX := AY; clear AY; obtain ⟨p0, p1, p2, p3, p4, p5, p6, p7, p8, p9, p10, p11, p12, p13, p14, p15, p16, p17, p18, p19, p20, p21, p22, p23⟩ := AX.out.1))
    go_ret
    exact ⟨rfl, AX.out.2⟩

set_option maxHeartbeats 2000000 in
theorem opn_16 (i : I) (w : World) (h : NB i) (hop : i.op = 16) :
    Calls Tryd.prog 37 #[i.val] w fun e w' => e = .returned (.bool (rmB i.to && noneB i.fr)) ∧ Below w.heap.size w w' := by
  have L0 : Hid (∀ v, IA v w.heap.size i → (loadVar 25 ⟨w.heap.size, 0, none⟩).run Tryd.prog v = .ok (.agg #[.int .i64 i.op, .int .i64 i.sz, .int .i64 i.cd, .int .i64 i.to.k, .int .i64 i.to.r, .int .i64 i.to.b, .int .i64 i.to.x, .int .i64 i.to.s, .bool i.to.rip, .bool i.to.fs, .int .i64 i.to.n, .string i.to.nm, .int .i64 i.to.m, .int .i64 i.fr.k, .int .i64 i.fr.r, .int .i64 i.fr.b, .int .i64 i.fr.x, .int .i64 i.fr.s, .bool i.fr.rip, .bool i.fr.fs, .int .i64 i.fr.n, .string i.fr.nm, .int .i64 i.fr.m, .bool i.sh]) v) := ⟨fun v h => h.whole⟩
  have CMT : Hid (∀ v, Calls Tryd.prog 65 #[.agg #[.int .i64 i.to.k, .int .i64 i.to.r, .int .i64 i.to.b, .int .i64 i.to.x, .int .i64 i.to.s, .bool i.to.rip, .bool i.to.fs, .int .i64 i.to.n, .string i.to.nm, .int .i64 i.to.m]] v fun e w' => e = .returned (.bool (rmB i.to)) ∧ Below v.heap.size v w') := ⟨fun v => refRm_any i.to v h.t⟩
  have CNF : Hid (∀ v, Calls Tryd.prog 29 #[.agg #[.int .i64 i.fr.k, .int .i64 i.fr.r, .int .i64 i.fr.b, .int .i64 i.fr.x, .int .i64 i.fr.s, .bool i.fr.rip, .bool i.fr.fs, .int .i64 i.fr.n, .string i.fr.nm, .int .i64 i.fr.m]] v fun e w' => e = .returned (.bool (noneB i.fr)) ∧ Below v.heap.size v w') := ⟨fun v => refNone_any i.fr v⟩
  have e22 : (i.op == 22) = false := by rw [hop]; rfl
  have e23 : (i.op == 23) = false := by rw [hop]; rfl
  have e24 : (i.op == 24) = false := by rw [hop]; rfl
  have e1 : (i.op == 1) = false := by rw [hop]; rfl
  have e3 : (i.op == 3) = false := by rw [hop]; rfl
  have e4 : (i.op == 4) = false := by rw [hop]; rfl
  have e5 : (i.op == 5) = false := by rw [hop]; rfl
  have e6 : (i.op == 6) = false := by rw [hop]; rfl
  have e7 : (i.op == 7) = false := by rw [hop]; rfl
  have e8 : (i.op == 8) = false := by rw [hop]; rfl
  have e9 : (i.op == 9) = false := by rw [hop]; rfl
  have e10 : (i.op == 10) = false := by rw [hop]; rfl
  have e11 : (i.op == 11) = false := by rw [hop]; rfl
  have e2 : (i.op == 2) = false := by rw [hop]; rfl
  have e12 : (i.op == 12) = false := by rw [hop]; rfl
  have e28 : (i.op == 28) = false := by rw [hop]; rfl
  have e29 : (i.op == 29) = false := by rw [hop]; rfl
  have e30 : (i.op == 30) = false := by rw [hop]; rfl
  have e13 : (i.op == 13) = false := by rw [hop]; rfl
  have e14 : (i.op == 14) = false := by rw [hop]; rfl
  have e15 : (i.op == 15) = false := by rw [hop]; rfl
  have e16 : (i.op == 16) = true := by rw [hop]; rfl
  generalize (rmB i.to) = b at *
  generalize (noneB i.fr) = g at *
  unfold I.val
  clear h hop
  rcases b with _ | _
  all_goals
    have AX : True := trivial
    go_enter Tryd.func37, Tryd.ntmps37
    go_wp2_with (first
      | (go_at_call 65; refine (CMT.out _).mono ?_; rintro e wx ⟨rfl, hbx⟩; (first | (have AY : Hid (IA wx w.heap.size i ∧ Below w.heap.size w wx) := ⟨AX.out.1.bel hbx, bel_trans AX.out.2 hbx⟩) | (have AY : Hid (IA wx w.heap.size i ∧ Below w.heap.size w wx) := ⟨(IA.new w i 25).bel hbx, bel_trans (bel_alloc (Below.refl _ _) _) hbx⟩)); clear hbx; (try clear p0 p1 p2 p3 p4 p5 p6 p7 p8 p9 p10 p11 p12 p13 p14 p15 p16 p17 p18 p19 p20 p21 p22 p23); (try clear AX); have AX := AY; clear AY; obtain ⟨p0, p1, p2, p3, p4, p5, p6, p7, p8, p9, p10, p11, p12, p13, p14, p15, p16, p17, p18, p19, p20, p21, p22, p23⟩ := AX.out.1)
      | (go_at_call 29; refine (CNF.out _).mono ?_; rintro e wx ⟨rfl, hbx⟩; (first | (have AY : Hid (IA wx w.heap.size i ∧ Below w.heap.size w wx) := ⟨AX.out.1.bel hbx, bel_trans AX.out.2 hbx⟩) | (have AY : Hid (IA wx w.heap.size i ∧ Below w.heap.size w wx) := ⟨(IA.new w i 25).bel hbx, bel_trans (bel_alloc (Below.refl _ _) _) hbx⟩)); clear hbx; (try clear p0 p1 p2 p3 p4 p5 p6 p7 p8 p9 p10 p11 p12 p13 p14 p15 p16 p17 p18 p19 p20 p21 p22 p23); (try clear AX); have AX := AY; clear AY; obtain ⟨p0, p1, p2, p3, p4, p5, p6, p7, p8, p9, p10, p11, p12, p13, p14, p15, p16, p17, p18, p19, p20, p21, p22, p23⟩ := AX.out.1))
    go_ret
    exact ⟨rfl, AX.out.2⟩

set_option maxHeartbeats 2000000 in
theorem opn_20 (i : I) (w : World) (h : NB i) (hop : i.op = 20) :
    Calls Tryd.prog 37 #[i.val] w fun e w' => e = .returned (.bool (noneB i.to && (rmB i.fr || (immB i.fr && fitsSB i.fr.n)))) ∧ Below w.heap.size w w' := by
  have L0 : Hid (∀ v, IA v w.heap.size i → (loadVar 25 ⟨w.heap.size, 0, none⟩).run Tryd.prog v = .ok (.agg #[.int .i64 i.op, .int .i64 i.sz, .int .i64 i.cd, .int .i64 i.to.k, .int .i64 i.to.r, .int .i64 i.to.b, .int .i64 i.to.x, .int .i64 i.to.s, .bool i.to.rip, .bool i.to.fs, .int .i64 i.to.n, .string i.to.nm, .int .i64 i.to.m, .int .i64 i.fr.k, .int .i64 i.fr.r, .int .i64 i.fr.b, .int .i64 i.fr.x, .int .i64 i.fr.s, .bool i.fr.rip, .bool i.fr.fs, .int .i64 i.fr.n, .string i.fr.nm, .int .i64 i.fr.m, .bool i.sh]) v) := ⟨fun v h => h.whole⟩
  have CNT : Hid (∀ v, Calls Tryd.prog 29 #[.agg #[.int .i64 i.to.k, .int .i64 i.to.r, .int .i64 i.to.b, .int .i64 i.to.x, .int .i64 i.to.s, .bool i.to.rip, .bool i.to.fs, .int .i64 i.to.n, .string i.to.nm, .int .i64 i.to.m]] v fun e w' => e = .returned (.bool (noneB i.to)) ∧ Below v.heap.size v w') := ⟨fun v => refNone_any i.to v⟩
  have CMR : Hid (∀ v, Calls Tryd.prog 65 #[.agg #[.int .i64 i.fr.k, .int .i64 i.fr.r, .int .i64 i.fr.b, .int .i64 i.fr.x, .int .i64 i.fr.s, .bool i.fr.rip, .bool i.fr.fs, .int .i64 i.fr.n, .string i.fr.nm, .int .i64 i.fr.m]] v fun e w' => e = .returned (.bool (rmB i.fr)) ∧ Below v.heap.size v w') := ⟨fun v => refRm_any i.fr v h.f⟩
  have CIF : Hid (∀ v, Calls Tryd.prog 63 #[.agg #[.int .i64 i.fr.k, .int .i64 i.fr.r, .int .i64 i.fr.b, .int .i64 i.fr.x, .int .i64 i.fr.s, .bool i.fr.rip, .bool i.fr.fs, .int .i64 i.fr.n, .string i.fr.nm, .int .i64 i.fr.m]] v fun e w' => e = .returned (.bool (immB i.fr)) ∧ Below v.heap.size v w') := ⟨fun v => refImm_any i.fr v⟩
  have C32 : Hid (∀ v, Calls Tryd.prog 67 #[.int .i64 i.fr.n] v fun e w' => e = .returned (.bool (fitsSB i.fr.n)) ∧ w' = v) := ⟨fun v => int32_any _ v⟩
  have e22 : (i.op == 22) = false := by rw [hop]; rfl
  have e23 : (i.op == 23) = false := by rw [hop]; rfl
  have e24 : (i.op == 24) = false := by rw [hop]; rfl
  have e1 : (i.op == 1) = false := by rw [hop]; rfl
  have e3 : (i.op == 3) = false := by rw [hop]; rfl
  have e4 : (i.op == 4) = false := by rw [hop]; rfl
  have e5 : (i.op == 5) = false := by rw [hop]; rfl
  have e6 : (i.op == 6) = false := by rw [hop]; rfl
  have e7 : (i.op == 7) = false := by rw [hop]; rfl
  have e8 : (i.op == 8) = false := by rw [hop]; rfl
  have e9 : (i.op == 9) = false := by rw [hop]; rfl
  have e10 : (i.op == 10) = false := by rw [hop]; rfl
  have e11 : (i.op == 11) = false := by rw [hop]; rfl
  have e2 : (i.op == 2) = false := by rw [hop]; rfl
  have e12 : (i.op == 12) = false := by rw [hop]; rfl
  have e28 : (i.op == 28) = false := by rw [hop]; rfl
  have e29 : (i.op == 29) = false := by rw [hop]; rfl
  have e30 : (i.op == 30) = false := by rw [hop]; rfl
  have e13 : (i.op == 13) = false := by rw [hop]; rfl
  have e14 : (i.op == 14) = false := by rw [hop]; rfl
  have e15 : (i.op == 15) = false := by rw [hop]; rfl
  have e16 : (i.op == 16) = false := by rw [hop]; rfl
  have e27 : (i.op == 27) = false := by rw [hop]; rfl
  have e17 : (i.op == 17) = false := by rw [hop]; rfl
  have e18 : (i.op == 18) = false := by rw [hop]; rfl
  have e19 : (i.op == 19) = false := by rw [hop]; rfl
  have e20 : (i.op == 20) = true := by rw [hop]; rfl
  generalize (noneB i.to) = b at *
  generalize (rmB i.fr) = c at *
  generalize (immB i.fr) = d at *
  generalize (fitsSB i.fr.n) = k at *
  unfold I.val
  clear h hop
  rcases b with _ | _
  case' true => rcases c with _ | _
  case' true.false => rcases d with _ | _
  all_goals
    have AX : True := trivial
    go_enter Tryd.func37, Tryd.ntmps37
    go_wp2_with (first
      | (go_at_call 29; refine (CNT.out _).mono ?_; rintro e wx ⟨rfl, hbx⟩; (first | (have AY : Hid (IA wx w.heap.size i ∧ Below w.heap.size w wx) := ⟨AX.out.1.bel hbx, bel_trans AX.out.2 hbx⟩) | (have AY : Hid (IA wx w.heap.size i ∧ Below w.heap.size w wx) := ⟨(IA.new w i 25).bel hbx, bel_trans (bel_alloc (Below.refl _ _) _) hbx⟩)); clear hbx; (try clear p0 p1 p2 p3 p4 p5 p6 p7 p8 p9 p10 p11 p12 p13 p14 p15 p16 p17 p18 p19 p20 p21 p22 p23); (try clear AX); have AX := AY; clear AY; obtain ⟨p0, p1, p2, p3, p4, p5, p6, p7, p8, p9, p10, p11, p12, p13, p14, p15, p16, p17, p18, p19, p20, p21, p22, p23⟩ := AX.out.1)
      | (go_at_call 65; refine (CMR.out _).mono ?_; rintro e wx ⟨rfl, hbx⟩; (first | (have AY : Hid (IA wx w.heap.size i ∧ Below w.heap.size w wx) := ⟨AX.out.1.bel hbx, bel_trans AX.out.2 hbx⟩) | (have AY : Hid (IA wx w.heap.size i ∧ Below w.heap.size w wx) := ⟨(IA.new w i 25).bel hbx, bel_trans (bel_alloc (Below.refl _ _) _) hbx⟩)); clear hbx; (try clear p0 p1 p2 p3 p4 p5 p6 p7 p8 p9 p10 p11 p12 p13 p14 p15 p16 p17 p18 p19 p20 p21 p22 p23); (try clear AX); have AX := AY; clear AY; obtain ⟨p0, p1, p2, p3, p4, p5, p6, p7, p8, p9, p10, p11, p12, p13, p14, p15, p16, p17, p18, p19, p20, p21, p22, p23⟩ := AX.out.1)
      | (go_at_call 63; refine (CIF.out _).mono ?_; rintro e wx ⟨rfl, hbx⟩; (first | (have AY : Hid (IA wx w.heap.size i ∧ Below w.heap.size w wx) := ⟨AX.out.1.bel hbx, bel_trans AX.out.2 hbx⟩) | (have AY : Hid (IA wx w.heap.size i ∧ Below w.heap.size w wx) := ⟨(IA.new w i 25).bel hbx, bel_trans (bel_alloc (Below.refl _ _) _) hbx⟩)); clear hbx; (try clear p0 p1 p2 p3 p4 p5 p6 p7 p8 p9 p10 p11 p12 p13 p14 p15 p16 p17 p18 p19 p20 p21 p22 p23); (try clear AX); have AX := AY; clear AY; obtain ⟨p0, p1, p2, p3, p4, p5, p6, p7, p8, p9, p10, p11, p12, p13, p14, p15, p16, p17, p18, p19, p20, p21, p22, p23⟩ := AX.out.1)
      | (go_at_call 67; refine (C32.out _).mono ?_; rintro e wy ⟨rfl, hwy⟩; subst wy))
    go_ret
    exact ⟨rfl, AX.out.2⟩

set_option maxHeartbeats 2000000 in
theorem opn_21 (i : I) (w : World) (h : NB i) (hop : i.op = 21) :
    Calls Tryd.prog 37 #[i.val] w fun e w' => e = .returned (.bool (rmB i.to && noneB i.fr)) ∧ Below w.heap.size w w' := by
  have L0 : Hid (∀ v, IA v w.heap.size i → (loadVar 25 ⟨w.heap.size, 0, none⟩).run Tryd.prog v = .ok (.agg #[.int .i64 i.op, .int .i64 i.sz, .int .i64 i.cd, .int .i64 i.to.k, .int .i64 i.to.r, .int .i64 i.to.b, .int .i64 i.to.x, .int .i64 i.to.s, .bool i.to.rip, .bool i.to.fs, .int .i64 i.to.n, .string i.to.nm, .int .i64 i.to.m, .int .i64 i.fr.k, .int .i64 i.fr.r, .int .i64 i.fr.b, .int .i64 i.fr.x, .int .i64 i.fr.s, .bool i.fr.rip, .bool i.fr.fs, .int .i64 i.fr.n, .string i.fr.nm, .int .i64 i.fr.m, .bool i.sh]) v) := ⟨fun v h => h.whole⟩
  have CMT : Hid (∀ v, Calls Tryd.prog 65 #[.agg #[.int .i64 i.to.k, .int .i64 i.to.r, .int .i64 i.to.b, .int .i64 i.to.x, .int .i64 i.to.s, .bool i.to.rip, .bool i.to.fs, .int .i64 i.to.n, .string i.to.nm, .int .i64 i.to.m]] v fun e w' => e = .returned (.bool (rmB i.to)) ∧ Below v.heap.size v w') := ⟨fun v => refRm_any i.to v h.t⟩
  have CNF : Hid (∀ v, Calls Tryd.prog 29 #[.agg #[.int .i64 i.fr.k, .int .i64 i.fr.r, .int .i64 i.fr.b, .int .i64 i.fr.x, .int .i64 i.fr.s, .bool i.fr.rip, .bool i.fr.fs, .int .i64 i.fr.n, .string i.fr.nm, .int .i64 i.fr.m]] v fun e w' => e = .returned (.bool (noneB i.fr)) ∧ Below v.heap.size v w') := ⟨fun v => refNone_any i.fr v⟩
  have e22 : (i.op == 22) = false := by rw [hop]; rfl
  have e23 : (i.op == 23) = false := by rw [hop]; rfl
  have e24 : (i.op == 24) = false := by rw [hop]; rfl
  have e1 : (i.op == 1) = false := by rw [hop]; rfl
  have e3 : (i.op == 3) = false := by rw [hop]; rfl
  have e4 : (i.op == 4) = false := by rw [hop]; rfl
  have e5 : (i.op == 5) = false := by rw [hop]; rfl
  have e6 : (i.op == 6) = false := by rw [hop]; rfl
  have e7 : (i.op == 7) = false := by rw [hop]; rfl
  have e8 : (i.op == 8) = false := by rw [hop]; rfl
  have e9 : (i.op == 9) = false := by rw [hop]; rfl
  have e10 : (i.op == 10) = false := by rw [hop]; rfl
  have e11 : (i.op == 11) = false := by rw [hop]; rfl
  have e2 : (i.op == 2) = false := by rw [hop]; rfl
  have e12 : (i.op == 12) = false := by rw [hop]; rfl
  have e28 : (i.op == 28) = false := by rw [hop]; rfl
  have e29 : (i.op == 29) = false := by rw [hop]; rfl
  have e30 : (i.op == 30) = false := by rw [hop]; rfl
  have e13 : (i.op == 13) = false := by rw [hop]; rfl
  have e14 : (i.op == 14) = false := by rw [hop]; rfl
  have e15 : (i.op == 15) = false := by rw [hop]; rfl
  have e16 : (i.op == 16) = false := by rw [hop]; rfl
  have e27 : (i.op == 27) = false := by rw [hop]; rfl
  have e17 : (i.op == 17) = false := by rw [hop]; rfl
  have e18 : (i.op == 18) = false := by rw [hop]; rfl
  have e19 : (i.op == 19) = false := by rw [hop]; rfl
  have e20 : (i.op == 20) = false := by rw [hop]; rfl
  have e21 : (i.op == 21) = true := by rw [hop]; rfl
  generalize (rmB i.to) = b at *
  generalize (noneB i.fr) = g at *
  unfold I.val
  clear h hop
  rcases b with _ | _
  all_goals
    have AX : True := trivial
    go_enter Tryd.func37, Tryd.ntmps37
    go_wp2_with (first
      | (go_at_call 65; refine (CMT.out _).mono ?_; rintro e wx ⟨rfl, hbx⟩; (first | (have AY : Hid (IA wx w.heap.size i ∧ Below w.heap.size w wx) := ⟨AX.out.1.bel hbx, bel_trans AX.out.2 hbx⟩) | (have AY : Hid (IA wx w.heap.size i ∧ Below w.heap.size w wx) := ⟨(IA.new w i 25).bel hbx, bel_trans (bel_alloc (Below.refl _ _) _) hbx⟩)); clear hbx; (try clear p0 p1 p2 p3 p4 p5 p6 p7 p8 p9 p10 p11 p12 p13 p14 p15 p16 p17 p18 p19 p20 p21 p22 p23); (try clear AX); have AX := AY; clear AY; obtain ⟨p0, p1, p2, p3, p4, p5, p6, p7, p8, p9, p10, p11, p12, p13, p14, p15, p16, p17, p18, p19, p20, p21, p22, p23⟩ := AX.out.1)
      | (go_at_call 29; refine (CNF.out _).mono ?_; rintro e wx ⟨rfl, hbx⟩; (first | (have AY : Hid (IA wx w.heap.size i ∧ Below w.heap.size w wx) := ⟨AX.out.1.bel hbx, bel_trans AX.out.2 hbx⟩) | (have AY : Hid (IA wx w.heap.size i ∧ Below w.heap.size w wx) := ⟨(IA.new w i 25).bel hbx, bel_trans (bel_alloc (Below.refl _ _) _) hbx⟩)); clear hbx; (try clear p0 p1 p2 p3 p4 p5 p6 p7 p8 p9 p10 p11 p12 p13 p14 p15 p16 p17 p18 p19 p20 p21 p22 p23); (try clear AX); have AX := AY; clear AY; obtain ⟨p0, p1, p2, p3, p4, p5, p6, p7, p8, p9, p10, p11, p12, p13, p14, p15, p16, p17, p18, p19, p20, p21, p22, p23⟩ := AX.out.1))
    go_ret
    exact ⟨rfl, AX.out.2⟩

set_option maxHeartbeats 2000000 in
theorem opn_25 (i : I) (w : World) (h : NB i) (hop : i.op = 25) :
    Calls Tryd.prog 37 #[i.val] w fun e w' => e = .returned (.bool (noneB i.to && noneB i.fr)) ∧ Below w.heap.size w w' := by
  have L0 : Hid (∀ v, IA v w.heap.size i → (loadVar 25 ⟨w.heap.size, 0, none⟩).run Tryd.prog v = .ok (.agg #[.int .i64 i.op, .int .i64 i.sz, .int .i64 i.cd, .int .i64 i.to.k, .int .i64 i.to.r, .int .i64 i.to.b, .int .i64 i.to.x, .int .i64 i.to.s, .bool i.to.rip, .bool i.to.fs, .int .i64 i.to.n, .string i.to.nm, .int .i64 i.to.m, .int .i64 i.fr.k, .int .i64 i.fr.r, .int .i64 i.fr.b, .int .i64 i.fr.x, .int .i64 i.fr.s, .bool i.fr.rip, .bool i.fr.fs, .int .i64 i.fr.n, .string i.fr.nm, .int .i64 i.fr.m, .bool i.sh]) v) := ⟨fun v h => h.whole⟩
  have CNT : Hid (∀ v, Calls Tryd.prog 29 #[.agg #[.int .i64 i.to.k, .int .i64 i.to.r, .int .i64 i.to.b, .int .i64 i.to.x, .int .i64 i.to.s, .bool i.to.rip, .bool i.to.fs, .int .i64 i.to.n, .string i.to.nm, .int .i64 i.to.m]] v fun e w' => e = .returned (.bool (noneB i.to)) ∧ Below v.heap.size v w') := ⟨fun v => refNone_any i.to v⟩
  have CNF : Hid (∀ v, Calls Tryd.prog 29 #[.agg #[.int .i64 i.fr.k, .int .i64 i.fr.r, .int .i64 i.fr.b, .int .i64 i.fr.x, .int .i64 i.fr.s, .bool i.fr.rip, .bool i.fr.fs, .int .i64 i.fr.n, .string i.fr.nm, .int .i64 i.fr.m]] v fun e w' => e = .returned (.bool (noneB i.fr)) ∧ Below v.heap.size v w') := ⟨fun v => refNone_any i.fr v⟩
  have e22 : (i.op == 22) = false := by rw [hop]; rfl
  have e23 : (i.op == 23) = false := by rw [hop]; rfl
  have e24 : (i.op == 24) = false := by rw [hop]; rfl
  have e1 : (i.op == 1) = false := by rw [hop]; rfl
  have e3 : (i.op == 3) = false := by rw [hop]; rfl
  have e4 : (i.op == 4) = false := by rw [hop]; rfl
  have e5 : (i.op == 5) = false := by rw [hop]; rfl
  have e6 : (i.op == 6) = false := by rw [hop]; rfl
  have e7 : (i.op == 7) = false := by rw [hop]; rfl
  have e8 : (i.op == 8) = false := by rw [hop]; rfl
  have e9 : (i.op == 9) = false := by rw [hop]; rfl
  have e10 : (i.op == 10) = false := by rw [hop]; rfl
  have e11 : (i.op == 11) = false := by rw [hop]; rfl
  have e2 : (i.op == 2) = false := by rw [hop]; rfl
  have e12 : (i.op == 12) = false := by rw [hop]; rfl
  have e28 : (i.op == 28) = false := by rw [hop]; rfl
  have e29 : (i.op == 29) = false := by rw [hop]; rfl
  have e30 : (i.op == 30) = false := by rw [hop]; rfl
  have e13 : (i.op == 13) = false := by rw [hop]; rfl
  have e14 : (i.op == 14) = false := by rw [hop]; rfl
  have e15 : (i.op == 15) = false := by rw [hop]; rfl
  have e16 : (i.op == 16) = false := by rw [hop]; rfl
  have e27 : (i.op == 27) = false := by rw [hop]; rfl
  have e17 : (i.op == 17) = false := by rw [hop]; rfl
  have e18 : (i.op == 18) = false := by rw [hop]; rfl
  have e19 : (i.op == 19) = false := by rw [hop]; rfl
  have e20 : (i.op == 20) = false := by rw [hop]; rfl
  have e21 : (i.op == 21) = false := by rw [hop]; rfl
  have e31 : (i.op == 31) = false := by rw [hop]; rfl
  generalize (noneB i.to) = b at *
  generalize (noneB i.fr) = g at *
  unfold I.val
  clear h hop
  rcases b with _ | _
  all_goals
    have AX : True := trivial
    go_enter Tryd.func37, Tryd.ntmps37
    go_wp2_with (first
      | (go_at_call_of 29 (Value.agg #[Value.int IntKind.i64 i.to.k, Value.int IntKind.i64 i.to.r, Value.int IntKind.i64 i.to.b, Value.int IntKind.i64 i.to.x, Value.int IntKind.i64 i.to.s, Value.bool i.to.rip, Value.bool i.to.fs, Value.int IntKind.i64 i.to.n, Value.string i.to.nm, Value.int IntKind.i64 i.to.m]); refine (CNT.out _).mono ?_; rintro e wx ⟨rfl, hbx⟩; (first | (have AY : Hid (IA wx w.heap.size i ∧ Below w.heap.size w wx) := ⟨AX.out.1.bel hbx, bel_trans AX.out.2 hbx⟩) | (have AY : Hid (IA wx w.heap.size i ∧ Below w.heap.size w wx) := ⟨(IA.new w i 25).bel hbx, bel_trans (bel_alloc (Below.refl _ _) _) hbx⟩)); clear hbx; (try clear p0 p1 p2 p3 p4 p5 p6 p7 p8 p9 p10 p11 p12 p13 p14 p15 p16 p17 p18 p19 p20 p21 p22 p23); (try clear AX); have AX := AY; clear AY; obtain ⟨p0, p1, p2, p3, p4, p5, p6, p7, p8, p9, p10, p11, p12, p13, p14, p15, p16, p17, p18, p19, p20, p21, p22, p23⟩ := AX.out.1)
      | (go_at_call_of 29 (Value.agg #[Value.int IntKind.i64 i.fr.k, Value.int IntKind.i64 i.fr.r, Value.int IntKind.i64 i.fr.b, Value.int IntKind.i64 i.fr.x, Value.int IntKind.i64 i.fr.s, Value.bool i.fr.rip, Value.bool i.fr.fs, Value.int IntKind.i64 i.fr.n, Value.string i.fr.nm, Value.int IntKind.i64 i.fr.m]); refine (CNF.out _).mono ?_; rintro e wx ⟨rfl, hbx⟩; (first | (have AY : Hid (IA wx w.heap.size i ∧ Below w.heap.size w wx) := ⟨AX.out.1.bel hbx, bel_trans AX.out.2 hbx⟩) | (have AY : Hid (IA wx w.heap.size i ∧ Below w.heap.size w wx) := ⟨(IA.new w i 25).bel hbx, bel_trans (bel_alloc (Below.refl _ _) _) hbx⟩)); clear hbx; (try clear p0 p1 p2 p3 p4 p5 p6 p7 p8 p9 p10 p11 p12 p13 p14 p15 p16 p17 p18 p19 p20 p21 p22 p23); (try clear AX); have AX := AY; clear AY; obtain ⟨p0, p1, p2, p3, p4, p5, p6, p7, p8, p9, p10, p11, p12, p13, p14, p15, p16, p17, p18, p19, p20, p21, p22, p23⟩ := AX.out.1))
    go_ret
    exact ⟨rfl, AX.out.2⟩

set_option maxHeartbeats 2000000 in
theorem opn_26 (i : I) (w : World) (h : NB i) (hop : i.op = 26) :
    Calls Tryd.prog 37 #[i.val] w fun e w' => e = .returned (.bool (noneB i.to && noneB i.fr)) ∧ Below w.heap.size w w' := by
  have L0 : Hid (∀ v, IA v w.heap.size i → (loadVar 25 ⟨w.heap.size, 0, none⟩).run Tryd.prog v = .ok (.agg #[.int .i64 i.op, .int .i64 i.sz, .int .i64 i.cd, .int .i64 i.to.k, .int .i64 i.to.r, .int .i64 i.to.b, .int .i64 i.to.x, .int .i64 i.to.s, .bool i.to.rip, .bool i.to.fs, .int .i64 i.to.n, .string i.to.nm, .int .i64 i.to.m, .int .i64 i.fr.k, .int .i64 i.fr.r, .int .i64 i.fr.b, .int .i64 i.fr.x, .int .i64 i.fr.s, .bool i.fr.rip, .bool i.fr.fs, .int .i64 i.fr.n, .string i.fr.nm, .int .i64 i.fr.m, .bool i.sh]) v) := ⟨fun v h => h.whole⟩
  have CNT : Hid (∀ v, Calls Tryd.prog 29 #[.agg #[.int .i64 i.to.k, .int .i64 i.to.r, .int .i64 i.to.b, .int .i64 i.to.x, .int .i64 i.to.s, .bool i.to.rip, .bool i.to.fs, .int .i64 i.to.n, .string i.to.nm, .int .i64 i.to.m]] v fun e w' => e = .returned (.bool (noneB i.to)) ∧ Below v.heap.size v w') := ⟨fun v => refNone_any i.to v⟩
  have CNF : Hid (∀ v, Calls Tryd.prog 29 #[.agg #[.int .i64 i.fr.k, .int .i64 i.fr.r, .int .i64 i.fr.b, .int .i64 i.fr.x, .int .i64 i.fr.s, .bool i.fr.rip, .bool i.fr.fs, .int .i64 i.fr.n, .string i.fr.nm, .int .i64 i.fr.m]] v fun e w' => e = .returned (.bool (noneB i.fr)) ∧ Below v.heap.size v w') := ⟨fun v => refNone_any i.fr v⟩
  have e22 : (i.op == 22) = false := by rw [hop]; rfl
  have e23 : (i.op == 23) = false := by rw [hop]; rfl
  have e24 : (i.op == 24) = false := by rw [hop]; rfl
  have e1 : (i.op == 1) = false := by rw [hop]; rfl
  have e3 : (i.op == 3) = false := by rw [hop]; rfl
  have e4 : (i.op == 4) = false := by rw [hop]; rfl
  have e5 : (i.op == 5) = false := by rw [hop]; rfl
  have e6 : (i.op == 6) = false := by rw [hop]; rfl
  have e7 : (i.op == 7) = false := by rw [hop]; rfl
  have e8 : (i.op == 8) = false := by rw [hop]; rfl
  have e9 : (i.op == 9) = false := by rw [hop]; rfl
  have e10 : (i.op == 10) = false := by rw [hop]; rfl
  have e11 : (i.op == 11) = false := by rw [hop]; rfl
  have e2 : (i.op == 2) = false := by rw [hop]; rfl
  have e12 : (i.op == 12) = false := by rw [hop]; rfl
  have e28 : (i.op == 28) = false := by rw [hop]; rfl
  have e29 : (i.op == 29) = false := by rw [hop]; rfl
  have e30 : (i.op == 30) = false := by rw [hop]; rfl
  have e13 : (i.op == 13) = false := by rw [hop]; rfl
  have e14 : (i.op == 14) = false := by rw [hop]; rfl
  have e15 : (i.op == 15) = false := by rw [hop]; rfl
  have e16 : (i.op == 16) = false := by rw [hop]; rfl
  have e27 : (i.op == 27) = false := by rw [hop]; rfl
  have e17 : (i.op == 17) = false := by rw [hop]; rfl
  have e18 : (i.op == 18) = false := by rw [hop]; rfl
  have e19 : (i.op == 19) = false := by rw [hop]; rfl
  have e20 : (i.op == 20) = false := by rw [hop]; rfl
  have e21 : (i.op == 21) = false := by rw [hop]; rfl
  have e31 : (i.op == 31) = false := by rw [hop]; rfl
  generalize (noneB i.to) = b at *
  generalize (noneB i.fr) = g at *
  unfold I.val
  clear h hop
  rcases b with _ | _
  all_goals
    have AX : True := trivial
    go_enter Tryd.func37, Tryd.ntmps37
    go_wp2_with (first
      | (go_at_call_of 29 (Value.agg #[Value.int IntKind.i64 i.to.k, Value.int IntKind.i64 i.to.r, Value.int IntKind.i64 i.to.b, Value.int IntKind.i64 i.to.x, Value.int IntKind.i64 i.to.s, Value.bool i.to.rip, Value.bool i.to.fs, Value.int IntKind.i64 i.to.n, Value.string i.to.nm, Value.int IntKind.i64 i.to.m]); refine (CNT.out _).mono ?_; rintro e wx ⟨rfl, hbx⟩; (first | (have AY : Hid (IA wx w.heap.size i ∧ Below w.heap.size w wx) := ⟨AX.out.1.bel hbx, bel_trans AX.out.2 hbx⟩) | (have AY : Hid (IA wx w.heap.size i ∧ Below w.heap.size w wx) := ⟨(IA.new w i 25).bel hbx, bel_trans (bel_alloc (Below.refl _ _) _) hbx⟩)); clear hbx; (try clear p0 p1 p2 p3 p4 p5 p6 p7 p8 p9 p10 p11 p12 p13 p14 p15 p16 p17 p18 p19 p20 p21 p22 p23); (try clear AX); have AX := AY; clear AY; obtain ⟨p0, p1, p2, p3, p4, p5, p6, p7, p8, p9, p10, p11, p12, p13, p14, p15, p16, p17, p18, p19, p20, p21, p22, p23⟩ := AX.out.1)
      | (go_at_call_of 29 (Value.agg #[Value.int IntKind.i64 i.fr.k, Value.int IntKind.i64 i.fr.r, Value.int IntKind.i64 i.fr.b, Value.int IntKind.i64 i.fr.x, Value.int IntKind.i64 i.fr.s, Value.bool i.fr.rip, Value.bool i.fr.fs, Value.int IntKind.i64 i.fr.n, Value.string i.fr.nm, Value.int IntKind.i64 i.fr.m]); refine (CNF.out _).mono ?_; rintro e wx ⟨rfl, hbx⟩; (first | (have AY : Hid (IA wx w.heap.size i ∧ Below w.heap.size w wx) := ⟨AX.out.1.bel hbx, bel_trans AX.out.2 hbx⟩) | (have AY : Hid (IA wx w.heap.size i ∧ Below w.heap.size w wx) := ⟨(IA.new w i 25).bel hbx, bel_trans (bel_alloc (Below.refl _ _) _) hbx⟩)); clear hbx; (try clear p0 p1 p2 p3 p4 p5 p6 p7 p8 p9 p10 p11 p12 p13 p14 p15 p16 p17 p18 p19 p20 p21 p22 p23); (try clear AX); have AX := AY; clear AY; obtain ⟨p0, p1, p2, p3, p4, p5, p6, p7, p8, p9, p10, p11, p12, p13, p14, p15, p16, p17, p18, p19, p20, p21, p22, p23⟩ := AX.out.1))
    go_ret
    exact ⟨rfl, AX.out.2⟩

set_option maxHeartbeats 2000000 in
theorem opn_27 (i : I) (w : World) (h : NB i) (hop : i.op = 27) :
    Calls Tryd.prog 37 #[i.val] w fun e w' => e = .returned (.bool (rmB i.to && noneB i.fr)) ∧ Below w.heap.size w w' := by
  have L0 : Hid (∀ v, IA v w.heap.size i → (loadVar 25 ⟨w.heap.size, 0, none⟩).run Tryd.prog v = .ok (.agg #[.int .i64 i.op, .int .i64 i.sz, .int .i64 i.cd, .int .i64 i.to.k, .int .i64 i.to.r, .int .i64 i.to.b, .int .i64 i.to.x, .int .i64 i.to.s, .bool i.to.rip, .bool i.to.fs, .int .i64 i.to.n, .string i.to.nm, .int .i64 i.to.m, .int .i64 i.fr.k, .int .i64 i.fr.r, .int .i64 i.fr.b, .int .i64 i.fr.x, .int .i64 i.fr.s, .bool i.fr.rip, .bool i.fr.fs, .int .i64 i.fr.n, .string i.fr.nm, .int .i64 i.fr.m, .bool i.sh]) v) := ⟨fun v h => h.whole⟩
  have CMT : Hid (∀ v, Calls Tryd.prog 65 #[.agg #[.int .i64 i.to.k, .int .i64 i.to.r, .int .i64 i.to.b, .int .i64 i.to.x, .int .i64 i.to.s, .bool i.to.rip, .bool i.to.fs, .int .i64 i.to.n, .string i.to.nm, .int .i64 i.to.m]] v fun e w' => e = .returned (.bool (rmB i.to)) ∧ Below v.heap.size v w') := ⟨fun v => refRm_any i.to v h.t⟩
  have CNF : Hid (∀ v, Calls Tryd.prog 29 #[.agg #[.int .i64 i.fr.k, .int .i64 i.fr.r, .int .i64 i.fr.b, .int .i64 i.fr.x, .int .i64 i.fr.s, .bool i.fr.rip, .bool i.fr.fs, .int .i64 i.fr.n, .string i.fr.nm, .int .i64 i.fr.m]] v fun e w' => e = .returned (.bool (noneB i.fr)) ∧ Below v.heap.size v w') := ⟨fun v => refNone_any i.fr v⟩
  have e22 : (i.op == 22) = false := by rw [hop]; rfl
  have e23 : (i.op == 23) = false := by rw [hop]; rfl
  have e24 : (i.op == 24) = false := by rw [hop]; rfl
  have e1 : (i.op == 1) = false := by rw [hop]; rfl
  have e3 : (i.op == 3) = false := by rw [hop]; rfl
  have e4 : (i.op == 4) = false := by rw [hop]; rfl
  have e5 : (i.op == 5) = false := by rw [hop]; rfl
  have e6 : (i.op == 6) = false := by rw [hop]; rfl
  have e7 : (i.op == 7) = false := by rw [hop]; rfl
  have e8 : (i.op == 8) = false := by rw [hop]; rfl
  have e9 : (i.op == 9) = false := by rw [hop]; rfl
  have e10 : (i.op == 10) = false := by rw [hop]; rfl
  have e11 : (i.op == 11) = false := by rw [hop]; rfl
  have e2 : (i.op == 2) = false := by rw [hop]; rfl
  have e12 : (i.op == 12) = false := by rw [hop]; rfl
  have e28 : (i.op == 28) = false := by rw [hop]; rfl
  have e29 : (i.op == 29) = false := by rw [hop]; rfl
  have e30 : (i.op == 30) = false := by rw [hop]; rfl
  have e13 : (i.op == 13) = false := by rw [hop]; rfl
  have e14 : (i.op == 14) = false := by rw [hop]; rfl
  have e15 : (i.op == 15) = false := by rw [hop]; rfl
  have e16 : (i.op == 16) = false := by rw [hop]; rfl
  have e27 : (i.op == 27) = true := by rw [hop]; rfl
  generalize (rmB i.to) = b at *
  generalize (noneB i.fr) = g at *
  unfold I.val
  clear h hop
  rcases b with _ | _
  all_goals
    have AX : True := trivial
    go_enter Tryd.func37, Tryd.ntmps37
    go_wp2_with (first
      | (go_at_call 65; refine (CMT.out _).mono ?_; rintro e wx ⟨rfl, hbx⟩; (first | (have AY : Hid (IA wx w.heap.size i ∧ Below w.heap.size w wx) := ⟨AX.out.1.bel hbx, bel_trans AX.out.2 hbx⟩) | (have AY : Hid (IA wx w.heap.size i ∧ Below w.heap.size w wx) := ⟨(IA.new w i 25).bel hbx, bel_trans (bel_alloc (Below.refl _ _) _) hbx⟩)); clear hbx; (try clear p0 p1 p2 p3 p4 p5 p6 p7 p8 p9 p10 p11 p12 p13 p14 p15 p16 p17 p18 p19 p20 p21 p22 p23); (try clear AX); have AX := AY; clear AY; obtain ⟨p0, p1, p2, p3, p4, p5, p6, p7, p8, p9, p10, p11, p12, p13, p14, p15, p16, p17, p18, p19, p20, p21, p22, p23⟩ := AX.out.1)
      | (go_at_call 29; refine (CNF.out _).mono ?_; rintro e wx ⟨rfl, hbx⟩; (first | (have AY : Hid (IA wx w.heap.size i ∧ Below w.heap.size w wx) := ⟨AX.out.1.bel hbx, bel_trans AX.out.2 hbx⟩) | (have AY : Hid (IA wx w.heap.size i ∧ Below w.heap.size w wx) := ⟨(IA.new w i 25).bel hbx, bel_trans (bel_alloc (Below.refl _ _) _) hbx⟩)); clear hbx; (try clear p0 p1 p2 p3 p4 p5 p6 p7 p8 p9 p10 p11 p12 p13 p14 p15 p16 p17 p18 p19 p20 p21 p22 p23); (try clear AX); have AX := AY; clear AY; obtain ⟨p0, p1, p2, p3, p4, p5, p6, p7, p8, p9, p10, p11, p12, p13, p14, p15, p16, p17, p18, p19, p20, p21, p22, p23⟩ := AX.out.1))
    go_ret
    exact ⟨rfl, AX.out.2⟩

set_option maxHeartbeats 2000000 in
theorem opn_28 (i : I) (w : World) (h : NB i) (hop : i.op = 28) :
    Calls Tryd.prog 37 #[i.val] w fun e w' => e = .returned (.bool (regB i.to && rmB i.fr)) ∧ Below w.heap.size w w' := by
  have L0 : Hid (∀ v, IA v w.heap.size i → (loadVar 25 ⟨w.heap.size, 0, none⟩).run Tryd.prog v = .ok (.agg #[.int .i64 i.op, .int .i64 i.sz, .int .i64 i.cd, .int .i64 i.to.k, .int .i64 i.to.r, .int .i64 i.to.b, .int .i64 i.to.x, .int .i64 i.to.s, .bool i.to.rip, .bool i.to.fs, .int .i64 i.to.n, .string i.to.nm, .int .i64 i.to.m, .int .i64 i.fr.k, .int .i64 i.fr.r, .int .i64 i.fr.b, .int .i64 i.fr.x, .int .i64 i.fr.s, .bool i.fr.rip, .bool i.fr.fs, .int .i64 i.fr.n, .string i.fr.nm, .int .i64 i.fr.m, .bool i.sh]) v) := ⟨fun v h => h.whole⟩
  have CRT : Hid (∀ v, Calls Tryd.prog 62 #[.agg #[.int .i64 i.to.k, .int .i64 i.to.r, .int .i64 i.to.b, .int .i64 i.to.x, .int .i64 i.to.s, .bool i.to.rip, .bool i.to.fs, .int .i64 i.to.n, .string i.to.nm, .int .i64 i.to.m]] v fun e w' => e = .returned (.bool (regB i.to)) ∧ Below v.heap.size v w') := ⟨fun v => refReg_any i.to v⟩
  have CMR : Hid (∀ v, Calls Tryd.prog 65 #[.agg #[.int .i64 i.fr.k, .int .i64 i.fr.r, .int .i64 i.fr.b, .int .i64 i.fr.x, .int .i64 i.fr.s, .bool i.fr.rip, .bool i.fr.fs, .int .i64 i.fr.n, .string i.fr.nm, .int .i64 i.fr.m]] v fun e w' => e = .returned (.bool (rmB i.fr)) ∧ Below v.heap.size v w') := ⟨fun v => refRm_any i.fr v h.f⟩
  have e22 : (i.op == 22) = false := by rw [hop]; rfl
  have e23 : (i.op == 23) = false := by rw [hop]; rfl
  have e24 : (i.op == 24) = false := by rw [hop]; rfl
  have e1 : (i.op == 1) = false := by rw [hop]; rfl
  have e3 : (i.op == 3) = false := by rw [hop]; rfl
  have e4 : (i.op == 4) = false := by rw [hop]; rfl
  have e5 : (i.op == 5) = false := by rw [hop]; rfl
  have e6 : (i.op == 6) = false := by rw [hop]; rfl
  have e7 : (i.op == 7) = false := by rw [hop]; rfl
  have e8 : (i.op == 8) = false := by rw [hop]; rfl
  have e9 : (i.op == 9) = false := by rw [hop]; rfl
  have e10 : (i.op == 10) = false := by rw [hop]; rfl
  have e11 : (i.op == 11) = false := by rw [hop]; rfl
  have e2 : (i.op == 2) = false := by rw [hop]; rfl
  have e12 : (i.op == 12) = false := by rw [hop]; rfl
  have e28 : (i.op == 28) = true := by rw [hop]; rfl
  generalize (regB i.to) = b at *
  generalize (rmB i.fr) = c at *
  unfold I.val
  clear h hop
  rcases b with _ | _
  all_goals
    have AX : True := trivial
    go_enter Tryd.func37, Tryd.ntmps37
    go_wp2_with (first
      | (go_at_call 62; refine (CRT.out _).mono ?_; rintro e wx ⟨rfl, hbx⟩; (first | (have AY : Hid (IA wx w.heap.size i ∧ Below w.heap.size w wx) := ⟨AX.out.1.bel hbx, bel_trans AX.out.2 hbx⟩) | (have AY : Hid (IA wx w.heap.size i ∧ Below w.heap.size w wx) := ⟨(IA.new w i 25).bel hbx, bel_trans (bel_alloc (Below.refl _ _) _) hbx⟩)); clear hbx; (try clear p0 p1 p2 p3 p4 p5 p6 p7 p8 p9 p10 p11 p12 p13 p14 p15 p16 p17 p18 p19 p20 p21 p22 p23); (try clear AX); have AX := AY; clear AY; obtain ⟨p0, p1, p2, p3, p4, p5, p6, p7, p8, p9, p10, p11, p12, p13, p14, p15, p16, p17, p18, p19, p20, p21, p22, p23⟩ := AX.out.1)
      | (go_at_call 65; refine (CMR.out _).mono ?_; rintro e wx ⟨rfl, hbx⟩; (first | (have AY : Hid (IA wx w.heap.size i ∧ Below w.heap.size w wx) := ⟨AX.out.1.bel hbx, bel_trans AX.out.2 hbx⟩) | (have AY : Hid (IA wx w.heap.size i ∧ Below w.heap.size w wx) := ⟨(IA.new w i 25).bel hbx, bel_trans (bel_alloc (Below.refl _ _) _) hbx⟩)); clear hbx; (try clear p0 p1 p2 p3 p4 p5 p6 p7 p8 p9 p10 p11 p12 p13 p14 p15 p16 p17 p18 p19 p20 p21 p22 p23); (try clear AX); have AX := AY; clear AY; obtain ⟨p0, p1, p2, p3, p4, p5, p6, p7, p8, p9, p10, p11, p12, p13, p14, p15, p16, p17, p18, p19, p20, p21, p22, p23⟩ := AX.out.1))
    go_ret
    exact ⟨rfl, AX.out.2⟩

set_option maxHeartbeats 2000000 in
theorem opn_29 (i : I) (w : World) (h : NB i) (hop : i.op = 29) :
    Calls Tryd.prog 37 #[i.val] w fun e w' => e = .returned (.bool (regB i.to && rmB i.fr)) ∧ Below w.heap.size w w' := by
  have L0 : Hid (∀ v, IA v w.heap.size i → (loadVar 25 ⟨w.heap.size, 0, none⟩).run Tryd.prog v = .ok (.agg #[.int .i64 i.op, .int .i64 i.sz, .int .i64 i.cd, .int .i64 i.to.k, .int .i64 i.to.r, .int .i64 i.to.b, .int .i64 i.to.x, .int .i64 i.to.s, .bool i.to.rip, .bool i.to.fs, .int .i64 i.to.n, .string i.to.nm, .int .i64 i.to.m, .int .i64 i.fr.k, .int .i64 i.fr.r, .int .i64 i.fr.b, .int .i64 i.fr.x, .int .i64 i.fr.s, .bool i.fr.rip, .bool i.fr.fs, .int .i64 i.fr.n, .string i.fr.nm, .int .i64 i.fr.m, .bool i.sh]) v) := ⟨fun v h => h.whole⟩
  have CRT : Hid (∀ v, Calls Tryd.prog 62 #[.agg #[.int .i64 i.to.k, .int .i64 i.to.r, .int .i64 i.to.b, .int .i64 i.to.x, .int .i64 i.to.s, .bool i.to.rip, .bool i.to.fs, .int .i64 i.to.n, .string i.to.nm, .int .i64 i.to.m]] v fun e w' => e = .returned (.bool (regB i.to)) ∧ Below v.heap.size v w') := ⟨fun v => refReg_any i.to v⟩
  have CMR : Hid (∀ v, Calls Tryd.prog 65 #[.agg #[.int .i64 i.fr.k, .int .i64 i.fr.r, .int .i64 i.fr.b, .int .i64 i.fr.x, .int .i64 i.fr.s, .bool i.fr.rip, .bool i.fr.fs, .int .i64 i.fr.n, .string i.fr.nm, .int .i64 i.fr.m]] v fun e w' => e = .returned (.bool (rmB i.fr)) ∧ Below v.heap.size v w') := ⟨fun v => refRm_any i.fr v h.f⟩
  have e22 : (i.op == 22) = false := by rw [hop]; rfl
  have e23 : (i.op == 23) = false := by rw [hop]; rfl
  have e24 : (i.op == 24) = false := by rw [hop]; rfl
  have e1 : (i.op == 1) = false := by rw [hop]; rfl
  have e3 : (i.op == 3) = false := by rw [hop]; rfl
  have e4 : (i.op == 4) = false := by rw [hop]; rfl
  have e5 : (i.op == 5) = false := by rw [hop]; rfl
  have e6 : (i.op == 6) = false := by rw [hop]; rfl
  have e7 : (i.op == 7) = false := by rw [hop]; rfl
  have e8 : (i.op == 8) = false := by rw [hop]; rfl
  have e9 : (i.op == 9) = false := by rw [hop]; rfl
  have e10 : (i.op == 10) = false := by rw [hop]; rfl
  have e11 : (i.op == 11) = false := by rw [hop]; rfl
  have e2 : (i.op == 2) = false := by rw [hop]; rfl
  have e12 : (i.op == 12) = false := by rw [hop]; rfl
  have e28 : (i.op == 28) = false := by rw [hop]; rfl
  have e29 : (i.op == 29) = true := by rw [hop]; rfl
  generalize (regB i.to) = b at *
  generalize (rmB i.fr) = c at *
  unfold I.val
  clear h hop
  rcases b with _ | _
  all_goals
    have AX : True := trivial
    go_enter Tryd.func37, Tryd.ntmps37
    go_wp2_with (first
      | (go_at_call 62; refine (CRT.out _).mono ?_; rintro e wx ⟨rfl, hbx⟩; (first | (have AY : Hid (IA wx w.heap.size i ∧ Below w.heap.size w wx) := ⟨AX.out.1.bel hbx, bel_trans AX.out.2 hbx⟩) | (have AY : Hid (IA wx w.heap.size i ∧ Below w.heap.size w wx) := ⟨(IA.new w i 25).bel hbx, bel_trans (bel_alloc (Below.refl _ _) _) hbx⟩)); clear hbx; (try clear p0 p1 p2 p3 p4 p5 p6 p7 p8 p9 p10 p11 p12 p13 p14 p15 p16 p17 p18 p19 p20 p21 p22 p23); (try clear AX); have AX := AY; clear AY; obtain ⟨p0, p1, p2, p3, p4, p5, p6, p7, p8, p9, p10, p11, p12, p13, p14, p15, p16, p17, p18, p19, p20, p21, p22, p23⟩ := AX.out.1)
      | (go_at_call 65; refine (CMR.out _).mono ?_; rintro e wx ⟨rfl, hbx⟩; (first | (have AY : Hid (IA wx w.heap.size i ∧ Below w.heap.size w wx) := ⟨AX.out.1.bel hbx, bel_trans AX.out.2 hbx⟩) | (have AY : Hid (IA wx w.heap.size i ∧ Below w.heap.size w wx) := ⟨(IA.new w i 25).bel hbx, bel_trans (bel_alloc (Below.refl _ _) _) hbx⟩)); clear hbx; (try clear p0 p1 p2 p3 p4 p5 p6 p7 p8 p9 p10 p11 p12 p13 p14 p15 p16 p17 p18 p19 p20 p21 p22 p23); (try clear AX); have AX := AY; clear AY; obtain ⟨p0, p1, p2, p3, p4, p5, p6, p7, p8, p9, p10, p11, p12, p13, p14, p15, p16, p17, p18, p19, p20, p21, p22, p23⟩ := AX.out.1))
    go_ret
    exact ⟨rfl, AX.out.2⟩

set_option maxHeartbeats 2000000 in
theorem opn_30 (i : I) (w : World) (h : NB i) (hop : i.op = 30) :
    Calls Tryd.prog 37 #[i.val] w fun e w' => e = .returned (.bool (regB i.to && rmB i.fr)) ∧ Below w.heap.size w w' := by
  have L0 : Hid (∀ v, IA v w.heap.size i → (loadVar 25 ⟨w.heap.size, 0, none⟩).run Tryd.prog v = .ok (.agg #[.int .i64 i.op, .int .i64 i.sz, .int .i64 i.cd, .int .i64 i.to.k, .int .i64 i.to.r, .int .i64 i.to.b, .int .i64 i.to.x, .int .i64 i.to.s, .bool i.to.rip, .bool i.to.fs, .int .i64 i.to.n, .string i.to.nm, .int .i64 i.to.m, .int .i64 i.fr.k, .int .i64 i.fr.r, .int .i64 i.fr.b, .int .i64 i.fr.x, .int .i64 i.fr.s, .bool i.fr.rip, .bool i.fr.fs, .int .i64 i.fr.n, .string i.fr.nm, .int .i64 i.fr.m, .bool i.sh]) v) := ⟨fun v h => h.whole⟩
  have CRT : Hid (∀ v, Calls Tryd.prog 62 #[.agg #[.int .i64 i.to.k, .int .i64 i.to.r, .int .i64 i.to.b, .int .i64 i.to.x, .int .i64 i.to.s, .bool i.to.rip, .bool i.to.fs, .int .i64 i.to.n, .string i.to.nm, .int .i64 i.to.m]] v fun e w' => e = .returned (.bool (regB i.to)) ∧ Below v.heap.size v w') := ⟨fun v => refReg_any i.to v⟩
  have CMR : Hid (∀ v, Calls Tryd.prog 65 #[.agg #[.int .i64 i.fr.k, .int .i64 i.fr.r, .int .i64 i.fr.b, .int .i64 i.fr.x, .int .i64 i.fr.s, .bool i.fr.rip, .bool i.fr.fs, .int .i64 i.fr.n, .string i.fr.nm, .int .i64 i.fr.m]] v fun e w' => e = .returned (.bool (rmB i.fr)) ∧ Below v.heap.size v w') := ⟨fun v => refRm_any i.fr v h.f⟩
  have e22 : (i.op == 22) = false := by rw [hop]; rfl
  have e23 : (i.op == 23) = false := by rw [hop]; rfl
  have e24 : (i.op == 24) = false := by rw [hop]; rfl
  have e1 : (i.op == 1) = false := by rw [hop]; rfl
  have e3 : (i.op == 3) = false := by rw [hop]; rfl
  have e4 : (i.op == 4) = false := by rw [hop]; rfl
  have e5 : (i.op == 5) = false := by rw [hop]; rfl
  have e6 : (i.op == 6) = false := by rw [hop]; rfl
  have e7 : (i.op == 7) = false := by rw [hop]; rfl
  have e8 : (i.op == 8) = false := by rw [hop]; rfl
  have e9 : (i.op == 9) = false := by rw [hop]; rfl
  have e10 : (i.op == 10) = false := by rw [hop]; rfl
  have e11 : (i.op == 11) = false := by rw [hop]; rfl
  have e2 : (i.op == 2) = false := by rw [hop]; rfl
  have e12 : (i.op == 12) = false := by rw [hop]; rfl
  have e28 : (i.op == 28) = false := by rw [hop]; rfl
  have e29 : (i.op == 29) = false := by rw [hop]; rfl
  have e30 : (i.op == 30) = true := by rw [hop]; rfl
  generalize (regB i.to) = b at *
  generalize (rmB i.fr) = c at *
  unfold I.val
  clear h hop
  rcases b with _ | _
  all_goals
    have AX : True := trivial
    go_enter Tryd.func37, Tryd.ntmps37
    go_wp2_with (first
      | (go_at_call 62; refine (CRT.out _).mono ?_; rintro e wx ⟨rfl, hbx⟩; (first | (have AY : Hid (IA wx w.heap.size i ∧ Below w.heap.size w wx) := ⟨AX.out.1.bel hbx, bel_trans AX.out.2 hbx⟩) | (have AY : Hid (IA wx w.heap.size i ∧ Below w.heap.size w wx) := ⟨(IA.new w i 25).bel hbx, bel_trans (bel_alloc (Below.refl _ _) _) hbx⟩)); clear hbx; (try clear p0 p1 p2 p3 p4 p5 p6 p7 p8 p9 p10 p11 p12 p13 p14 p15 p16 p17 p18 p19 p20 p21 p22 p23); (try clear AX); have AX := AY; clear AY; obtain ⟨p0, p1, p2, p3, p4, p5, p6, p7, p8, p9, p10, p11, p12, p13, p14, p15, p16, p17, p18, p19, p20, p21, p22, p23⟩ := AX.out.1)
      | (go_at_call 65; refine (CMR.out _).mono ?_; rintro e wx ⟨rfl, hbx⟩; (first | (have AY : Hid (IA wx w.heap.size i ∧ Below w.heap.size w wx) := ⟨AX.out.1.bel hbx, bel_trans AX.out.2 hbx⟩) | (have AY : Hid (IA wx w.heap.size i ∧ Below w.heap.size w wx) := ⟨(IA.new w i 25).bel hbx, bel_trans (bel_alloc (Below.refl _ _) _) hbx⟩)); clear hbx; (try clear p0 p1 p2 p3 p4 p5 p6 p7 p8 p9 p10 p11 p12 p13 p14 p15 p16 p17 p18 p19 p20 p21 p22 p23); (try clear AX); have AX := AY; clear AY; obtain ⟨p0, p1, p2, p3, p4, p5, p6, p7, p8, p9, p10, p11, p12, p13, p14, p15, p16, p17, p18, p19, p20, p21, p22, p23⟩ := AX.out.1))
    go_ret
    exact ⟨rfl, AX.out.2⟩

set_option maxHeartbeats 2000000 in
theorem opn_31 (i : I) (w : World) (h : NB i) (hop : i.op = 31) :
    Calls Tryd.prog 37 #[i.val] w fun e w' => e = .returned (.bool (rmB i.to && regB i.fr)) ∧ Below w.heap.size w w' := by
  have L0 : Hid (∀ v, IA v w.heap.size i → (loadVar 25 ⟨w.heap.size, 0, none⟩).run Tryd.prog v = .ok (.agg #[.int .i64 i.op, .int .i64 i.sz, .int .i64 i.cd, .int .i64 i.to.k, .int .i64 i.to.r, .int .i64 i.to.b, .int .i64 i.to.x, .int .i64 i.to.s, .bool i.to.rip, .bool i.to.fs, .int .i64 i.to.n, .string i.to.nm, .int .i64 i.to.m, .int .i64 i.fr.k, .int .i64 i.fr.r, .int .i64 i.fr.b, .int .i64 i.fr.x, .int .i64 i.fr.s, .bool i.fr.rip, .bool i.fr.fs, .int .i64 i.fr.n, .string i.fr.nm, .int .i64 i.fr.m, .bool i.sh]) v) := ⟨fun v h => h.whole⟩
  have CMT : Hid (∀ v, Calls Tryd.prog 65 #[.agg #[.int .i64 i.to.k, .int .i64 i.to.r, .int .i64 i.to.b, .int .i64 i.to.x, .int .i64 i.to.s, .bool i.to.rip, .bool i.to.fs, .int .i64 i.to.n, .string i.to.nm, .int .i64 i.to.m]] v fun e w' => e = .returned (.bool (rmB i.to)) ∧ Below v.heap.size v w') := ⟨fun v => refRm_any i.to v h.t⟩
  have CRF : Hid (∀ v, Calls Tryd.prog 62 #[.agg #[.int .i64 i.fr.k, .int .i64 i.fr.r, .int .i64 i.fr.b, .int .i64 i.fr.x, .int .i64 i.fr.s, .bool i.fr.rip, .bool i.fr.fs, .int .i64 i.fr.n, .string i.fr.nm, .int .i64 i.fr.m]] v fun e w' => e = .returned (.bool (regB i.fr)) ∧ Below v.heap.size v w') := ⟨fun v => refReg_any i.fr v⟩
  have e22 : (i.op == 22) = false := by rw [hop]; rfl
  have e23 : (i.op == 23) = false := by rw [hop]; rfl
  have e24 : (i.op == 24) = false := by rw [hop]; rfl
  have e1 : (i.op == 1) = false := by rw [hop]; rfl
  have e3 : (i.op == 3) = false := by rw [hop]; rfl
  have e4 : (i.op == 4) = false := by rw [hop]; rfl
  have e5 : (i.op == 5) = false := by rw [hop]; rfl
  have e6 : (i.op == 6) = false := by rw [hop]; rfl
  have e7 : (i.op == 7) = false := by rw [hop]; rfl
  have e8 : (i.op == 8) = false := by rw [hop]; rfl
  have e9 : (i.op == 9) = false := by rw [hop]; rfl
  have e10 : (i.op == 10) = false := by rw [hop]; rfl
  have e11 : (i.op == 11) = false := by rw [hop]; rfl
  have e2 : (i.op == 2) = false := by rw [hop]; rfl
  have e12 : (i.op == 12) = false := by rw [hop]; rfl
  have e28 : (i.op == 28) = false := by rw [hop]; rfl
  have e29 : (i.op == 29) = false := by rw [hop]; rfl
  have e30 : (i.op == 30) = false := by rw [hop]; rfl
  have e13 : (i.op == 13) = false := by rw [hop]; rfl
  have e14 : (i.op == 14) = false := by rw [hop]; rfl
  have e15 : (i.op == 15) = false := by rw [hop]; rfl
  have e16 : (i.op == 16) = false := by rw [hop]; rfl
  have e27 : (i.op == 27) = false := by rw [hop]; rfl
  have e17 : (i.op == 17) = false := by rw [hop]; rfl
  have e18 : (i.op == 18) = false := by rw [hop]; rfl
  have e19 : (i.op == 19) = false := by rw [hop]; rfl
  have e20 : (i.op == 20) = false := by rw [hop]; rfl
  have e21 : (i.op == 21) = false := by rw [hop]; rfl
  have e31 : (i.op == 31) = true := by rw [hop]; rfl
  generalize (rmB i.to) = b at *
  generalize (regB i.fr) = c at *
  unfold I.val
  clear h hop
  rcases b with _ | _
  all_goals
    have AX : True := trivial
    go_enter Tryd.func37, Tryd.ntmps37
    go_wp2_with (first
      | (go_at_call 65; refine (CMT.out _).mono ?_; rintro e wx ⟨rfl, hbx⟩; (first | (have AY : Hid (IA wx w.heap.size i ∧ Below w.heap.size w wx) := ⟨AX.out.1.bel hbx, bel_trans AX.out.2 hbx⟩) | (have AY : Hid (IA wx w.heap.size i ∧ Below w.heap.size w wx) := ⟨(IA.new w i 25).bel hbx, bel_trans (bel_alloc (Below.refl _ _) _) hbx⟩)); clear hbx; (try clear p0 p1 p2 p3 p4 p5 p6 p7 p8 p9 p10 p11 p12 p13 p14 p15 p16 p17 p18 p19 p20 p21 p22 p23); (try clear AX); have AX := AY; clear AY; obtain ⟨p0, p1, p2, p3, p4, p5, p6, p7, p8, p9, p10, p11, p12, p13, p14, p15, p16, p17, p18, p19, p20, p21, p22, p23⟩ := AX.out.1)
      | (go_at_call 62; refine (CRF.out _).mono ?_; rintro e wx ⟨rfl, hbx⟩; (first | (have AY : Hid (IA wx w.heap.size i ∧ Below w.heap.size w wx) := ⟨AX.out.1.bel hbx, bel_trans AX.out.2 hbx⟩) | (have AY : Hid (IA wx w.heap.size i ∧ Below w.heap.size w wx) := ⟨(IA.new w i 25).bel hbx, bel_trans (bel_alloc (Below.refl _ _) _) hbx⟩)); clear hbx; (try clear p0 p1 p2 p3 p4 p5 p6 p7 p8 p9 p10 p11 p12 p13 p14 p15 p16 p17 p18 p19 p20 p21 p22 p23); (try clear AX); have AX := AY; clear AY; obtain ⟨p0, p1, p2, p3, p4, p5, p6, p7, p8, p9, p10, p11, p12, p13, p14, p15, p16, p17, p18, p19, p20, p21, p22, p23⟩ := AX.out.1))
    go_ret
    exact ⟨rfl, AX.out.2⟩

set_option maxHeartbeats 2000000 in
theorem opn_32 (i : I) (w : World) (h : NB i) (hop : i.op = 32) :
    Calls Tryd.prog 37 #[i.val] w fun e w' => e = .returned (.bool (noneB i.to && noneB i.fr)) ∧ Below w.heap.size w w' := by
  have L0 : Hid (∀ v, IA v w.heap.size i → (loadVar 25 ⟨w.heap.size, 0, none⟩).run Tryd.prog v = .ok (.agg #[.int .i64 i.op, .int .i64 i.sz, .int .i64 i.cd, .int .i64 i.to.k, .int .i64 i.to.r, .int .i64 i.to.b, .int .i64 i.to.x, .int .i64 i.to.s, .bool i.to.rip, .bool i.to.fs, .int .i64 i.to.n, .string i.to.nm, .int .i64 i.to.m, .int .i64 i.fr.k, .int .i64 i.fr.r, .int .i64 i.fr.b, .int .i64 i.fr.x, .int .i64 i.fr.s, .bool i.fr.rip, .bool i.fr.fs, .int .i64 i.fr.n, .string i.fr.nm, .int .i64 i.fr.m, .bool i.sh]) v) := ⟨fun v h => h.whole⟩
  have CNT : Hid (∀ v, Calls Tryd.prog 29 #[.agg #[.int .i64 i.to.k, .int .i64 i.to.r, .int .i64 i.to.b, .int .i64 i.to.x, .int .i64 i.to.s, .bool i.to.rip, .bool i.to.fs, .int .i64 i.to.n, .string i.to.nm, .int .i64 i.to.m]] v fun e w' => e = .returned (.bool (noneB i.to)) ∧ Below v.heap.size v w') := ⟨fun v => refNone_any i.to v⟩
  have CNF : Hid (∀ v, Calls Tryd.prog 29 #[.agg #[.int .i64 i.fr.k, .int .i64 i.fr.r, .int .i64 i.fr.b, .int .i64 i.fr.x, .int .i64 i.fr.s, .bool i.fr.rip, .bool i.fr.fs, .int .i64 i.fr.n, .string i.fr.nm, .int .i64 i.fr.m]] v fun e w' => e = .returned (.bool (noneB i.fr)) ∧ Below v.heap.size v w') := ⟨fun v => refNone_any i.fr v⟩
  have e22 : (i.op == 22) = false := by rw [hop]; rfl
  have e23 : (i.op == 23) = false := by rw [hop]; rfl
  have e24 : (i.op == 24) = false := by rw [hop]; rfl
  have e1 : (i.op == 1) = false := by rw [hop]; rfl
  have e3 : (i.op == 3) = false := by rw [hop]; rfl
  have e4 : (i.op == 4) = false := by rw [hop]; rfl
  have e5 : (i.op == 5) = false := by rw [hop]; rfl
  have e6 : (i.op == 6) = false := by rw [hop]; rfl
  have e7 : (i.op == 7) = false := by rw [hop]; rfl
  have e8 : (i.op == 8) = false := by rw [hop]; rfl
  have e9 : (i.op == 9) = false := by rw [hop]; rfl
  have e10 : (i.op == 10) = false := by rw [hop]; rfl
  have e11 : (i.op == 11) = false := by rw [hop]; rfl
  have e2 : (i.op == 2) = false := by rw [hop]; rfl
  have e12 : (i.op == 12) = false := by rw [hop]; rfl
  have e28 : (i.op == 28) = false := by rw [hop]; rfl
  have e29 : (i.op == 29) = false := by rw [hop]; rfl
  have e30 : (i.op == 30) = false := by rw [hop]; rfl
  have e13 : (i.op == 13) = false := by rw [hop]; rfl
  have e14 : (i.op == 14) = false := by rw [hop]; rfl
  have e15 : (i.op == 15) = false := by rw [hop]; rfl
  have e16 : (i.op == 16) = false := by rw [hop]; rfl
  have e27 : (i.op == 27) = false := by rw [hop]; rfl
  have e17 : (i.op == 17) = false := by rw [hop]; rfl
  have e18 : (i.op == 18) = false := by rw [hop]; rfl
  have e19 : (i.op == 19) = false := by rw [hop]; rfl
  have e20 : (i.op == 20) = false := by rw [hop]; rfl
  have e21 : (i.op == 21) = false := by rw [hop]; rfl
  have e31 : (i.op == 31) = false := by rw [hop]; rfl
  generalize (noneB i.to) = b at *
  generalize (noneB i.fr) = g at *
  unfold I.val
  clear h hop
  rcases b with _ | _
  all_goals
    have AX : True := trivial
    go_enter Tryd.func37, Tryd.ntmps37
    go_wp2_with (first
      | (go_at_call_of 29 (Value.agg #[Value.int IntKind.i64 i.to.k, Value.int IntKind.i64 i.to.r, Value.int IntKind.i64 i.to.b, Value.int IntKind.i64 i.to.x, Value.int IntKind.i64 i.to.s, Value.bool i.to.rip, Value.bool i.to.fs, Value.int IntKind.i64 i.to.n, Value.string i.to.nm, Value.int IntKind.i64 i.to.m]); refine (CNT.out _).mono ?_; rintro e wx ⟨rfl, hbx⟩; (first | (have AY : Hid (IA wx w.heap.size i ∧ Below w.heap.size w wx) := ⟨AX.out.1.bel hbx, bel_trans AX.out.2 hbx⟩) | (have AY : Hid (IA wx w.heap.size i ∧ Below w.heap.size w wx) := ⟨(IA.new w i 25).bel hbx, bel_trans (bel_alloc (Below.refl _ _) _) hbx⟩)); clear hbx; (try clear p0 p1 p2 p3 p4 p5 p6 p7 p8 p9 p10 p11 p12 p13 p14 p15 p16 p17 p18 p19 p20 p21 p22 p23); (try clear AX); have AX := AY; clear AY; obtain ⟨p0, p1, p2, p3, p4, p5, p6, p7, p8, p9, p10, p11, p12, p13, p14, p15, p16, p17, p18, p19, p20, p21, p22, p23⟩ := AX.out.1)
      | (go_at_call_of 29 (Value.agg #[Value.int IntKind.i64 i.fr.k, Value.int IntKind.i64 i.fr.r, Value.int IntKind.i64 i.fr.b, Value.int IntKind.i64 i.fr.x, Value.int IntKind.i64 i.fr.s, Value.bool i.fr.rip, Value.bool i.fr.fs, Value.int IntKind.i64 i.fr.n, Value.string i.fr.nm, Value.int IntKind.i64 i.fr.m]); refine (CNF.out _).mono ?_; rintro e wx ⟨rfl, hbx⟩; (first | (have AY : Hid (IA wx w.heap.size i ∧ Below w.heap.size w wx) := ⟨AX.out.1.bel hbx, bel_trans AX.out.2 hbx⟩) | (have AY : Hid (IA wx w.heap.size i ∧ Below w.heap.size w wx) := ⟨(IA.new w i 25).bel hbx, bel_trans (bel_alloc (Below.refl _ _) _) hbx⟩)); clear hbx; (try clear p0 p1 p2 p3 p4 p5 p6 p7 p8 p9 p10 p11 p12 p13 p14 p15 p16 p17 p18 p19 p20 p21 p22 p23); (try clear AX); have AX := AY; clear AY; obtain ⟨p0, p1, p2, p3, p4, p5, p6, p7, p8, p9, p10, p11, p12, p13, p14, p15, p16, p17, p18, p19, p20, p21, p22, p23⟩ := AX.out.1))
    go_ret
    exact ⟨rfl, AX.out.2⟩

set_option maxHeartbeats 2000000 in
theorem opn_33 (i : I) (w : World) (h : NB i) (hop : i.op = 33) :
    Calls Tryd.prog 37 #[i.val] w fun e w' => e = .returned (.bool (noneB i.to && noneB i.fr)) ∧ Below w.heap.size w w' := by
  have L0 : Hid (∀ v, IA v w.heap.size i → (loadVar 25 ⟨w.heap.size, 0, none⟩).run Tryd.prog v = .ok (.agg #[.int .i64 i.op, .int .i64 i.sz, .int .i64 i.cd, .int .i64 i.to.k, .int .i64 i.to.r, .int .i64 i.to.b, .int .i64 i.to.x, .int .i64 i.to.s, .bool i.to.rip, .bool i.to.fs, .int .i64 i.to.n, .string i.to.nm, .int .i64 i.to.m, .int .i64 i.fr.k, .int .i64 i.fr.r, .int .i64 i.fr.b, .int .i64 i.fr.x, .int .i64 i.fr.s, .bool i.fr.rip, .bool i.fr.fs, .int .i64 i.fr.n, .string i.fr.nm, .int .i64 i.fr.m, .bool i.sh]) v) := ⟨fun v h => h.whole⟩
  have CNT : Hid (∀ v, Calls Tryd.prog 29 #[.agg #[.int .i64 i.to.k, .int .i64 i.to.r, .int .i64 i.to.b, .int .i64 i.to.x, .int .i64 i.to.s, .bool i.to.rip, .bool i.to.fs, .int .i64 i.to.n, .string i.to.nm, .int .i64 i.to.m]] v fun e w' => e = .returned (.bool (noneB i.to)) ∧ Below v.heap.size v w') := ⟨fun v => refNone_any i.to v⟩
  have CNF : Hid (∀ v, Calls Tryd.prog 29 #[.agg #[.int .i64 i.fr.k, .int .i64 i.fr.r, .int .i64 i.fr.b, .int .i64 i.fr.x, .int .i64 i.fr.s, .bool i.fr.rip, .bool i.fr.fs, .int .i64 i.fr.n, .string i.fr.nm, .int .i64 i.fr.m]] v fun e w' => e = .returned (.bool (noneB i.fr)) ∧ Below v.heap.size v w') := ⟨fun v => refNone_any i.fr v⟩
  have e22 : (i.op == 22) = false := by rw [hop]; rfl
  have e23 : (i.op == 23) = false := by rw [hop]; rfl
  have e24 : (i.op == 24) = false := by rw [hop]; rfl
  have e1 : (i.op == 1) = false := by rw [hop]; rfl
  have e3 : (i.op == 3) = false := by rw [hop]; rfl
  have e4 : (i.op == 4) = false := by rw [hop]; rfl
  have e5 : (i.op == 5) = false := by rw [hop]; rfl
  have e6 : (i.op == 6) = false := by rw [hop]; rfl
  have e7 : (i.op == 7) = false := by rw [hop]; rfl
  have e8 : (i.op == 8) = false := by rw [hop]; rfl
  have e9 : (i.op == 9) = false := by rw [hop]; rfl
  have e10 : (i.op == 10) = false := by rw [hop]; rfl
  have e11 : (i.op == 11) = false := by rw [hop]; rfl
  have e2 : (i.op == 2) = false := by rw [hop]; rfl
  have e12 : (i.op == 12) = false := by rw [hop]; rfl
  have e28 : (i.op == 28) = false := by rw [hop]; rfl
  have e29 : (i.op == 29) = false := by rw [hop]; rfl
  have e30 : (i.op == 30) = false := by rw [hop]; rfl
  have e13 : (i.op == 13) = false := by rw [hop]; rfl
  have e14 : (i.op == 14) = false := by rw [hop]; rfl
  have e15 : (i.op == 15) = false := by rw [hop]; rfl
  have e16 : (i.op == 16) = false := by rw [hop]; rfl
  have e27 : (i.op == 27) = false := by rw [hop]; rfl
  have e17 : (i.op == 17) = false := by rw [hop]; rfl
  have e18 : (i.op == 18) = false := by rw [hop]; rfl
  have e19 : (i.op == 19) = false := by rw [hop]; rfl
  have e20 : (i.op == 20) = false := by rw [hop]; rfl
  have e21 : (i.op == 21) = false := by rw [hop]; rfl
  have e31 : (i.op == 31) = false := by rw [hop]; rfl
  generalize (noneB i.to) = b at *
  generalize (noneB i.fr) = g at *
  unfold I.val
  clear h hop
  rcases b with _ | _
  all_goals
    have AX : True := trivial
    go_enter Tryd.func37, Tryd.ntmps37
    go_wp2_with (first
      | (go_at_call_of 29 (Value.agg #[Value.int IntKind.i64 i.to.k, Value.int IntKind.i64 i.to.r, Value.int IntKind.i64 i.to.b, Value.int IntKind.i64 i.to.x, Value.int IntKind.i64 i.to.s, Value.bool i.to.rip, Value.bool i.to.fs, Value.int IntKind.i64 i.to.n, Value.string i.to.nm, Value.int IntKind.i64 i.to.m]); refine (CNT.out _).mono ?_; rintro e wx ⟨rfl, hbx⟩; (first | (have AY : Hid (IA wx w.heap.size i ∧ Below w.heap.size w wx) := ⟨AX.out.1.bel hbx, bel_trans AX.out.2 hbx⟩) | (have AY : Hid (IA wx w.heap.size i ∧ Below w.heap.size w wx) := ⟨(IA.new w i 25).bel hbx, bel_trans (bel_alloc (Below.refl _ _) _) hbx⟩)); clear hbx; (try clear p0 p1 p2 p3 p4 p5 p6 p7 p8 p9 p10 p11 p12 p13 p14 p15 p16 p17 p18 p19 p20 p21 p22 p23); (try clear AX); have AX := AY; clear AY; obtain ⟨p0, p1, p2, p3, p4, p5, p6, p7, p8, p9, p10, p11, p12, p13, p14, p15, p16, p17, p18, p19, p20, p21, p22, p23⟩ := AX.out.1)
      | (go_at_call_of 29 (Value.agg #[Value.int IntKind.i64 i.fr.k, Value.int IntKind.i64 i.fr.r, Value.int IntKind.i64 i.fr.b, Value.int IntKind.i64 i.fr.x, Value.int IntKind.i64 i.fr.s, Value.bool i.fr.rip, Value.bool i.fr.fs, Value.int IntKind.i64 i.fr.n, Value.string i.fr.nm, Value.int IntKind.i64 i.fr.m]); refine (CNF.out _).mono ?_; rintro e wx ⟨rfl, hbx⟩; (first | (have AY : Hid (IA wx w.heap.size i ∧ Below w.heap.size w wx) := ⟨AX.out.1.bel hbx, bel_trans AX.out.2 hbx⟩) | (have AY : Hid (IA wx w.heap.size i ∧ Below w.heap.size w wx) := ⟨(IA.new w i 25).bel hbx, bel_trans (bel_alloc (Below.refl _ _) _) hbx⟩)); clear hbx; (try clear p0 p1 p2 p3 p4 p5 p6 p7 p8 p9 p10 p11 p12 p13 p14 p15 p16 p17 p18 p19 p20 p21 p22 p23); (try clear AX); have AX := AY; clear AY; obtain ⟨p0, p1, p2, p3, p4, p5, p6, p7, p8, p9, p10, p11, p12, p13, p14, p15, p16, p17, p18, p19, p20, p21, p22, p23⟩ := AX.out.1))
    go_ret
    exact ⟨rfl, AX.out.2⟩

set_option maxHeartbeats 2000000 in
theorem opn_34 (i : I) (w : World) (h : NB i) (hop : i.op = 34) :
    Calls Tryd.prog 37 #[i.val] w fun e w' => e = .returned (.bool (noneB i.to && noneB i.fr)) ∧ Below w.heap.size w w' := by
  have L0 : Hid (∀ v, IA v w.heap.size i → (loadVar 25 ⟨w.heap.size, 0, none⟩).run Tryd.prog v = .ok (.agg #[.int .i64 i.op, .int .i64 i.sz, .int .i64 i.cd, .int .i64 i.to.k, .int .i64 i.to.r, .int .i64 i.to.b, .int .i64 i.to.x, .int .i64 i.to.s, .bool i.to.rip, .bool i.to.fs, .int .i64 i.to.n, .string i.to.nm, .int .i64 i.to.m, .int .i64 i.fr.k, .int .i64 i.fr.r, .int .i64 i.fr.b, .int .i64 i.fr.x, .int .i64 i.fr.s, .bool i.fr.rip, .bool i.fr.fs, .int .i64 i.fr.n, .string i.fr.nm, .int .i64 i.fr.m, .bool i.sh]) v) := ⟨fun v h => h.whole⟩
  have CNT : Hid (∀ v, Calls Tryd.prog 29 #[.agg #[.int .i64 i.to.k, .int .i64 i.to.r, .int .i64 i.to.b, .int .i64 i.to.x, .int .i64 i.to.s, .bool i.to.rip, .bool i.to.fs, .int .i64 i.to.n, .string i.to.nm, .int .i64 i.to.m]] v fun e w' => e = .returned (.bool (noneB i.to)) ∧ Below v.heap.size v w') := ⟨fun v => refNone_any i.to v⟩
  have CNF : Hid (∀ v, Calls Tryd.prog 29 #[.agg #[.int .i64 i.fr.k, .int .i64 i.fr.r, .int .i64 i.fr.b, .int .i64 i.fr.x, .int .i64 i.fr.s, .bool i.fr.rip, .bool i.fr.fs, .int .i64 i.fr.n, .string i.fr.nm, .int .i64 i.fr.m]] v fun e w' => e = .returned (.bool (noneB i.fr)) ∧ Below v.heap.size v w') := ⟨fun v => refNone_any i.fr v⟩
  have e22 : (i.op == 22) = false := by rw [hop]; rfl
  have e23 : (i.op == 23) = false := by rw [hop]; rfl
  have e24 : (i.op == 24) = false := by rw [hop]; rfl
  have e1 : (i.op == 1) = false := by rw [hop]; rfl
  have e3 : (i.op == 3) = false := by rw [hop]; rfl
  have e4 : (i.op == 4) = false := by rw [hop]; rfl
  have e5 : (i.op == 5) = false := by rw [hop]; rfl
  have e6 : (i.op == 6) = false := by rw [hop]; rfl
  have e7 : (i.op == 7) = false := by rw [hop]; rfl
  have e8 : (i.op == 8) = false := by rw [hop]; rfl
  have e9 : (i.op == 9) = false := by rw [hop]; rfl
  have e10 : (i.op == 10) = false := by rw [hop]; rfl
  have e11 : (i.op == 11) = false := by rw [hop]; rfl
  have e2 : (i.op == 2) = false := by rw [hop]; rfl
  have e12 : (i.op == 12) = false := by rw [hop]; rfl
  have e28 : (i.op == 28) = false := by rw [hop]; rfl
  have e29 : (i.op == 29) = false := by rw [hop]; rfl
  have e30 : (i.op == 30) = false := by rw [hop]; rfl
  have e13 : (i.op == 13) = false := by rw [hop]; rfl
  have e14 : (i.op == 14) = false := by rw [hop]; rfl
  have e15 : (i.op == 15) = false := by rw [hop]; rfl
  have e16 : (i.op == 16) = false := by rw [hop]; rfl
  have e27 : (i.op == 27) = false := by rw [hop]; rfl
  have e17 : (i.op == 17) = false := by rw [hop]; rfl
  have e18 : (i.op == 18) = false := by rw [hop]; rfl
  have e19 : (i.op == 19) = false := by rw [hop]; rfl
  have e20 : (i.op == 20) = false := by rw [hop]; rfl
  have e21 : (i.op == 21) = false := by rw [hop]; rfl
  have e31 : (i.op == 31) = false := by rw [hop]; rfl
  generalize (noneB i.to) = b at *
  generalize (noneB i.fr) = g at *
  unfold I.val
  clear h hop
  rcases b with _ | _
  all_goals
    have AX : True := trivial
    go_enter Tryd.func37, Tryd.ntmps37
    go_wp2_with (first
      | (go_at_call_of 29 (Value.agg #[Value.int IntKind.i64 i.to.k, Value.int IntKind.i64 i.to.r, Value.int IntKind.i64 i.to.b, Value.int IntKind.i64 i.to.x, Value.int IntKind.i64 i.to.s, Value.bool i.to.rip, Value.bool i.to.fs, Value.int IntKind.i64 i.to.n, Value.string i.to.nm, Value.int IntKind.i64 i.to.m]); refine (CNT.out _).mono ?_; rintro e wx ⟨rfl, hbx⟩; (first | (have AY : Hid (IA wx w.heap.size i ∧ Below w.heap.size w wx) := ⟨AX.out.1.bel hbx, bel_trans AX.out.2 hbx⟩) | (have AY : Hid (IA wx w.heap.size i ∧ Below w.heap.size w wx) := ⟨(IA.new w i 25).bel hbx, bel_trans (bel_alloc (Below.refl _ _) _) hbx⟩)); clear hbx; (try clear p0 p1 p2 p3 p4 p5 p6 p7 p8 p9 p10 p11 p12 p13 p14 p15 p16 p17 p18 p19 p20 p21 p22 p23); (try clear AX); have AX := AY; clear AY; obtain ⟨p0, p1, p2, p3, p4, p5, p6, p7, p8, p9, p10, p11, p12, p13, p14, p15, p16, p17, p18, p19, p20, p21, p22, p23⟩ := AX.out.1)
      | (go_at_call_of 29 (Value.agg #[Value.int IntKind.i64 i.fr.k, Value.int IntKind.i64 i.fr.r, Value.int IntKind.i64 i.fr.b, Value.int IntKind.i64 i.fr.x, Value.int IntKind.i64 i.fr.s, Value.bool i.fr.rip, Value.bool i.fr.fs, Value.int IntKind.i64 i.fr.n, Value.string i.fr.nm, Value.int IntKind.i64 i.fr.m]); refine (CNF.out _).mono ?_; rintro e wx ⟨rfl, hbx⟩; (first | (have AY : Hid (IA wx w.heap.size i ∧ Below w.heap.size w wx) := ⟨AX.out.1.bel hbx, bel_trans AX.out.2 hbx⟩) | (have AY : Hid (IA wx w.heap.size i ∧ Below w.heap.size w wx) := ⟨(IA.new w i 25).bel hbx, bel_trans (bel_alloc (Below.refl _ _) _) hbx⟩)); clear hbx; (try clear p0 p1 p2 p3 p4 p5 p6 p7 p8 p9 p10 p11 p12 p13 p14 p15 p16 p17 p18 p19 p20 p21 p22 p23); (try clear AX); have AX := AY; clear AY; obtain ⟨p0, p1, p2, p3, p4, p5, p6, p7, p8, p9, p10, p11, p12, p13, p14, p15, p16, p17, p18, p19, p20, p21, p22, p23⟩ := AX.out.1))
    go_ret
    exact ⟨rfl, AX.out.2⟩

set_option maxHeartbeats 2000000 in
theorem opn_35 (i : I) (w : World) (h : NB i) (hop : i.op = 35) :
    Calls Tryd.prog 37 #[i.val] w fun e w' => e = .returned (.bool (noneB i.to && noneB i.fr)) ∧ Below w.heap.size w w' := by
  have L0 : Hid (∀ v, IA v w.heap.size i → (loadVar 25 ⟨w.heap.size, 0, none⟩).run Tryd.prog v = .ok (.agg #[.int .i64 i.op, .int .i64 i.sz, .int .i64 i.cd, .int .i64 i.to.k, .int .i64 i.to.r, .int .i64 i.to.b, .int .i64 i.to.x, .int .i64 i.to.s, .bool i.to.rip, .bool i.to.fs, .int .i64 i.to.n, .string i.to.nm, .int .i64 i.to.m, .int .i64 i.fr.k, .int .i64 i.fr.r, .int .i64 i.fr.b, .int .i64 i.fr.x, .int .i64 i.fr.s, .bool i.fr.rip, .bool i.fr.fs, .int .i64 i.fr.n, .string i.fr.nm, .int .i64 i.fr.m, .bool i.sh]) v) := ⟨fun v h => h.whole⟩
  have CNT : Hid (∀ v, Calls Tryd.prog 29 #[.agg #[.int .i64 i.to.k, .int .i64 i.to.r, .int .i64 i.to.b, .int .i64 i.to.x, .int .i64 i.to.s, .bool i.to.rip, .bool i.to.fs, .int .i64 i.to.n, .string i.to.nm, .int .i64 i.to.m]] v fun e w' => e = .returned (.bool (noneB i.to)) ∧ Below v.heap.size v w') := ⟨fun v => refNone_any i.to v⟩
  have CNF : Hid (∀ v, Calls Tryd.prog 29 #[.agg #[.int .i64 i.fr.k, .int .i64 i.fr.r, .int .i64 i.fr.b, .int .i64 i.fr.x, .int .i64 i.fr.s, .bool i.fr.rip, .bool i.fr.fs, .int .i64 i.fr.n, .string i.fr.nm, .int .i64 i.fr.m]] v fun e w' => e = .returned (.bool (noneB i.fr)) ∧ Below v.heap.size v w') := ⟨fun v => refNone_any i.fr v⟩
  have e22 : (i.op == 22) = false := by rw [hop]; rfl
  have e23 : (i.op == 23) = false := by rw [hop]; rfl
  have e24 : (i.op == 24) = false := by rw [hop]; rfl
  have e1 : (i.op == 1) = false := by rw [hop]; rfl
  have e3 : (i.op == 3) = false := by rw [hop]; rfl
  have e4 : (i.op == 4) = false := by rw [hop]; rfl
  have e5 : (i.op == 5) = false := by rw [hop]; rfl
  have e6 : (i.op == 6) = false := by rw [hop]; rfl
  have e7 : (i.op == 7) = false := by rw [hop]; rfl
  have e8 : (i.op == 8) = false := by rw [hop]; rfl
  have e9 : (i.op == 9) = false := by rw [hop]; rfl
  have e10 : (i.op == 10) = false := by rw [hop]; rfl
  have e11 : (i.op == 11) = false := by rw [hop]; rfl
  have e2 : (i.op == 2) = false := by rw [hop]; rfl
  have e12 : (i.op == 12) = false := by rw [hop]; rfl
  have e28 : (i.op == 28) = false := by rw [hop]; rfl
  have e29 : (i.op == 29) = false := by rw [hop]; rfl
  have e30 : (i.op == 30) = false := by rw [hop]; rfl
  have e13 : (i.op == 13) = false := by rw [hop]; rfl
  have e14 : (i.op == 14) = false := by rw [hop]; rfl
  have e15 : (i.op == 15) = false := by rw [hop]; rfl
  have e16 : (i.op == 16) = false := by rw [hop]; rfl
  have e27 : (i.op == 27) = false := by rw [hop]; rfl
  have e17 : (i.op == 17) = false := by rw [hop]; rfl
  have e18 : (i.op == 18) = false := by rw [hop]; rfl
  have e19 : (i.op == 19) = false := by rw [hop]; rfl
  have e20 : (i.op == 20) = false := by rw [hop]; rfl
  have e21 : (i.op == 21) = false := by rw [hop]; rfl
  have e31 : (i.op == 31) = false := by rw [hop]; rfl
  generalize (noneB i.to) = b at *
  generalize (noneB i.fr) = g at *
  unfold I.val
  clear h hop
  rcases b with _ | _
  all_goals
    have AX : True := trivial
    go_enter Tryd.func37, Tryd.ntmps37
    go_wp2_with (first
      | (go_at_call_of 29 (Value.agg #[Value.int IntKind.i64 i.to.k, Value.int IntKind.i64 i.to.r, Value.int IntKind.i64 i.to.b, Value.int IntKind.i64 i.to.x, Value.int IntKind.i64 i.to.s, Value.bool i.to.rip, Value.bool i.to.fs, Value.int IntKind.i64 i.to.n, Value.string i.to.nm, Value.int IntKind.i64 i.to.m]); refine (CNT.out _).mono ?_; rintro e wx ⟨rfl, hbx⟩; (first | (have AY : Hid (IA wx w.heap.size i ∧ Below w.heap.size w wx) := ⟨AX.out.1.bel hbx, bel_trans AX.out.2 hbx⟩) | (have AY : Hid (IA wx w.heap.size i ∧ Below w.heap.size w wx) := ⟨(IA.new w i 25).bel hbx, bel_trans (bel_alloc (Below.refl _ _) _) hbx⟩)); clear hbx; (try clear p0 p1 p2 p3 p4 p5 p6 p7 p8 p9 p10 p11 p12 p13 p14 p15 p16 p17 p18 p19 p20 p21 p22 p23); (try clear AX); have AX := AY; clear AY; obtain ⟨p0, p1, p2, p3, p4, p5, p6, p7, p8, p9, p10, p11, p12, p13, p14, p15, p16, p17, p18, p19, p20, p21, p22, p23⟩ := AX.out.1)
      | (go_at_call_of 29 (Value.agg #[Value.int IntKind.i64 i.fr.k, Value.int IntKind.i64 i.fr.r, Value.int IntKind.i64 i.fr.b, Value.int IntKind.i64 i.fr.x, Value.int IntKind.i64 i.fr.s, Value.bool i.fr.rip, Value.bool i.fr.fs, Value.int IntKind.i64 i.fr.n, Value.string i.fr.nm, Value.int IntKind.i64 i.fr.m]); refine (CNF.out _).mono ?_; rintro e wx ⟨rfl, hbx⟩; (first | (have AY : Hid (IA wx w.heap.size i ∧ Below w.heap.size w wx) := ⟨AX.out.1.bel hbx, bel_trans AX.out.2 hbx⟩) | (have AY : Hid (IA wx w.heap.size i ∧ Below w.heap.size w wx) := ⟨(IA.new w i 25).bel hbx, bel_trans (bel_alloc (Below.refl _ _) _) hbx⟩)); clear hbx; (try clear p0 p1 p2 p3 p4 p5 p6 p7 p8 p9 p10 p11 p12 p13 p14 p15 p16 p17 p18 p19 p20 p21 p22 p23); (try clear AX); have AX := AY; clear AY; obtain ⟨p0, p1, p2, p3, p4, p5, p6, p7, p8, p9, p10, p11, p12, p13, p14, p15, p16, p17, p18, p19, p20, p21, p22, p23⟩ := AX.out.1))
    go_ret
    exact ⟨rfl, AX.out.2⟩

end Go.Proofs.YtdgejingoamfeaaDoor
