/- The document's operands, op by op: jumps, sums, shifts. -/
import Derived.Test.YtdgejingoamfeaaDoorRefJumps
import Derived.Test.YtdgejingoamfeaaDoorWhole
import Derived.Deep.RegionWith
import Derived.Test.YtdgejingoamfeaaDoorRefShift
namespace Go.Proofs.YtdgejingoamfeaaDoor
open Go.ChangeShapes Go.WideShapes Go.ChangeAt Go.RowKit
set_option linter.unusedVariables false

set_option maxHeartbeats 2000000 in
set_option maxRecDepth 4000 in
theorem opn_1 (i : I) (w : World) (h : NB i) (hop : i.op = 1) :
    Calls Tryd.prog 37 #[i.val] w fun e w' => e = .returned (.bool (sumRB i || ((i.sz == 8 && regB i.to) && immB i.fr))) ∧ Below w.heap.size w w' := by
  have L0 : Hid (∀ v, IA v w.heap.size i → (loadVar 25 ⟨w.heap.size, 0, none⟩).run Tryd.prog v = .ok (.agg #[.int .i64 i.op, .int .i64 i.sz, .int .i64 i.cd, .int .i64 i.to.k, .int .i64 i.to.r, .int .i64 i.to.b, .int .i64 i.to.x, .int .i64 i.to.s, .bool i.to.rip, .bool i.to.fs, .int .i64 i.to.n, .string i.to.nm, .int .i64 i.to.m, .int .i64 i.fr.k, .int .i64 i.fr.r, .int .i64 i.fr.b, .int .i64 i.fr.x, .int .i64 i.fr.s, .bool i.fr.rip, .bool i.fr.fs, .int .i64 i.fr.n, .string i.fr.nm, .int .i64 i.fr.m, .bool i.sh]) v) := ⟨fun v h => h.whole⟩
  have CU : Hid (∀ v, Calls Tryd.prog 61 #[.agg #[.int .i64 i.op, .int .i64 i.sz, .int .i64 i.cd, .int .i64 i.to.k, .int .i64 i.to.r, .int .i64 i.to.b, .int .i64 i.to.x, .int .i64 i.to.s, .bool i.to.rip, .bool i.to.fs, .int .i64 i.to.n, .string i.to.nm, .int .i64 i.to.m, .int .i64 i.fr.k, .int .i64 i.fr.r, .int .i64 i.fr.b, .int .i64 i.fr.x, .int .i64 i.fr.s, .bool i.fr.rip, .bool i.fr.fs, .int .i64 i.fr.n, .string i.fr.nm, .int .i64 i.fr.m, .bool i.sh]] v fun e w' => e = .returned (.bool (sumRB i)) ∧ Below v.heap.size v w') := ⟨fun v => refSum_any i v h⟩
  have CRT : Hid (∀ v, Calls Tryd.prog 62 #[.agg #[.int .i64 i.to.k, .int .i64 i.to.r, .int .i64 i.to.b, .int .i64 i.to.x, .int .i64 i.to.s, .bool i.to.rip, .bool i.to.fs, .int .i64 i.to.n, .string i.to.nm, .int .i64 i.to.m]] v fun e w' => e = .returned (.bool (regB i.to)) ∧ Below v.heap.size v w') := ⟨fun v => refReg_any i.to v⟩
  have CIF : Hid (∀ v, Calls Tryd.prog 63 #[.agg #[.int .i64 i.fr.k, .int .i64 i.fr.r, .int .i64 i.fr.b, .int .i64 i.fr.x, .int .i64 i.fr.s, .bool i.fr.rip, .bool i.fr.fs, .int .i64 i.fr.n, .string i.fr.nm, .int .i64 i.fr.m]] v fun e w' => e = .returned (.bool (immB i.fr)) ∧ Below v.heap.size v w') := ⟨fun v => refImm_any i.fr v⟩
  have e22 : (i.op == 22) = false := by rw [hop]; rfl
  have e23 : (i.op == 23) = false := by rw [hop]; rfl
  have e24 : (i.op == 24) = false := by rw [hop]; rfl
  have e1 : (i.op == 1) = true := by rw [hop]; rfl
  obtain ⟨q, hq⟩ : ∃ x, (i.sz == 8) = x := ⟨_, rfl⟩
  rw [hq]
  generalize (sumRB i) = a at *
  generalize (regB i.to) = b at *
  generalize (immB i.fr) = d at *
  unfold I.val
  clear h hop
  rcases a with _ | _
  case' false => rcases q with _ | _
  case' false.true => rcases b with _ | _
  all_goals
    have AX : True := trivial
    have tl : True := trivial
    go_enter Tryd.func37, Tryd.ntmps37
    go_wp2_with (first
      | (clear tl; refine wpList_load_of (t := 25) rfl (by kernel_rfl) (by kernel_rfl) (L0.out _ (IA.new w i 25)) ?_)
      | (go_at_call 61; refine (CU.out _).mono ?_; rintro e wx ⟨rfl, hbx⟩; (first | (have AY : Hid (IA wx w.heap.size i ∧ Below w.heap.size w wx) := ⟨AX.out.1.bel hbx, bel_trans AX.out.2 hbx⟩) | (have AY : Hid (IA wx w.heap.size i ∧ Below w.heap.size w wx) := ⟨(IA.new w i 25).bel hbx, bel_trans (bel_alloc (Below.refl _ _) _) hbx⟩)); clear hbx; (try clear p0 p1 p2 p3 p4 p5 p6 p7 p8 p9 p10 p11 p12 p13 p14 p15 p16 p17 p18 p19 p20 p21 p22 p23); (try clear AX); have AX := AY; clear AY; obtain ⟨p0, p1, p2, p3, p4, p5, p6, p7, p8, p9, p10, p11, p12, p13, p14, p15, p16, p17, p18, p19, p20, p21, p22, p23⟩ := AX.out.1)
      | (go_at_call 62; refine (CRT.out _).mono ?_; rintro e wx ⟨rfl, hbx⟩; (first | (have AY : Hid (IA wx w.heap.size i ∧ Below w.heap.size w wx) := ⟨AX.out.1.bel hbx, bel_trans AX.out.2 hbx⟩) | (have AY : Hid (IA wx w.heap.size i ∧ Below w.heap.size w wx) := ⟨(IA.new w i 25).bel hbx, bel_trans (bel_alloc (Below.refl _ _) _) hbx⟩)); clear hbx; (try clear p0 p1 p2 p3 p4 p5 p6 p7 p8 p9 p10 p11 p12 p13 p14 p15 p16 p17 p18 p19 p20 p21 p22 p23); (try clear AX); have AX := AY; clear AY; obtain ⟨p0, p1, p2, p3, p4, p5, p6, p7, p8, p9, p10, p11, p12, p13, p14, p15, p16, p17, p18, p19, p20, p21, p22, p23⟩ := AX.out.1)
      | (go_at_call 63; refine (CIF.out _).mono ?_; rintro e wx ⟨rfl, hbx⟩; (first | (have AY : Hid (IA wx w.heap.size i ∧ Below w.heap.size w wx) := ⟨AX.out.1.bel hbx, bel_trans AX.out.2 hbx⟩) | (have AY : Hid (IA wx w.heap.size i ∧ Below w.heap.size w wx) := ⟨(IA.new w i 25).bel hbx, bel_trans (bel_alloc (Below.refl _ _) _) hbx⟩)); clear hbx; (try clear p0 p1 p2 p3 p4 p5 p6 p7 p8 p9 p10 p11 p12 p13 p14 p15 p16 p17 p18 p19 p20 p21 p22 p23); (try clear AX); have AX := AY; clear AY; obtain ⟨p0, p1, p2, p3, p4, p5, p6, p7, p8, p9, p10, p11, p12, p13, p14, p15, p16, p17, p18, p19, p20, p21, p22, p23⟩ := AX.out.1))
    go_ret
    exact ⟨ret_bool (by first | rfl | (simp; done)), AX.out.2⟩

set_option maxHeartbeats 2000000 in
set_option maxRecDepth 4000 in
theorem opn_3 (i : I) (w : World) (h : NB i) (hop : i.op = 3) :
    Calls Tryd.prog 37 #[i.val] w fun e w' => e = .returned (.bool (sumRB i)) ∧ Below w.heap.size w w' := by
  have L0 : Hid (∀ v, IA v w.heap.size i → (loadVar 25 ⟨w.heap.size, 0, none⟩).run Tryd.prog v = .ok (.agg #[.int .i64 i.op, .int .i64 i.sz, .int .i64 i.cd, .int .i64 i.to.k, .int .i64 i.to.r, .int .i64 i.to.b, .int .i64 i.to.x, .int .i64 i.to.s, .bool i.to.rip, .bool i.to.fs, .int .i64 i.to.n, .string i.to.nm, .int .i64 i.to.m, .int .i64 i.fr.k, .int .i64 i.fr.r, .int .i64 i.fr.b, .int .i64 i.fr.x, .int .i64 i.fr.s, .bool i.fr.rip, .bool i.fr.fs, .int .i64 i.fr.n, .string i.fr.nm, .int .i64 i.fr.m, .bool i.sh]) v) := ⟨fun v h => h.whole⟩
  have CU : Hid (∀ v, Calls Tryd.prog 61 #[.agg #[.int .i64 i.op, .int .i64 i.sz, .int .i64 i.cd, .int .i64 i.to.k, .int .i64 i.to.r, .int .i64 i.to.b, .int .i64 i.to.x, .int .i64 i.to.s, .bool i.to.rip, .bool i.to.fs, .int .i64 i.to.n, .string i.to.nm, .int .i64 i.to.m, .int .i64 i.fr.k, .int .i64 i.fr.r, .int .i64 i.fr.b, .int .i64 i.fr.x, .int .i64 i.fr.s, .bool i.fr.rip, .bool i.fr.fs, .int .i64 i.fr.n, .string i.fr.nm, .int .i64 i.fr.m, .bool i.sh]] v fun e w' => e = .returned (.bool (sumRB i)) ∧ Below v.heap.size v w') := ⟨fun v => refSum_any i v h⟩
  have e22 : (i.op == 22) = false := by rw [hop]; rfl
  have e23 : (i.op == 23) = false := by rw [hop]; rfl
  have e24 : (i.op == 24) = false := by rw [hop]; rfl
  have e1 : (i.op == 1) = false := by rw [hop]; rfl
  have e3 : (i.op == 3) = true := by rw [hop]; rfl
  generalize (sumRB i) = a at *
  unfold I.val
  clear h hop
  all_goals
    have AX : True := trivial
    have tl : True := trivial
    go_enter Tryd.func37, Tryd.ntmps37
    go_wp2_with (first
      | (clear tl; refine wpList_load_of (t := 25) rfl (by kernel_rfl) (by kernel_rfl) (L0.out _ (IA.new w i 25)) ?_)
      | (go_at_call 61; refine (CU.out _).mono ?_; rintro e wx ⟨rfl, hbx⟩; (first | (have AY : Hid (IA wx w.heap.size i ∧ Below w.heap.size w wx) := ⟨AX.out.1.bel hbx, bel_trans AX.out.2 hbx⟩) | (have AY : Hid (IA wx w.heap.size i ∧ Below w.heap.size w wx) := ⟨(IA.new w i 25).bel hbx, bel_trans (bel_alloc (Below.refl _ _) _) hbx⟩)); clear hbx; (try clear p0 p1 p2 p3 p4 p5 p6 p7 p8 p9 p10 p11 p12 p13 p14 p15 p16 p17 p18 p19 p20 p21 p22 p23); (try clear AX); have AX := AY; clear AY; obtain ⟨p0, p1, p2, p3, p4, p5, p6, p7, p8, p9, p10, p11, p12, p13, p14, p15, p16, p17, p18, p19, p20, p21, p22, p23⟩ := AX.out.1))
    go_ret
    exact ⟨ret_bool (by first | rfl | (simp; done)), AX.out.2⟩

set_option maxHeartbeats 2000000 in
set_option maxRecDepth 4000 in
theorem opn_4 (i : I) (w : World) (h : NB i) (hop : i.op = 4) :
    Calls Tryd.prog 37 #[i.val] w fun e w' => e = .returned (.bool (sumRB i)) ∧ Below w.heap.size w w' := by
  have L0 : Hid (∀ v, IA v w.heap.size i → (loadVar 25 ⟨w.heap.size, 0, none⟩).run Tryd.prog v = .ok (.agg #[.int .i64 i.op, .int .i64 i.sz, .int .i64 i.cd, .int .i64 i.to.k, .int .i64 i.to.r, .int .i64 i.to.b, .int .i64 i.to.x, .int .i64 i.to.s, .bool i.to.rip, .bool i.to.fs, .int .i64 i.to.n, .string i.to.nm, .int .i64 i.to.m, .int .i64 i.fr.k, .int .i64 i.fr.r, .int .i64 i.fr.b, .int .i64 i.fr.x, .int .i64 i.fr.s, .bool i.fr.rip, .bool i.fr.fs, .int .i64 i.fr.n, .string i.fr.nm, .int .i64 i.fr.m, .bool i.sh]) v) := ⟨fun v h => h.whole⟩
  have CU : Hid (∀ v, Calls Tryd.prog 61 #[.agg #[.int .i64 i.op, .int .i64 i.sz, .int .i64 i.cd, .int .i64 i.to.k, .int .i64 i.to.r, .int .i64 i.to.b, .int .i64 i.to.x, .int .i64 i.to.s, .bool i.to.rip, .bool i.to.fs, .int .i64 i.to.n, .string i.to.nm, .int .i64 i.to.m, .int .i64 i.fr.k, .int .i64 i.fr.r, .int .i64 i.fr.b, .int .i64 i.fr.x, .int .i64 i.fr.s, .bool i.fr.rip, .bool i.fr.fs, .int .i64 i.fr.n, .string i.fr.nm, .int .i64 i.fr.m, .bool i.sh]] v fun e w' => e = .returned (.bool (sumRB i)) ∧ Below v.heap.size v w') := ⟨fun v => refSum_any i v h⟩
  have e22 : (i.op == 22) = false := by rw [hop]; rfl
  have e23 : (i.op == 23) = false := by rw [hop]; rfl
  have e24 : (i.op == 24) = false := by rw [hop]; rfl
  have e1 : (i.op == 1) = false := by rw [hop]; rfl
  have e3 : (i.op == 3) = false := by rw [hop]; rfl
  have e4 : (i.op == 4) = true := by rw [hop]; rfl
  generalize (sumRB i) = a at *
  unfold I.val
  clear h hop
  all_goals
    have AX : True := trivial
    have tl : True := trivial
    go_enter Tryd.func37, Tryd.ntmps37
    go_wp2_with (first
      | (clear tl; refine wpList_load_of (t := 25) rfl (by kernel_rfl) (by kernel_rfl) (L0.out _ (IA.new w i 25)) ?_)
      | (go_at_call 61; refine (CU.out _).mono ?_; rintro e wx ⟨rfl, hbx⟩; (first | (have AY : Hid (IA wx w.heap.size i ∧ Below w.heap.size w wx) := ⟨AX.out.1.bel hbx, bel_trans AX.out.2 hbx⟩) | (have AY : Hid (IA wx w.heap.size i ∧ Below w.heap.size w wx) := ⟨(IA.new w i 25).bel hbx, bel_trans (bel_alloc (Below.refl _ _) _) hbx⟩)); clear hbx; (try clear p0 p1 p2 p3 p4 p5 p6 p7 p8 p9 p10 p11 p12 p13 p14 p15 p16 p17 p18 p19 p20 p21 p22 p23); (try clear AX); have AX := AY; clear AY; obtain ⟨p0, p1, p2, p3, p4, p5, p6, p7, p8, p9, p10, p11, p12, p13, p14, p15, p16, p17, p18, p19, p20, p21, p22, p23⟩ := AX.out.1))
    go_ret
    exact ⟨ret_bool (by first | rfl | (simp; done)), AX.out.2⟩

set_option maxHeartbeats 2000000 in
set_option maxRecDepth 4000 in
theorem opn_5 (i : I) (w : World) (h : NB i) (hop : i.op = 5) :
    Calls Tryd.prog 37 #[i.val] w fun e w' => e = .returned (.bool (sumRB i)) ∧ Below w.heap.size w w' := by
  have L0 : Hid (∀ v, IA v w.heap.size i → (loadVar 25 ⟨w.heap.size, 0, none⟩).run Tryd.prog v = .ok (.agg #[.int .i64 i.op, .int .i64 i.sz, .int .i64 i.cd, .int .i64 i.to.k, .int .i64 i.to.r, .int .i64 i.to.b, .int .i64 i.to.x, .int .i64 i.to.s, .bool i.to.rip, .bool i.to.fs, .int .i64 i.to.n, .string i.to.nm, .int .i64 i.to.m, .int .i64 i.fr.k, .int .i64 i.fr.r, .int .i64 i.fr.b, .int .i64 i.fr.x, .int .i64 i.fr.s, .bool i.fr.rip, .bool i.fr.fs, .int .i64 i.fr.n, .string i.fr.nm, .int .i64 i.fr.m, .bool i.sh]) v) := ⟨fun v h => h.whole⟩
  have CU : Hid (∀ v, Calls Tryd.prog 61 #[.agg #[.int .i64 i.op, .int .i64 i.sz, .int .i64 i.cd, .int .i64 i.to.k, .int .i64 i.to.r, .int .i64 i.to.b, .int .i64 i.to.x, .int .i64 i.to.s, .bool i.to.rip, .bool i.to.fs, .int .i64 i.to.n, .string i.to.nm, .int .i64 i.to.m, .int .i64 i.fr.k, .int .i64 i.fr.r, .int .i64 i.fr.b, .int .i64 i.fr.x, .int .i64 i.fr.s, .bool i.fr.rip, .bool i.fr.fs, .int .i64 i.fr.n, .string i.fr.nm, .int .i64 i.fr.m, .bool i.sh]] v fun e w' => e = .returned (.bool (sumRB i)) ∧ Below v.heap.size v w') := ⟨fun v => refSum_any i v h⟩
  have e22 : (i.op == 22) = false := by rw [hop]; rfl
  have e23 : (i.op == 23) = false := by rw [hop]; rfl
  have e24 : (i.op == 24) = false := by rw [hop]; rfl
  have e1 : (i.op == 1) = false := by rw [hop]; rfl
  have e3 : (i.op == 3) = false := by rw [hop]; rfl
  have e4 : (i.op == 4) = false := by rw [hop]; rfl
  have e5 : (i.op == 5) = true := by rw [hop]; rfl
  generalize (sumRB i) = a at *
  unfold I.val
  clear h hop
  all_goals
    have AX : True := trivial
    have tl : True := trivial
    go_enter Tryd.func37, Tryd.ntmps37
    go_wp2_with (first
      | (clear tl; refine wpList_load_of (t := 25) rfl (by kernel_rfl) (by kernel_rfl) (L0.out _ (IA.new w i 25)) ?_)
      | (go_at_call 61; refine (CU.out _).mono ?_; rintro e wx ⟨rfl, hbx⟩; (first | (have AY : Hid (IA wx w.heap.size i ∧ Below w.heap.size w wx) := ⟨AX.out.1.bel hbx, bel_trans AX.out.2 hbx⟩) | (have AY : Hid (IA wx w.heap.size i ∧ Below w.heap.size w wx) := ⟨(IA.new w i 25).bel hbx, bel_trans (bel_alloc (Below.refl _ _) _) hbx⟩)); clear hbx; (try clear p0 p1 p2 p3 p4 p5 p6 p7 p8 p9 p10 p11 p12 p13 p14 p15 p16 p17 p18 p19 p20 p21 p22 p23); (try clear AX); have AX := AY; clear AY; obtain ⟨p0, p1, p2, p3, p4, p5, p6, p7, p8, p9, p10, p11, p12, p13, p14, p15, p16, p17, p18, p19, p20, p21, p22, p23⟩ := AX.out.1))
    go_ret
    exact ⟨ret_bool (by first | rfl | (simp; done)), AX.out.2⟩

set_option maxHeartbeats 2000000 in
set_option maxRecDepth 4000 in
theorem opn_6 (i : I) (w : World) (h : NB i) (hop : i.op = 6) :
    Calls Tryd.prog 37 #[i.val] w fun e w' => e = .returned (.bool (sumRB i)) ∧ Below w.heap.size w w' := by
  have L0 : Hid (∀ v, IA v w.heap.size i → (loadVar 25 ⟨w.heap.size, 0, none⟩).run Tryd.prog v = .ok (.agg #[.int .i64 i.op, .int .i64 i.sz, .int .i64 i.cd, .int .i64 i.to.k, .int .i64 i.to.r, .int .i64 i.to.b, .int .i64 i.to.x, .int .i64 i.to.s, .bool i.to.rip, .bool i.to.fs, .int .i64 i.to.n, .string i.to.nm, .int .i64 i.to.m, .int .i64 i.fr.k, .int .i64 i.fr.r, .int .i64 i.fr.b, .int .i64 i.fr.x, .int .i64 i.fr.s, .bool i.fr.rip, .bool i.fr.fs, .int .i64 i.fr.n, .string i.fr.nm, .int .i64 i.fr.m, .bool i.sh]) v) := ⟨fun v h => h.whole⟩
  have CU : Hid (∀ v, Calls Tryd.prog 61 #[.agg #[.int .i64 i.op, .int .i64 i.sz, .int .i64 i.cd, .int .i64 i.to.k, .int .i64 i.to.r, .int .i64 i.to.b, .int .i64 i.to.x, .int .i64 i.to.s, .bool i.to.rip, .bool i.to.fs, .int .i64 i.to.n, .string i.to.nm, .int .i64 i.to.m, .int .i64 i.fr.k, .int .i64 i.fr.r, .int .i64 i.fr.b, .int .i64 i.fr.x, .int .i64 i.fr.s, .bool i.fr.rip, .bool i.fr.fs, .int .i64 i.fr.n, .string i.fr.nm, .int .i64 i.fr.m, .bool i.sh]] v fun e w' => e = .returned (.bool (sumRB i)) ∧ Below v.heap.size v w') := ⟨fun v => refSum_any i v h⟩
  have e22 : (i.op == 22) = false := by rw [hop]; rfl
  have e23 : (i.op == 23) = false := by rw [hop]; rfl
  have e24 : (i.op == 24) = false := by rw [hop]; rfl
  have e1 : (i.op == 1) = false := by rw [hop]; rfl
  have e3 : (i.op == 3) = false := by rw [hop]; rfl
  have e4 : (i.op == 4) = false := by rw [hop]; rfl
  have e5 : (i.op == 5) = false := by rw [hop]; rfl
  have e6 : (i.op == 6) = true := by rw [hop]; rfl
  generalize (sumRB i) = a at *
  unfold I.val
  clear h hop
  all_goals
    have AX : True := trivial
    have tl : True := trivial
    go_enter Tryd.func37, Tryd.ntmps37
    go_wp2_with (first
      | (clear tl; refine wpList_load_of (t := 25) rfl (by kernel_rfl) (by kernel_rfl) (L0.out _ (IA.new w i 25)) ?_)
      | (go_at_call 61; refine (CU.out _).mono ?_; rintro e wx ⟨rfl, hbx⟩; (first | (have AY : Hid (IA wx w.heap.size i ∧ Below w.heap.size w wx) := ⟨AX.out.1.bel hbx, bel_trans AX.out.2 hbx⟩) | (have AY : Hid (IA wx w.heap.size i ∧ Below w.heap.size w wx) := ⟨(IA.new w i 25).bel hbx, bel_trans (bel_alloc (Below.refl _ _) _) hbx⟩)); clear hbx; (try clear p0 p1 p2 p3 p4 p5 p6 p7 p8 p9 p10 p11 p12 p13 p14 p15 p16 p17 p18 p19 p20 p21 p22 p23); (try clear AX); have AX := AY; clear AY; obtain ⟨p0, p1, p2, p3, p4, p5, p6, p7, p8, p9, p10, p11, p12, p13, p14, p15, p16, p17, p18, p19, p20, p21, p22, p23⟩ := AX.out.1))
    go_ret
    exact ⟨ret_bool (by first | rfl | (simp; done)), AX.out.2⟩

set_option maxHeartbeats 2000000 in
set_option maxRecDepth 4000 in
theorem opn_7 (i : I) (w : World) (h : NB i) (hop : i.op = 7) :
    Calls Tryd.prog 37 #[i.val] w fun e w' => e = .returned (.bool (sumRB i)) ∧ Below w.heap.size w w' := by
  have L0 : Hid (∀ v, IA v w.heap.size i → (loadVar 25 ⟨w.heap.size, 0, none⟩).run Tryd.prog v = .ok (.agg #[.int .i64 i.op, .int .i64 i.sz, .int .i64 i.cd, .int .i64 i.to.k, .int .i64 i.to.r, .int .i64 i.to.b, .int .i64 i.to.x, .int .i64 i.to.s, .bool i.to.rip, .bool i.to.fs, .int .i64 i.to.n, .string i.to.nm, .int .i64 i.to.m, .int .i64 i.fr.k, .int .i64 i.fr.r, .int .i64 i.fr.b, .int .i64 i.fr.x, .int .i64 i.fr.s, .bool i.fr.rip, .bool i.fr.fs, .int .i64 i.fr.n, .string i.fr.nm, .int .i64 i.fr.m, .bool i.sh]) v) := ⟨fun v h => h.whole⟩
  have CU : Hid (∀ v, Calls Tryd.prog 61 #[.agg #[.int .i64 i.op, .int .i64 i.sz, .int .i64 i.cd, .int .i64 i.to.k, .int .i64 i.to.r, .int .i64 i.to.b, .int .i64 i.to.x, .int .i64 i.to.s, .bool i.to.rip, .bool i.to.fs, .int .i64 i.to.n, .string i.to.nm, .int .i64 i.to.m, .int .i64 i.fr.k, .int .i64 i.fr.r, .int .i64 i.fr.b, .int .i64 i.fr.x, .int .i64 i.fr.s, .bool i.fr.rip, .bool i.fr.fs, .int .i64 i.fr.n, .string i.fr.nm, .int .i64 i.fr.m, .bool i.sh]] v fun e w' => e = .returned (.bool (sumRB i)) ∧ Below v.heap.size v w') := ⟨fun v => refSum_any i v h⟩
  have e22 : (i.op == 22) = false := by rw [hop]; rfl
  have e23 : (i.op == 23) = false := by rw [hop]; rfl
  have e24 : (i.op == 24) = false := by rw [hop]; rfl
  have e1 : (i.op == 1) = false := by rw [hop]; rfl
  have e3 : (i.op == 3) = false := by rw [hop]; rfl
  have e4 : (i.op == 4) = false := by rw [hop]; rfl
  have e5 : (i.op == 5) = false := by rw [hop]; rfl
  have e6 : (i.op == 6) = false := by rw [hop]; rfl
  have e7 : (i.op == 7) = true := by rw [hop]; rfl
  generalize (sumRB i) = a at *
  unfold I.val
  clear h hop
  all_goals
    have AX : True := trivial
    have tl : True := trivial
    go_enter Tryd.func37, Tryd.ntmps37
    go_wp2_with (first
      | (clear tl; refine wpList_load_of (t := 25) rfl (by kernel_rfl) (by kernel_rfl) (L0.out _ (IA.new w i 25)) ?_)
      | (go_at_call 61; refine (CU.out _).mono ?_; rintro e wx ⟨rfl, hbx⟩; (first | (have AY : Hid (IA wx w.heap.size i ∧ Below w.heap.size w wx) := ⟨AX.out.1.bel hbx, bel_trans AX.out.2 hbx⟩) | (have AY : Hid (IA wx w.heap.size i ∧ Below w.heap.size w wx) := ⟨(IA.new w i 25).bel hbx, bel_trans (bel_alloc (Below.refl _ _) _) hbx⟩)); clear hbx; (try clear p0 p1 p2 p3 p4 p5 p6 p7 p8 p9 p10 p11 p12 p13 p14 p15 p16 p17 p18 p19 p20 p21 p22 p23); (try clear AX); have AX := AY; clear AY; obtain ⟨p0, p1, p2, p3, p4, p5, p6, p7, p8, p9, p10, p11, p12, p13, p14, p15, p16, p17, p18, p19, p20, p21, p22, p23⟩ := AX.out.1))
    go_ret
    exact ⟨ret_bool (by first | rfl | (simp; done)), AX.out.2⟩

set_option maxHeartbeats 2000000 in
set_option maxRecDepth 4000 in
theorem opn_8 (i : I) (w : World) (h : NB i) (hop : i.op = 8) :
    Calls Tryd.prog 37 #[i.val] w fun e w' => e = .returned (.bool (sumRB i)) ∧ Below w.heap.size w w' := by
  have L0 : Hid (∀ v, IA v w.heap.size i → (loadVar 25 ⟨w.heap.size, 0, none⟩).run Tryd.prog v = .ok (.agg #[.int .i64 i.op, .int .i64 i.sz, .int .i64 i.cd, .int .i64 i.to.k, .int .i64 i.to.r, .int .i64 i.to.b, .int .i64 i.to.x, .int .i64 i.to.s, .bool i.to.rip, .bool i.to.fs, .int .i64 i.to.n, .string i.to.nm, .int .i64 i.to.m, .int .i64 i.fr.k, .int .i64 i.fr.r, .int .i64 i.fr.b, .int .i64 i.fr.x, .int .i64 i.fr.s, .bool i.fr.rip, .bool i.fr.fs, .int .i64 i.fr.n, .string i.fr.nm, .int .i64 i.fr.m, .bool i.sh]) v) := ⟨fun v h => h.whole⟩
  have CU : Hid (∀ v, Calls Tryd.prog 61 #[.agg #[.int .i64 i.op, .int .i64 i.sz, .int .i64 i.cd, .int .i64 i.to.k, .int .i64 i.to.r, .int .i64 i.to.b, .int .i64 i.to.x, .int .i64 i.to.s, .bool i.to.rip, .bool i.to.fs, .int .i64 i.to.n, .string i.to.nm, .int .i64 i.to.m, .int .i64 i.fr.k, .int .i64 i.fr.r, .int .i64 i.fr.b, .int .i64 i.fr.x, .int .i64 i.fr.s, .bool i.fr.rip, .bool i.fr.fs, .int .i64 i.fr.n, .string i.fr.nm, .int .i64 i.fr.m, .bool i.sh]] v fun e w' => e = .returned (.bool (sumRB i)) ∧ Below v.heap.size v w') := ⟨fun v => refSum_any i v h⟩
  have e22 : (i.op == 22) = false := by rw [hop]; rfl
  have e23 : (i.op == 23) = false := by rw [hop]; rfl
  have e24 : (i.op == 24) = false := by rw [hop]; rfl
  have e1 : (i.op == 1) = false := by rw [hop]; rfl
  have e3 : (i.op == 3) = false := by rw [hop]; rfl
  have e4 : (i.op == 4) = false := by rw [hop]; rfl
  have e5 : (i.op == 5) = false := by rw [hop]; rfl
  have e6 : (i.op == 6) = false := by rw [hop]; rfl
  have e7 : (i.op == 7) = false := by rw [hop]; rfl
  have e8 : (i.op == 8) = true := by rw [hop]; rfl
  generalize (sumRB i) = a at *
  unfold I.val
  clear h hop
  all_goals
    have AX : True := trivial
    have tl : True := trivial
    go_enter Tryd.func37, Tryd.ntmps37
    go_wp2_with (first
      | (clear tl; refine wpList_load_of (t := 25) rfl (by kernel_rfl) (by kernel_rfl) (L0.out _ (IA.new w i 25)) ?_)
      | (go_at_call 61; refine (CU.out _).mono ?_; rintro e wx ⟨rfl, hbx⟩; (first | (have AY : Hid (IA wx w.heap.size i ∧ Below w.heap.size w wx) := ⟨AX.out.1.bel hbx, bel_trans AX.out.2 hbx⟩) | (have AY : Hid (IA wx w.heap.size i ∧ Below w.heap.size w wx) := ⟨(IA.new w i 25).bel hbx, bel_trans (bel_alloc (Below.refl _ _) _) hbx⟩)); clear hbx; (try clear p0 p1 p2 p3 p4 p5 p6 p7 p8 p9 p10 p11 p12 p13 p14 p15 p16 p17 p18 p19 p20 p21 p22 p23); (try clear AX); have AX := AY; clear AY; obtain ⟨p0, p1, p2, p3, p4, p5, p6, p7, p8, p9, p10, p11, p12, p13, p14, p15, p16, p17, p18, p19, p20, p21, p22, p23⟩ := AX.out.1))
    go_ret
    exact ⟨ret_bool (by first | rfl | (simp; done)), AX.out.2⟩

set_option maxHeartbeats 2000000 in
set_option maxRecDepth 4000 in
theorem opn_9 (i : I) (w : World) (h : NB i) (hop : i.op = 9) :
    Calls Tryd.prog 37 #[i.val] w fun e w' => e = .returned (.bool (sumRB i)) ∧ Below w.heap.size w w' := by
  have L0 : Hid (∀ v, IA v w.heap.size i → (loadVar 25 ⟨w.heap.size, 0, none⟩).run Tryd.prog v = .ok (.agg #[.int .i64 i.op, .int .i64 i.sz, .int .i64 i.cd, .int .i64 i.to.k, .int .i64 i.to.r, .int .i64 i.to.b, .int .i64 i.to.x, .int .i64 i.to.s, .bool i.to.rip, .bool i.to.fs, .int .i64 i.to.n, .string i.to.nm, .int .i64 i.to.m, .int .i64 i.fr.k, .int .i64 i.fr.r, .int .i64 i.fr.b, .int .i64 i.fr.x, .int .i64 i.fr.s, .bool i.fr.rip, .bool i.fr.fs, .int .i64 i.fr.n, .string i.fr.nm, .int .i64 i.fr.m, .bool i.sh]) v) := ⟨fun v h => h.whole⟩
  have CU : Hid (∀ v, Calls Tryd.prog 61 #[.agg #[.int .i64 i.op, .int .i64 i.sz, .int .i64 i.cd, .int .i64 i.to.k, .int .i64 i.to.r, .int .i64 i.to.b, .int .i64 i.to.x, .int .i64 i.to.s, .bool i.to.rip, .bool i.to.fs, .int .i64 i.to.n, .string i.to.nm, .int .i64 i.to.m, .int .i64 i.fr.k, .int .i64 i.fr.r, .int .i64 i.fr.b, .int .i64 i.fr.x, .int .i64 i.fr.s, .bool i.fr.rip, .bool i.fr.fs, .int .i64 i.fr.n, .string i.fr.nm, .int .i64 i.fr.m, .bool i.sh]] v fun e w' => e = .returned (.bool (sumRB i)) ∧ Below v.heap.size v w') := ⟨fun v => refSum_any i v h⟩
  have e22 : (i.op == 22) = false := by rw [hop]; rfl
  have e23 : (i.op == 23) = false := by rw [hop]; rfl
  have e24 : (i.op == 24) = false := by rw [hop]; rfl
  have e1 : (i.op == 1) = false := by rw [hop]; rfl
  have e3 : (i.op == 3) = false := by rw [hop]; rfl
  have e4 : (i.op == 4) = false := by rw [hop]; rfl
  have e5 : (i.op == 5) = false := by rw [hop]; rfl
  have e6 : (i.op == 6) = false := by rw [hop]; rfl
  have e7 : (i.op == 7) = false := by rw [hop]; rfl
  have e8 : (i.op == 8) = false := by rw [hop]; rfl
  have e9 : (i.op == 9) = true := by rw [hop]; rfl
  generalize (sumRB i) = a at *
  unfold I.val
  clear h hop
  all_goals
    have AX : True := trivial
    have tl : True := trivial
    go_enter Tryd.func37, Tryd.ntmps37
    go_wp2_with (first
      | (clear tl; refine wpList_load_of (t := 25) rfl (by kernel_rfl) (by kernel_rfl) (L0.out _ (IA.new w i 25)) ?_)
      | (go_at_call 61; refine (CU.out _).mono ?_; rintro e wx ⟨rfl, hbx⟩; (first | (have AY : Hid (IA wx w.heap.size i ∧ Below w.heap.size w wx) := ⟨AX.out.1.bel hbx, bel_trans AX.out.2 hbx⟩) | (have AY : Hid (IA wx w.heap.size i ∧ Below w.heap.size w wx) := ⟨(IA.new w i 25).bel hbx, bel_trans (bel_alloc (Below.refl _ _) _) hbx⟩)); clear hbx; (try clear p0 p1 p2 p3 p4 p5 p6 p7 p8 p9 p10 p11 p12 p13 p14 p15 p16 p17 p18 p19 p20 p21 p22 p23); (try clear AX); have AX := AY; clear AY; obtain ⟨p0, p1, p2, p3, p4, p5, p6, p7, p8, p9, p10, p11, p12, p13, p14, p15, p16, p17, p18, p19, p20, p21, p22, p23⟩ := AX.out.1))
    go_ret
    exact ⟨ret_bool (by first | rfl | (simp; done)), AX.out.2⟩

set_option maxHeartbeats 2000000 in
set_option maxRecDepth 4000 in
theorem opn_10 (i : I) (w : World) (h : NB i) (hop : i.op = 10) :
    Calls Tryd.prog 37 #[i.val] w fun e w' => e = .returned (.bool (sumRB i)) ∧ Below w.heap.size w w' := by
  have L0 : Hid (∀ v, IA v w.heap.size i → (loadVar 25 ⟨w.heap.size, 0, none⟩).run Tryd.prog v = .ok (.agg #[.int .i64 i.op, .int .i64 i.sz, .int .i64 i.cd, .int .i64 i.to.k, .int .i64 i.to.r, .int .i64 i.to.b, .int .i64 i.to.x, .int .i64 i.to.s, .bool i.to.rip, .bool i.to.fs, .int .i64 i.to.n, .string i.to.nm, .int .i64 i.to.m, .int .i64 i.fr.k, .int .i64 i.fr.r, .int .i64 i.fr.b, .int .i64 i.fr.x, .int .i64 i.fr.s, .bool i.fr.rip, .bool i.fr.fs, .int .i64 i.fr.n, .string i.fr.nm, .int .i64 i.fr.m, .bool i.sh]) v) := ⟨fun v h => h.whole⟩
  have CU : Hid (∀ v, Calls Tryd.prog 61 #[.agg #[.int .i64 i.op, .int .i64 i.sz, .int .i64 i.cd, .int .i64 i.to.k, .int .i64 i.to.r, .int .i64 i.to.b, .int .i64 i.to.x, .int .i64 i.to.s, .bool i.to.rip, .bool i.to.fs, .int .i64 i.to.n, .string i.to.nm, .int .i64 i.to.m, .int .i64 i.fr.k, .int .i64 i.fr.r, .int .i64 i.fr.b, .int .i64 i.fr.x, .int .i64 i.fr.s, .bool i.fr.rip, .bool i.fr.fs, .int .i64 i.fr.n, .string i.fr.nm, .int .i64 i.fr.m, .bool i.sh]] v fun e w' => e = .returned (.bool (sumRB i)) ∧ Below v.heap.size v w') := ⟨fun v => refSum_any i v h⟩
  have e22 : (i.op == 22) = false := by rw [hop]; rfl
  have e23 : (i.op == 23) = false := by rw [hop]; rfl
  have e24 : (i.op == 24) = false := by rw [hop]; rfl
  have e1 : (i.op == 1) = false := by rw [hop]; rfl
  have e3 : (i.op == 3) = false := by rw [hop]; rfl
  have e4 : (i.op == 4) = false := by rw [hop]; rfl
  have e5 : (i.op == 5) = false := by rw [hop]; rfl
  have e6 : (i.op == 6) = false := by rw [hop]; rfl
  have e7 : (i.op == 7) = false := by rw [hop]; rfl
  have e8 : (i.op == 8) = false := by rw [hop]; rfl
  have e9 : (i.op == 9) = false := by rw [hop]; rfl
  have e10 : (i.op == 10) = true := by rw [hop]; rfl
  generalize (sumRB i) = a at *
  unfold I.val
  clear h hop
  all_goals
    have AX : True := trivial
    have tl : True := trivial
    go_enter Tryd.func37, Tryd.ntmps37
    go_wp2_with (first
      | (clear tl; refine wpList_load_of (t := 25) rfl (by kernel_rfl) (by kernel_rfl) (L0.out _ (IA.new w i 25)) ?_)
      | (go_at_call 61; refine (CU.out _).mono ?_; rintro e wx ⟨rfl, hbx⟩; (first | (have AY : Hid (IA wx w.heap.size i ∧ Below w.heap.size w wx) := ⟨AX.out.1.bel hbx, bel_trans AX.out.2 hbx⟩) | (have AY : Hid (IA wx w.heap.size i ∧ Below w.heap.size w wx) := ⟨(IA.new w i 25).bel hbx, bel_trans (bel_alloc (Below.refl _ _) _) hbx⟩)); clear hbx; (try clear p0 p1 p2 p3 p4 p5 p6 p7 p8 p9 p10 p11 p12 p13 p14 p15 p16 p17 p18 p19 p20 p21 p22 p23); (try clear AX); have AX := AY; clear AY; obtain ⟨p0, p1, p2, p3, p4, p5, p6, p7, p8, p9, p10, p11, p12, p13, p14, p15, p16, p17, p18, p19, p20, p21, p22, p23⟩ := AX.out.1))
    go_ret
    exact ⟨ret_bool (by first | rfl | (simp; done)), AX.out.2⟩

set_option maxHeartbeats 2000000 in
set_option maxRecDepth 4000 in
theorem opn_11 (i : I) (w : World) (h : NB i) (hop : i.op = 11) :
    Calls Tryd.prog 37 #[i.val] w fun e w' => e = .returned (.bool (sumRB i && i.fr.k != 3)) ∧ Below w.heap.size w w' := by
  have L0 : Hid (∀ v, IA v w.heap.size i → (loadVar 25 ⟨w.heap.size, 0, none⟩).run Tryd.prog v = .ok (.agg #[.int .i64 i.op, .int .i64 i.sz, .int .i64 i.cd, .int .i64 i.to.k, .int .i64 i.to.r, .int .i64 i.to.b, .int .i64 i.to.x, .int .i64 i.to.s, .bool i.to.rip, .bool i.to.fs, .int .i64 i.to.n, .string i.to.nm, .int .i64 i.to.m, .int .i64 i.fr.k, .int .i64 i.fr.r, .int .i64 i.fr.b, .int .i64 i.fr.x, .int .i64 i.fr.s, .bool i.fr.rip, .bool i.fr.fs, .int .i64 i.fr.n, .string i.fr.nm, .int .i64 i.fr.m, .bool i.sh]) v) := ⟨fun v h => h.whole⟩
  have CU : Hid (∀ v, Calls Tryd.prog 61 #[.agg #[.int .i64 i.op, .int .i64 i.sz, .int .i64 i.cd, .int .i64 i.to.k, .int .i64 i.to.r, .int .i64 i.to.b, .int .i64 i.to.x, .int .i64 i.to.s, .bool i.to.rip, .bool i.to.fs, .int .i64 i.to.n, .string i.to.nm, .int .i64 i.to.m, .int .i64 i.fr.k, .int .i64 i.fr.r, .int .i64 i.fr.b, .int .i64 i.fr.x, .int .i64 i.fr.s, .bool i.fr.rip, .bool i.fr.fs, .int .i64 i.fr.n, .string i.fr.nm, .int .i64 i.fr.m, .bool i.sh]] v fun e w' => e = .returned (.bool (sumRB i)) ∧ Below v.heap.size v w') := ⟨fun v => refSum_any i v h⟩
  have e22 : (i.op == 22) = false := by rw [hop]; rfl
  have e23 : (i.op == 23) = false := by rw [hop]; rfl
  have e24 : (i.op == 24) = false := by rw [hop]; rfl
  have e1 : (i.op == 1) = false := by rw [hop]; rfl
  have e3 : (i.op == 3) = false := by rw [hop]; rfl
  have e4 : (i.op == 4) = false := by rw [hop]; rfl
  have e5 : (i.op == 5) = false := by rw [hop]; rfl
  have e6 : (i.op == 6) = false := by rw [hop]; rfl
  have e7 : (i.op == 7) = false := by rw [hop]; rfl
  have e8 : (i.op == 8) = false := by rw [hop]; rfl
  have e9 : (i.op == 9) = false := by rw [hop]; rfl
  have e10 : (i.op == 10) = false := by rw [hop]; rfl
  have e11 : (i.op == 11) = true := by rw [hop]; rfl
  generalize (sumRB i) = a at *
  unfold I.val
  clear h hop
  rcases a with _ | _
  all_goals
    have AX : True := trivial
    have tl : True := trivial
    go_enter Tryd.func37, Tryd.ntmps37
    go_wp2_with (first
      | (clear tl; refine wpList_load_of (t := 25) rfl (by kernel_rfl) (by kernel_rfl) (L0.out _ (IA.new w i 25)) ?_)
      | (go_at_call 61; refine (CU.out _).mono ?_; rintro e wx ⟨rfl, hbx⟩; (first | (have AY : Hid (IA wx w.heap.size i ∧ Below w.heap.size w wx) := ⟨AX.out.1.bel hbx, bel_trans AX.out.2 hbx⟩) | (have AY : Hid (IA wx w.heap.size i ∧ Below w.heap.size w wx) := ⟨(IA.new w i 25).bel hbx, bel_trans (bel_alloc (Below.refl _ _) _) hbx⟩)); clear hbx; (try clear p0 p1 p2 p3 p4 p5 p6 p7 p8 p9 p10 p11 p12 p13 p14 p15 p16 p17 p18 p19 p20 p21 p22 p23); (try clear AX); have AX := AY; clear AY; obtain ⟨p0, p1, p2, p3, p4, p5, p6, p7, p8, p9, p10, p11, p12, p13, p14, p15, p16, p17, p18, p19, p20, p21, p22, p23⟩ := AX.out.1))
    go_ret
    exact ⟨ret_bool (by first | rfl | (simp; done)), AX.out.2⟩

set_option maxHeartbeats 2000000 in
set_option maxRecDepth 4000 in
theorem opn_17 (i : I) (w : World) (h : NB i) (hop : i.op = 17) :
    Calls Tryd.prog 37 #[i.val] w fun e w' => e = .returned (.bool (shiftRB i)) ∧ Below w.heap.size w w' := by
  have L0 : Hid (∀ v, IA v w.heap.size i → (loadVar 25 ⟨w.heap.size, 0, none⟩).run Tryd.prog v = .ok (.agg #[.int .i64 i.op, .int .i64 i.sz, .int .i64 i.cd, .int .i64 i.to.k, .int .i64 i.to.r, .int .i64 i.to.b, .int .i64 i.to.x, .int .i64 i.to.s, .bool i.to.rip, .bool i.to.fs, .int .i64 i.to.n, .string i.to.nm, .int .i64 i.to.m, .int .i64 i.fr.k, .int .i64 i.fr.r, .int .i64 i.fr.b, .int .i64 i.fr.x, .int .i64 i.fr.s, .bool i.fr.rip, .bool i.fr.fs, .int .i64 i.fr.n, .string i.fr.nm, .int .i64 i.fr.m, .bool i.sh]) v) := ⟨fun v h => h.whole⟩
  have CH : Hid (∀ v, Calls Tryd.prog 66 #[.agg #[.int .i64 i.op, .int .i64 i.sz, .int .i64 i.cd, .int .i64 i.to.k, .int .i64 i.to.r, .int .i64 i.to.b, .int .i64 i.to.x, .int .i64 i.to.s, .bool i.to.rip, .bool i.to.fs, .int .i64 i.to.n, .string i.to.nm, .int .i64 i.to.m, .int .i64 i.fr.k, .int .i64 i.fr.r, .int .i64 i.fr.b, .int .i64 i.fr.x, .int .i64 i.fr.s, .bool i.fr.rip, .bool i.fr.fs, .int .i64 i.fr.n, .string i.fr.nm, .int .i64 i.fr.m, .bool i.sh]] v fun e w' => e = .returned (.bool (shiftRB i)) ∧ Below v.heap.size v w') := ⟨fun v => refShift_any i v h⟩
  have e22 : (i.op == 22) = false := by rw [hop]; rfl
  have e23 : (i.op == 23) = false := by rw [hop]; rfl
  have e24 : (i.op == 24) = false := by rw [hop]; rfl
  have e1 : (i.op == 1) = false := by rw [hop]; rfl
  have e3 : (i.op == 3) = false := by rw [hop]; rfl
  have e4 : (i.op == 4) = false := by rw [hop]; rfl
  have e5 : (i.op == 5) = false := by rw [hop]; rfl
  have e6 : (i.op == 6) = false := by rw [hop]; rfl
  have e7 : (i.op == 7) = false := by rw [hop]; rfl
  have e8 : (i.op == 8) = false := by rw [hop]; rfl
  have e9 : (i.op == 9) = false := by rw [hop]; rfl
  have e10 : (i.op == 10) = false := by rw [hop]; rfl
  have e11 : (i.op == 11) = false := by rw [hop]; rfl
  have e2 : (i.op == 2) = false := by rw [hop]; rfl
  have e12 : (i.op == 12) = false := by rw [hop]; rfl
  have e28 : (i.op == 28) = false := by rw [hop]; rfl
  have e29 : (i.op == 29) = false := by rw [hop]; rfl
  have e30 : (i.op == 30) = false := by rw [hop]; rfl
  have e13 : (i.op == 13) = false := by rw [hop]; rfl
  have e14 : (i.op == 14) = false := by rw [hop]; rfl
  have e15 : (i.op == 15) = false := by rw [hop]; rfl
  have e16 : (i.op == 16) = false := by rw [hop]; rfl
  have e27 : (i.op == 27) = false := by rw [hop]; rfl
  have e17 : (i.op == 17) = true := by rw [hop]; rfl
  generalize (shiftRB i) = a at *
  unfold I.val
  clear h hop
  all_goals
    have AX : True := trivial
    have tl : True := trivial
    go_enter Tryd.func37, Tryd.ntmps37
    go_wp2_with (first
      | (clear tl; refine wpList_load_of (t := 25) rfl (by kernel_rfl) (by kernel_rfl) (L0.out _ (IA.new w i 25)) ?_)
      | (go_at_call 66; refine (CH.out _).mono ?_; rintro e wx ⟨rfl, hbx⟩; (first | (have AY : Hid (IA wx w.heap.size i ∧ Below w.heap.size w wx) := ⟨AX.out.1.bel hbx, bel_trans AX.out.2 hbx⟩) | (have AY : Hid (IA wx w.heap.size i ∧ Below w.heap.size w wx) := ⟨(IA.new w i 25).bel hbx, bel_trans (bel_alloc (Below.refl _ _) _) hbx⟩)); clear hbx; (try clear p0 p1 p2 p3 p4 p5 p6 p7 p8 p9 p10 p11 p12 p13 p14 p15 p16 p17 p18 p19 p20 p21 p22 p23); (try clear AX); have AX := AY; clear AY; obtain ⟨p0, p1, p2, p3, p4, p5, p6, p7, p8, p9, p10, p11, p12, p13, p14, p15, p16, p17, p18, p19, p20, p21, p22, p23⟩ := AX.out.1))
    go_ret
    exact ⟨ret_bool (by first | rfl | (simp; done)), AX.out.2⟩

set_option maxHeartbeats 2000000 in
set_option maxRecDepth 4000 in
theorem opn_18 (i : I) (w : World) (h : NB i) (hop : i.op = 18) :
    Calls Tryd.prog 37 #[i.val] w fun e w' => e = .returned (.bool (shiftRB i)) ∧ Below w.heap.size w w' := by
  have L0 : Hid (∀ v, IA v w.heap.size i → (loadVar 25 ⟨w.heap.size, 0, none⟩).run Tryd.prog v = .ok (.agg #[.int .i64 i.op, .int .i64 i.sz, .int .i64 i.cd, .int .i64 i.to.k, .int .i64 i.to.r, .int .i64 i.to.b, .int .i64 i.to.x, .int .i64 i.to.s, .bool i.to.rip, .bool i.to.fs, .int .i64 i.to.n, .string i.to.nm, .int .i64 i.to.m, .int .i64 i.fr.k, .int .i64 i.fr.r, .int .i64 i.fr.b, .int .i64 i.fr.x, .int .i64 i.fr.s, .bool i.fr.rip, .bool i.fr.fs, .int .i64 i.fr.n, .string i.fr.nm, .int .i64 i.fr.m, .bool i.sh]) v) := ⟨fun v h => h.whole⟩
  have CH : Hid (∀ v, Calls Tryd.prog 66 #[.agg #[.int .i64 i.op, .int .i64 i.sz, .int .i64 i.cd, .int .i64 i.to.k, .int .i64 i.to.r, .int .i64 i.to.b, .int .i64 i.to.x, .int .i64 i.to.s, .bool i.to.rip, .bool i.to.fs, .int .i64 i.to.n, .string i.to.nm, .int .i64 i.to.m, .int .i64 i.fr.k, .int .i64 i.fr.r, .int .i64 i.fr.b, .int .i64 i.fr.x, .int .i64 i.fr.s, .bool i.fr.rip, .bool i.fr.fs, .int .i64 i.fr.n, .string i.fr.nm, .int .i64 i.fr.m, .bool i.sh]] v fun e w' => e = .returned (.bool (shiftRB i)) ∧ Below v.heap.size v w') := ⟨fun v => refShift_any i v h⟩
  have e22 : (i.op == 22) = false := by rw [hop]; rfl
  have e23 : (i.op == 23) = false := by rw [hop]; rfl
  have e24 : (i.op == 24) = false := by rw [hop]; rfl
  have e1 : (i.op == 1) = false := by rw [hop]; rfl
  have e3 : (i.op == 3) = false := by rw [hop]; rfl
  have e4 : (i.op == 4) = false := by rw [hop]; rfl
  have e5 : (i.op == 5) = false := by rw [hop]; rfl
  have e6 : (i.op == 6) = false := by rw [hop]; rfl
  have e7 : (i.op == 7) = false := by rw [hop]; rfl
  have e8 : (i.op == 8) = false := by rw [hop]; rfl
  have e9 : (i.op == 9) = false := by rw [hop]; rfl
  have e10 : (i.op == 10) = false := by rw [hop]; rfl
  have e11 : (i.op == 11) = false := by rw [hop]; rfl
  have e2 : (i.op == 2) = false := by rw [hop]; rfl
  have e12 : (i.op == 12) = false := by rw [hop]; rfl
  have e28 : (i.op == 28) = false := by rw [hop]; rfl
  have e29 : (i.op == 29) = false := by rw [hop]; rfl
  have e30 : (i.op == 30) = false := by rw [hop]; rfl
  have e13 : (i.op == 13) = false := by rw [hop]; rfl
  have e14 : (i.op == 14) = false := by rw [hop]; rfl
  have e15 : (i.op == 15) = false := by rw [hop]; rfl
  have e16 : (i.op == 16) = false := by rw [hop]; rfl
  have e27 : (i.op == 27) = false := by rw [hop]; rfl
  have e17 : (i.op == 17) = false := by rw [hop]; rfl
  have e18 : (i.op == 18) = true := by rw [hop]; rfl
  generalize (shiftRB i) = a at *
  unfold I.val
  clear h hop
  all_goals
    have AX : True := trivial
    have tl : True := trivial
    go_enter Tryd.func37, Tryd.ntmps37
    go_wp2_with (first
      | (clear tl; refine wpList_load_of (t := 25) rfl (by kernel_rfl) (by kernel_rfl) (L0.out _ (IA.new w i 25)) ?_)
      | (go_at_call 66; refine (CH.out _).mono ?_; rintro e wx ⟨rfl, hbx⟩; (first | (have AY : Hid (IA wx w.heap.size i ∧ Below w.heap.size w wx) := ⟨AX.out.1.bel hbx, bel_trans AX.out.2 hbx⟩) | (have AY : Hid (IA wx w.heap.size i ∧ Below w.heap.size w wx) := ⟨(IA.new w i 25).bel hbx, bel_trans (bel_alloc (Below.refl _ _) _) hbx⟩)); clear hbx; (try clear p0 p1 p2 p3 p4 p5 p6 p7 p8 p9 p10 p11 p12 p13 p14 p15 p16 p17 p18 p19 p20 p21 p22 p23); (try clear AX); have AX := AY; clear AY; obtain ⟨p0, p1, p2, p3, p4, p5, p6, p7, p8, p9, p10, p11, p12, p13, p14, p15, p16, p17, p18, p19, p20, p21, p22, p23⟩ := AX.out.1))
    go_ret
    exact ⟨ret_bool (by first | rfl | (simp; done)), AX.out.2⟩

set_option maxHeartbeats 2000000 in
set_option maxRecDepth 4000 in
theorem opn_19 (i : I) (w : World) (h : NB i) (hop : i.op = 19) :
    Calls Tryd.prog 37 #[i.val] w fun e w' => e = .returned (.bool (shiftRB i)) ∧ Below w.heap.size w w' := by
  have L0 : Hid (∀ v, IA v w.heap.size i → (loadVar 25 ⟨w.heap.size, 0, none⟩).run Tryd.prog v = .ok (.agg #[.int .i64 i.op, .int .i64 i.sz, .int .i64 i.cd, .int .i64 i.to.k, .int .i64 i.to.r, .int .i64 i.to.b, .int .i64 i.to.x, .int .i64 i.to.s, .bool i.to.rip, .bool i.to.fs, .int .i64 i.to.n, .string i.to.nm, .int .i64 i.to.m, .int .i64 i.fr.k, .int .i64 i.fr.r, .int .i64 i.fr.b, .int .i64 i.fr.x, .int .i64 i.fr.s, .bool i.fr.rip, .bool i.fr.fs, .int .i64 i.fr.n, .string i.fr.nm, .int .i64 i.fr.m, .bool i.sh]) v) := ⟨fun v h => h.whole⟩
  have CH : Hid (∀ v, Calls Tryd.prog 66 #[.agg #[.int .i64 i.op, .int .i64 i.sz, .int .i64 i.cd, .int .i64 i.to.k, .int .i64 i.to.r, .int .i64 i.to.b, .int .i64 i.to.x, .int .i64 i.to.s, .bool i.to.rip, .bool i.to.fs, .int .i64 i.to.n, .string i.to.nm, .int .i64 i.to.m, .int .i64 i.fr.k, .int .i64 i.fr.r, .int .i64 i.fr.b, .int .i64 i.fr.x, .int .i64 i.fr.s, .bool i.fr.rip, .bool i.fr.fs, .int .i64 i.fr.n, .string i.fr.nm, .int .i64 i.fr.m, .bool i.sh]] v fun e w' => e = .returned (.bool (shiftRB i)) ∧ Below v.heap.size v w') := ⟨fun v => refShift_any i v h⟩
  have e22 : (i.op == 22) = false := by rw [hop]; rfl
  have e23 : (i.op == 23) = false := by rw [hop]; rfl
  have e24 : (i.op == 24) = false := by rw [hop]; rfl
  have e1 : (i.op == 1) = false := by rw [hop]; rfl
  have e3 : (i.op == 3) = false := by rw [hop]; rfl
  have e4 : (i.op == 4) = false := by rw [hop]; rfl
  have e5 : (i.op == 5) = false := by rw [hop]; rfl
  have e6 : (i.op == 6) = false := by rw [hop]; rfl
  have e7 : (i.op == 7) = false := by rw [hop]; rfl
  have e8 : (i.op == 8) = false := by rw [hop]; rfl
  have e9 : (i.op == 9) = false := by rw [hop]; rfl
  have e10 : (i.op == 10) = false := by rw [hop]; rfl
  have e11 : (i.op == 11) = false := by rw [hop]; rfl
  have e2 : (i.op == 2) = false := by rw [hop]; rfl
  have e12 : (i.op == 12) = false := by rw [hop]; rfl
  have e28 : (i.op == 28) = false := by rw [hop]; rfl
  have e29 : (i.op == 29) = false := by rw [hop]; rfl
  have e30 : (i.op == 30) = false := by rw [hop]; rfl
  have e13 : (i.op == 13) = false := by rw [hop]; rfl
  have e14 : (i.op == 14) = false := by rw [hop]; rfl
  have e15 : (i.op == 15) = false := by rw [hop]; rfl
  have e16 : (i.op == 16) = false := by rw [hop]; rfl
  have e27 : (i.op == 27) = false := by rw [hop]; rfl
  have e17 : (i.op == 17) = false := by rw [hop]; rfl
  have e18 : (i.op == 18) = false := by rw [hop]; rfl
  have e19 : (i.op == 19) = true := by rw [hop]; rfl
  generalize (shiftRB i) = a at *
  unfold I.val
  clear h hop
  all_goals
    have AX : True := trivial
    have tl : True := trivial
    go_enter Tryd.func37, Tryd.ntmps37
    go_wp2_with (first
      | (clear tl; refine wpList_load_of (t := 25) rfl (by kernel_rfl) (by kernel_rfl) (L0.out _ (IA.new w i 25)) ?_)
      | (go_at_call 66; refine (CH.out _).mono ?_; rintro e wx ⟨rfl, hbx⟩; (first | (have AY : Hid (IA wx w.heap.size i ∧ Below w.heap.size w wx) := ⟨AX.out.1.bel hbx, bel_trans AX.out.2 hbx⟩) | (have AY : Hid (IA wx w.heap.size i ∧ Below w.heap.size w wx) := ⟨(IA.new w i 25).bel hbx, bel_trans (bel_alloc (Below.refl _ _) _) hbx⟩)); clear hbx; (try clear p0 p1 p2 p3 p4 p5 p6 p7 p8 p9 p10 p11 p12 p13 p14 p15 p16 p17 p18 p19 p20 p21 p22 p23); (try clear AX); have AX := AY; clear AY; obtain ⟨p0, p1, p2, p3, p4, p5, p6, p7, p8, p9, p10, p11, p12, p13, p14, p15, p16, p17, p18, p19, p20, p21, p22, p23⟩ := AX.out.1))
    go_ret
    exact ⟨ret_bool (by first | rfl | (simp; done)), AX.out.2⟩

set_option maxHeartbeats 2000000 in
set_option maxRecDepth 4000 in
theorem opn_22 (i : I) (w : World) (h : NB i) (hop : i.op = 22) :
    Calls Tryd.prog 37 #[i.val] w fun e w' => e = .returned (.bool (jumpsRB i)) ∧ Below w.heap.size w w' := by
  have L0 : Hid (∀ v, IA v w.heap.size i → (loadVar 25 ⟨w.heap.size, 0, none⟩).run Tryd.prog v = .ok (.agg #[.int .i64 i.op, .int .i64 i.sz, .int .i64 i.cd, .int .i64 i.to.k, .int .i64 i.to.r, .int .i64 i.to.b, .int .i64 i.to.x, .int .i64 i.to.s, .bool i.to.rip, .bool i.to.fs, .int .i64 i.to.n, .string i.to.nm, .int .i64 i.to.m, .int .i64 i.fr.k, .int .i64 i.fr.r, .int .i64 i.fr.b, .int .i64 i.fr.x, .int .i64 i.fr.s, .bool i.fr.rip, .bool i.fr.fs, .int .i64 i.fr.n, .string i.fr.nm, .int .i64 i.fr.m, .bool i.sh]) v) := ⟨fun v h => h.whole⟩
  have CJ : Hid (∀ v, Calls Tryd.prog 60 #[.agg #[.int .i64 i.op, .int .i64 i.sz, .int .i64 i.cd, .int .i64 i.to.k, .int .i64 i.to.r, .int .i64 i.to.b, .int .i64 i.to.x, .int .i64 i.to.s, .bool i.to.rip, .bool i.to.fs, .int .i64 i.to.n, .string i.to.nm, .int .i64 i.to.m, .int .i64 i.fr.k, .int .i64 i.fr.r, .int .i64 i.fr.b, .int .i64 i.fr.x, .int .i64 i.fr.s, .bool i.fr.rip, .bool i.fr.fs, .int .i64 i.fr.n, .string i.fr.nm, .int .i64 i.fr.m, .bool i.sh]] v fun e w' => e = .returned (.bool (jumpsRB i)) ∧ Below v.heap.size v w') := ⟨fun v => refJumps_any i v h⟩
  have e22 : (i.op == 22) = true := by rw [hop]; rfl
  generalize (jumpsRB i) = a at *
  unfold I.val
  clear h hop
  all_goals
    have AX : True := trivial
    have tl : True := trivial
    go_enter Tryd.func37, Tryd.ntmps37
    go_wp2_with (first
      | (clear tl; refine wpList_load_of (t := 25) rfl (by kernel_rfl) (by kernel_rfl) (L0.out _ (IA.new w i 25)) ?_)
      | (go_at_call 60; refine (CJ.out _).mono ?_; rintro e wx ⟨rfl, hbx⟩; (first | (have AY : Hid (IA wx w.heap.size i ∧ Below w.heap.size w wx) := ⟨AX.out.1.bel hbx, bel_trans AX.out.2 hbx⟩) | (have AY : Hid (IA wx w.heap.size i ∧ Below w.heap.size w wx) := ⟨(IA.new w i 25).bel hbx, bel_trans (bel_alloc (Below.refl _ _) _) hbx⟩)); clear hbx; (try clear p0 p1 p2 p3 p4 p5 p6 p7 p8 p9 p10 p11 p12 p13 p14 p15 p16 p17 p18 p19 p20 p21 p22 p23); (try clear AX); have AX := AY; clear AY; obtain ⟨p0, p1, p2, p3, p4, p5, p6, p7, p8, p9, p10, p11, p12, p13, p14, p15, p16, p17, p18, p19, p20, p21, p22, p23⟩ := AX.out.1))
    go_ret
    exact ⟨ret_bool (by first | rfl | (simp; done)), AX.out.2⟩

set_option maxHeartbeats 2000000 in
set_option maxRecDepth 4000 in
theorem opn_23 (i : I) (w : World) (h : NB i) (hop : i.op = 23) :
    Calls Tryd.prog 37 #[i.val] w fun e w' => e = .returned (.bool (jumpsRB i)) ∧ Below w.heap.size w w' := by
  have L0 : Hid (∀ v, IA v w.heap.size i → (loadVar 25 ⟨w.heap.size, 0, none⟩).run Tryd.prog v = .ok (.agg #[.int .i64 i.op, .int .i64 i.sz, .int .i64 i.cd, .int .i64 i.to.k, .int .i64 i.to.r, .int .i64 i.to.b, .int .i64 i.to.x, .int .i64 i.to.s, .bool i.to.rip, .bool i.to.fs, .int .i64 i.to.n, .string i.to.nm, .int .i64 i.to.m, .int .i64 i.fr.k, .int .i64 i.fr.r, .int .i64 i.fr.b, .int .i64 i.fr.x, .int .i64 i.fr.s, .bool i.fr.rip, .bool i.fr.fs, .int .i64 i.fr.n, .string i.fr.nm, .int .i64 i.fr.m, .bool i.sh]) v) := ⟨fun v h => h.whole⟩
  have CJ : Hid (∀ v, Calls Tryd.prog 60 #[.agg #[.int .i64 i.op, .int .i64 i.sz, .int .i64 i.cd, .int .i64 i.to.k, .int .i64 i.to.r, .int .i64 i.to.b, .int .i64 i.to.x, .int .i64 i.to.s, .bool i.to.rip, .bool i.to.fs, .int .i64 i.to.n, .string i.to.nm, .int .i64 i.to.m, .int .i64 i.fr.k, .int .i64 i.fr.r, .int .i64 i.fr.b, .int .i64 i.fr.x, .int .i64 i.fr.s, .bool i.fr.rip, .bool i.fr.fs, .int .i64 i.fr.n, .string i.fr.nm, .int .i64 i.fr.m, .bool i.sh]] v fun e w' => e = .returned (.bool (jumpsRB i)) ∧ Below v.heap.size v w') := ⟨fun v => refJumps_any i v h⟩
  have e22 : (i.op == 22) = false := by rw [hop]; rfl
  have e23 : (i.op == 23) = true := by rw [hop]; rfl
  generalize (jumpsRB i) = a at *
  unfold I.val
  clear h hop
  all_goals
    have AX : True := trivial
    have tl : True := trivial
    go_enter Tryd.func37, Tryd.ntmps37
    go_wp2_with (first
      | (clear tl; refine wpList_load_of (t := 25) rfl (by kernel_rfl) (by kernel_rfl) (L0.out _ (IA.new w i 25)) ?_)
      | (go_at_call 60; refine (CJ.out _).mono ?_; rintro e wx ⟨rfl, hbx⟩; (first | (have AY : Hid (IA wx w.heap.size i ∧ Below w.heap.size w wx) := ⟨AX.out.1.bel hbx, bel_trans AX.out.2 hbx⟩) | (have AY : Hid (IA wx w.heap.size i ∧ Below w.heap.size w wx) := ⟨(IA.new w i 25).bel hbx, bel_trans (bel_alloc (Below.refl _ _) _) hbx⟩)); clear hbx; (try clear p0 p1 p2 p3 p4 p5 p6 p7 p8 p9 p10 p11 p12 p13 p14 p15 p16 p17 p18 p19 p20 p21 p22 p23); (try clear AX); have AX := AY; clear AY; obtain ⟨p0, p1, p2, p3, p4, p5, p6, p7, p8, p9, p10, p11, p12, p13, p14, p15, p16, p17, p18, p19, p20, p21, p22, p23⟩ := AX.out.1))
    go_ret
    exact ⟨ret_bool (by first | rfl | (simp; done)), AX.out.2⟩

set_option maxHeartbeats 2000000 in
set_option maxRecDepth 4000 in
theorem opn_24 (i : I) (w : World) (h : NB i) (hop : i.op = 24) :
    Calls Tryd.prog 37 #[i.val] w fun e w' => e = .returned (.bool (jumpsRB i)) ∧ Below w.heap.size w w' := by
  have L0 : Hid (∀ v, IA v w.heap.size i → (loadVar 25 ⟨w.heap.size, 0, none⟩).run Tryd.prog v = .ok (.agg #[.int .i64 i.op, .int .i64 i.sz, .int .i64 i.cd, .int .i64 i.to.k, .int .i64 i.to.r, .int .i64 i.to.b, .int .i64 i.to.x, .int .i64 i.to.s, .bool i.to.rip, .bool i.to.fs, .int .i64 i.to.n, .string i.to.nm, .int .i64 i.to.m, .int .i64 i.fr.k, .int .i64 i.fr.r, .int .i64 i.fr.b, .int .i64 i.fr.x, .int .i64 i.fr.s, .bool i.fr.rip, .bool i.fr.fs, .int .i64 i.fr.n, .string i.fr.nm, .int .i64 i.fr.m, .bool i.sh]) v) := ⟨fun v h => h.whole⟩
  have CJ : Hid (∀ v, Calls Tryd.prog 60 #[.agg #[.int .i64 i.op, .int .i64 i.sz, .int .i64 i.cd, .int .i64 i.to.k, .int .i64 i.to.r, .int .i64 i.to.b, .int .i64 i.to.x, .int .i64 i.to.s, .bool i.to.rip, .bool i.to.fs, .int .i64 i.to.n, .string i.to.nm, .int .i64 i.to.m, .int .i64 i.fr.k, .int .i64 i.fr.r, .int .i64 i.fr.b, .int .i64 i.fr.x, .int .i64 i.fr.s, .bool i.fr.rip, .bool i.fr.fs, .int .i64 i.fr.n, .string i.fr.nm, .int .i64 i.fr.m, .bool i.sh]] v fun e w' => e = .returned (.bool (jumpsRB i)) ∧ Below v.heap.size v w') := ⟨fun v => refJumps_any i v h⟩
  have e22 : (i.op == 22) = false := by rw [hop]; rfl
  have e23 : (i.op == 23) = false := by rw [hop]; rfl
  have e24 : (i.op == 24) = true := by rw [hop]; rfl
  generalize (jumpsRB i) = a at *
  unfold I.val
  clear h hop
  all_goals
    have AX : True := trivial
    have tl : True := trivial
    go_enter Tryd.func37, Tryd.ntmps37
    go_wp2_with (first
      | (clear tl; refine wpList_load_of (t := 25) rfl (by kernel_rfl) (by kernel_rfl) (L0.out _ (IA.new w i 25)) ?_)
      | (go_at_call 60; refine (CJ.out _).mono ?_; rintro e wx ⟨rfl, hbx⟩; (first | (have AY : Hid (IA wx w.heap.size i ∧ Below w.heap.size w wx) := ⟨AX.out.1.bel hbx, bel_trans AX.out.2 hbx⟩) | (have AY : Hid (IA wx w.heap.size i ∧ Below w.heap.size w wx) := ⟨(IA.new w i 25).bel hbx, bel_trans (bel_alloc (Below.refl _ _) _) hbx⟩)); clear hbx; (try clear p0 p1 p2 p3 p4 p5 p6 p7 p8 p9 p10 p11 p12 p13 p14 p15 p16 p17 p18 p19 p20 p21 p22 p23); (try clear AX); have AX := AY; clear AY; obtain ⟨p0, p1, p2, p3, p4, p5, p6, p7, p8, p9, p10, p11, p12, p13, p14, p15, p16, p17, p18, p19, p20, p21, p22, p23⟩ := AX.out.1))
    go_ret
    exact ⟨ret_bool (by first | rfl | (simp; done)), AX.out.2⟩

end Go.Proofs.YtdgejingoamfeaaDoor
