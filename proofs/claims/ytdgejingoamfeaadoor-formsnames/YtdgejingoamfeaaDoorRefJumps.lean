/- The document's jumps. -/
import Derived.Test.YtdgejingoamfeaaDoorRefOps
namespace Go.Proofs.YtdgejingoamfeaaDoor
open Go.ChangeShapes Go.WideShapes Go.ChangeAt Go.RowKit
set_option linter.unusedVariables false
set_option linter.unusedSimpArgs false

def jumpsRB (i : I) : Bool :=
  if noneB i.fr then
    (if targetRB i.to then !i.sh || (i.op != 22 && (!empB i.to.nm || (decide (-128 ≤ i.to.n) && decide (i.to.n ≤ 127)))) else (!i.sh && i.op != 24) && rmB i.to)
  else false

set_option maxHeartbeats 4000000 in
theorem refJumps_any (i : I) (w : World) (h : NB i) :
    Calls Tryd.prog 60 #[i.val] w fun e w' => e = .returned (.bool (jumpsRB i)) ∧ Below w.heap.size w w' := by
  have CN : Hid (∀ v, Calls Tryd.prog 29 #[.agg #[.int .i64 i.fr.k, .int .i64 i.fr.r, .int .i64 i.fr.b, .int .i64 i.fr.x, .int .i64 i.fr.s, .bool i.fr.rip, .bool i.fr.fs, .int .i64 i.fr.n, .string i.fr.nm, .int .i64 i.fr.m]] v fun e w' => e = .returned (.bool (noneB i.fr)) ∧ Below v.heap.size v w') := ⟨fun v => refNone_any i.fr v⟩
  have CG : Hid (∀ v, Calls Tryd.prog 87 #[.agg #[.int .i64 i.to.k, .int .i64 i.to.r, .int .i64 i.to.b, .int .i64 i.to.x, .int .i64 i.to.s, .bool i.to.rip, .bool i.to.fs, .int .i64 i.to.n, .string i.to.nm, .int .i64 i.to.m]] v fun e w' => e = .returned (.bool (targetRB i.to)) ∧ Below v.heap.size v w') := ⟨fun v => refTarget_any i.to v h.t⟩
  have CT : Hid (∀ v, Calls Tryd.prog 65 #[.agg #[.int .i64 i.to.k, .int .i64 i.to.r, .int .i64 i.to.b, .int .i64 i.to.x, .int .i64 i.to.s, .bool i.to.rip, .bool i.to.fs, .int .i64 i.to.n, .string i.to.nm, .int .i64 i.to.m]] v fun e w' => e = .returned (.bool (rmB i.to)) ∧ Below v.heap.size v w') := ⟨fun v => refRm_any i.to v h.t⟩
  unfold jumpsRB
  generalize noneB i.fr = a at *
  generalize targetRB i.to = b at *
  generalize rmB i.to = c at *
  obtain ⟨s, HS⟩ : ∃ x, Hid (i.sh = x) := ⟨_, ⟨rfl⟩⟩
  obtain ⟨m, hm⟩ : ∃ x, (i.op != 22) = x := ⟨_, rfl⟩
  obtain ⟨k, hk⟩ : ∃ x, (i.op != 24) = x := ⟨_, rfl⟩
  obtain ⟨y, hy⟩ : ∃ x, i.to.nm.toList.isEmpty = x := ⟨_, rfl⟩
  have ey : empB i.to.nm = y := hy
  rw [HS.out, hm, hk, ey]
  clear ey
  unfold I.val
  clear h
  rcases a with _ | _
  case' true => rcases b with _ | _
  case' true.false => (rcases s with _ | _ <;> rcases k with _ | _)
  case' true.true => (rcases s with _ | _)
  case' true.true.true => (rcases m with _ | _)
  case' true.true.true.true => (rcases y with _ | _)
  case' true.true.true.true.true => (by_cases e1 : -128 ≤ i.to.n)
  all_goals
    have AX : True := trivial
    go_enter Tryd.func60, Tryd.ntmps60
    go_wp2_with (first
      | (go_at_call 29; refine (CN.out _).mono ?_; rintro e wx ⟨rfl, hbx⟩; (first | (have AY : Hid (IA wx w.heap.size i ∧ Below w.heap.size w wx) := ⟨AX.out.1.bel hbx, bel_trans AX.out.2 hbx⟩) | (have AY : Hid (IA wx w.heap.size i ∧ Below w.heap.size w wx) := ⟨(IA.new w i 25).bel hbx, bel_trans (bel_alloc (Below.refl _ _) _) hbx⟩)); clear hbx; (try clear p0 p1 p2 p3 p4 p5 p6 p7 p8 p9 p10 p11 p12 p13 p14 p15 p16 p17 p18 p19 p20 p21 p22 p23); (try clear AX); have AX := AY; clear AY; obtain ⟨p0, p1, p2, p3, p4, p5, p6, p7, p8, p9, p10, p11, p12, p13, p14, p15, p16, p17, p18, p19, p20, p21, p22, p23⟩ := AX.out.1; rw [HS.out] at p23)
      | (go_at_call 87; refine (CG.out _).mono ?_; rintro e wx ⟨rfl, hbx⟩; (first | (have AY : Hid (IA wx w.heap.size i ∧ Below w.heap.size w wx) := ⟨AX.out.1.bel hbx, bel_trans AX.out.2 hbx⟩) | (have AY : Hid (IA wx w.heap.size i ∧ Below w.heap.size w wx) := ⟨(IA.new w i 25).bel hbx, bel_trans (bel_alloc (Below.refl _ _) _) hbx⟩)); clear hbx; (try clear p0 p1 p2 p3 p4 p5 p6 p7 p8 p9 p10 p11 p12 p13 p14 p15 p16 p17 p18 p19 p20 p21 p22 p23); (try clear AX); have AX := AY; clear AY; obtain ⟨p0, p1, p2, p3, p4, p5, p6, p7, p8, p9, p10, p11, p12, p13, p14, p15, p16, p17, p18, p19, p20, p21, p22, p23⟩ := AX.out.1; rw [HS.out] at p23)
      | (go_at_call 65; refine (CT.out _).mono ?_; rintro e wx ⟨rfl, hbx⟩; (first | (have AY : Hid (IA wx w.heap.size i ∧ Below w.heap.size w wx) := ⟨AX.out.1.bel hbx, bel_trans AX.out.2 hbx⟩) | (have AY : Hid (IA wx w.heap.size i ∧ Below w.heap.size w wx) := ⟨(IA.new w i 25).bel hbx, bel_trans (bel_alloc (Below.refl _ _) _) hbx⟩)); clear hbx; (try clear p0 p1 p2 p3 p4 p5 p6 p7 p8 p9 p10 p11 p12 p13 p14 p15 p16 p17 p18 p19 p20 p21 p22 p23); (try clear AX); have AX := AY; clear AY; obtain ⟨p0, p1, p2, p3, p4, p5, p6, p7, p8, p9, p10, p11, p12, p13, p14, p15, p16, p17, p18, p19, p20, p21, p22, p23⟩ := AX.out.1; rw [HS.out] at p23))
    go_ret
    exact ⟨ret_bool (by first | rfl | (simp [e1]; done) | (simp; done) | (simp; omega)), AX.out.2⟩
end Go.Proofs.YtdgejingoamfeaaDoor
