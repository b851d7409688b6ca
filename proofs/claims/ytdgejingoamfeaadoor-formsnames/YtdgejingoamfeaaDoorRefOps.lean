/- The document's rm, sum, shift and jumps. -/
import Derived.Test.YtdgejingoamfeaaDoorRefMem
import Derived.Deep.RegionWith
namespace Go.Proofs.YtdgejingoamfeaaDoor
open Go.ChangeShapes Go.WideShapes Go.ChangeAt Go.RowKit
set_option linter.unusedVariables false

def rmB (o : O) : Bool := regB o || memRB o
/-- The names of an instruction are no longer than an int. -/
structure NB (i : I) : Prop where
  t : i.to.nm.size ≤ 9223372036854775807
  f : i.fr.nm.size ≤ 9223372036854775807

set_option maxHeartbeats 1000000 in
theorem refRm_any (o : O) (w : World) (hs : o.nm.size ≤ 9223372036854775807) :
    Calls Tryd.prog 65 #[o.val] w fun e w' => e = .returned (.bool (rmB o)) ∧ Below w.heap.size w w' := by
  have CR : Hid (∀ v, Calls Tryd.prog 62 #[.agg #[.int .i64 o.k, .int .i64 o.r, .int .i64 o.b, .int .i64 o.x, .int .i64 o.s, .bool o.rip, .bool o.fs, .int .i64 o.n, .string o.nm, .int .i64 o.m]] v fun e w' => e = .returned (.bool (regB o)) ∧ Below v.heap.size v w') := ⟨fun v => refReg_any o v⟩
  have CM : Hid (∀ v, Calls Tryd.prog 64 #[.agg #[.int .i64 o.k, .int .i64 o.r, .int .i64 o.b, .int .i64 o.x, .int .i64 o.s, .bool o.rip, .bool o.fs, .int .i64 o.n, .string o.nm, .int .i64 o.m]] v fun e w' => e = .returned (.bool (memRB o)) ∧ Below v.heap.size v w') := ⟨fun v => refMem_any o v hs⟩
  unfold rmB
  generalize regB o = a at *
  generalize memRB o = b at *
  unfold O.val
  clear hs
  rcases a with _ | _
  · go_enter Tryd.func65, Tryd.ntmps65
    go_wp2_with (first
      | (go_at_call 62; refine (CR.out _).mono ?_; rintro e w1 ⟨rfl, hb1⟩; have B1 : Hid (Below w.heap.size w w1) := ⟨bel_trans (bel_alloc (Below.refl _ _) _) hb1⟩; obtain ⟨c0, c1, c2, c3, c4, c5, c6, c7, c8, c9⟩ := (OA.new w o 23).bel hb1; clear hb1)
      | (go_at_call 64; refine (CM.out _).mono ?_; rintro e w2 ⟨rfl, hb2⟩; have B2 : Hid (Below w.heap.size w w2) := ⟨bel_trans B1.out hb2⟩))
    go_ret
    exact ⟨rfl, B2.out⟩
  · go_enter Tryd.func65, Tryd.ntmps65
    go_wp2_with (go_at_call 62; refine (CR.out _).mono ?_; rintro e w1 ⟨rfl, hb1⟩; have B1 : Hid (Below w.heap.size w w1) := ⟨bel_trans (bel_alloc (Below.refl _ _) _) hb1⟩; clear hb1)
    go_ret
    exact ⟨rfl, B1.out⟩

def sumRB (i : I) : Bool := if immB i.fr then rmB i.to && fitsB i.fr.n i.sz else (rmB i.to && regB i.fr) || (regB i.to && memRB i.fr)

set_option maxHeartbeats 4000000 in
theorem refSum_any (i : I) (w : World) (h : NB i) :
    Calls Tryd.prog 61 #[i.val] w fun e w' => e = .returned (.bool (sumRB i)) ∧ Below w.heap.size w w' := by
  have CI : Hid (∀ v, Calls Tryd.prog 63 #[.agg #[.int .i64 i.fr.k, .int .i64 i.fr.r, .int .i64 i.fr.b, .int .i64 i.fr.x, .int .i64 i.fr.s, .bool i.fr.rip, .bool i.fr.fs, .int .i64 i.fr.n, .string i.fr.nm, .int .i64 i.fr.m]] v fun e w' => e = .returned (.bool (immB i.fr)) ∧ Below v.heap.size v w') := ⟨fun v => refImm_any i.fr v⟩
  have CT : Hid (∀ v, Calls Tryd.prog 65 #[.agg #[.int .i64 i.to.k, .int .i64 i.to.r, .int .i64 i.to.b, .int .i64 i.to.x, .int .i64 i.to.s, .bool i.to.rip, .bool i.to.fs, .int .i64 i.to.n, .string i.to.nm, .int .i64 i.to.m]] v fun e w' => e = .returned (.bool (rmB i.to)) ∧ Below v.heap.size v w') := ⟨fun v => refRm_any i.to v h.t⟩
  have CF : Hid (∀ v, Calls Tryd.prog 62 #[.agg #[.int .i64 i.fr.k, .int .i64 i.fr.r, .int .i64 i.fr.b, .int .i64 i.fr.x, .int .i64 i.fr.s, .bool i.fr.rip, .bool i.fr.fs, .int .i64 i.fr.n, .string i.fr.nm, .int .i64 i.fr.m]] v fun e w' => e = .returned (.bool (regB i.fr)) ∧ Below v.heap.size v w') := ⟨fun v => refReg_any i.fr v⟩
  have CR : Hid (∀ v, Calls Tryd.prog 62 #[.agg #[.int .i64 i.to.k, .int .i64 i.to.r, .int .i64 i.to.b, .int .i64 i.to.x, .int .i64 i.to.s, .bool i.to.rip, .bool i.to.fs, .int .i64 i.to.n, .string i.to.nm, .int .i64 i.to.m]] v fun e w' => e = .returned (.bool (regB i.to)) ∧ Below v.heap.size v w') := ⟨fun v => refReg_any i.to v⟩
  have CM : Hid (∀ v, Calls Tryd.prog 64 #[.agg #[.int .i64 i.fr.k, .int .i64 i.fr.r, .int .i64 i.fr.b, .int .i64 i.fr.x, .int .i64 i.fr.s, .bool i.fr.rip, .bool i.fr.fs, .int .i64 i.fr.n, .string i.fr.nm, .int .i64 i.fr.m]] v fun e w' => e = .returned (.bool (memRB i.fr)) ∧ Below v.heap.size v w') := ⟨fun v => refMem_any i.fr v h.f⟩
  have CS : Hid (∀ v, Calls Tryd.prog 88 #[.int .i64 i.fr.n, .int .i64 i.sz] v fun e w' => e = .returned (.bool (fitsB i.fr.n i.sz)) ∧ w' = v) := ⟨fun v => refShort_any _ _ v⟩
  unfold sumRB
  generalize immB i.fr = a at *
  generalize rmB i.to = b at *
  generalize regB i.fr = c at *
  generalize regB i.to = d at *
  generalize memRB i.fr = f at *
  generalize fitsB i.fr.n i.sz = g at *
  unfold I.val
  clear h
  rcases a with _ | _ <;> rcases b with _ | _
  case' false.true => rcases c with _ | _
  case' false.false => rcases d with _ | _
  case' false.true.false => rcases d with _ | _
  all_goals
    have AX : True := trivial
    go_enter Tryd.func61, Tryd.ntmps61
    go_wp2_with (first
      | (go_at_call 63; refine (CI.out _).mono ?_; rintro e wx ⟨rfl, hbx⟩; (first | (have AY : Hid (IA wx w.heap.size i ∧ Below w.heap.size w wx) := ⟨AX.out.1.bel hbx, bel_trans AX.out.2 hbx⟩) | (have AY : Hid (IA wx w.heap.size i ∧ Below w.heap.size w wx) := ⟨(IA.new w i 25).bel hbx, bel_trans (bel_alloc (Below.refl _ _) _) hbx⟩)); clear hbx; (try clear p0 p1 p2 p3 p4 p5 p6 p7 p8 p9 p10 p11 p12 p13 p14 p15 p16 p17 p18 p19 p20 p21 p22 p23); (try clear AX); have AX := AY; clear AY; obtain ⟨p0, p1, p2, p3, p4, p5, p6, p7, p8, p9, p10, p11, p12, p13, p14, p15, p16, p17, p18, p19, p20, p21, p22, p23⟩ := AX.out.1)
      | (go_at_call 65; refine (CT.out _).mono ?_; rintro e wx ⟨rfl, hbx⟩; (first | (have AY : Hid (IA wx w.heap.size i ∧ Below w.heap.size w wx) := ⟨AX.out.1.bel hbx, bel_trans AX.out.2 hbx⟩) | (have AY : Hid (IA wx w.heap.size i ∧ Below w.heap.size w wx) := ⟨(IA.new w i 25).bel hbx, bel_trans (bel_alloc (Below.refl _ _) _) hbx⟩)); clear hbx; (try clear p0 p1 p2 p3 p4 p5 p6 p7 p8 p9 p10 p11 p12 p13 p14 p15 p16 p17 p18 p19 p20 p21 p22 p23); (try clear AX); have AX := AY; clear AY; obtain ⟨p0, p1, p2, p3, p4, p5, p6, p7, p8, p9, p10, p11, p12, p13, p14, p15, p16, p17, p18, p19, p20, p21, p22, p23⟩ := AX.out.1)
      | (go_at_call_of 62 (Value.agg #[Value.int IntKind.i64 i.fr.k, Value.int IntKind.i64 i.fr.r, Value.int IntKind.i64 i.fr.b, Value.int IntKind.i64 i.fr.x, Value.int IntKind.i64 i.fr.s, Value.bool i.fr.rip, Value.bool i.fr.fs, Value.int IntKind.i64 i.fr.n, Value.string i.fr.nm, Value.int IntKind.i64 i.fr.m]); refine (CF.out _).mono ?_; rintro e wx ⟨rfl, hbx⟩; (first | (have AY : Hid (IA wx w.heap.size i ∧ Below w.heap.size w wx) := ⟨AX.out.1.bel hbx, bel_trans AX.out.2 hbx⟩) | (have AY : Hid (IA wx w.heap.size i ∧ Below w.heap.size w wx) := ⟨(IA.new w i 25).bel hbx, bel_trans (bel_alloc (Below.refl _ _) _) hbx⟩)); clear hbx; (try clear p0 p1 p2 p3 p4 p5 p6 p7 p8 p9 p10 p11 p12 p13 p14 p15 p16 p17 p18 p19 p20 p21 p22 p23); (try clear AX); have AX := AY; clear AY; obtain ⟨p0, p1, p2, p3, p4, p5, p6, p7, p8, p9, p10, p11, p12, p13, p14, p15, p16, p17, p18, p19, p20, p21, p22, p23⟩ := AX.out.1)
      | (go_at_call_of 62 (Value.agg #[Value.int IntKind.i64 i.to.k, Value.int IntKind.i64 i.to.r, Value.int IntKind.i64 i.to.b, Value.int IntKind.i64 i.to.x, Value.int IntKind.i64 i.to.s, Value.bool i.to.rip, Value.bool i.to.fs, Value.int IntKind.i64 i.to.n, Value.string i.to.nm, Value.int IntKind.i64 i.to.m]); refine (CR.out _).mono ?_; rintro e wx ⟨rfl, hbx⟩; (first | (have AY : Hid (IA wx w.heap.size i ∧ Below w.heap.size w wx) := ⟨AX.out.1.bel hbx, bel_trans AX.out.2 hbx⟩) | (have AY : Hid (IA wx w.heap.size i ∧ Below w.heap.size w wx) := ⟨(IA.new w i 25).bel hbx, bel_trans (bel_alloc (Below.refl _ _) _) hbx⟩)); clear hbx; (try clear p0 p1 p2 p3 p4 p5 p6 p7 p8 p9 p10 p11 p12 p13 p14 p15 p16 p17 p18 p19 p20 p21 p22 p23); (try clear AX); have AX := AY; clear AY; obtain ⟨p0, p1, p2, p3, p4, p5, p6, p7, p8, p9, p10, p11, p12, p13, p14, p15, p16, p17, p18, p19, p20, p21, p22, p23⟩ := AX.out.1)
      | (go_at_call 64; refine (CM.out _).mono ?_; rintro e wx ⟨rfl, hbx⟩; (first | (have AY : Hid (IA wx w.heap.size i ∧ Below w.heap.size w wx) := ⟨AX.out.1.bel hbx, bel_trans AX.out.2 hbx⟩) | (have AY : Hid (IA wx w.heap.size i ∧ Below w.heap.size w wx) := ⟨(IA.new w i 25).bel hbx, bel_trans (bel_alloc (Below.refl _ _) _) hbx⟩)); clear hbx; (try clear p0 p1 p2 p3 p4 p5 p6 p7 p8 p9 p10 p11 p12 p13 p14 p15 p16 p17 p18 p19 p20 p21 p22 p23); (try clear AX); have AX := AY; clear AY; obtain ⟨p0, p1, p2, p3, p4, p5, p6, p7, p8, p9, p10, p11, p12, p13, p14, p15, p16, p17, p18, p19, p20, p21, p22, p23⟩ := AX.out.1)
      | (go_at_call 88; refine (CS.out _).mono ?_; rintro e wy ⟨rfl, hwy⟩; subst wy))
    go_ret
    exact ⟨rfl, AX.out.2⟩
end Go.Proofs.YtdgejingoamfeaaDoor
