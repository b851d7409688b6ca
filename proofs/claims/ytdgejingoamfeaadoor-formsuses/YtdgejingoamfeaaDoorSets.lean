/- The contracts of Sets; Uses and Sets of whatever comes. -/
import Derived.Test.YtdgejingoamfeaaDoorUses
namespace Go.Proofs.YtdgejingoamfeaaDoor
open Go.ChangeShapes Go.WideShapes Go.ChangeAt Go.RowKit
set_option linter.unusedVariables false

set_option maxHeartbeats 4000000 in
set_option maxRecDepth 4000 in
theorem sets_core (i : I) (r : R) (w : World) (rt rf : Int)
    (C0 : Hid (∀ v, Below w.heap.size w v → Calls Tryd.prog 12 #[.agg #[.int .i64 i.op, .int .i64 i.sz, .int .i64 i.cd, .int .i64 i.to.k, .int .i64 i.to.r, .int .i64 i.to.b, .int .i64 i.to.x, .int .i64 i.to.s, .bool i.to.rip, .bool i.to.fs, .int .i64 i.to.n, .string i.to.nm, .int .i64 i.to.m, .int .i64 i.fr.k, .int .i64 i.fr.r, .int .i64 i.fr.b, .int .i64 i.fr.x, .int .i64 i.fr.s, .bool i.fr.rip, .bool i.fr.fs, .int .i64 i.fr.n, .string i.fr.nm, .int .i64 i.fr.m, .bool i.sh]] v fun e w' => e = .returned (.int .i64 0) ∧ Below v.heap.size v w'))
    (C1 : Hid (∀ v, Calls Tryd.prog 31 #[.int .i64 i.op] v fun e w' => e = .returned (.agg #[.string r.stem, .int .i64 r.sizes, .bool r.lettered, .bool r.conditional, .bool r.short, .func (.func r.f) #[] #[], .int .i64 r.to, .int .i64 r.uses, .int .i64 r.sets]) ∧ Below v.heap.size v w'))
    (C4 : Hid (∀ v, Calls Tryd.prog 47 #[.agg #[.int .i64 i.fr.k, .int .i64 i.fr.r, .int .i64 i.fr.b, .int .i64 i.fr.x, .int .i64 i.fr.s, .bool i.fr.rip, .bool i.fr.fs, .int .i64 i.fr.n, .string i.fr.nm, .int .i64 i.fr.m]] v fun e w' => e = .returned (.int .i64 rf) ∧ Below v.heap.size v w'))
    (C5 : Hid (∀ v, Calls Tryd.prog 47 #[.agg #[.int .i64 i.to.k, .int .i64 i.to.r, .int .i64 i.to.b, .int .i64 i.to.x, .int .i64 i.to.s, .bool i.to.rip, .bool i.to.fs, .int .i64 i.to.n, .string i.to.nm, .int .i64 i.to.m]] v fun e w' => e = .returned (.int .i64 rt) ∧ Below v.heap.size v w')) :
    Calls Tryd.prog 25 #[.agg #[.int .i64 i.op, .int .i64 i.sz, .int .i64 i.cd, .int .i64 i.to.k, .int .i64 i.to.r, .int .i64 i.to.b, .int .i64 i.to.x, .int .i64 i.to.s, .bool i.to.rip, .bool i.to.fs, .int .i64 i.to.n, .string i.to.nm, .int .i64 i.to.m, .int .i64 i.fr.k, .int .i64 i.fr.r, .int .i64 i.fr.b, .int .i64 i.fr.x, .int .i64 i.fr.s, .bool i.fr.rip, .bool i.fr.fs, .int .i64 i.fr.n, .string i.fr.nm, .int .i64 i.fr.m, .bool i.sh]] w fun e w' => e = .returned (.int .i64 (if i.op == 31 then orV (if r.to != 2 then orV r.sets rt else r.sets) rf else (if r.to != 2 then orV r.sets rt else r.sets))) ∧ Below w.heap.size w w' := by
  have L0 : Hid (∀ v, IA v w.heap.size i → (loadVar 25 ⟨w.heap.size, 0, none⟩).run Tryd.prog v = .ok (.agg #[.int .i64 i.op, .int .i64 i.sz, .int .i64 i.cd, .int .i64 i.to.k, .int .i64 i.to.r, .int .i64 i.to.b, .int .i64 i.to.x, .int .i64 i.to.s, .bool i.to.rip, .bool i.to.fs, .int .i64 i.to.n, .string i.to.nm, .int .i64 i.to.m, .int .i64 i.fr.k, .int .i64 i.fr.r, .int .i64 i.fr.b, .int .i64 i.fr.x, .int .i64 i.fr.s, .bool i.fr.rip, .bool i.fr.fs, .int .i64 i.fr.n, .string i.fr.nm, .int .i64 i.fr.m, .bool i.sh]) v) := ⟨fun v h => h.whole⟩
  obtain ⟨a, ha⟩ : ∃ x, (r.to != 2) = x := ⟨_, rfl⟩
  obtain ⟨b, hb⟩ : ∃ x, (i.op == 31) = x := ⟨_, rfl⟩
  rw [ha, hb]
  unfold orV
  rcases a with _ | _ <;> rcases b with _ | _
  all_goals
    go_enter Tryd.func25, Tryd.ntmps25
    go_wp2_with (first
      | (refine wpList_load_of (t := 25) rfl (by kernel_rfl) (by kernel_rfl) (L0.out _ (IA.new w i 25)) ?_)
      | (go_at_call 12; refine (C0.out _ (bel_alloc (Below.refl _ _) _)).mono ?_; rintro e w1 ⟨rfl, hb1⟩; have B1 : Hid (Below w.heap.size w w1) := ⟨bel_trans (bel_alloc (Below.refl _ _) _) hb1⟩; have A1 : Hid (IA w1 w.heap.size i) := ⟨(IA.new w i 25).bel hb1⟩; clear hb1; obtain ⟨p0, p1, p2, p3, p4, p5, p6, p7, p8, p9, p10, p11, p12, p13, p14, p15, p16, p17, p18, p19, p20, p21, p22, p23⟩ := A1.out)
      | (go_at_call 31; refine (C1.out _).mono ?_; rintro e w2 ⟨rfl, hb2⟩; have B2 : Hid (Below w.heap.size w w2) := ⟨bel_trans B1.out hb2⟩; have A2 : Hid (IA w2 w.heap.size i) := ⟨A1.out.bel hb2⟩; clear hb2; clear p0 p1 p2 p3 p4 p5 p6 p7 p8 p9 p10 p11 p12 p13 p14 p15 p16 p17 p18 p19 p20 p21 p22 p23; obtain ⟨p0, p1, p2, p3, p4, p5, p6, p7, p8, p9, p10, p11, p12, p13, p14, p15, p16, p17, p18, p19, p20, p21, p22, p23⟩ := A2.out; have hz2 : w.heap.size < w2.heap.size := World.block_lt_of_cell? _ _ p0)
      | (go_at_call_of 47 (Value.agg #[Value.int IntKind.i64 i.to.k, Value.int IntKind.i64 i.to.r, Value.int IntKind.i64 i.to.b, Value.int IntKind.i64 i.to.x, Value.int IntKind.i64 i.to.s, Value.bool i.to.rip, Value.bool i.to.fs, Value.int IntKind.i64 i.to.n, Value.string i.to.nm, Value.int IntKind.i64 i.to.m]); refine (C5.out _).mono ?_; rintro e w3 ⟨rfl, hb3⟩; have B3 : Hid (Below w.heap.size w w3) := ⟨bel_trans (bel_alloc B2.out _) hb3⟩; have A3 : Hid (IA w3 w.heap.size i) := ⟨(A2.out.up _).bel hb3⟩; obtain ⟨q0, q1, q2, q3, q4, q5, q6, q7, q8⟩ := (RA.new w2 r 52).bel hb3; clear hb3; clear p0 p1 p2 p3 p4 p5 p6 p7 p8 p9 p10 p11 p12 p13 p14 p15 p16 p17 p18 p19 p20 p21 p22 p23; obtain ⟨p0, p1, p2, p3, p4, p5, p6, p7, p8, p9, p10, p11, p12, p13, p14, p15, p16, p17, p18, p19, p20, p21, p22, p23⟩ := A3.out)
      | (go_at_call_of 47 (Value.agg #[Value.int IntKind.i64 i.fr.k, Value.int IntKind.i64 i.fr.r, Value.int IntKind.i64 i.fr.b, Value.int IntKind.i64 i.fr.x, Value.int IntKind.i64 i.fr.s, Value.bool i.fr.rip, Value.bool i.fr.fs, Value.int IntKind.i64 i.fr.n, Value.string i.fr.nm, Value.int IntKind.i64 i.fr.m]); refine (C4.out _).mono ?_; rintro e w4 ⟨rfl, hb4⟩; first | (have B4 : Hid (Below w.heap.size w w4) := ⟨bel_trans B3.out hb4⟩) | (have B4 : Hid (Below w.heap.size w w4) := ⟨bel_trans (bel_alloc B2.out _) hb4⟩)))
    go_ret
    exact ⟨rfl, by first | exact B4.out | exact B3.out | exact bel_alloc B2.out _⟩
end Go.Proofs.YtdgejingoamfeaaDoor
