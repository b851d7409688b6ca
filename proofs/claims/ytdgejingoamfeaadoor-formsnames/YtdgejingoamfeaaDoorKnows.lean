/- The contracts of Uses and Sets. The contracts of Sets; Uses and Sets of whatever comes. The contracts of Uses and Sets, and of the law's knows. -/
import Derived.Test.YtdgejingoamfeaaDoorTextAny
namespace Go.Proofs.YtdgejingoamfeaaDoor
open Go.ChangeShapes Go.WideShapes Go.ChangeAt Go.RowKit
set_option linter.unusedVariables false

theorem mkU {w v : World} {n : Nat} {i : I} {r : R} (h : IA v w.heap.size i ∧ RA v n r ∧ Below w.heap.size w v) : v.cell? ⟨w.heap.size, 3, none⟩ = some (.int .i64 i.to.k) ∧ v.cell? ⟨w.heap.size, 4, none⟩ = some (.int .i64 i.to.r) ∧ v.cell? ⟨w.heap.size, 5, none⟩ = some (.int .i64 i.to.b) ∧ v.cell? ⟨w.heap.size, 6, none⟩ = some (.int .i64 i.to.x) ∧ v.cell? ⟨w.heap.size, 7, none⟩ = some (.int .i64 i.to.s) ∧ v.cell? ⟨w.heap.size, 8, none⟩ = some (.bool i.to.rip) ∧ v.cell? ⟨w.heap.size, 9, none⟩ = some (.bool i.to.fs) ∧ v.cell? ⟨w.heap.size, 10, none⟩ = some (.int .i64 i.to.n) ∧ v.cell? ⟨w.heap.size, 11, none⟩ = some (.string i.to.nm) ∧ v.cell? ⟨w.heap.size, 12, none⟩ = some (.int .i64 i.to.m) ∧ v.cell? ⟨w.heap.size, 13, none⟩ = some (.int .i64 i.fr.k) ∧ v.cell? ⟨w.heap.size, 14, none⟩ = some (.int .i64 i.fr.r) ∧ v.cell? ⟨w.heap.size, 15, none⟩ = some (.int .i64 i.fr.b) ∧ v.cell? ⟨w.heap.size, 16, none⟩ = some (.int .i64 i.fr.x) ∧ v.cell? ⟨w.heap.size, 17, none⟩ = some (.int .i64 i.fr.s) ∧ v.cell? ⟨w.heap.size, 18, none⟩ = some (.bool i.fr.rip) ∧ v.cell? ⟨w.heap.size, 19, none⟩ = some (.bool i.fr.fs) ∧ v.cell? ⟨w.heap.size, 20, none⟩ = some (.int .i64 i.fr.n) ∧ v.cell? ⟨w.heap.size, 21, none⟩ = some (.string i.fr.nm) ∧ v.cell? ⟨w.heap.size, 22, none⟩ = some (.int .i64 i.fr.m) ∧ v.cell? ⟨n, 7, none⟩ = some (.int .i64 r.uses) ∧ Hid (IA v w.heap.size i ∧ RA v n r ∧ Below w.heap.size w v) := ⟨h.1.c3, h.1.c4, h.1.c5, h.1.c6, h.1.c7, h.1.c8, h.1.c9, h.1.c10, h.1.c11, h.1.c12, h.1.c13, h.1.c14, h.1.c15, h.1.c16, h.1.c17, h.1.c18, h.1.c19, h.1.c20, h.1.c21, h.1.c22, h.2.1.c7, ⟨h⟩⟩
theorem lastU {w v : World} {n : Nat} {i : I} {r : R} (h : v.cell? ⟨w.heap.size, 3, none⟩ = some (.int .i64 i.to.k) ∧ v.cell? ⟨w.heap.size, 4, none⟩ = some (.int .i64 i.to.r) ∧ v.cell? ⟨w.heap.size, 5, none⟩ = some (.int .i64 i.to.b) ∧ v.cell? ⟨w.heap.size, 6, none⟩ = some (.int .i64 i.to.x) ∧ v.cell? ⟨w.heap.size, 7, none⟩ = some (.int .i64 i.to.s) ∧ v.cell? ⟨w.heap.size, 8, none⟩ = some (.bool i.to.rip) ∧ v.cell? ⟨w.heap.size, 9, none⟩ = some (.bool i.to.fs) ∧ v.cell? ⟨w.heap.size, 10, none⟩ = some (.int .i64 i.to.n) ∧ v.cell? ⟨w.heap.size, 11, none⟩ = some (.string i.to.nm) ∧ v.cell? ⟨w.heap.size, 12, none⟩ = some (.int .i64 i.to.m) ∧ v.cell? ⟨w.heap.size, 13, none⟩ = some (.int .i64 i.fr.k) ∧ v.cell? ⟨w.heap.size, 14, none⟩ = some (.int .i64 i.fr.r) ∧ v.cell? ⟨w.heap.size, 15, none⟩ = some (.int .i64 i.fr.b) ∧ v.cell? ⟨w.heap.size, 16, none⟩ = some (.int .i64 i.fr.x) ∧ v.cell? ⟨w.heap.size, 17, none⟩ = some (.int .i64 i.fr.s) ∧ v.cell? ⟨w.heap.size, 18, none⟩ = some (.bool i.fr.rip) ∧ v.cell? ⟨w.heap.size, 19, none⟩ = some (.bool i.fr.fs) ∧ v.cell? ⟨w.heap.size, 20, none⟩ = some (.int .i64 i.fr.n) ∧ v.cell? ⟨w.heap.size, 21, none⟩ = some (.string i.fr.nm) ∧ v.cell? ⟨w.heap.size, 22, none⟩ = some (.int .i64 i.fr.m) ∧ v.cell? ⟨n, 7, none⟩ = some (.int .i64 r.uses) ∧ Hid (IA v w.heap.size i ∧ RA v n r ∧ Below w.heap.size w v)) : IA v w.heap.size i ∧ RA v n r ∧ Below w.heap.size w v := h.2.2.2.2.2.2.2.2.2.2.2.2.2.2.2.2.2.2.2.2.2.out
theorem keepU {w v u : World} {n : Nat} {i : I} {r : R} (h : v.cell? ⟨w.heap.size, 3, none⟩ = some (.int .i64 i.to.k) ∧ v.cell? ⟨w.heap.size, 4, none⟩ = some (.int .i64 i.to.r) ∧ v.cell? ⟨w.heap.size, 5, none⟩ = some (.int .i64 i.to.b) ∧ v.cell? ⟨w.heap.size, 6, none⟩ = some (.int .i64 i.to.x) ∧ v.cell? ⟨w.heap.size, 7, none⟩ = some (.int .i64 i.to.s) ∧ v.cell? ⟨w.heap.size, 8, none⟩ = some (.bool i.to.rip) ∧ v.cell? ⟨w.heap.size, 9, none⟩ = some (.bool i.to.fs) ∧ v.cell? ⟨w.heap.size, 10, none⟩ = some (.int .i64 i.to.n) ∧ v.cell? ⟨w.heap.size, 11, none⟩ = some (.string i.to.nm) ∧ v.cell? ⟨w.heap.size, 12, none⟩ = some (.int .i64 i.to.m) ∧ v.cell? ⟨w.heap.size, 13, none⟩ = some (.int .i64 i.fr.k) ∧ v.cell? ⟨w.heap.size, 14, none⟩ = some (.int .i64 i.fr.r) ∧ v.cell? ⟨w.heap.size, 15, none⟩ = some (.int .i64 i.fr.b) ∧ v.cell? ⟨w.heap.size, 16, none⟩ = some (.int .i64 i.fr.x) ∧ v.cell? ⟨w.heap.size, 17, none⟩ = some (.int .i64 i.fr.s) ∧ v.cell? ⟨w.heap.size, 18, none⟩ = some (.bool i.fr.rip) ∧ v.cell? ⟨w.heap.size, 19, none⟩ = some (.bool i.fr.fs) ∧ v.cell? ⟨w.heap.size, 20, none⟩ = some (.int .i64 i.fr.n) ∧ v.cell? ⟨w.heap.size, 21, none⟩ = some (.string i.fr.nm) ∧ v.cell? ⟨w.heap.size, 22, none⟩ = some (.int .i64 i.fr.m) ∧ v.cell? ⟨n, 7, none⟩ = some (.int .i64 r.uses) ∧ Hid (IA v w.heap.size i ∧ RA v n r ∧ Below w.heap.size w v)) (hb : Below v.heap.size v u) : u.cell? ⟨w.heap.size, 3, none⟩ = some (.int .i64 i.to.k) ∧ u.cell? ⟨w.heap.size, 4, none⟩ = some (.int .i64 i.to.r) ∧ u.cell? ⟨w.heap.size, 5, none⟩ = some (.int .i64 i.to.b) ∧ u.cell? ⟨w.heap.size, 6, none⟩ = some (.int .i64 i.to.x) ∧ u.cell? ⟨w.heap.size, 7, none⟩ = some (.int .i64 i.to.s) ∧ u.cell? ⟨w.heap.size, 8, none⟩ = some (.bool i.to.rip) ∧ u.cell? ⟨w.heap.size, 9, none⟩ = some (.bool i.to.fs) ∧ u.cell? ⟨w.heap.size, 10, none⟩ = some (.int .i64 i.to.n) ∧ u.cell? ⟨w.heap.size, 11, none⟩ = some (.string i.to.nm) ∧ u.cell? ⟨w.heap.size, 12, none⟩ = some (.int .i64 i.to.m) ∧ u.cell? ⟨w.heap.size, 13, none⟩ = some (.int .i64 i.fr.k) ∧ u.cell? ⟨w.heap.size, 14, none⟩ = some (.int .i64 i.fr.r) ∧ u.cell? ⟨w.heap.size, 15, none⟩ = some (.int .i64 i.fr.b) ∧ u.cell? ⟨w.heap.size, 16, none⟩ = some (.int .i64 i.fr.x) ∧ u.cell? ⟨w.heap.size, 17, none⟩ = some (.int .i64 i.fr.s) ∧ u.cell? ⟨w.heap.size, 18, none⟩ = some (.bool i.fr.rip) ∧ u.cell? ⟨w.heap.size, 19, none⟩ = some (.bool i.fr.fs) ∧ u.cell? ⟨w.heap.size, 20, none⟩ = some (.int .i64 i.fr.n) ∧ u.cell? ⟨w.heap.size, 21, none⟩ = some (.string i.fr.nm) ∧ u.cell? ⟨w.heap.size, 22, none⟩ = some (.int .i64 i.fr.m) ∧ u.cell? ⟨n, 7, none⟩ = some (.int .i64 r.uses) ∧ Hid (IA u w.heap.size i ∧ RA u n r ∧ Below w.heap.size w u) :=
  mkU ⟨(lastU h).1.bel hb, (lastU h).2.1.bel hb, bel_trans (lastU h).2.2 hb⟩

def usesR (r : R) (i : I) : Int :=
  if (r.to != 1) || (i.sz == 1) then orV (orV (orV (orV r.uses (addrBitsV i.to)) (addrBitsV i.fr)) (regBitV i.fr)) (regBitV i.to)
  else orV (orV (orV r.uses (addrBitsV i.to)) (addrBitsV i.fr)) (regBitV i.fr)

set_option maxHeartbeats 4000000 in
set_option maxRecDepth 4000 in
theorem uses_core (i : I) (r : R) (w : World) (xt xf rt rf : Int)
    (C0 : Hid (∀ v, Below w.heap.size w v → Calls Tryd.prog 12 #[.agg #[.int .i64 i.op, .int .i64 i.sz, .int .i64 i.cd, .int .i64 i.to.k, .int .i64 i.to.r, .int .i64 i.to.b, .int .i64 i.to.x, .int .i64 i.to.s, .bool i.to.rip, .bool i.to.fs, .int .i64 i.to.n, .string i.to.nm, .int .i64 i.to.m, .int .i64 i.fr.k, .int .i64 i.fr.r, .int .i64 i.fr.b, .int .i64 i.fr.x, .int .i64 i.fr.s, .bool i.fr.rip, .bool i.fr.fs, .int .i64 i.fr.n, .string i.fr.nm, .int .i64 i.fr.m, .bool i.sh]] v fun e w' => e = .returned (.int .i64 0) ∧ Below v.heap.size v w'))
    (C1 : Hid (∀ v, Calls Tryd.prog 31 #[.int .i64 i.op] v fun e w' => e = .returned (.agg #[.string r.stem, .int .i64 r.sizes, .bool r.lettered, .bool r.conditional, .bool r.short, .func (.func r.f) #[] #[], .int .i64 r.to, .int .i64 r.uses, .int .i64 r.sets]) ∧ Below v.heap.size v w'))
    (C2 : Hid (∀ v, Calls Tryd.prog 46 #[.agg #[.int .i64 i.to.k, .int .i64 i.to.r, .int .i64 i.to.b, .int .i64 i.to.x, .int .i64 i.to.s, .bool i.to.rip, .bool i.to.fs, .int .i64 i.to.n, .string i.to.nm, .int .i64 i.to.m]] v fun e w' => e = .returned (.int .i64 xt) ∧ Below v.heap.size v w'))
    (C3 : Hid (∀ v, Calls Tryd.prog 46 #[.agg #[.int .i64 i.fr.k, .int .i64 i.fr.r, .int .i64 i.fr.b, .int .i64 i.fr.x, .int .i64 i.fr.s, .bool i.fr.rip, .bool i.fr.fs, .int .i64 i.fr.n, .string i.fr.nm, .int .i64 i.fr.m]] v fun e w' => e = .returned (.int .i64 xf) ∧ Below v.heap.size v w'))
    (C4 : Hid (∀ v, Calls Tryd.prog 47 #[.agg #[.int .i64 i.fr.k, .int .i64 i.fr.r, .int .i64 i.fr.b, .int .i64 i.fr.x, .int .i64 i.fr.s, .bool i.fr.rip, .bool i.fr.fs, .int .i64 i.fr.n, .string i.fr.nm, .int .i64 i.fr.m]] v fun e w' => e = .returned (.int .i64 rf) ∧ Below v.heap.size v w'))
    (C5 : Hid (∀ v, Calls Tryd.prog 47 #[.agg #[.int .i64 i.to.k, .int .i64 i.to.r, .int .i64 i.to.b, .int .i64 i.to.x, .int .i64 i.to.s, .bool i.to.rip, .bool i.to.fs, .int .i64 i.to.n, .string i.to.nm, .int .i64 i.to.m]] v fun e w' => e = .returned (.int .i64 rt) ∧ Below v.heap.size v w')) :
    Calls Tryd.prog 23 #[.agg #[.int .i64 i.op, .int .i64 i.sz, .int .i64 i.cd, .int .i64 i.to.k, .int .i64 i.to.r, .int .i64 i.to.b, .int .i64 i.to.x, .int .i64 i.to.s, .bool i.to.rip, .bool i.to.fs, .int .i64 i.to.n, .string i.to.nm, .int .i64 i.to.m, .int .i64 i.fr.k, .int .i64 i.fr.r, .int .i64 i.fr.b, .int .i64 i.fr.x, .int .i64 i.fr.s, .bool i.fr.rip, .bool i.fr.fs, .int .i64 i.fr.n, .string i.fr.nm, .int .i64 i.fr.m, .bool i.sh]] w fun e w' => e = .returned (.int .i64 (if (r.to != 1) || (i.sz == 1) then orV (orV (orV (orV r.uses xt) xf) rf) rt else orV (orV (orV r.uses xt) xf) rf)) ∧ Below w.heap.size w w' := by
  have L0 : Hid (∀ v, IA v w.heap.size i → (loadVar 25 ⟨w.heap.size, 0, none⟩).run Tryd.prog v = .ok (.agg #[.int .i64 i.op, .int .i64 i.sz, .int .i64 i.cd, .int .i64 i.to.k, .int .i64 i.to.r, .int .i64 i.to.b, .int .i64 i.to.x, .int .i64 i.to.s, .bool i.to.rip, .bool i.to.fs, .int .i64 i.to.n, .string i.to.nm, .int .i64 i.to.m, .int .i64 i.fr.k, .int .i64 i.fr.r, .int .i64 i.fr.b, .int .i64 i.fr.x, .int .i64 i.fr.s, .bool i.fr.rip, .bool i.fr.fs, .int .i64 i.fr.n, .string i.fr.nm, .int .i64 i.fr.m, .bool i.sh]) v) := ⟨fun v h => h.whole⟩
  obtain ⟨a, ha⟩ : ∃ x, (r.to != 1) = x := ⟨_, rfl⟩
  obtain ⟨b, hb⟩ : ∃ x, (i.sz == 1) = x := ⟨_, rfl⟩
  rw [ha, hb]
  unfold orV
  rcases a with _ | _
  case' false => rcases b with _ | _
  all_goals
    have tk : True := trivial
    have tj : True := trivial
    go_enter Tryd.func23, Tryd.ntmps23
    go_wp2_with (first
      | (refine wpList_load_of (t := 25) rfl (by kernel_rfl) (by kernel_rfl) (L0.out _ (IA.new w i 25)) ?_)
      | (go_at_call 12; refine (C0.out _ (bel_alloc (Below.refl _ _) _)).mono ?_; rintro e w1 ⟨rfl, hb1⟩; have B1 : Hid (Below w.heap.size w w1) := ⟨bel_trans (bel_alloc (Below.refl _ _) _) hb1⟩; have A1 : Hid (IA w1 w.heap.size i) := ⟨(IA.new w i 25).bel hb1⟩; clear hb1; obtain ⟨p0, p1, p2, p3, p4, p5, p6, p7, p8, p9, p10, p11, p12, p13, p14, p15, p16, p17, p18, p19, p20, p21, p22, p23⟩ := A1.out)
      | (go_at_call 31; refine (C1.out _).mono ?_; rintro e w2 ⟨rfl, hb2⟩; have B2 : Hid (Below w.heap.size w w2) := ⟨bel_trans B1.out hb2⟩; have A2 : Hid (IA w2 w.heap.size i) := ⟨A1.out.bel hb2⟩; clear hb2; clear p0 p1 p2 p3 p4 p5 p6 p7 p8 p9 p10 p11 p12 p13 p14 p15 p16 p17 p18 p19 p20 p21 p22 p23))
    generalize hv : w2.alloc (.cells #[.string r.stem, .int .i64 r.sizes, .bool r.lettered, .bool r.conditional, .bool r.short, .func (.func r.f) #[] #[], .int .i64 r.to, .int .i64 r.uses, .int .i64 r.sets] 52) = v
    generalize hn : w2.heap.size = n
    have K := mkU (w := w) (v := v.drew) (n := n) (i := i) (r := r) ⟨by rw [← hv]; exact (A2.out.up _).bel (bel_drew _), by rw [← hv, ← hn]; exact (RA.new w2 r _).bel (bel_drew _), by rw [← hv]; exact (bel_alloc B2.out _).drew⟩
    clear hv hn
    go_region_held3 (fun v => v.cell? ⟨w.heap.size, 3, none⟩ = some (.int .i64 i.to.k) ∧ v.cell? ⟨w.heap.size, 4, none⟩ = some (.int .i64 i.to.r) ∧ v.cell? ⟨w.heap.size, 5, none⟩ = some (.int .i64 i.to.b) ∧ v.cell? ⟨w.heap.size, 6, none⟩ = some (.int .i64 i.to.x) ∧ v.cell? ⟨w.heap.size, 7, none⟩ = some (.int .i64 i.to.s) ∧ v.cell? ⟨w.heap.size, 8, none⟩ = some (.bool i.to.rip) ∧ v.cell? ⟨w.heap.size, 9, none⟩ = some (.bool i.to.fs) ∧ v.cell? ⟨w.heap.size, 10, none⟩ = some (.int .i64 i.to.n) ∧ v.cell? ⟨w.heap.size, 11, none⟩ = some (.string i.to.nm) ∧ v.cell? ⟨w.heap.size, 12, none⟩ = some (.int .i64 i.to.m) ∧ v.cell? ⟨w.heap.size, 13, none⟩ = some (.int .i64 i.fr.k) ∧ v.cell? ⟨w.heap.size, 14, none⟩ = some (.int .i64 i.fr.r) ∧ v.cell? ⟨w.heap.size, 15, none⟩ = some (.int .i64 i.fr.b) ∧ v.cell? ⟨w.heap.size, 16, none⟩ = some (.int .i64 i.fr.x) ∧ v.cell? ⟨w.heap.size, 17, none⟩ = some (.int .i64 i.fr.s) ∧ v.cell? ⟨w.heap.size, 18, none⟩ = some (.bool i.fr.rip) ∧ v.cell? ⟨w.heap.size, 19, none⟩ = some (.bool i.fr.fs) ∧ v.cell? ⟨w.heap.size, 20, none⟩ = some (.int .i64 i.fr.n) ∧ v.cell? ⟨w.heap.size, 21, none⟩ = some (.string i.fr.nm) ∧ v.cell? ⟨w.heap.size, 22, none⟩ = some (.int .i64 i.fr.m) ∧ v.cell? ⟨n, 7, none⟩ = some (.int .i64 r.uses) ∧ Hid (IA v w.heap.size i ∧ RA v n r ∧ Below w.heap.size w v))
      (first | (with_reducible assumption) | exact keepU (by with_reducible assumption) hb)
      (first
        | (go_at_call 46; clear tk; refine (C2.out _).mono ?_; rintro e wp ⟨rfl, hb⟩)
        | (go_at_call 46; refine (C3.out _).mono ?_; rintro e wp ⟨rfl, hb⟩)
        | (go_at_call 47; refine (C4.out _).mono ?_; rintro e wp ⟨rfl, hb⟩))
    have HX := hid (lastU (by with_reducible assumption))
    obtain ⟨p0, p1, p2, p3, p4, p5, p6, p7, p8, p9, p10, p11, p12, p13, p14, p15, p16, p17, p18, p19, p20, p21, p22, p23⟩ := HX.out.1
    obtain ⟨q0, q1, q2, q3, q4, q5, q6, q7, q8⟩ := HX.out.2.1
    go_wp2_with (go_at_call 47; refine (C5.out _).mono ?_; rintro e w9 ⟨rfl, hb9⟩; have B9 : Hid (Below w.heap.size w w9) := ⟨bel_trans HX.out.2.2 hb9⟩)
    go_ret
    exact ⟨rfl, by first | exact B9.out | exact HX.out.2.2⟩

set_option maxHeartbeats 4000000 in
set_option maxRecDepth 4000 in
theorem sets_core (i : I) (r : R) (w : World) (rt rf : Int)
    (C0 : Hid (∀ v, Below w.heap.size w v → Calls Tryd.prog 12 #[.agg #[.int .i64 i.op, .int .i64 i.sz, .int .i64 i.cd, .int .i64 i.to.k, .int .i64 i.to.r, .int .i64 i.to.b, .int .i64 i.to.x, .int .i64 i.to.s, .bool i.to.rip, .bool i.to.fs, .int .i64 i.to.n, .string i.to.nm, .int .i64 i.to.m, .int .i64 i.fr.k, .int .i64 i.fr.r, .int .i64 i.fr.b, .int .i64 i.fr.x, .int .i64 i.fr.s, .bool i.fr.rip, .bool i.fr.fs, .int .i64 i.fr.n, .string i.fr.nm, .int .i64 i.fr.m, .bool i.sh]] v fun e w' => e = .returned (.int .i64 0) ∧ Below v.heap.size v w'))
    (C1 : Hid (∀ v, Calls Tryd.prog 31 #[.int .i64 i.op] v fun e w' => e = .returned (.agg #[.string r.stem, .int .i64 r.sizes, .bool r.lettered, .bool r.conditional, .bool r.short, .func (.func r.f) #[] #[], .int .i64 r.to, .int .i64 r.uses, .int .i64 r.sets]) ∧ Below v.heap.size v w'))
    (C4 : Hid (∀ v, Calls Tryd.prog 47 #[.agg #[.int .i64 i.fr.k, .int .i64 i.fr.r, .int .i64 i.fr.b, .int .i64 i.fr.x, .int .i64 i.fr.s, .bool i.fr.rip, .bool i.fr.fs, .int .i64 i.fr.n, .string i.fr.nm, .int .i64 i.fr.m]] v fun e w' => e = .returned (.int .i64 rf) ∧ Below v.heap.size v w'))
    (C5 : Hid (∀ v, Calls Tryd.prog 47 #[.agg #[.int .i64 i.to.k, .int .i64 i.to.r, .int .i64 i.to.b, .int .i64 i.to.x, .int .i64 i.to.s, .bool i.to.rip, .bool i.to.fs, .int .i64 i.to.n, .string i.to.nm, .int .i64 i.to.m]] v fun e w' => e = .returned (.int .i64 rt) ∧ Below v.heap.size v w')) :
    Calls Tryd.prog 25 #[.agg #[.int .i64 i.op, .int .i64 i.sz, .int .i64 i.cd, .int .i64 i.to.k, .int .i64 i.to.r, .int .i64 i.to.b, .int .i64 i.to.x, .int .i64 i.to.s, .bool i.to.rip, .bool i.to.fs, .int .i64 i.to.n, .string i.to.nm, .int .i64 i.to.m, .int .i64 i.fr.k, .int .i64 i.fr.r, .int .i64 i.fr.b, .int .i64 i.fr.x, .int .i64 i.fr.s, .bool i.fr.rip, .bool i.fr.fs, .int .i64 i.fr.n, .string i.fr.nm, .int .i64 i.fr.m, .bool i.sh]] w fun e w' => e = .returned (.int .i64 (if i.op == 31 then orV (if r.to != 2 then orV r.sets rt else r.sets) rf else (if r.to != 2 then orV r.sets rt else r.sets))) ∧ Below w.heap.size w w' := by
  have L0 : Hid (∀ v, IA v w.heap.size i → (loadVar 25 ⟨w.heap.size, 0, none⟩).run Tryd.prog v = .ok (.agg #[.int .i64 i.op, .int .i64 i.sz, .int .i64 i.cd, .int .i64 i.to.k, .int .i64 i.to.r, .int .i64 i.to.b, .int .i64 i.to.x, .int .i64 i.to.s, .bool i.to.rip, .bool i.to.fs, .int .i64 i.to.n, .string i.to.nm, .int .i64 i.to.m, .int .i64 i.fr.k, .int .i64 i.fr.r, .int .i64 i.fr.b, .int .i64 i.fr.x, .int .i64 i.fr.s, .bool i.fr.rip, .bool i.fr.fs, .int .i64 i.fr.n, .string i.fr.nm, .int .i64 i.fr.m, .bool i.sh]) v) := ⟨fun v h => h.whole⟩
  obtain ⟨a, ha⟩ : ∃ x, (r.to != 2) = x := ⟨_, rfl⟩
  obtain ⟨b, hb⟩ : ∃ x, (i.op == 31) = x := ⟨_, rfl⟩
  rw [ha, hb]
  unfold orV
  rcases a with _ | _ <;> rcases b with _ | _
  all_goals
    go_enter Tryd.func25, Tryd.ntmps25
    go_wp2_with (first
      | (refine wpList_load_of (t := 25) rfl (by kernel_rfl) (by kernel_rfl) (L0.out _ (IA.new w i 25)) ?_)
      | (go_at_call 12; refine (C0.out _ (bel_alloc (Below.refl _ _) _)).mono ?_; rintro e w1 ⟨rfl, hb1⟩; have B1 : Hid (Below w.heap.size w w1) := ⟨bel_trans (bel_alloc (Below.refl _ _) _) hb1⟩; have A1 : Hid (IA w1 w.heap.size i) := ⟨(IA.new w i 25).bel hb1⟩; clear hb1; obtain ⟨p0, p1, p2, p3, p4, p5, p6, p7, p8, p9, p10, p11, p12, p13, p14, p15, p16, p17, p18, p19, p20, p21, p22, p23⟩ := A1.out)
      | (go_at_call 31; refine (C1.out _).mono ?_; rintro e w2 ⟨rfl, hb2⟩; have B2 : Hid (Below w.heap.size w w2) := ⟨bel_trans B1.out hb2⟩; have A2 : Hid (IA w2 w.heap.size i) := ⟨A1.out.bel hb2⟩; clear hb2; clear p0 p1 p2 p3 p4 p5 p6 p7 p8 p9 p10 p11 p12 p13 p14 p15 p16 p17 p18 p19 p20 p21 p22 p23; obtain ⟨p0, p1, p2, p3, p4, p5, p6, p7, p8, p9, p10, p11, p12, p13, p14, p15, p16, p17, p18, p19, p20, p21, p22, p23⟩ := A2.out; have hz2 : w.heap.size < w2.heap.size := World.block_lt_of_cell? _ _ p0)
      | (go_at_call_of 47 (Value.agg #[Value.int IntKind.i64 i.to.k, Value.int IntKind.i64 i.to.r, Value.int IntKind.i64 i.to.b, Value.int IntKind.i64 i.to.x, Value.int IntKind.i64 i.to.s, Value.bool i.to.rip, Value.bool i.to.fs, Value.int IntKind.i64 i.to.n, Value.string i.to.nm, Value.int IntKind.i64 i.to.m]); refine (C5.out _).mono ?_; rintro e w3 ⟨rfl, hb3⟩; have B3 : Hid (Below w.heap.size w w3) := ⟨bel_trans (bel_alloc B2.out _) hb3⟩; have A3 : Hid (IA w3 w.heap.size i) := ⟨(A2.out.up _).bel hb3⟩; obtain ⟨q0, q1, q2, q3, q4, q5, q6, q7, q8⟩ := (RA.new w2 r 52).bel hb3; clear hb3; clear p0 p1 p2 p3 p4 p5 p6 p7 p8 p9 p10 p11 p12 p13 p14 p15 p16 p17 p18 p19 p20 p21 p22 p23; obtain ⟨p0, p1, p2, p3, p4, p5, p6, p7, p8, p9, p10, p11, p12, p13, p14, p15, p16, p17, p18, p19, p20, p21, p22, p23⟩ := A3.out)
      | (go_at_call_of 47 (Value.agg #[Value.int IntKind.i64 i.fr.k, Value.int IntKind.i64 i.fr.r, Value.int IntKind.i64 i.fr.b, Value.int IntKind.i64 i.fr.x, Value.int IntKind.i64 i.fr.s, Value.bool i.fr.rip, Value.bool i.fr.fs, Value.int IntKind.i64 i.fr.n, Value.string i.fr.nm, Value.int IntKind.i64 i.fr.m]); refine (C4.out _).mono ?_; rintro e w4 ⟨rfl, hb4⟩; first | (have B4 : Hid (Below w.heap.size w w4) := ⟨bel_trans B3.out hb4⟩) | (have B4 : Hid (Below w.heap.size w w4) := ⟨bel_trans (bel_alloc B2.out _) hb4⟩)))
    go_ret
    exact ⟨rfl, by first | exact B4.out | exact B3.out | exact bel_alloc B2.out _⟩

def usesV (i : I) : Int := if checkB i then usesR (rowL i.op) i else 0
def setsR (r : R) (i : I) : Int := if i.op == 31 then orV (if r.to != 2 then orV r.sets (regBitV i.to) else r.sets) (regBitV i.fr) else (if r.to != 2 then orV r.sets (regBitV i.to) else r.sets)
def setsV (i : I) : Int := if checkB i then setsR (rowL i.op) i else 0

theorem check_op {i : I} (h : checkB i = true) : 1 ≤ i.op ∧ i.op ≤ 35 := by
  unfold checkB at h
  split at h
  · assumption
  · cases h

set_option maxHeartbeats 2000000 in
theorem uses_no (i : I) (w : World) (hw : Gl w) (hc : checkB i = false) :
    Calls Tryd.prog 23 #[i.val] w fun e w' => e = .returned (.int .i64 0) ∧ Below w.heap.size w w' := by
  have C0 : Hid (∀ v, Below w.heap.size w v → Calls Tryd.prog 12 #[i.val] v fun e w' => e = .returned (.int .i64 30) ∧ Below v.heap.size v w') := ⟨fun v hv => by have := check_any i v (hw.bel hv); rw [hc] at this; exact this⟩
  have L0 : Hid (∀ v, IA v w.heap.size i → (loadVar 25 ⟨w.heap.size, 0, none⟩).run Tryd.prog v = .ok i.val v) := ⟨fun v h => h.whole⟩
  unfold I.val at *
  clear hw hc
  go_enter Tryd.func23, Tryd.ntmps23
  go_wp2_with (first
    | (refine wpList_load_of (t := 25) rfl (by kernel_rfl) (by kernel_rfl) (L0.out _ (IA.new w i 25)) ?_)
    | (go_at_call 12; refine (C0.out _ (bel_alloc (Below.refl _ _) _)).mono ?_; rintro e w1 ⟨rfl, hb1⟩; have B1 : Hid (Below w.heap.size w w1) := ⟨bel_trans (bel_alloc (Below.refl _ _) _) hb1⟩; clear hb1))
  go_ret
  exact ⟨rfl, B1.out⟩
set_option maxHeartbeats 2000000 in
theorem sets_no (i : I) (w : World) (hw : Gl w) (hc : checkB i = false) :
    Calls Tryd.prog 25 #[i.val] w fun e w' => e = .returned (.int .i64 0) ∧ Below w.heap.size w w' := by
  have C0 : Hid (∀ v, Below w.heap.size w v → Calls Tryd.prog 12 #[i.val] v fun e w' => e = .returned (.int .i64 30) ∧ Below v.heap.size v w') := ⟨fun v hv => by have := check_any i v (hw.bel hv); rw [hc] at this; exact this⟩
  have L0 : Hid (∀ v, IA v w.heap.size i → (loadVar 25 ⟨w.heap.size, 0, none⟩).run Tryd.prog v = .ok i.val v) := ⟨fun v h => h.whole⟩
  unfold I.val at *
  clear hw hc
  go_enter Tryd.func25, Tryd.ntmps25
  go_wp2_with (first
    | (refine wpList_load_of (t := 25) rfl (by kernel_rfl) (by kernel_rfl) (L0.out _ (IA.new w i 25)) ?_)
    | (go_at_call 12; refine (C0.out _ (bel_alloc (Below.refl _ _) _)).mono ?_; rintro e w1 ⟨rfl, hb1⟩; have B1 : Hid (Below w.heap.size w w1) := ⟨bel_trans (bel_alloc (Below.refl _ _) _) hb1⟩; clear hb1))
  go_ret
  exact ⟨rfl, B1.out⟩

theorem uses_any (i : I) (w : World) (hw : Gl w) :
    Calls Tryd.prog 23 #[i.val] w fun e w' => e = .returned (.int .i64 (usesV i)) ∧ Below w.heap.size w w' := by
  unfold usesV
  cases hc : checkB i
  · exact uses_no i w hw hc
  · have hm := check_may hc
    have ho := check_op hc
    exact uses_core i (rowL i.op) w (addrBitsV i.to) (addrBitsV i.fr) (regBitV i.to) (regBitV i.fr) ⟨fun v hv => by have := check_any i v (hw.bel hv); rw [hc] at this; exact this⟩ ⟨fun v => rowOf_yes i.op v ho.1 ho.2⟩
      ⟨fun v => addrBits_any i.to v (mem_in hm.1)⟩ ⟨fun v => addrBits_any i.fr v (mem_in hm.2)⟩ ⟨fun v => regBit_any i.fr v (reg_in hm.2)⟩ ⟨fun v => regBit_any i.to v (reg_in hm.1)⟩
theorem sets_any (i : I) (w : World) (hw : Gl w) :
    Calls Tryd.prog 25 #[i.val] w fun e w' => e = .returned (.int .i64 (setsV i)) ∧ Below w.heap.size w w' := by
  unfold setsV
  cases hc : checkB i
  · exact sets_no i w hw hc
  · have hm := check_may hc
    have ho := check_op hc
    exact sets_core i (rowL i.op) w (regBitV i.to) (regBitV i.fr) ⟨fun v hv => by have := check_any i v (hw.bel hv); rw [hc] at this; exact this⟩ ⟨fun v => rowOf_yes i.op v ho.1 ho.2⟩
      ⟨fun v => regBit_any i.fr v (reg_in hm.2)⟩ ⟨fun v => regBit_any i.to v (reg_in hm.1)⟩

/-- The move that the law knows. -/
def kI : I := ⟨1, 8, 0, ⟨1, 3, 0, 0, 0, false, false, 0, ⟨#[]⟩, 0⟩, ⟨3, 0, 5, -1, 0, false, false, 8, ⟨#[]⟩, 0⟩, false⟩
theorem k_check : checkB kI = true := by decide +kernel
theorem k_text : textV kI = ⟨#[109, 111, 118, 113, 32, 56, 40, 37, 114, 98, 112, 41, 44, 32, 37, 114, 98, 120]⟩ := by decide +kernel
theorem k_uses : usesV kI = 32 := by decide +kernel
theorem k_sets : setsV kI = 8 := by decide +kernel

set_option maxHeartbeats 2000000 in
set_option maxRecDepth 4000 in
theorem knows_any (w : World) (hw : Gp w) :
    Calls Tryd.prog 14 #[] w fun e w' => e = .returned (.bool true) ∧ Below w.heap.size w w' := by
  have C0 : Hid (∀ v, Below w.heap.size w v → Calls Tryd.prog 9 #[.agg #[.int .i64 1, .int .i64 8, .int .i64 0, .int .i64 1, .int .i64 3, .int .i64 0, .int .i64 0, .int .i64 0, .bool false, .bool false, .int .i64 0, .string ⟨#[]⟩, .int .i64 0, .int .i64 3, .int .i64 0, .int .i64 5, .int .i64 (-1), .int .i64 0, .bool false, .bool false, .int .i64 8, .string ⟨#[]⟩, .int .i64 0, .bool false]] v fun e w' => e = .returned (.tuple #[.string ⟨#[109, 111, 118, 113, 32, 56, 40, 37, 114, 98, 112, 41, 44, 32, 37, 114, 98, 120]⟩, .int .i64 0]) ∧ Below v.heap.size v w') := ⟨fun v hv => by
    have := text_any kI v (hw.bel hv) ⟨by unfold i64; decide, by unfold i64; decide, by unfold i64; decide, by unfold i64; decide⟩
    rw [k_check, k_text] at this
    exact this⟩
  have C1 : Hid (∀ v, Below w.heap.size w v → Calls Tryd.prog 23 #[.agg #[.int .i64 1, .int .i64 8, .int .i64 0, .int .i64 1, .int .i64 3, .int .i64 0, .int .i64 0, .int .i64 0, .bool false, .bool false, .int .i64 0, .string ⟨#[]⟩, .int .i64 0, .int .i64 3, .int .i64 0, .int .i64 5, .int .i64 (-1), .int .i64 0, .bool false, .bool false, .int .i64 8, .string ⟨#[]⟩, .int .i64 0, .bool false]] v fun e w' => e = .returned (.int .i64 32) ∧ Below v.heap.size v w') := ⟨fun v hv => by
    have := uses_any kI v (hw.g.bel hv)
    rw [k_uses] at this
    exact this⟩
  have C2 : Hid (∀ v, Below w.heap.size w v → Calls Tryd.prog 25 #[.agg #[.int .i64 1, .int .i64 8, .int .i64 0, .int .i64 1, .int .i64 3, .int .i64 0, .int .i64 0, .int .i64 0, .bool false, .bool false, .int .i64 0, .string ⟨#[]⟩, .int .i64 0, .int .i64 3, .int .i64 0, .int .i64 5, .int .i64 (-1), .int .i64 0, .bool false, .bool false, .int .i64 8, .string ⟨#[]⟩, .int .i64 0, .bool false]] v fun e w' => e = .returned (.int .i64 8) ∧ Below v.heap.size v w') := ⟨fun v hv => by
    have := sets_any kI v (hw.g.bel hv)
    rw [k_sets] at this
    exact this⟩
  have L0 : Hid (∀ v, IA v w.heap.size kI → (loadVar 25 ⟨w.heap.size, 0, none⟩).run Tryd.prog v = .ok (.agg #[.int .i64 1, .int .i64 8, .int .i64 0, .int .i64 1, .int .i64 3, .int .i64 0, .int .i64 0, .int .i64 0, .bool false, .bool false, .int .i64 0, .string ⟨#[]⟩, .int .i64 0, .int .i64 3, .int .i64 0, .int .i64 5, .int .i64 (-1), .int .i64 0, .bool false, .bool false, .int .i64 8, .string ⟨#[]⟩, .int .i64 0, .bool false]) v) := ⟨fun v h => h.whole⟩
  clear hw
  go_enter Tryd.func14, Tryd.ntmps14
  go_wp2_with (first
    | (refine wpList_store_row rfl 25 _ _ rfl w.heap.size #[.int .i64 1, .int .i64 8, .int .i64 0, .int .i64 1, .int .i64 3, .int .i64 0, .int .i64 0, .int .i64 0, .bool false, .bool false, .int .i64 0, .string ⟨#[]⟩, .int .i64 0, .int .i64 3, .int .i64 0, .int .i64 5, .int .i64 (-1), .int .i64 0, .bool false, .bool false, .int .i64 8, .string ⟨#[]⟩, .int .i64 0, .bool false] (by kernel_rfl) (by kernel_rfl) 25 _ (heap_alloc_last w _) (by kernel_rfl) (by kernel_rfl) (by kernel_rfl) ?_; rw [World.setRow_alloc_new]; have A0 : Hid (IA (w.alloc (.cells #[.int .i64 1, .int .i64 8, .int .i64 0, .int .i64 1, .int .i64 3, .int .i64 0, .int .i64 0, .int .i64 0, .bool false, .bool false, .int .i64 0, .string ⟨#[]⟩, .int .i64 0, .int .i64 3, .int .i64 0, .int .i64 5, .int .i64 (-1), .int .i64 0, .bool false, .bool false, .int .i64 8, .string ⟨#[]⟩, .int .i64 0, .bool false] 25)) w.heap.size kI) := ⟨IA.new w kI _⟩)
    | (refine wpList_load_of (t := 25) rfl (by kernel_rfl) (by kernel_rfl) (L0.out _ (by first | exact A2.out | exact A1.out | exact A0.out)) ?_)
    | (go_at_call 9; refine (C0.out _ (bel_alloc (Below.refl _ _) _)).mono ?_; rintro e w1 ⟨rfl, hb1⟩; have B1 : Hid (Below w.heap.size w w1) := ⟨bel_trans (bel_alloc (Below.refl _ _) _) hb1⟩; have A1 : Hid (IA w1 w.heap.size kI) := ⟨A0.out.bel hb1⟩; clear hb1)
    | (go_at_call 11; refine (num_any _ _).mono ?_; rintro e wn ⟨rfl, hwn⟩; subst wn)
    | (go_at_call 23; refine (C1.out _ B1.out).mono ?_; rintro e w2 ⟨rfl, hb2⟩; have B2 : Hid (Below w.heap.size w w2) := ⟨bel_trans B1.out hb2⟩; have A2 : Hid (IA w2 w.heap.size kI) := ⟨A1.out.bel hb2⟩; clear hb2)
    | (go_at_call 25; refine (C2.out _ B2.out).mono ?_; rintro e w3 ⟨rfl, hb3⟩; have B3 : Hid (Below w.heap.size w w3) := ⟨bel_trans B2.out hb3⟩; clear hb3))
  go_ret
  exact ⟨rfl, B3.out⟩
end Go.Proofs.YtdgejingoamfeaaDoor
