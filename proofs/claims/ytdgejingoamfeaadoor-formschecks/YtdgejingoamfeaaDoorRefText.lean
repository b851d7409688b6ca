/- The document's Text. -/
import Derived.Test.YtdgejingoamfeaaDoorRefTextW
namespace Go.Proofs.YtdgejingoamfeaaDoor
open Go.ChangeShapes Go.WideShapes Go.ChangeAt Go.RowKit
set_option linter.unusedVariables false
set_option linter.unusedSimpArgs false

set_option maxHeartbeats 4000000 in
set_option maxRecDepth 4000 in
theorem refText_a (i : I) (n f t z : ByteArray) (hz : n.size ≤ 13 ∧ f.size ≤ 400 ∧ t.size ≤ 400) (ho : i.op = 29 ∨ i.op = 30 ∨ i.op = 17 ∨ i.op = 18 ∨ i.op = 19) (HSH : Hid (i.sh = false))
    (HC : Hid (∀ v, Calls Tryd.prog 13 #[.agg #[.int .i64 i.op, .int .i64 i.sz, .int .i64 i.cd, .int .i64 i.to.k, .int .i64 i.to.r, .int .i64 i.to.b, .int .i64 i.to.x, .int .i64 i.to.s, .bool i.to.rip, .bool i.to.fs, .int .i64 i.to.n, .string i.to.nm, .int .i64 i.to.m, .int .i64 i.fr.k, .int .i64 i.fr.r, .int .i64 i.fr.b, .int .i64 i.fr.x, .int .i64 i.fr.s, .bool i.fr.rip, .bool i.fr.fs, .int .i64 i.fr.n, .string i.fr.nm, .int .i64 i.fr.m, .bool i.sh]] v fun e w' => e = .returned (.int .i64 0) ∧ Below v.heap.size v w'))
    (HN : Hid (∀ v, Calls Tryd.prog 20 #[.int .i64 i.op, .int .i64 i.sz, .int .i64 i.cd] v fun e w' => e = .returned (.string n) ∧ Below v.heap.size v w'))
    (HNf : Hid (∀ v, Calls Tryd.prog 29 #[.agg #[.int .i64 i.fr.k, .int .i64 i.fr.r, .int .i64 i.fr.b, .int .i64 i.fr.x, .int .i64 i.fr.s, .bool i.fr.rip, .bool i.fr.fs, .int .i64 i.fr.n, .string i.fr.nm, .int .i64 i.fr.m]] v fun e w' => e = .returned (.bool false) ∧ Below v.heap.size v w')) (HNt : Hid (∀ v, Calls Tryd.prog 29 #[.agg #[.int .i64 i.to.k, .int .i64 i.to.r, .int .i64 i.to.b, .int .i64 i.to.x, .int .i64 i.to.s, .bool i.to.rip, .bool i.to.fs, .int .i64 i.to.n, .string i.to.nm, .int .i64 i.to.m]] v fun e w' => e = .returned (.bool false) ∧ Below v.heap.size v w')) (HOf : Hid (∀ v, Calls Tryd.prog 30 #[.agg #[.int .i64 i.fr.k, .int .i64 i.fr.r, .int .i64 i.fr.b, .int .i64 i.fr.x, .int .i64 i.fr.s, .bool i.fr.rip, .bool i.fr.fs, .int .i64 i.fr.n, .string i.fr.nm, .int .i64 i.fr.m], .int .i64 1] v fun e w' => e = .returned (.string f) ∧ Below v.heap.size v w')) (HOt : Hid (∀ v, Calls Tryd.prog 30 #[.agg #[.int .i64 i.to.k, .int .i64 i.to.r, .int .i64 i.to.b, .int .i64 i.to.x, .int .i64 i.to.s, .bool i.to.rip, .bool i.to.fs, .int .i64 i.to.n, .string i.to.nm, .int .i64 i.to.m], .int .i64 i.sz] v fun e w' => e = .returned (.string t) ∧ Below v.heap.size v w')) (HR : Hid (z = ((n ++ ⟨#[32]⟩) ++ f ++ ⟨#[44, 32]⟩) ++ t)) (w : World) :
    Calls Tryd.prog 10 #[.agg #[.int .i64 i.op, .int .i64 i.sz, .int .i64 i.cd, .int .i64 i.to.k, .int .i64 i.to.r, .int .i64 i.to.b, .int .i64 i.to.x, .int .i64 i.to.s, .bool i.to.rip, .bool i.to.fs, .int .i64 i.to.n, .string i.to.nm, .int .i64 i.to.m, .int .i64 i.fr.k, .int .i64 i.fr.r, .int .i64 i.fr.b, .int .i64 i.fr.x, .int .i64 i.fr.s, .bool i.fr.rip, .bool i.fr.fs, .int .i64 i.fr.n, .string i.fr.nm, .int .i64 i.fr.m, .bool i.sh]] w fun e w' => e = .returned (.tuple #[.string z, .int .i64 0]) ∧ Below w.heap.size w w' := by
  obtain ⟨y1, y2, y3⟩ := hz
  have k0 : (⟨#[32]⟩ : ByteArray).size = 1 := rfl
  have k1 : (⟨#[44, 32]⟩ : ByteArray).size = 2 := rfl
  have S0 : ∀ v, (Op.stringOp .add n ⟨#[32]⟩).run Tryd.prog v = .ok (.string (n ++ ⟨#[32]⟩)) v := fun v => run_string_add_sum v _ _ (by (try simp only [ByteArray.size_append]); omega)
  have S1 : ∀ v, (Op.stringOp .add (n ++ ⟨#[32]⟩) f).run Tryd.prog v = .ok (.string ((n ++ ⟨#[32]⟩) ++ f)) v := fun v => run_string_add_sum v _ _ (by (try simp only [ByteArray.size_append]); omega)
  have S2 : ∀ v, (Op.stringOp .add (n ++ ⟨#[32]⟩ ++ f) ⟨#[44, 32]⟩).run Tryd.prog v = .ok (.string ((n ++ ⟨#[32]⟩ ++ f) ++ ⟨#[44, 32]⟩)) v := fun v => run_string_add_sum v _ _ (by (try simp only [ByteArray.size_append]); omega)
  have S3 : ∀ v, (Op.stringOp .add (n ++ ⟨#[32]⟩ ++ f ++ ⟨#[44, 32]⟩) t).run Tryd.prog v = .ok (.string ((n ++ ⟨#[32]⟩ ++ f ++ ⟨#[44, 32]⟩) ++ t)) v := fun v => run_string_add_sum v _ _ (by (try simp only [ByteArray.size_append]); omega)
  clear k0 k1
  clear y1 y2 y3
  have A : Hid (IA (w.alloc (.cells #[.int .i64 i.op, .int .i64 i.sz, .int .i64 i.cd, .int .i64 i.to.k, .int .i64 i.to.r, .int .i64 i.to.b, .int .i64 i.to.x, .int .i64 i.to.s, .bool i.to.rip, .bool i.to.fs, .int .i64 i.to.n, .string i.to.nm, .int .i64 i.to.m, .int .i64 i.fr.k, .int .i64 i.fr.r, .int .i64 i.fr.b, .int .i64 i.fr.x, .int .i64 i.fr.s, .bool i.fr.rip, .bool i.fr.fs, .int .i64 i.fr.n, .string i.fr.nm, .int .i64 i.fr.m, .bool i.sh] 25)) w.heap.size i ∧ Below w.heap.size w (w.alloc (.cells #[.int .i64 i.op, .int .i64 i.sz, .int .i64 i.cd, .int .i64 i.to.k, .int .i64 i.to.r, .int .i64 i.to.b, .int .i64 i.to.x, .int .i64 i.to.s, .bool i.to.rip, .bool i.to.fs, .int .i64 i.to.n, .string i.to.nm, .int .i64 i.to.m, .int .i64 i.fr.k, .int .i64 i.fr.r, .int .i64 i.fr.b, .int .i64 i.fr.x, .int .i64 i.fr.s, .bool i.fr.rip, .bool i.fr.fs, .int .i64 i.fr.n, .string i.fr.nm, .int .i64 i.fr.m, .bool i.sh] 25))) := ⟨IA.new w i 25, bel_alloc (Below.refl _ _) _⟩
  have L0 : Hid (∀ v, IA v w.heap.size i → (loadVar 25 ⟨w.heap.size, 0, none⟩).run Tryd.prog v = .ok (.agg #[.int .i64 i.op, .int .i64 i.sz, .int .i64 i.cd, .int .i64 i.to.k, .int .i64 i.to.r, .int .i64 i.to.b, .int .i64 i.to.x, .int .i64 i.to.s, .bool i.to.rip, .bool i.to.fs, .int .i64 i.to.n, .string i.to.nm, .int .i64 i.to.m, .int .i64 i.fr.k, .int .i64 i.fr.r, .int .i64 i.fr.b, .int .i64 i.fr.x, .int .i64 i.fr.s, .bool i.fr.rip, .bool i.fr.fs, .int .i64 i.fr.n, .string i.fr.nm, .int .i64 i.fr.m, .bool i.sh]) v) := ⟨fun v h => h.whole2⟩
  obtain ⟨a, ha⟩ : ∃ x, (i.op == 29) = x := ⟨_, rfl⟩
  obtain ⟨b, hb⟩ : ∃ x, (i.op == 30) = x := ⟨_, rfl⟩
  obtain ⟨c, hc⟩ : ∃ x, (i.op == 17) = x := ⟨_, rfl⟩
  obtain ⟨d, hd⟩ : ∃ x, (i.op == 18) = x := ⟨_, rfl⟩
  obtain ⟨g, hg⟩ : ∃ x, (i.op == 19) = x := ⟨_, rfl⟩
  have a22 : (i.op == 22) = false := by simp; omega
  have a23 : (i.op == 23) = false := by simp; omega
  have hl : a = false → b = false → c = false → d = false → g = true := by intro x y u v; subst x y u v; simp at ha hb hc hd; rw [← hg]; simp; omega
  clear ho
  rcases a with _ | _
  case' false => rcases b with _ | _
  case' false.false => rcases c with _ | _
  case' false.false.false => rcases d with _ | _
  case' false.false.false.false => obtain rfl := hl rfl rfl rfl rfl
  all_goals
    clear hl
    go_enter Tryd.func10, Tryd.ntmps10
    go_wp2_with (first
      | (refine wpList_load_of (t := 25) rfl (by kernel_rfl) (by kernel_rfl) (L0.out _ A.out.1) ?_)
      | (go_at_call 13; refine (HC.out _).mono ?_; rintro e u1 ⟨rfl, hb⟩; have A : Hid (IA u1 w.heap.size i ∧ Below w.heap.size w u1) := ⟨A.out.1.bel hb, bel_trans A.out.2 hb⟩; have M1 : Hid True := ⟨trivial⟩; clear hb; (try clear p0 p1 p2 p3 p4 p5 p6 p7 p8 p9 p10 p11 p12 p13 p14 p15 p16 p17 p18 p19 p20 p21 p22 p23); obtain ⟨p0, p1, p2, p3, p4, p5, p6, p7, p8, p9, p10, p11, p12, p13, p14, p15, p16, p17, p18, p19, p20, p21, p22, p23⟩ := A.out.1; rw [HSH.out] at p23)
      | (go_at_call 20; refine (HN.out _).mono ?_; rintro e u2 ⟨rfl, hb⟩; have A : Hid (IA u2 w.heap.size i ∧ Below w.heap.size w u2) := ⟨A.out.1.bel hb, bel_trans A.out.2 hb⟩; have M2 : Hid True := ⟨trivial⟩; clear hb; (try clear p0 p1 p2 p3 p4 p5 p6 p7 p8 p9 p10 p11 p12 p13 p14 p15 p16 p17 p18 p19 p20 p21 p22 p23); obtain ⟨p0, p1, p2, p3, p4, p5, p6, p7, p8, p9, p10, p11, p12, p13, p14, p15, p16, p17, p18, p19, p20, p21, p22, p23⟩ := A.out.1; rw [HSH.out] at p23)
      | (have _ := M6; go_at_call 30; refine (HOt.out _).mono ?_; rintro e u7 ⟨rfl, hb⟩; have A : Hid (IA u7 w.heap.size i ∧ Below w.heap.size w u7) := ⟨A.out.1.bel hb, bel_trans A.out.2 hb⟩; have M7 : Hid True := ⟨trivial⟩; clear hb; (try clear p0 p1 p2 p3 p4 p5 p6 p7 p8 p9 p10 p11 p12 p13 p14 p15 p16 p17 p18 p19 p20 p21 p22 p23); obtain ⟨p0, p1, p2, p3, p4, p5, p6, p7, p8, p9, p10, p11, p12, p13, p14, p15, p16, p17, p18, p19, p20, p21, p22, p23⟩ := A.out.1; rw [HSH.out] at p23)
      | (have _ := M3; go_at_call 30; refine (HOf.out _).mono ?_; rintro e u4 ⟨rfl, hb⟩; have A : Hid (IA u4 w.heap.size i ∧ Below w.heap.size w u4) := ⟨A.out.1.bel hb, bel_trans A.out.2 hb⟩; have M4 : Hid True := ⟨trivial⟩; clear hb; (try clear p0 p1 p2 p3 p4 p5 p6 p7 p8 p9 p10 p11 p12 p13 p14 p15 p16 p17 p18 p19 p20 p21 p22 p23); obtain ⟨p0, p1, p2, p3, p4, p5, p6, p7, p8, p9, p10, p11, p12, p13, p14, p15, p16, p17, p18, p19, p20, p21, p22, p23⟩ := A.out.1; rw [HSH.out] at p23)
      | (have _ := M5; go_at_call 29; refine (HNf.out _).mono ?_; rintro e u6 ⟨rfl, hb⟩; have A : Hid (IA u6 w.heap.size i ∧ Below w.heap.size w u6) := ⟨A.out.1.bel hb, bel_trans A.out.2 hb⟩; have M6 : Hid True := ⟨trivial⟩; clear hb; (try clear p0 p1 p2 p3 p4 p5 p6 p7 p8 p9 p10 p11 p12 p13 p14 p15 p16 p17 p18 p19 p20 p21 p22 p23); obtain ⟨p0, p1, p2, p3, p4, p5, p6, p7, p8, p9, p10, p11, p12, p13, p14, p15, p16, p17, p18, p19, p20, p21, p22, p23⟩ := A.out.1; rw [HSH.out] at p23)
      | (have _ := M3; go_at_call 29; refine (HNt.out _).mono ?_; rintro e u5 ⟨rfl, hb⟩; have A : Hid (IA u5 w.heap.size i ∧ Below w.heap.size w u5) := ⟨A.out.1.bel hb, bel_trans A.out.2 hb⟩; have M5 : Hid True := ⟨trivial⟩; clear hb; (try clear p0 p1 p2 p3 p4 p5 p6 p7 p8 p9 p10 p11 p12 p13 p14 p15 p16 p17 p18 p19 p20 p21 p22 p23); obtain ⟨p0, p1, p2, p3, p4, p5, p6, p7, p8, p9, p10, p11, p12, p13, p14, p15, p16, p17, p18, p19, p20, p21, p22, p23⟩ := A.out.1; rw [HSH.out] at p23)
      | (go_at_call 29; refine (HNf.out _).mono ?_; rintro e u3 ⟨rfl, hb⟩; have A : Hid (IA u3 w.heap.size i ∧ Below w.heap.size w u3) := ⟨A.out.1.bel hb, bel_trans A.out.2 hb⟩; have M3 : Hid True := ⟨trivial⟩; clear hb; (try clear p0 p1 p2 p3 p4 p5 p6 p7 p8 p9 p10 p11 p12 p13 p14 p15 p16 p17 p18 p19 p20 p21 p22 p23); obtain ⟨p0, p1, p2, p3, p4, p5, p6, p7, p8, p9, p10, p11, p12, p13, p14, p15, p16, p17, p18, p19, p20, p21, p22, p23⟩ := A.out.1; rw [HSH.out] at p23))
    go_ret2
    exact ⟨ret_si HR.out.symm, A.out.2⟩

end Go.Proofs.YtdgejingoamfeaaDoor
