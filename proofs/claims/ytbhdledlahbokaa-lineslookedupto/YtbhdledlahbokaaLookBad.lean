/- P1507, P1508, of what can't be written. -/
import Derived.Test.YtbhdledlahbokaaLMov
namespace Go.Proofs.Ytbhdledlahbokaa
open Go.ChangeShapes Go.WideShapes Go.ChangeAt Go.RowKit Go.Conc
set_option linter.unusedVariables false
set_option linter.unusedSimpArgs false

set_option maxRecDepth 20000 in
set_option maxHeartbeats 4000000 in
theorem looked_bad (p : Pg) (fa sa : Option Addr) (fc sc : Nat) (addr seq to' : Int) (w : World) (h1 : PgIn w fa sa p) (n1 : fa = none → fc = 0) (f1 : Few p) (hE : ¬ wriE p = 0) :
    Calls Try.prog 6 #[.agg #[.slice fa p.files.length fc, .slice sa p.seqs.length sc], .int .i64 addr, .int .i64 seq, .int .i64 to'] w fun e w' => e = .returned (.bool true) ∧ Below w.heap.size w w' := by
  have HK : Hid _ := ⟨Bk.new w #[.slice fa p.files.length fc, .slice sa p.seqs.length sc] 25⟩
  have HB : Hid (Below w.heap.size w (w.alloc (.cells #[.slice fa p.files.length fc, .slice sa p.seqs.length sc] 25))) := ⟨(Below.refl _ _).alloc (Nat.le_refl _) _⟩
  have HO1 : Hid (∀ W, Below w.heap.size w W → Calls Try.prog 7 #[.agg #[.slice fa p.files.length fc, .slice sa p.seqs.length sc]] W fun e w' => Made W e p w') := ⟨fun W hW => own_pg p fa sa fc sc W (h1.bel hW) n1 f1⟩
  have HW1 : Hid (∀ W a b c d, PgIn W a c p → Calls Try.prog 8 #[.agg #[.slice a p.files.length b, .slice c p.seqs.length d]] W (WrAny (wriE p) W)) := ⟨fun W a b c d h => write_weak a c b d p W h⟩
  obtain ⟨e1, e2, e3⟩ := (wri_cases p).resolve_left hE
  clear h1 n1 f1
  generalize wriE p = E1 at *
  unfold WrAny at HW1
  unfold Made at HO1
  have HE : Hid (¬ E1 = 0) := ⟨e1⟩
  clear hE
  go_enter Try.func6, Try.ntmps6
  go_upto_region 2 with (first
    | (go_at_call 7; (with_reducible refine (HO1.out _ HB.out).mono ?_); rintro e w1 ⟨na, nc, ta', tc', he, hp, hb⟩; subst he; have H1 : Hid _ := ⟨hp⟩; have B1 : Hid _ := ⟨HB.out.trans (hb.mono HB.out.size)⟩; clear hp hb)
    | (go_at_call 8; (with_reducible refine (HW1.out _ _ _ _ _ H1.out).mono ?_); rintro e w2 ⟨ao, m1, c1, v1, he, hz, hb⟩; subst he; have Z1 : Hid _ := ⟨hz⟩; have B2 : Hid _ := ⟨B1.out.trans (hb.mono B1.out.size)⟩; clear hz hb))
  obtain rfl : m1 = 0 := Z1.out.resolve_left HE.out
  go_wp2_with (first
    | (go_at_call 11; (with_reducible refine (num_any _ _).mono ?_); rintro e wn ⟨he, hwn⟩; subst he; subst wn)
    | (go_at_call 15; (with_reducible refine (knows_any _).mono ?_); rintro e w9 ⟨he, hb9⟩; subst he; have HB9 : Hid (Below w.heap.size w w9) := ⟨B2.out.trans (hb9.mono B2.out.size)⟩; clear hb9))
  go_ret
  exact ⟨rfl, HB9.out⟩
end Go.Proofs.Ytbhdledlahbokaa
