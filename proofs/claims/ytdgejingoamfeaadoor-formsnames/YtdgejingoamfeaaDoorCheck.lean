/- The contract of Check. -/
import Derived.Test.YtdgejingoamfeaaDoorCheckE
import Derived.Test.YtdgejingoamfeaaDoorCheckF
namespace Go.Proofs.YtdgejingoamfeaaDoor
open Go.ChangeShapes Go.WideShapes Go.ChangeAt Go.RowKit Go.Shelf
set_option linter.unusedVariables false

theorem check_yes (i : I) (w : World) (hw : Gl w) (h0 : 1 ≤ i.op) (h1 : i.op ≤ 35) :
    Calls Tryd.prog 12 #[i.val] w fun e w' => e = .returned (.int .i64 (errV (checkB i))) ∧ Below w.heap.size w w' := by
  have HE := takes_enters (rowL i.op).f (row_shape i.op h0 h1)
  have HC0 := fun v => rowOf_yes i.op v h0 h1
  have HC1 := fun v (hv : Below w.heap.size w v) => has_any (rowL i.op) i.sz i.cd v (hw.bel hv)
  have HC2 := mayBe_any i.to
  have HC3 := mayBe_any i.fr
  have HC4 := takes_any _ (row_shape i.op h0 h1) i.sz i.to i.fr
  have HC5 := reaches_any (rowL i.op) i
  have HR0 : checkB i = (hasB (rowL i.op) i.sz i.cd && (mayB i.to && (mayB i.fr && (takesB (rowL i.op).f i.sz i.to i.fr && reachB (rowL i.op) i)))) := by unfold checkB; rw [if_pos ⟨h0, h1⟩]
  rw [HR0]
  clear HR0
  generalize rowL i.op = r at *
  generalize hasB r i.sz i.cd = a at *
  generalize mayB i.to = b at *
  generalize mayB i.fr = c at *
  generalize takesB r.f i.sz i.to i.fr = d at *
  generalize reachB r i = g at *
  rcases a with _ | _
  · exact check_a i r b c d g w HE ⟨HC0⟩ ⟨HC1⟩ ⟨HC2⟩ ⟨HC3⟩ ⟨HC4⟩ ⟨HC5⟩
  rcases b with _ | _
  · exact check_b i r c d g w HE ⟨HC0⟩ ⟨HC1⟩ ⟨HC2⟩ ⟨HC3⟩ ⟨HC4⟩ ⟨HC5⟩
  rcases c with _ | _
  · exact check_c i r d g w HE ⟨HC0⟩ ⟨HC1⟩ ⟨HC2⟩ ⟨HC3⟩ ⟨HC4⟩ ⟨HC5⟩
  rcases d with _ | _
  · exact check_d i r g w HE ⟨HC0⟩ ⟨HC1⟩ ⟨HC2⟩ ⟨HC3⟩ ⟨HC4⟩ ⟨HC5⟩
  rcases g with _ | _
  · exact check_e i r w HE ⟨HC0⟩ ⟨HC1⟩ ⟨HC2⟩ ⟨HC3⟩ ⟨HC4⟩ ⟨HC5⟩
  · exact check_f i r w HE ⟨HC0⟩ ⟨HC1⟩ ⟨HC2⟩ ⟨HC3⟩ ⟨HC4⟩ ⟨HC5⟩

theorem check_no (i : I) (w : World) (h : ¬ (1 ≤ i.op ∧ i.op ≤ 35)) :
    Calls Tryd.prog 12 #[i.val] w fun e w' => e = .returned (.int .i64 (errV (checkB i))) ∧ Below w.heap.size w w' := by
  have HR : checkB i = false := by unfold checkB; rw [if_neg h]
  rw [HR]
  have C0 : Hid (∀ v, Calls Tryd.prog 31 #[.int .i64 i.op] v fun e w' => e = .returned zeroV ∧ Below v.heap.size v w') := ⟨fun v => rowOf_no i.op v (by omega)⟩
  have C1 : Hid (∀ v, Calls Tryd.prog 32 #[zeroV, .int .i64 i.sz, .int .i64 i.cd] v fun e w' => e = .returned (.bool false) ∧ Below v.heap.size v w') := ⟨fun v => has_zero _ _ v⟩
  clear h HR
  simp only [zeroV, I.val] at *
  go_enter Tryd.func12, Tryd.ntmps12
  go_wp2_with (first
      | (go_at_call 31; refine (C0.out _).mono ?_; rintro e w1 ⟨rfl, hb1⟩; have B1 : Hid (Below w.heap.size w w1) := ⟨bel_trans (bel_alloc (Below.refl _ _) _) hb1⟩; have A1 : Hid (IA w1 w.heap.size i) := ⟨(IA.new w i 25).bel hb1⟩; clear hb1; obtain ⟨p0, p1, p2, p3, p4, p5, p6, p7, p8, p9, p10, p11, p12, p13, p14, p15, p16, p17, p18, p19, p20, p21, p22, p23⟩ := A1.out; have hz1 : w.heap.size < w1.heap.size := World.block_lt_of_cell? _ _ p0)
      | (go_at_call 32; refine (C1.out _).mono ?_; rintro e w2 ⟨rfl, hb2⟩; have B2 : Hid (Below w.heap.size w w2) := ⟨bel_trans (bel_alloc B1.out _) hb2⟩))
  go_ret
  exact ⟨rfl, B2.out⟩

theorem check_any (i : I) (w : World) (hw : Gl w) :
    Calls Tryd.prog 12 #[i.val] w fun e w' => e = .returned (.int .i64 (errV (checkB i))) ∧ Below w.heap.size w w' := by
  by_cases h : 1 ≤ i.op ∧ i.op ≤ 35
  · exact check_yes i w hw h.1 h.2
  · exact check_no i w h
end Go.Proofs.YtdgejingoamfeaaDoor
