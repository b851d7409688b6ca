/- The law CfaRise, given what the program's calls answer. The law's knows, given what the program's calls answer. -/
import Derived.Test.YtomboebfbipaaaaDoorCRow
import Derived.Laws.Tables
import Derived.Deep.QuietTactic
import Derived.Deep.CutRange
import Derived.BigQuiet
namespace Go.Proofs.YtomboebfbipaaaaDoor
open Go.ChangeShapes Go.WideShapes Go.ChangeAt Go.RowKit
set_option linter.unusedVariables false
set_option linter.unusedSimpArgs false

theorem cbelow_drewN {B : Nat} {a w : World} (h : Below B a w) (n : Nat) : Below B a (w.drewN n) := by
  induction n generalizing w with
  | zero => exact h
  | succ n ih => exact (ih h).drew
/-- How many rows a table has. -/
theorem adv_len (t : Tb) (n : Int) : (advM t n).L.length ≤ t.L.length + 1 := by
  unfold advM
  split
  · simp
  · omega
theorem len_do {t t' : Tb} {o : Oq} (hd : doM t o = some t') : t'.L.length ≤ t.L.length + 1 := by
  unfold doM recM at hd
  by_cases k1 : o.k = 1
  · rw [if_pos k1] at hd
    split at hd
    · cases hd; exact adv_len t o.n
    · cases hd
  rw [if_neg k1] at hd
  repeat' (split at hd)
  all_goals first | (cases hd; done) | (cases hd; simp)
theorem len_ops {b : Bool} : ∀ {l : List Oq} {t t' : Tb}, opsM b t l = some t' → t'.L.length ≤ t.L.length + l.length
  | [], t, t', hd => by cases hd; simp
  | o :: l, t, t', hd => by
    simp only [opsM] at hd
    cases ho : oneM b t o with
    | none => rw [ho] at hd; cases hd
    | some t1 =>
      rw [ho] at hd
      have h1 := len_do (oneM_some ho).2.2
      have h2 := len_ops hd
      simp only [List.length_cons]
      omega
theorem rows_len {i l : List Oq} {size : Int} (h : rowsE i l size = 0) : (rowsL i l size).length ≤ 4001 := by
  obtain ⟨t, ht, hr, hs, h1, h2⟩ := rows_ok h
  rw [hr]
  unfold tabM at ht
  cases hb : begM (tbNew size) i with
  | none => rw [hb] at ht; cases ht
  | some t1 =>
    rw [hb] at ht
    obtain ⟨_, _, hL, _⟩ := begin_ok hs.1 hb
    have := len_ops ht
    rw [hL] at this
    simp at this ⊢
    omega
/-- What is asked of a table's rows. -/
structure Rising (R : List Rw) (size : Int) : Prop where
  zero : ∀ q ∈ R.head?, q.p = 0
  up : R.Pairwise (fun a b => a.p < b.p)
  top : ∀ q ∈ R, q.p ≤ size
  ok : ∀ q ∈ R, RowOk q
  wf : ∀ q ∈ R, Wf q
  ne : R ≠ []
theorem rising_of {i l : List Oq} {size : Int} (h : rowsE i l size = 0) : Rising (rowsL i l size) size := by
  obtain ⟨t, ht, hr, hs, _, _⟩ := rows_ok h
  obtain ⟨g, e⟩ := tab_ok hs.1 ht
  have tw := tw_tab ht
  rw [hr]
  refine ⟨fun q hq => ?_, g.up, fun q hq => ?_, fun q hq => ?_, fun q hq => ?_, by simp⟩
  · have hh : (t.L ++ [t.now]).head? = some ((t.L ++ [t.now]).head (by simp)) := List.head?_eq_some_head _
    rw [hh] at hq
    simp only [Option.mem_def, Option.some.injEq] at hq
    rw [← hq]
    exact g.zero
  · have := good_top g q hq
    have := g.top
    omega
  · rcases List.mem_append.1 hq with h1 | h1
    · exact g.L q h1
    · simp at h1; subst h1; exact g.now
  · rcases List.mem_append.1 hq with h1 | h1
    · exact tw.L q h1
    · simp at h1; subst h1; exact tw.now
theorem row_up {R : List Rw} (h : R.Pairwise (fun a b => a.p < b.p)) {j : Nat} (hj : j + 1 < R.length) : (R.getD j Rw.zero).p < (R.getD (j + 1) Rw.zero).p := by
  have := List.pairwise_iff_getElem.1 h j (j + 1) (by omega) hj (by omega)
  simpa [show j < R.length by omega, hj] using this
theorem row_in {R : List Rw} {j : Nat} (hj : j < R.length) : R.getD j Rw.zero ∈ R := by
  have : R.getD j Rw.zero = R[j] := by simp [hj]
  rw [this]
  exact List.getElem_mem hj
def Z37 : Array Value := #[.int .i64 0, .int .i64 0, .int .i64 0, .int .i64 0, .int .i64 0, .int .i64 0, .int .i64 0, .int .i64 0, .int .i64 0, .int .i64 0, .int .i64 0, .int .i64 0, .int .i64 0, .int .i64 0, .int .i64 0, .int .i64 0, .int .i64 0, .int .i64 0, .int .i64 0, .int .i64 0, .int .i64 0, .int .i64 0, .int .i64 0, .int .i64 0, .int .i64 0, .int .i64 0, .int .i64 0, .int .i64 0, .int .i64 0, .int .i64 0, .int .i64 0, .int .i64 0, .int .i64 0, .int .i64 0, .int .i64 0, .int .i64 0, .int .i64 0]
theorem set_cell (w : World) (Z C : Array Value) (t : TypeId) : ((w.alloc (.cells Z t)).setRow w.heap.size C).cell? ⟨w.heap.size, 0, none⟩ = C[0]? :=
  cell_setRow_same _ _ 0 Z C t _ (heap_alloc_new w _)
theorem set_bel (w : World) (Z C : Array Value) (t : TypeId) : Below w.heap.size w ((w.alloc (.cells Z t)).setRow w.heap.size C) :=
  ⟨rfl, rfl, rfl, by simp, fun k hk => by rw [setRow_other _ _ _ _ (by omega)]; exact Below.heap_alloc w _ k hk⟩
theorem size41 : (Tryd.prog.info? 165).map (·.size) = some 37 := by kernel_rfl


def kI : List Oq := [⟨2, 7, 8⟩, ⟨5, 16, -8⟩]
def kL : List Oq := [⟨1, 0, 1⟩, ⟨3, 0, 16⟩]
def kR : List Rw := rowsL kI kL 20
/-- What the program's Usual answers. -/
def PUsual : Prop := ∀ w : World, Calls Tryd.prog 36 #[] w fun e w' => ∃ v, e = .returned v ∧ OwnP w' w.heap.size v kI ∧ Below w.heap.size w w'
theorem k_err : rowsE kI kL 20 = 0 := by decide
theorem k_len : kR.length = 2 := by decide
theorem k_n : (kR.getD 0 Rw.zero).n = 8 := by decide
theorem k_ok : (findM kR 5).isSome = true := by decide
theorem k_p : ((findM kR 5).getD Rw.zero).p = 1 := by decide
theorem k_r : ((findM kR 5).getD Rw.zero).r = 7 := by decide
theorem k_m : ((findM kR 5).getD Rw.zero).n = 16 := by decide
theorem k_wf : Wf ((findM kR 5).getD Rw.zero) := by unfold Wf; decide
theorem k_wfs : ∀ y ∈ kR, Wf y := (rising_of k_err).wf
theorem set_cells (w : World) (Z C : Array Value) (t : TypeId) (j : Nat) : ((w.alloc (.cells Z t)).setRow w.heap.size C).cell? ⟨w.heap.size, j, none⟩ = C[j]? :=
  cell_setRow_same _ _ j Z C t _ (heap_alloc_new w _)

end Go.Proofs.YtomboebfbipaaaaDoor
