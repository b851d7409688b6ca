/- The law CfaRise, given what the program's calls answer. The law's knows, given what the program's calls answer. -/
import Derived.Test.YtpbnldfekadalaaDoorCRow
import Derived.Laws.Tables
import Derived.Deep.QuietTactic
import Derived.Deep.CutRange
import Derived.BigQuiet
namespace Go.Proofs.YtpbnldfekadalaaDoor
open Go.ChangeShapes Go.WideShapes Go.ChangeAt Go.RowKit
set_option linter.unusedVariables false
set_option linter.unusedSimpArgs false

/-- What the program's Rows, Check and Find answer. -/
def PRows : Prop := ∀ (a1 : Option Addr) (c1 : Nat) (i : List Oq) (a2 : Option Addr) (c2 : Nat) (l : List Oq) (size : Int) (w : World), i.length ≤ 5864062014634 → l.length ≤ 11728124029268 → (-9223372036854775808 ≤ size ∧ size ≤ 9223372036854775807) → IsOq w a1 c1 i → IsOq w a2 c2 l → Fz w →
  Calls Tryd.prog 18 #[.slice a1 i.length c1, .slice a2 l.length c2, .int .i64 size] w fun e w' => ∃ v, e = .returned (.tuple #[v, .int .i64 (rowsE i l size)]) ∧ OwnW w' w.heap.size v (rowsL i l size) ∧ Below w.heap.size w w'
def PFind : Prop := ∀ (ao : Option Addr) (c : Nat) (l : List Rw) (x : Int) (w : World), (∀ y ∈ l, Wf y) → l.length ≤ 4001 → (-9223372036854775808 ≤ x ∧ x ≤ 9223372036854775807) → Rws w ao l →
  Calls Tryd.prog 19 #[.slice ao l.length c, .int .i64 x] w fun e w' => e = .returned (.tuple #[.agg ((findM l x).getD Rw.zero).cells.toArray, .bool (findM l x).isSome]) ∧ Below w.heap.size w w'

theorem cbelow_drewN {B : Nat} {a w : World} (h : Below B a w) (n : Nat) : Below B a (w.drewN n) := by
  induction n generalizing w with
  | zero => exact h
  | succ n ih => exact (ih h).drew
/-- How many rows a table has. -/
theorem adv_len (t : Tb) (n : Int) : (advM t n).L.length ≤ t.L.length + 1 := by
  unfold advM
  split
  · simp
  · omega
theorem len_do {t t' : Tb} {o : Oq} (hd : doM t o = some t') : t'.L.length ≤ t.L.length + 1 := by
  unfold doM recM at hd
  by_cases k1 : o.k = 1
  · rw [if_pos k1] at hd
    split at hd
    · cases hd; exact adv_len t o.n
    · cases hd
  rw [if_neg k1] at hd
  repeat' (split at hd)
  all_goals first | (cases hd; done) | (cases hd; simp)
theorem len_ops {b : Bool} : ∀ {l : List Oq} {t t' : Tb}, opsM b t l = some t' → t'.L.length ≤ t.L.length + l.length
  | [], t, t', hd => by cases hd; simp
  | o :: l, t, t', hd => by
    simp only [opsM] at hd
    cases ho : oneM b t o with
    | none => rw [ho] at hd; cases hd
    | some t1 =>
      rw [ho] at hd
      have h1 := len_do (oneM_some ho).2.2
      have h2 := len_ops hd
      simp only [List.length_cons]
      omega
theorem rows_len {i l : List Oq} {size : Int} (h : rowsE i l size = 0) : (rowsL i l size).length ≤ 4001 := by
  obtain ⟨t, ht, hr, hs, h1, h2⟩ := rows_ok h
  rw [hr]
  unfold tabM at ht
  cases hb : begM (tbNew size) i with
  | none => rw [hb] at ht; cases ht
  | some t1 =>
    rw [hb] at ht
    obtain ⟨_, _, hL, _⟩ := begin_ok hs.1 hb
    have := len_ops ht
    rw [hL] at this
    simp at this ⊢
    omega
/-- What is asked of a table's rows. -/
structure Rising (R : List Rw) (size : Int) : Prop where
  zero : ∀ q ∈ R.head?, q.p = 0
  up : R.Pairwise (fun a b => a.p < b.p)
  top : ∀ q ∈ R, q.p ≤ size
  ok : ∀ q ∈ R, RowOk q
  wf : ∀ q ∈ R, Wf q
  ne : R ≠ []
theorem rising_of {i l : List Oq} {size : Int} (h : rowsE i l size = 0) : Rising (rowsL i l size) size := by
  obtain ⟨t, ht, hr, hs, _, _⟩ := rows_ok h
  obtain ⟨g, e⟩ := tab_ok hs.1 ht
  have tw := tw_tab ht
  rw [hr]
  refine ⟨fun q hq => ?_, g.up, fun q hq => ?_, fun q hq => ?_, fun q hq => ?_, by simp⟩
  · have hh : (t.L ++ [t.now]).head? = some ((t.L ++ [t.now]).head (by simp)) := List.head?_eq_some_head _
    rw [hh] at hq
    simp only [Option.mem_def, Option.some.injEq] at hq
    rw [← hq]
    exact g.zero
  · have := good_top g q hq
    have := g.top
    omega
  · rcases List.mem_append.1 hq with h1 | h1
    · exact g.L q h1
    · simp at h1; subst h1; exact g.now
  · rcases List.mem_append.1 hq with h1 | h1
    · exact tw.L q h1
    · simp at h1; subst h1; exact tw.now
theorem row_up {R : List Rw} (h : R.Pairwise (fun a b => a.p < b.p)) {j : Nat} (hj : j + 1 < R.length) : (R.getD j Rw.zero).p < (R.getD (j + 1) Rw.zero).p := by
  have := List.pairwise_iff_getElem.1 h j (j + 1) (by omega) hj (by omega)
  simpa [show j < R.length by omega, hj] using this
theorem row_in {R : List Rw} {j : Nat} (hj : j < R.length) : R.getD j Rw.zero ∈ R := by
  have : R.getD j Rw.zero = R[j] := by simp [hj]
  rw [this]
  exact List.getElem_mem hj
def Z37 : Array Value := #[.int .i64 0, .int .i64 0, .int .i64 0, .int .i64 0, .int .i64 0, .int .i64 0, .int .i64 0, .int .i64 0, .int .i64 0, .int .i64 0, .int .i64 0, .int .i64 0, .int .i64 0, .int .i64 0, .int .i64 0, .int .i64 0, .int .i64 0, .int .i64 0, .int .i64 0, .int .i64 0, .int .i64 0, .int .i64 0, .int .i64 0, .int .i64 0, .int .i64 0, .int .i64 0, .int .i64 0, .int .i64 0, .int .i64 0, .int .i64 0, .int .i64 0, .int .i64 0, .int .i64 0, .int .i64 0, .int .i64 0, .int .i64 0, .int .i64 0]
theorem set_cell (w : World) (Z C : Array Value) (t : TypeId) : ((w.alloc (.cells Z t)).setRow w.heap.size C).cell? ⟨w.heap.size, 0, none⟩ = C[0]? :=
  cell_setRow_same _ _ 0 Z C t _ (heap_alloc_new w _)
theorem set_bel (w : World) (Z C : Array Value) (t : TypeId) : Below w.heap.size w ((w.alloc (.cells Z t)).setRow w.heap.size C) :=
  ⟨rfl, rfl, rfl, by simp, fun k hk => by rw [setRow_other _ _ _ _ (by omega)]; exact Below.heap_alloc w _ k hk⟩
theorem size41 : (Tryd.prog.info? 71).map (·.size) = some 37 := by kernel_rfl


def kI : List Oq := [⟨2, 7, 8⟩, ⟨5, 16, -8⟩]
def kL : List Oq := [⟨1, 0, 1⟩, ⟨3, 0, 16⟩]
def kR : List Rw := rowsL kI kL 20
/-- What the program's Usual answers. -/
def PUsual : Prop := ∀ w : World, Calls Tryd.prog 8 #[] w fun e w' => ∃ v, e = .returned v ∧ OwnP w' w.heap.size v kI ∧ Below w.heap.size w w'
theorem k_err : rowsE kI kL 20 = 0 := by decide
theorem k_len : kR.length = 2 := by decide
theorem k_n : (kR.getD 0 Rw.zero).n = 8 := by decide
theorem k_ok : (findM kR 5).isSome = true := by decide
theorem k_p : ((findM kR 5).getD Rw.zero).p = 1 := by decide
theorem k_r : ((findM kR 5).getD Rw.zero).r = 7 := by decide
theorem k_m : ((findM kR 5).getD Rw.zero).n = 16 := by decide
theorem k_wf : Wf ((findM kR 5).getD Rw.zero) := by unfold Wf; decide
theorem k_wfs : ∀ y ∈ kR, Wf y := (rising_of k_err).wf
theorem set_cells (w : World) (Z C : Array Value) (t : TypeId) (j : Nat) : ((w.alloc (.cells Z t)).setRow w.heap.size C).cell? ⟨w.heap.size, j, none⟩ = C[j]? :=
  cell_setRow_same _ _ j Z C t _ (heap_alloc_new w _)

set_option maxHeartbeats 2000000 in
set_option maxRecDepth 10000 in
theorem cknows_any (hP : PRows) (hFd : PFind) (hU : PUsual) : PKnows := by
  intro w hf
  have HU : Hid _ := ⟨hU w⟩
  have HPr : Hid (∀ (v1 : Value) (w1 : World), OwnP w1 w.heap.size v1 kI → Below w.heap.size w w1 → Calls Tryd.prog 18 #[v1, .slice (some ⟨w1.heap.size, 0, none⟩) 2 2, .int .i64 20] (w1.alloc (.cells #[.int .i64 1, .int .i64 0, .int .i64 1, .int .i64 3, .int .i64 0, .int .i64 16] 64)) fun e w' => ∃ v, e = .returned (.tuple #[v, .int .i64 0]) ∧ OwnW w' w1.heap.size v kR ∧ Below w1.heap.size w1 w') := ⟨fun v1 w1 ho hbw => by
    have B1 : Below w1.heap.size w1 (w1.alloc (.cells #[.int .i64 1, .int .i64 0, .int .i64 1, .int .i64 3, .int .i64 0, .int .i64 16] 64)) := (Below.refl _ _).alloc (Nat.le_refl _) _
    obtain ⟨d1, e1, rfl, hi1⟩ := (ho.bel B1).is
    have hi2 : IsOq (w1.alloc (.cells #[.int .i64 1, .int .i64 0, .int .i64 1, .int .i64 3, .int .i64 0, .int .i64 16] 64)) (some ⟨w1.heap.size, 0, none⟩) 2 kL := ⟨.inr ⟨w1.heap.size, 0, rfl, fun j hj => by
      have hj2 : j = 0 ∨ j = 1 := by simp [kL] at hj; omega
      rcases hj2 with rfl | rfl
      · exact ⟨by simp [kL], by simp [kL], by simp [kL]⟩
      · exact ⟨by simp [kL], by simp [kL], by simp [kL]⟩⟩, (fun e => by cases e), by decide, by omega⟩
    have := hP d1 e1 kI _ 2 kL 20 _ (by decide) (by decide) (by omega) hi1 hi2 ((hf.bel hbw hf.z).bel B1 (Nat.lt_of_lt_of_le hf.z hbw.size))
    rw [k_err] at this
    refine this.mono ?_
    rintro e w' ⟨v, rfl, h1, h2⟩
    exact ⟨v, rfl, h1.low B1.size, B1.trans (h2.mono B1.size)⟩⟩
  have HFk : Hid (∀ (v3 : Value) (w3 : World) (b : Nat), OwnW w3 b v3 kR → Calls Tryd.prog 19 #[v3, .int .i64 5] w3 fun e w' => e = .returned (.tuple #[.agg ((findM kR 5).getD Rw.zero).cells.toArray, .bool true]) ∧ Below w3.heap.size w3 w') := ⟨fun v3 w3 b ho => by
    obtain ⟨a3, d3, rfl, _, _, hrw, _⟩ := ho.any
    have := hFd a3 d3 kR 5 w3 k_wfs (by rw [k_len]; omega) (by omega) hrw
    rwa [k_ok] at this⟩
  clear hP hFd hU
  obtain ⟨C, hC⟩ : ∃ C, ((findM kR 5).getD Rw.zero).cells.toArray = C := ⟨_, rfl⟩
  rw [hC] at HFk
  have HCs : Hid (C.size = 37) := ⟨by rw [← hC]; simpa using Rw.cells_len k_wf⟩
  have HC1 : Hid (C.all (·.oneCell') = true) := ⟨by
    rw [← hC, Array.all_eq_true_iff_forall_mem]
    intro u hu
    exact rw_one _ u (by simpa using hu)⟩
  have HC0 : Hid (C[0]? = some (.int .i64 1) ∧ C[1]? = some (.int .i64 7) ∧ C[2]? = some (.int .i64 16)) := ⟨by rw [← hC, ← k_p]; rfl, by rw [← hC, ← k_r]; rfl, by rw [← hC, ← k_m]; rfl⟩
  clear hC
  go_enter Tryd.func10, Tryd.ntmps10
  go_upto_region 2 with (first
    | (go_at_call 8; (with_reducible refine HU.out.mono ?_); rintro e w1 ⟨v1, he, ho1, hb1⟩; subst he; have H1 : Hid _ := ⟨ho1⟩; have HB1 : Hid _ := ⟨hb1⟩; clear ho1 hb1)
    | (go_at_call 18; (with_reducible refine (HPr.out _ _ H1.out HB1.out).mono ?_); rintro e w3 ⟨v3, he, ho3, hb3⟩; subst he; have H3 : Hid _ := ⟨ho3⟩; have HB3 : Hid (Below w.heap.size w w3) := ⟨HB1.out.trans (hb3.mono HB1.out.size)⟩; clear ho3 hb3))
  go_upto_region 3 with (first
    | (go_at_call 19; (with_reducible refine (HFk.out _ _ _ H3.out).mono ?_); rintro e w5 ⟨he, hb5⟩; subst he; have HB5 : Hid _ := ⟨hb5⟩; clear hb5)
    | (refine wpList_store_row rfl 71 (.tmp 3) (.tmp 16) rfl w5.heap.size C ?h6 ?h7 71 _ (heap_alloc_new w5 _) (by rw [size41, HCs.out]) (by rw [HCs.out]; rfl) HC1.out ?_; (case h6 => rfl); (case h7 => rfl)))
  change Code.wp _ _ _ _ ((w5.alloc (.cells Z37 71)).setRow w5.heap.size C)
  have HB6 : Hid (Below w3.heap.size w3 ((w5.alloc (.cells Z37 71)).setRow w5.heap.size C)) := ⟨HB5.out.trans ((set_bel w5 Z37 C 71).mono HB5.out.size)⟩
  have d0 := (set_cells w5 Z37 C 71 0).trans HC0.out.1
  have d1 := (set_cells w5 Z37 C 71 1).trans HC0.out.2.1
  have d2 := (set_cells w5 Z37 C 71 2).trans HC0.out.2.2
  generalize (w5.alloc (.cells Z37 71)).setRow w5.heap.size C = W6 at *
  generalize w5.heap.size = g6 at *
  obtain ⟨a3, d3, hv3, _, _, hrw, _⟩ := (H3.out.bel HB6.out).any
  rw [k_len] at hv3
  subst hv3
  obtain ⟨b, off, rfl, hat⟩ : ∃ b off, a3 = some ⟨b, off, none⟩ ∧ ∀ j, j < kR.length → RwAt W6 b (off + j * 37) (kR.getD j Rw.zero) := by
    rcases hrw with h | h
    · have := k_len; rw [h] at this; cases this
    · exact h
  have n0 := (hat 0 (by rw [k_len]; omega)).n
  rw [k_n] at n0
  simp only [Nat.zero_mul, Nat.add_zero] at n0
  clear hat
  go_wp2_with (go_at_call 7; (with_reducible refine (cnum_any _ _).mono ?_); rintro e wn ⟨he, hwn⟩; subst he; subst wn)
  go_ret
  exact ⟨rfl, HB3.out.trans (HB6.out.mono HB3.out.size)⟩
end Go.Proofs.YtpbnldfekadalaaDoor
