/- Rows of faults; the calls that the order's law makes; entries the other way round. -/
import Derived.Test.YtgoaegembijdcaaRTurn
import Derived.Test.YtgoaegembijdcaaLooksWalk
namespace Go.Proofs.Ytgoaegembijdcaa
open Go.ChangeShapes Go.WideShapes Go.ChangeAt Go.RowKit Go.Maps
set_option linter.unusedVariables false
set_option linter.unusedSimpArgs false

structure FtAt (w : World) (b o : Nat) (s : Ft) : Prop where
  c0 : w.cell? ⟨b, o, none⟩ = some (.int .i64 s.e)
  c1 : w.cell? ⟨b, o + 1, none⟩ = some (.string s.nm)
theorem FtAt.below {w w' : World} {b o : Nat} {s : Ft} (h : FtAt w b o s) {B : Nat} (hb : Below B w w') (hB : w.heap.size ≤ B) : FtAt w' b o s := by
  have k : b < B := Nat.lt_of_lt_of_le (World.block_lt_of_cell? w ⟨b, o, none⟩ h.c0) hB
  exact ⟨(hb.cell (p := ⟨b, o, none⟩) k).trans h.c0, (hb.cell (p := ⟨b, o + 1, none⟩) k).trans h.c1⟩
def Fts (w : World) (ao : Option Addr) (l : List Ft) : Prop :=
  l = [] ∨ ∃ b off, ao = some ⟨b, off, none⟩ ∧ ∀ i, i < l.length → FtAt w b (off + i * 2) (l.getD i Ft.zero)
theorem Fts.below {w w' : World} {ao : Option Addr} {l : List Ft} (h : Fts w ao l) {B : Nat} (hb : Below B w w') (hB : w.heap.size ≤ B) : Fts w' ao l := by
  rcases h with h | ⟨b, off, e, h⟩
  · exact .inl h
  · exact .inr ⟨b, off, e, fun i hi => (h i hi).below hb hB⟩
theorem own_fts {e : Nat} {w : World} {base : Nat} {ao : Option Addr} {cap : Nat} {l : List Ft} (h : OwnR e 2 encF w base (.slice ao l.length cap) l) : Fts w ao l := by
  obtain ⟨ao', cap', hv, _, _, _, hc⟩ := h.any encF_len
  injection hv with h1 h2 h3
  subst h1
  rcases hc with hc | ⟨g, hg, _, _, hc⟩
  · exact .inl hc
  · refine .inr ⟨g, 0, hg, fun i hi => ?_⟩
    have h := hc i hi
    have e : l.getD i Ft.zero = l[i] := by simp [hi]
    rw [e]
    rw [Nat.zero_add]
    exact ⟨h 0 (by decide), h 1 (by decide)⟩

theorem faults_s (ao : Option Addr) (c : Nat) (l : List Fl) (w : World) (hb : FlsB l) (hin : Fls w ao l) :
    Calls Try.prog 13 #[.slice ao l.length c] w fun e w' => ∃ va vc, e = .returned (.slice va (FaultsA l).length vc) ∧ (checkL l = 0 → RowsL l) ∧ Fts w' va (FaultsA l) ∧ Below w.heap.size w w' := by
  refine (pfaults_any ao c l w hb hin).mono ?_
  rintro e w' ⟨v, rfl, hR, ho, hb'⟩
  obtain ⟨va, vc, rfl, _⟩ := ho.any encF_len
  exact ⟨va, vc, rfl, hR, own_fts ho, hb'⟩
theorem all_s (ao : Option Addr) (c : Nat) (l : List Fl) (w : World) (hb : FlsB l) (hin : Fls w ao l) :
    Calls Try.prog 16 #[.slice ao l.length c] w fun e w' => ∃ va vc, e = .returned (.tuple #[.slice va (AllT l).length vc, (AllF l).val]) ∧ (checkL l = 0 → RowsL l) ∧ Ents w' va (AllT l) ∧ Below w.heap.size w w' := by
  refine (pall_any ao c l w hb hin).mono ?_
  rintro e w' ⟨v, rfl, hR, ho, hb'⟩
  obtain ⟨va, vc, rfl, _⟩ := ho.any encE_len
  exact ⟨va, vc, rfl, hR, own_ents ho, hb'⟩

theorem faultsA_len {l : List Fl} (R : checkL l = 0 → RowsL l) : (FaultsA l).length ≤ 16777216 := by
  unfold FaultsA
  by_cases hc : checkL l = 0
  · have R := R hc
    have h1 := ftOf_le 180 twice (rowsU l)
    have h2 := ftOf_le 181 undef1 (rowsU l)
    have h3 := ftOf_le 182 mixd (rowsU l)
    have h4 := R.n
    have h5 := ftOf_le 182 Sh.un (rowsS l)
    have h6 := R.n2
    rw [hc]
    unfold faultsL
    simp only [beq_self_eq_true, if_true, List.length_append]
    omega
  · rw [if_neg (by simp [hc])]; simp
theorem allT_len {l : List Fl} (R : checkL l = 0 → RowsL l) : (AllT l).length ≤ 2097152 := by
  by_cases h : (AllF l).e = 0
  · have hc := ((allF_ok l).1 h).1
    rw [allT_ok l h]
    unfold entsL
    rw [List.length_map]
    exact (R hc).n
  · rw [allT_bad l h]; simp
theorem ent_o {l : List Fl} (R : RowsL l) (hl : (occ l).length ≤ 2097152) {e : En} (he : e ∈ entsL l) (hb : e.b = 1) : 0 ≤ e.o ∧ e.o < l.length := by
  obtain ⟨⟨n, u⟩, h1, rfl⟩ := List.mem_map.1 he
  have hu := (R.u.mem n u).1 h1
  rcases (ent_is hl hu).2 with ⟨_, e⟩ | ⟨_, x, hx, _, _, e, _⟩
  · rw [e] at hb; simp at hb
  · rw [e]
    obtain ⟨f, hf, _⟩ := mem_occ.1 hx
    obtain ⟨hi, _⟩ := List.getElem?_eq_some_iff.1 hf
    unfold enOf
    constructor
    · simp
    · simpa using hi
/-- An entry; the same name's entry, the other way round. -/
def RelE (n : Nat) (x y : En) : Prop := y.nm = x.nm ∧ y.b = x.b ∧ (x.b = 1 → y.k = x.k ∧ y.o = (n : Int) - 1 - x.o ∧ 0 ≤ x.o ∧ x.o < n)
theorem all_rev {l : List Fl} (R : RowsL l) (R' : RowsL l.reverse) (hl : (occ l).length ≤ 2097152) (hc : checkL l = 0) :
    FaultsA l.reverse = FaultsA l ∧ AllF l.reverse = AllF l ∧ (AllT l.reverse).length = (AllT l).length ∧ ∀ i, i < (AllT l).length → RelE l.length ((AllT l).getD i En.zero) ((AllT l.reverse).getD i En.zero) := by
  have hc' := (check_rev l).2 hc
  have hF := faults_rev R R' hl
  have h1 : AllF l.reverse = AllF l := by unfold AllF; rw [hc, hc', hF]
  refine ⟨by unfold FaultsA; rw [hc, hc', hF], h1, ?_⟩
  by_cases h : (AllF l).e = 0
  · have hf := ((allF_ok l).1 h).2
    rw [allT_ok l h, allT_ok l.reverse (by rw [h1]; exact h)]
    obtain ⟨e1, e2⟩ := ents_rev R R' hl hf (bind_ok hc)
    refine ⟨e1, fun i hi => ?_⟩
    have hi' : i < (entsL l.reverse).length := by rw [e1]; exact hi
    obtain ⟨a, b, c⟩ := e2 i hi hi'
    have g1 : (entsL l).getD i En.zero = (entsL l)[i] := by simp [hi]
    have g2 : (entsL l.reverse).getD i En.zero = (entsL l.reverse)[i] := by simp [hi']
    rw [g1, g2]
    refine ⟨a.symm, b.symm, fun hb => ?_⟩
    obtain ⟨c1, c2⟩ := c hb
    obtain ⟨o1, o2⟩ := ent_o R hl (List.getElem_mem hi) hb
    exact ⟨c2.symm, by omega, o1, o2⟩
  · rw [allT_bad l h, allT_bad l.reverse (by rw [h1]; exact h)]
    exact ⟨rfl, fun i hi => by simp at hi⟩
end Go.Proofs.Ytgoaegembijdcaa
