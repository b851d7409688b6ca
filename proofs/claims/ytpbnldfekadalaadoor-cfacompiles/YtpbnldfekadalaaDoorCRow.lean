/- Rows in memory: rows of the call's own; what a table's rows hold. -/
import Derived.Test.YtpbnldfekadalaaDoorCIs
namespace Go.Proofs.YtpbnldfekadalaaDoor
open Go.ChangeShapes Go.WideShapes Go.ChangeAt Go.RowKit
set_option linter.unusedVariables false
set_option linter.unusedSimpArgs false

def zc (z : List (Int × Int)) : List Value := z.flatMap fun q => [.int .i64 q.1, .int .i64 q.2]
theorem zc_len (z : List (Int × Int)) : (zc z).length = z.length * 2 := by
  induction z with
  | nil => rfl
  | cons q z ih =>
    show ([Value.int .i64 q.1, .int .i64 q.2] ++ zc z).length = _
    rw [List.length_append, ih]
    simp
    omega
theorem zc_at : ∀ (z : List (Int × Int)) (i : Nat), i < z.length → (zc z)[i * 2]? = some (.int .i64 (z.getD i (0, 0)).1) ∧ (zc z)[i * 2 + 1]? = some (.int .i64 (z.getD i (0, 0)).2)
  | [], i, hi => by simp at hi
  | q :: z, 0, _ => ⟨rfl, rfl⟩
  | q :: z, i + 1, hi => by
    have := zc_at z i (by simpa using hi)
    have e : zc (q :: z) = .int .i64 q.1 :: .int .i64 q.2 :: zc z := rfl
    rw [e, show (i + 1) * 2 = i * 2 + 1 + 1 by omega, show i * 2 + 1 + 1 + 1 = i * 2 + 1 + 1 + 1 from rfl]
    simpa using this
theorem zc_set : ∀ (z : List (Int × Int)) (i : Nat) (k n : Int), i < z.length → ((zc z).set (i * 2) (.int .i64 k)).set (i * 2 + 1) (.int .i64 n) = zc (z.set i (k, n))
  | [], i, k, n, hi => by simp at hi
  | q :: z, 0, k, n, _ => rfl
  | q :: z, i + 1, k, n, hi => by
    have := zc_set z i k n (by simpa using hi)
    have e : zc (q :: z) = .int .i64 q.1 :: .int .i64 q.2 :: zc z := rfl
    rw [e, show (i + 1) * 2 = i * 2 + 1 + 1 by omega]
    show Value.int .i64 q.1 :: .int .i64 q.2 :: ((zc z).set (i * 2) (.int .i64 k)).set (i * 2 + 1) (.int .i64 n) = _
    rw [this]
    rfl
def Rw.cells (x : Rw) : List Value := .int .i64 x.p :: .int .i64 x.r :: .int .i64 x.n :: zc x.z
/-- A row has 17 rules. -/
def Wf (x : Rw) : Prop := x.z.length = 17
theorem Rw.cells_len {x : Rw} (h : Wf x) : x.cells.length = 37 := by
  show (zc x.z).length + 3 = 37
  rw [zc_len, h]
def rwCells (l : List Rw) : List Value := l.flatMap Rw.cells
theorem rwCells_len : ∀ (l : List Rw), (∀ x ∈ l, Wf x) → (rwCells l).length = l.length * 37
  | [], _ => rfl
  | x :: l, h => by
    show (x.cells ++ rwCells l).length = _
    rw [List.length_append, Rw.cells_len (h x (by simp)), rwCells_len l (fun y hy => h y (by simp [hy]))]
    simp
    omega
theorem rwCells_append (l m : List Rw) : rwCells (l ++ m) = rwCells l ++ rwCells m := by simp [rwCells]
theorem rw_one (x : Rw) : ∀ u ∈ x.cells, u.oneCell' = true := by
  intro u hu
  simp only [Rw.cells, List.mem_cons] at hu
  rcases hu with rfl | rfl | rfl | hu
  · rfl
  · rfl
  · rfl
  · obtain ⟨q, _, hq⟩ := List.mem_flatMap.1 hu
    simp at hq
    rcases hq with rfl | rfl <;> rfl
theorem rwCells_one (l : List Rw) : ∀ u ∈ rwCells l, u.oneCell' = true := by
  intro u hu
  obtain ⟨x, _, hx⟩ := List.mem_flatMap.1 hu
  exact rw_one x u hx
theorem rwCells_at : ∀ (l : List Rw) (i j : Nat), (∀ x ∈ l, Wf x) → i < l.length → j < 37 → (rwCells l)[i * 37 + j]? = ((l.getD i Rw.zero).cells)[j]?
  | [], i, j, _, hi, _ => by simp at hi
  | x :: l, 0, j, hw, _, hj => by
    show (x.cells ++ rwCells l)[0 * 37 + j]? = _
    rw [List.getElem?_append_left (by rw [Rw.cells_len (hw x (by simp))]; omega)]
    simp
  | x :: l, i + 1, j, hw, hi, hj => by
    show (x.cells ++ rwCells l)[(i + 1) * 37 + j]? = _
    have hl := Rw.cells_len (hw x (by simp))
    rw [List.getElem?_append_right (by omega), hl, show (i + 1) * 37 + j - 37 = i * 37 + j by omega, rwCells_at l i j (fun y hy => hw y (by simp [hy])) (by simpa using hi) hj]
    rfl
/-- A row lies in memory. -/
def RwAt (w : World) (b o : Nat) (x : Rw) : Prop := ∀ j, j < 37 → w.cell? ⟨b, o + j, none⟩ = x.cells[j]?
theorem RwAt.p {w : World} {b o : Nat} {x : Rw} (h : RwAt w b o x) : w.cell? ⟨b, o, none⟩ = some (.int .i64 x.p) := h 0 (by omega)
theorem RwAt.r {w : World} {b o : Nat} {x : Rw} (h : RwAt w b o x) : w.cell? ⟨b, o + 1, none⟩ = some (.int .i64 x.r) := h 1 (by omega)
theorem RwAt.n {w : World} {b o : Nat} {x : Rw} (h : RwAt w b o x) : w.cell? ⟨b, o + 2, none⟩ = some (.int .i64 x.n) := h 2 (by omega)
theorem RwAt.below {w w' : World} {b o : Nat} {x : Rw} (h : RwAt w b o x) {B : Nat} (hb : Below B w w') (hB : w.heap.size ≤ B) : RwAt w' b o x := fun j hj => by
  have k : b < B := Nat.lt_of_lt_of_le (World.block_lt_of_cell? w ⟨b, o, none⟩ h.p) hB
  rw [hb.cell (p := ⟨b, o + j, none⟩) k]
  exact h j hj
/-- Rows that lie in memory. -/
def Rws (w : World) (ao : Option Addr) (l : List Rw) : Prop :=
  l = [] ∨ ∃ b off, ao = some ⟨b, off, none⟩ ∧ ∀ i, i < l.length → RwAt w b (off + i * 37) (l.getD i Rw.zero)
theorem Rws.below {w w' : World} {ao : Option Addr} {l : List Rw} (h : Rws w ao l) {B : Nat} (hb : Below B w w') (hB : w.heap.size ≤ B) : Rws w' ao l := by
  rcases h with h | ⟨b, off, e, h⟩
  · exact .inl h
  · exact .inr ⟨b, off, e, fun i hi => (h i hi).below hb hB⟩
theorem Rws.bel {w w' : World} {ao : Option Addr} {l : List Rw} (h : Rws w ao l) (hb : Below w.heap.size w w') : Rws w' ao l := h.below hb (Nat.le_refl _)
/-- Rows of the call's own. -/
def OwnV (w : World) (base : Nat) (v : Value) (l : List Rw) : Prop := (∀ x ∈ l, Wf x) ∧ w.ownsRow base 60 37 v l.length (rwCells l)
theorem OwnV.nil (w : World) (base : Nat) : OwnV w base (.slice none 0 0) [] := ⟨fun x hx => (by cases hx), World.ownsRow_nil _ _ _ _⟩
theorem OwnV.any {w : World} {base : Nat} {v : Value} {l : List Rw} (h : OwnV w base v l) :
    ∃ ao cap, v = .slice ao l.length cap ∧ l.length ≤ cap ∧ cap ≤ 9223372036854775807 ∧ Rws w ao l ∧ (ao = none → l = [] ∧ cap = 0) := by
  obtain ⟨hw, h⟩ := h
  rcases h.2 with ⟨hv, hn⟩ | ⟨g, cap, cur, hv, _, hg, h1, h2, _⟩
  · have hl : l = [] := List.eq_nil_of_length_eq_zero hn
    subst hl
    exact ⟨none, 0, hv, Nat.le_refl _, by omega, .inl rfl, fun _ => ⟨rfl, rfl⟩⟩
  · refine ⟨_, cap, hv, h1, by unfold maxLen at h2; omega, ?_, (fun e => by cases e)⟩
    right
    refine ⟨g, 0, rfl, fun i hi j hj => ?_⟩
    subst hv
    have := h.cellAt (i * 37 + j) (by omega)
    rw [Nat.zero_add, this, rwCells_at l i j hw hi hj]
theorem OwnV.bel {w w' : World} {base : Nat} {v : Value} {l : List Rw} (h : OwnV w base v l) (hb : Below w.heap.size w w') : OwnV w' base v l :=
  ⟨h.1, World.ownsRow.kept (row := none) h.2 ⟨hb.os, hb.tape, hb.output, hb.size, fun j hj _ => hb.block j hj⟩ (by cases hv : v.ownBlock <;> simp)⟩
theorem OwnV.low {w : World} {b b' : Nat} {v : Value} {l : List Rw} (h : OwnV w b v l) (hb : b' ≤ b) : OwnV w b' v l := by
  refine ⟨h.1, h.2.1, ?_⟩
  rcases h.2.2 with hv | ⟨g', c', cur, hv, h2, h3⟩
  · exact .inl hv
  · exact .inr ⟨g', c', cur, hv, by omega, h3⟩
/-- Rows of the call's own. -/
def OwnW (w : World) (base : Nat) (v : Value) (l : List Rw) : Prop := (∀ x ∈ l, Wf x) ∧ w.ownsRow base 71 37 v l.length (rwCells l)
theorem OwnW.nil (w : World) (base : Nat) : OwnW w base (.slice none 0 0) [] := ⟨fun x hx => (by cases hx), World.ownsRow_nil _ _ _ _⟩
theorem OwnW.any {w : World} {base : Nat} {v : Value} {l : List Rw} (h : OwnW w base v l) :
    ∃ ao cap, v = .slice ao l.length cap ∧ l.length ≤ cap ∧ cap ≤ 9223372036854775807 ∧ Rws w ao l ∧ (ao = none → l = [] ∧ cap = 0) := by
  obtain ⟨hw, h⟩ := h
  rcases h.2 with ⟨hv, hn⟩ | ⟨g, cap, cur, hv, _, hg, h1, h2, _⟩
  · have hl : l = [] := List.eq_nil_of_length_eq_zero hn
    subst hl
    exact ⟨none, 0, hv, Nat.le_refl _, by omega, .inl rfl, fun _ => ⟨rfl, rfl⟩⟩
  · refine ⟨_, cap, hv, h1, by unfold maxLen at h2; omega, ?_, (fun e => by cases e)⟩
    right
    refine ⟨g, 0, rfl, fun i hi j hj => ?_⟩
    subst hv
    have := h.cellAt (i * 37 + j) (by omega)
    rw [Nat.zero_add, this, rwCells_at l i j hw hi hj]
theorem OwnW.bel {w w' : World} {base : Nat} {v : Value} {l : List Rw} (h : OwnW w base v l) (hb : Below w.heap.size w w') : OwnW w' base v l :=
  ⟨h.1, World.ownsRow.kept (row := none) h.2 ⟨hb.os, hb.tape, hb.output, hb.size, fun j hj _ => hb.block j hj⟩ (by cases hv : v.ownBlock <;> simp)⟩
theorem OwnW.low {w : World} {b b' : Nat} {v : Value} {l : List Rw} (h : OwnW w b v l) (hb : b' ≤ b) : OwnW w b' v l := by
  refine ⟨h.1, h.2.1, ?_⟩
  rcases h.2.2 with hv | ⟨g', c', cur, hv, h2, h3⟩
  · exact .inl hv
  · exact .inr ⟨g', c', cur, hv, by omega, h3⟩

/-- A table whose rows have 17 rules each. -/
structure Tw (t : Tb) : Prop where
  L : ∀ x ∈ t.L, Wf x
  now : Wf t.now
  first : Wf t.first
  kept : ∀ x ∈ t.kept, Wf x
theorem tw_new (size : Int) : Tw (tbNew size) := ⟨fun x hx => (by cases hx), rfl, rfl, fun x hx => (by cases hx)⟩
theorem wf_set {x : Rw} (h : Wf x) (r : Int) (v : Int × Int) : Wf (x.set r v) := by
  unfold Wf at h ⊢
  unfold Rw.set
  simpa using h
theorem tw_do {t t' : Tb} {o : Oq} (h : Tw t) (hd : doM t o = some t') : Tw t' := by
  unfold doM at hd
  by_cases k1 : o.k = 1
  · rw [if_pos k1] at hd
    split at hd
    · cases hd
      unfold advM
      split
      · refine ⟨fun x hx => ?_, h.now, h.first, h.kept⟩
        rcases List.mem_append.1 hx with h1 | h1
        · exact h.L x h1
        · simp at h1; subst h1; exact h.now
      · exact h
    · cases hd
  rw [if_neg k1] at hd
  by_cases k9 : o.k = 9
  · simp only [k9] at hd
    simp at hd
    obtain ⟨_, rfl⟩ := hd
    refine ⟨h.L, h.now, h.first, fun x hx => ?_⟩
    rcases List.mem_append.1 hx with h1 | h1
    · exact h.kept x h1
    · simp at h1; subst h1; exact h.now
  by_cases k10 : o.k = 10
  · simp only [k10] at hd
    simp [recM] at hd
    cases hl : t.kept.getLast? with
    | none => rw [hl] at hd; cases hd
    | some q =>
      rw [hl] at hd
      cases hd
      exact ⟨h.L, h.kept q (List.mem_of_getLast? hl), h.first, fun x hx => h.kept x (List.dropLast_subset _ hx)⟩
  rw [if_neg k9, if_neg k10] at hd
  repeat' (split at hd)
  all_goals first
    | (cases hd; exact ⟨h.L, h.now, h.first, h.kept⟩)
    | (cases hd; exact ⟨h.L, wf_set h.now _ _, h.first, h.kept⟩)
    | cases hd
theorem tw_ops {b : Bool} : ∀ {l : List Oq} {t t' : Tb}, Tw t → opsM b t l = some t' → Tw t'
  | [], t, t', h, hd => by cases hd; exact h
  | o :: l, t, t', h, hd => by
    simp only [opsM] at hd
    cases ho : oneM b t o with
    | none => rw [ho] at hd; cases hd
    | some t1 =>
      rw [ho] at hd
      exact tw_ops (tw_do h (oneM_some ho).2.2) hd
theorem tw_tab {i l : List Oq} {size : Int} {t : Tb} (h : tabM i l size = some t) : Tw t := by
  unfold tabM begM at h
  cases ho : opsM true (tbNew size) i with
  | none => rw [ho] at h; cases h
  | some t1 =>
    rw [ho] at h
    have h1 := tw_ops (tw_new size) ho
    dsimp only at h
    by_cases hr : 0 ≤ t1.now.r
    · rw [if_pos hr] at h
      exact tw_ops (t := ⟨t1.L, t1.now, t1.now, t1.kept, t1.size⟩) ⟨h1.L, h1.now, h1.now, h1.kept⟩ h
    · rw [if_neg hr] at h; cases h
end Go.Proofs.YtpbnldfekadalaaDoor
