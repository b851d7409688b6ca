/- Frames' programs, plainly: ops, which may be, tables of rows, what a table's rows are like. -/
import Derived.Test.YtpbnldfekadalaaDoorRows
import Derived.WalkKit
import Derived.ProofKit
import Derived.Below
namespace Go.Proofs.YtpbnldfekadalaaDoor
open Go.ChangeShapes Go.WideShapes Go.ChangeAt Go.RowKit
set_option linter.unusedVariables false

/-- A fact that the walk does not look into. -/
structure Hid (p : Prop) : Prop where
  out : p

/-- An op. -/
structure Oq where
  k : Int
  r : Int
  n : Int
/-- May an op be? -/
def regB (o : Oq) : Bool := decide (0 ≤ o.r) && decide (o.r ≤ 16)
def farB (o : Oq) : Bool := decide (0 ≤ o.n) && decide (o.n < 2147483648)
def mayB (o : Oq) : Bool :=
  if o.k == 0 || (o.k == 9 || o.k == 10) then o.r == 0 && o.n == 0
  else if o.k == 1 || o.k == 3 then o.r == 0 && farB o
  else if o.k == 2 then regB o && farB o
  else if o.k == 4 || (o.k == 6 || (o.k == 7 || o.k == 8)) then regB o && o.n == 0
  else if o.k == 5 then regB o && (decide (-2147483648 ≤ o.n) && (decide (o.n < 2147483648) && o.n.tmod 8 == 0))
  else false
/-- Is it none for the beginning? -/
def notB (o : Oq) : Bool := o.k == 1 || (o.k == 9 || (o.k == 10 || o.k == 6))

/-- A row: its place, the frame's address, 17 rules. -/
structure Rw where
  p : Int
  r : Int
  n : Int
  z : List (Int × Int)
def zero17 : List (Int × Int) := List.replicate 17 (0, 0)
def Rw.zero : Rw := ⟨0, 0, 0, zero17⟩
def Rw.set (x : Rw) (r : Int) (v : Int × Int) : Rw := ⟨x.p, x.r, x.n, x.z.set r.toNat v⟩
/-- A table that is built. -/
structure Tb where
  L : List Rw
  now : Rw
  first : Rw
  kept : List Rw
  size : Int
def tbNew (size : Int) : Tb := ⟨[], ⟨0, -1, 0, zero17⟩, Rw.zero, [], size⟩
/-- An op is done. -/
def advM (t : Tb) (n : Int) : Tb := if 0 < n then ⟨t.L ++ [t.now], ⟨t.now.p + n, t.now.r, t.now.n, t.now.z⟩, t.first, t.kept, t.size⟩ else t
def recM (t : Tb) : Option Tb := match t.kept.getLast? with
  | none => none
  | some q => some ⟨t.L, ⟨t.now.p, q.r, q.n, q.z⟩, t.first, t.kept.dropLast, t.size⟩
def doM (t : Tb) (o : Oq) : Option Tb :=
  if o.k = 1 then (if (advM t o.n).now.p ≤ t.size then some (advM t o.n) else none)
  else if o.k = 2 then some ⟨t.L, ⟨t.now.p, o.r, o.n, t.now.z⟩, t.first, t.kept, t.size⟩
  else if o.k = 3 then (if 0 ≤ t.now.r then some ⟨t.L, ⟨t.now.p, t.now.r, o.n, t.now.z⟩, t.first, t.kept, t.size⟩ else none)
  else if o.k = 4 then (if 0 ≤ t.now.r then some ⟨t.L, ⟨t.now.p, o.r, t.now.n, t.now.z⟩, t.first, t.kept, t.size⟩ else none)
  else if o.k = 5 then some ⟨t.L, t.now.set o.r (2, o.n), t.first, t.kept, t.size⟩
  else if o.k = 6 then some ⟨t.L, t.now.set o.r (t.first.z.getD o.r.toNat (0, 0)), t.first, t.kept, t.size⟩
  else if o.k = 7 then some ⟨t.L, t.now.set o.r (1, 0), t.first, t.kept, t.size⟩
  else if o.k = 8 then some ⟨t.L, t.now.set o.r (0, 0), t.first, t.kept, t.size⟩
  else if o.k = 9 then (if t.kept.length + 1 ≤ 64 then some ⟨t.L, t.now, t.first, t.kept ++ [t.now], t.size⟩ else none)
  else if o.k = 10 then recM t
  else some t
def oneM (b : Bool) (t : Tb) (o : Oq) : Option Tb := if mayB o = false ∨ (b = true ∧ notB o = true) then none else doM t o
/-- Ops are done. -/
def opsM (b : Bool) : Tb → List Oq → Option Tb
  | t, [] => some t
  | t, o :: l => match oneM b t o with
    | none => none
    | some t' => opsM b t' l
def begM (t : Tb) (l : List Oq) : Option Tb := match opsM true t l with
  | none => none
  | some t' => if 0 ≤ t'.now.r then some ⟨t'.L, t'.now, t'.now, t'.kept, t'.size⟩ else none
def tabM (i l : List Oq) (size : Int) : Option Tb := match begM (tbNew size) i with
  | none => none
  | some t => opsM false t l
/-- What Rows answers: its error, its rows. -/
def rowsE (i l : List Oq) (size : Int) : Int := if size < 0 ∨ 1048576 < size then 11 else if 4000 < i.length ∨ 4000 < l.length then 6 else match tabM i l size with | none => 130 | some _ => 0
def rowsL (i l : List Oq) (size : Int) : List Rw := if size < 0 ∨ 1048576 < size then [] else if 4000 < i.length ∨ 4000 < l.length then [] else match tabM i l size with | none => [] | some t => t.L ++ [t.now]

theorem rows_ok {i l : List Oq} {size : Int} (h : rowsE i l size = 0) : ∃ t, tabM i l size = some t ∧ rowsL i l size = t.L ++ [t.now] ∧ (0 ≤ size ∧ size ≤ 1048576) ∧ i.length ≤ 4000 ∧ l.length ≤ 4000 := by
  unfold rowsE at h
  unfold rowsL
  by_cases h1 : size < 0 ∨ 1048576 < size
  · rw [if_pos h1] at h; cases h
  rw [if_neg h1] at h ⊢
  by_cases h2 : 4000 < i.length ∨ 4000 < l.length
  · rw [if_pos h2] at h; cases h
  rw [if_neg h2] at h ⊢
  cases ht : tabM i l size with
  | none => rw [ht] at h; cases h
  | some t => exact ⟨t, rfl, rfl, by omega, by omega, by omega⟩
theorem rows_no {i l : List Oq} {size : Int} (h : rowsE i l size ≠ 0) : rowsL i l size = [] := by
  unfold rowsE at h
  unfold rowsL
  by_cases h1 : size < 0 ∨ 1048576 < size
  · rw [if_pos h1]
  rw [if_neg h1] at h ⊢
  by_cases h2 : 4000 < i.length ∨ 4000 < l.length
  · rw [if_pos h2]
  rw [if_neg h2] at h ⊢
  cases ht : tabM i l size with
  | none => rfl
  | some t => rw [ht] at h; exact absurd rfl h

theorem opsM_append (b : Bool) (t : Tb) (l m : List Oq) : opsM b t (l ++ m) = (match opsM b t l with | none => none | some t' => opsM b t' m) := by
  induction l generalizing t with
  | nil => rfl
  | cons o l ih =>
    simp only [List.cons_append, opsM]
    cases oneM b t o with
    | none => rfl
    | some t' => exact ih t'

/-- What an op that is done may be. -/
theorem oneM_some {b : Bool} {t t' : Tb} {o : Oq} (h : oneM b t o = some t') : mayB o = true ∧ (b = true → notB o = false) ∧ doM t o = some t' := by
  unfold oneM at h
  split at h
  · cases h
  · rename_i hn
    refine ⟨?_, fun hb => ?_, h⟩
    · cases hm : mayB o with
      | true => rfl
      | false => exact absurd (.inl hm) hn
    · cases hm : notB o with
      | false => rfl
      | true => exact absurd (.inr ⟨hb, hm⟩) hn
theorem may_reg {o : Oq} (h : mayB o = true) (hk : o.k = 2 ∨ o.k = 4 ∨ o.k = 5 ∨ o.k = 6 ∨ o.k = 7 ∨ o.k = 8) : 0 ≤ o.r ∧ o.r ≤ 16 := by
  unfold mayB at h
  have hr : regB o = true := by rcases hk with e | e | e | e | e | e <;> simp [e] at h <;> simp [h]
  simpa [regB] using hr
theorem may_adv {o : Oq} (h : mayB o = true) (hk : o.k = 1) : 0 ≤ o.n ∧ o.n < 2147483648 := by
  unfold mayB at h
  simp [hk] at h
  simpa [farB] using h.2

/-- A table's row. -/
def RowOk (x : Rw) : Prop := 0 ≤ x.r ∧ x.r ≤ 16
/-- A table that is built behind its first row: rows rise. -/
structure Good (t : Tb) : Prop where
  now : RowOk t.now
  kept : ∀ q ∈ t.kept, RowOk q
  L : ∀ q ∈ t.L, RowOk q
  up : (t.L ++ [t.now]).Pairwise (fun a b => a.p < b.p)
  zero : ((t.L ++ [t.now]).head (by simp)).p = 0
  top : t.now.p ≤ t.size
theorem good_top {t : Tb} (h : Good t) : ∀ q ∈ t.L ++ [t.now], q.p ≤ t.now.p := by
  intro q hq
  rcases List.mem_append.1 hq with h1 | h1
  · have := (List.pairwise_append.1 h.up).2.2 q h1 t.now (by simp)
    omega
  · simp at h1; subst h1; omega
theorem same_place {t : Tb} {x : Rw} (h : (t.L ++ [t.now]).Pairwise (fun a b => a.p < b.p)) (e : x.p = t.now.p) : (t.L ++ [x]).Pairwise (fun a b => a.p < b.p) := by
  rw [List.pairwise_append] at h ⊢
  refine ⟨h.1, by simp, fun a ha b hb => ?_⟩
  simp at hb
  subst hb
  rw [e]
  exact h.2.2 a ha t.now (by simp)
theorem same_zero {L : List Rw} {x y : Rw} (h : ((L ++ [y]).head (by simp)).p = 0) (e : x.p = y.p) : ((L ++ [x]).head (by simp)).p = 0 := by
  cases L with
  | nil => simp at h ⊢; omega
  | cons a L => simpa using h
theorem Good.put {t : Tb} (h : Good t) {x : Rw} (e : x.p = t.now.p) (hx : RowOk x) {k : List Rw} (hk : ∀ q ∈ k, RowOk q) {f : Rw} : Good ⟨t.L, x, f, k, t.size⟩ :=
  ⟨hx, hk, h.L, same_place (t := t) h.up e, same_zero (y := t.now) h.zero e, by show x.p ≤ t.size; rw [e]; exact h.top⟩
theorem good_do {t t' : Tb} {o : Oq} (h : Good t) (hm : mayB o = true) (hd : doM t o = some t') : Good t' ∧ t'.size = t.size := by
  unfold doM at hd
  by_cases k1 : o.k = 1
  · rw [if_pos k1] at hd
    split at hd
    · rename_i hp
      simp only [Option.some.injEq] at hd
      subst hd
      unfold advM at hp ⊢
      split at hp
      · rename_i h0
        rw [if_pos h0]
        refine ⟨⟨h.now, h.kept, fun q hq => ?_, ?_, ?_, hp⟩, rfl⟩
        · rcases List.mem_append.1 hq with h1 | h1
          · exact h.L q h1
          · simp at h1; subst h1; exact h.now
        · show ((t.L ++ [t.now]) ++ [_]).Pairwise _
          rw [List.pairwise_append]
          refine ⟨h.up, by simp, fun a ha b hb => ?_⟩
          simp at hb
          subst hb
          have := good_top h a ha
          show a.p < t.now.p + o.n
          omega
        · show (((t.L ++ [t.now]) ++ [_]).head _).p = 0
          rw [List.head_append_of_ne_nil (by simp)]
          exact h.zero
      · rename_i h0
        rw [if_neg h0]
        exact ⟨h, rfl⟩
    · cases hd
  rw [if_neg k1] at hd
  by_cases k2 : o.k = 2
  · rw [if_pos k2] at hd
    cases hd
    exact ⟨h.put (by rfl) (by exact may_reg hm (.inl k2)) (by exact h.kept), rfl⟩
  rw [if_neg k2] at hd
  by_cases k3 : o.k = 3
  · rw [if_pos k3] at hd
    split at hd
    · cases hd
      exact ⟨h.put (by rfl) (by exact h.now) (by exact h.kept), rfl⟩
    · cases hd
  rw [if_neg k3] at hd
  by_cases k4 : o.k = 4
  · rw [if_pos k4] at hd
    split at hd
    · cases hd
      exact ⟨h.put (by rfl) (by exact may_reg hm (.inr (.inl k4))) (by exact h.kept), rfl⟩
    · cases hd
  rw [if_neg k4] at hd
  by_cases k5 : o.k = 5
  · rw [if_pos k5] at hd
    cases hd
    exact ⟨h.put (by rfl) (by exact h.now) (by exact h.kept), rfl⟩
  rw [if_neg k5] at hd
  by_cases k6 : o.k = 6
  · rw [if_pos k6] at hd
    cases hd
    exact ⟨h.put (by rfl) (by exact h.now) (by exact h.kept), rfl⟩
  rw [if_neg k6] at hd
  by_cases k7 : o.k = 7
  · rw [if_pos k7] at hd
    cases hd
    exact ⟨h.put (by rfl) (by exact h.now) (by exact h.kept), rfl⟩
  rw [if_neg k7] at hd
  by_cases k8 : o.k = 8
  · rw [if_pos k8] at hd
    cases hd
    exact ⟨h.put (by rfl) (by exact h.now) (by exact h.kept), rfl⟩
  rw [if_neg k8] at hd
  by_cases k9 : o.k = 9
  · rw [if_pos k9] at hd
    split at hd
    · cases hd
      refine ⟨h.put (by rfl) (by exact h.now) (fun q hq => ?_), rfl⟩
      rcases List.mem_append.1 hq with h1 | h1
      · exact h.kept q h1
      · simp at h1; subst h1; exact h.now
    · cases hd
  rw [if_neg k9] at hd
  by_cases k10 : o.k = 10
  · rw [if_pos k10] at hd
    unfold recM at hd
    cases hl : t.kept.getLast? with
    | none => rw [hl] at hd; cases hd
    | some q =>
      rw [hl] at hd
      cases hd
      exact ⟨h.put (by rfl) (by exact h.kept q (List.mem_of_getLast? hl)) (fun q hq => h.kept q (List.dropLast_subset _ hq)), rfl⟩
  rw [if_neg k10] at hd
  cases hd
  exact ⟨h, rfl⟩
theorem good_ops {b : Bool} : ∀ {l : List Oq} {t t' : Tb}, Good t → opsM b t l = some t' → Good t' ∧ t'.size = t.size
  | [], t, t', h, hd => by cases hd; exact ⟨h, rfl⟩
  | o :: l, t, t', h, hd => by
    simp only [opsM] at hd
    cases ho : oneM b t o with
    | none => rw [ho] at hd; cases hd
    | some t1 =>
      rw [ho] at hd
      obtain ⟨hm, _, hx⟩ := oneM_some ho
      obtain ⟨g1, e1⟩ := good_do h hm hx
      obtain ⟨g2, e2⟩ := good_ops g1 hd
      exact ⟨g2, e2.trans e1⟩
/-- Among the initial ops: no row is there, nothing is kept, the place is 0. -/
structure Init (t : Tb) : Prop where
  L : t.L = []
  kept : t.kept = []
  p : t.now.p = 0
  r : t.now.r ≤ 16
theorem init_do {t t' : Tb} {o : Oq} (h : Init t) (hm : mayB o = true) (hn : notB o = false) (hd : doM t o = some t') : Init t' ∧ t'.size = t.size := by
  unfold notB at hn
  simp only [Bool.or_eq_false_iff, beq_eq_false_iff_ne] at hn
  obtain ⟨n1, n9, n10, n6⟩ := hn
  unfold doM at hd
  rw [if_neg n1] at hd
  by_cases k2 : o.k = 2
  · rw [if_pos k2] at hd
    cases hd
    exact ⟨⟨h.L, h.kept, h.p, (may_reg hm (.inl k2)).2⟩, rfl⟩
  rw [if_neg k2] at hd
  by_cases k3 : o.k = 3
  · rw [if_pos k3] at hd
    split at hd
    · cases hd
      exact ⟨⟨h.L, h.kept, h.p, h.r⟩, rfl⟩
    · cases hd
  rw [if_neg k3] at hd
  by_cases k4 : o.k = 4
  · rw [if_pos k4] at hd
    split at hd
    · cases hd
      exact ⟨⟨h.L, h.kept, h.p, (may_reg hm (.inr (.inl k4))).2⟩, rfl⟩
    · cases hd
  rw [if_neg k4] at hd
  by_cases k5 : o.k = 5
  · rw [if_pos k5] at hd
    cases hd
    exact ⟨⟨h.L, h.kept, h.p, h.r⟩, rfl⟩
  rw [if_neg k5, if_neg n6] at hd
  by_cases k7 : o.k = 7
  · rw [if_pos k7] at hd
    cases hd
    exact ⟨⟨h.L, h.kept, h.p, h.r⟩, rfl⟩
  rw [if_neg k7] at hd
  by_cases k8 : o.k = 8
  · rw [if_pos k8] at hd
    cases hd
    exact ⟨⟨h.L, h.kept, h.p, h.r⟩, rfl⟩
  rw [if_neg k8, if_neg n9, if_neg n10] at hd
  cases hd
  exact ⟨h, rfl⟩
theorem init_ops : ∀ {l : List Oq} {t t' : Tb}, Init t → opsM true t l = some t' → Init t' ∧ t'.size = t.size
  | [], t, t', h, hd => by cases hd; exact ⟨h, rfl⟩
  | o :: l, t, t', h, hd => by
    simp only [opsM] at hd
    cases ho : oneM true t o with
    | none => rw [ho] at hd; cases hd
    | some t1 =>
      rw [ho] at hd
      obtain ⟨hm, hn, hx⟩ := oneM_some ho
      obtain ⟨g1, e1⟩ := init_do h hm (hn rfl) hx
      obtain ⟨g2, e2⟩ := init_ops g1 hd
      exact ⟨g2, e2.trans e1⟩
theorem begin_ok {i : List Oq} {size : Int} (hs : 0 ≤ size) {t : Tb} (h : begM (tbNew size) i = some t) : Good t ∧ t.size = size ∧ t.L = [] ∧ t.kept = [] ∧ t.now.p = 0 := by
  unfold begM at h
  cases ho : opsM true (tbNew size) i with
  | none => rw [ho] at h; cases h
  | some t1 =>
    rw [ho] at h
    simp only at h
    split at h
    · rename_i hr
      cases h
      obtain ⟨g, e⟩ := init_ops (t := tbNew size) ⟨rfl, rfl, rfl, by show (-1 : Int) ≤ 16; decide⟩ ho
      refine ⟨⟨⟨hr, g.r⟩, fun q hq => ?_, fun q hq => ?_, ?_, ?_, ?_⟩, e, g.L, g.kept, g.p⟩
      · have := g.kept; simp only at hq; rw [this] at hq; cases hq
      · have := g.L; simp only at hq; rw [this] at hq; cases hq
      · show (t1.L ++ [t1.now]).Pairwise _; rw [g.L]; simp
      · show ((t1.L ++ [t1.now]).head _).p = 0; simp only [g.L]; exact g.p
      · show t1.now.p ≤ t1.size; rw [g.p, e]; exact hs
    · cases h
theorem tab_ok {i l : List Oq} {size : Int} (hs : 0 ≤ size) {t : Tb} (h : tabM i l size = some t) : Good t ∧ t.size = size := by
  unfold tabM at h
  cases hb : begM (tbNew size) i with
  | none => rw [hb] at h; cases h
  | some t1 =>
    rw [hb] at h
    obtain ⟨g, e, _⟩ := begin_ok hs hb
    obtain ⟨g2, e2⟩ := good_ops g h
    exact ⟨g2, e2.trans e⟩

/-! What is kept (P1310). -/
/-- The frame's address and the rules, without the place. -/
def Alike (a b : Rw) : Prop := a.r = b.r ∧ a.n = b.n ∧ a.z = b.z
theorem kept_do {t t' : Tb} {o : Oq} (h9 : o.k ≠ 9) (h10 : o.k ≠ 10) (hd : doM t o = some t') : t'.kept = t.kept := by
  unfold doM at hd
  by_cases k1 : o.k = 1
  · rw [if_pos k1] at hd
    split at hd
    · cases hd
      unfold advM
      split <;> rfl
    · cases hd
  rw [if_neg k1] at hd
  repeat' (split at hd)
  all_goals first | (cases hd; rfl) | cases hd | (exfalso; first | (exact h9 (by assumption)) | (exact h10 (by assumption)))
theorem kept_ops : ∀ {l : List Oq} {t t' : Tb}, (∀ o ∈ l, o.k ≠ 9 ∧ o.k ≠ 10) → opsM false t l = some t' → t'.kept = t.kept
  | [], t, t', _, hd => by cases hd; rfl
  | o :: l, t, t', h, hd => by
    simp only [opsM] at hd
    cases ho : oneM false t o with
    | none => rw [ho] at hd; cases hd
    | some t1 =>
      rw [ho] at hd
      obtain ⟨_, _, hx⟩ := oneM_some ho
      have := kept_do (h o (by simp)).1 (h o (by simp)).2 hx
      rw [kept_ops (fun o' ho' => h o' (by simp [ho'])) hd, this]
theorem kept_back {i m : List Oq} {size : Int} {t : Tb} (hm : ∀ o ∈ m, o.k ≠ 9 ∧ o.k ≠ 10) (h : tabM i (⟨9, 0, 0⟩ :: (m ++ [⟨10, 0, 0⟩])) size = some t) (hs : 0 ≤ size) : ∃ t0, tabM i [] size = some t0 ∧ t0.L = [] ∧ Alike t0.now t.now := by
  unfold tabM at h ⊢
  cases hb : begM (tbNew size) i with
  | none => rw [hb] at h; cases h
  | some t0 =>
    rw [hb] at h
    obtain ⟨_, _, hL, hk, _⟩ := begin_ok hs hb
    refine ⟨t0, rfl, hL, ?_⟩
    have e9 : oneM false t0 ⟨9, 0, 0⟩ = some ⟨t0.L, t0.now, t0.first, [t0.now], t0.size⟩ := by
      unfold oneM
      rw [if_neg (by decide)]
      unfold doM
      simp [hk]
    simp only [opsM, e9] at h
    rw [opsM_append] at h
    cases hq : opsM false ⟨t0.L, t0.now, t0.first, [t0.now], t0.size⟩ m with
    | none => rw [hq] at h; cases h
    | some t1 =>
      rw [hq] at h
      have hk1 : t1.kept = [t0.now] := kept_ops hm hq
      have e10 : oneM false t1 ⟨10, 0, 0⟩ = some ⟨t1.L, ⟨t1.now.p, t0.now.r, t0.now.n, t0.now.z⟩, t1.first, [], t1.size⟩ := by
        unfold oneM
        rw [if_neg (by decide)]
        unfold doM recM
        simp [hk1]
      simp only [opsM, e10] at h
      cases h
      exact ⟨rfl, rfl, rfl⟩

/-! As if told anew (P1311). -/
/-- Rows that go on: those of the first table but its last one, and then one that begins where the last one did. -/
def On (A : List Rw) (p : Int) (t : Tb) : Prop := ∃ x R, t.L ++ [t.now] = A ++ x :: R ∧ x.p = p
theorem on_do {A : List Rw} {p : Int} {t t' : Tb} {o : Oq} (h : On A p t) (hd : doM t o = some t') : On A p t' := by
  have put : ∀ {x : Rw} {k : List Rw} {f : Rw} {s : Int}, x.p = t.now.p → On A p ⟨t.L, x, f, k, s⟩ := fun {x k f s} e => by
    obtain ⟨y, R, h1, h2⟩ := h
    rcases List.eq_nil_or_concat R with rfl | ⟨R', z, rfl⟩
    · obtain ⟨h3, h4⟩ := List.append_inj' h1 rfl
      simp only [List.cons.injEq, and_true] at h4
      exact ⟨x, [], by show t.L ++ [x] = A ++ [x]; rw [h3], by rw [e, h4, h2]⟩
    · have h1' : t.L ++ [t.now] = (A ++ y :: R') ++ [z] := by rw [h1]; simp
      obtain ⟨h3, _⟩ := List.append_inj' h1' rfl
      exact ⟨y, R' ++ [x], by show t.L ++ [x] = A ++ y :: (R' ++ [x]); rw [h3]; simp, h2⟩
  unfold doM at hd
  by_cases k1 : o.k = 1
  · rw [if_pos k1] at hd
    split at hd
    · cases hd
      unfold advM
      split
      · obtain ⟨y, R, h1, h2⟩ := h
        exact ⟨y, R ++ [⟨t.now.p + o.n, t.now.r, t.now.n, t.now.z⟩], by show (t.L ++ [t.now]) ++ [_] = _; rw [h1]; simp, h2⟩
      · exact h
    · cases hd
  rw [if_neg k1] at hd
  unfold recM at hd
  repeat' (split at hd)
  all_goals first | (cases hd; exact put rfl) | cases hd | (cases hd; exact h)
theorem on_ops {A : List Rw} {p : Int} : ∀ {l : List Oq} {t t' : Tb}, On A p t → opsM false t l = some t' → On A p t'
  | [], t, t', h, hd => by cases hd; exact h
  | o :: l, t, t', h, hd => by
    simp only [opsM] at hd
    cases ho : oneM false t o with
    | none => rw [ho] at hd; cases hd
    | some t1 =>
      rw [ho] at hd
      obtain ⟨_, _, hx⟩ := oneM_some ho
      exact on_ops (on_do h hx) hd
theorem tab_on {i l m : List Oq} {size : Int} {t : Tb} (h : tabM i (l ++ m) size = some t) : ∃ t0, tabM i l size = some t0 ∧ On t0.L t0.now.p t := by
  unfold tabM at h ⊢
  cases hb : begM (tbNew size) i with
  | none => rw [hb] at h; cases h
  | some t1 =>
    rw [hb] at h
    simp only at h ⊢
    rw [opsM_append] at h
    cases hq : opsM false t1 l with
    | none => rw [hq] at h; cases h
    | some t0 =>
      rw [hq] at h
      exact ⟨t0, rfl, on_ops ⟨t0.now, [], rfl, rfl⟩ h⟩

/-! Find (P1303, P1309). -/
def findM (l : List Rw) (x : Int) : Option Rw := if x < 0 then none else (l.takeWhile (fun q => decide (q.p ≤ x))).getLast?
theorem find_none {l : List Rw} {x : Int} (hx : 0 ≤ x) (h0 : ∀ q ∈ l.head?, q.p = 0) (h : findM l x = none) : l = [] := by
  unfold findM at h
  rw [if_neg (by omega)] at h
  cases l with
  | nil => rfl
  | cons a l =>
    have : a.p = 0 := h0 a (by simp)
    rw [List.takeWhile_cons_of_pos (by simp; omega)] at h
    simp at h
theorem find_last {l : List Rw} {x : Int} {r : Rw} (hu : l.Pairwise (fun a b => a.p < b.p)) (h : findM l x = some r) : 0 ≤ x ∧ r.p ≤ x ∧ ∀ q ∈ l, q.p ≤ x → q.p ≤ r.p := by
  unfold findM at h
  split at h
  · cases h
  · rename_i hx
    have hm := List.mem_of_getLast? h
    have hr : r.p ≤ x := by
      have := List.all_eq_true.1 (List.all_takeWhile (p := fun q : Rw => decide (q.p ≤ x)) (l := l)) r hm
      simpa using this
    refine ⟨by omega, hr, fun q hq hqx => ?_⟩
    induction l with
    | nil => cases hq
    | cons a l ih =>
      obtain ⟨h1, h2⟩ := List.pairwise_cons.1 hu
      by_cases ha : a.p ≤ x
      · rw [List.takeWhile_cons_of_pos (by simpa using ha)] at h hm
        cases hl : l.takeWhile (fun q => decide (q.p ≤ x)) with
        | nil =>
          rw [hl] at h
          simp at h
          subst h
          rcases List.mem_cons.1 hq with rfl | hq'
          · omega
          · cases l with
            | nil => cases hq'
            | cons b l' =>
              have hb : ¬ b.p ≤ x := fun c => by rw [List.takeWhile_cons_of_pos (by simpa using c)] at hl; cases hl
              rcases List.mem_cons.1 hq' with rfl | hq''
              · omega
              · have := (List.pairwise_cons.1 h2).1 q hq''; omega
        | cons b l' =>
          have h' : (l.takeWhile (fun q => decide (q.p ≤ x))).getLast? = some r := by
            rw [hl] at h ⊢
            simpa using h
          rcases List.mem_cons.1 hq with rfl | hq'
          · have hrm := List.takeWhile_subset _ (List.mem_of_getLast? h')
            have := h1 r hrm
            omega
          · exact ih h2 h' (List.mem_of_getLast? h') hq'
      · rw [List.takeWhile_cons_of_neg (by simpa using ha)] at h
        cases h
end Go.Proofs.YtpbnldfekadalaaDoor
