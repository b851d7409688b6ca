/- Directives, plainly: what op an event is, and what Compile answers. -/
import Derived.Test.YtpbnldfekadalaaDoorCBuiltX
namespace Go.Proofs.YtpbnldfekadalaaDoor
open Go.ChangeShapes Go.WideShapes Go.ChangeAt Go.RowKit
set_option linter.unusedVariables false
set_option linter.unusedSimpArgs false

/-- An event: its place, its name, its numbers. -/
structure Ev where
  p : Int
  s : ByteArray
  a : List Int
def Ev.zero : Ev := ⟨0, ⟨#[]⟩, []⟩
/-- The names that there are. -/
abbrev nm0 : List UInt8 := [100, 101, 102, 95, 99, 102, 97]
abbrev nm1 : List UInt8 := [100, 101, 102, 95, 99, 102, 97, 95, 111, 102, 102, 115, 101, 116]
abbrev nm2 : List UInt8 := [100, 101, 102, 95, 99, 102, 97, 95, 114, 101, 103, 105, 115, 116, 101, 114]
abbrev nm3 : List UInt8 := [111, 102, 102, 115, 101, 116]
abbrev nm4 : List UInt8 := [114, 101, 108, 95, 111, 102, 102, 115, 101, 116]
abbrev nm5 : List UInt8 := [97, 100, 106, 117, 115, 116, 95, 99, 102, 97, 95, 111, 102, 102, 115, 101, 116]
abbrev nm6 : List UInt8 := [114, 101, 115, 116, 111, 114, 101]
abbrev nm7 : List UInt8 := [117, 110, 100, 101, 102, 105, 110, 101, 100]
abbrev nm8 : List UInt8 := [115, 97, 109, 101, 95, 118, 97, 108, 117, 101]
abbrev nm9 : List UInt8 := [114, 101, 109, 101, 109, 98, 101, 114, 95, 115, 116, 97, 116, 101]
abbrev nm10 : List UInt8 := [114, 101, 115, 116, 111, 114, 101, 95, 115, 116, 97, 116, 101]
def two (k : Int) (a : List Int) : Option Oq := if a.length = 2 then some ⟨k, a.getD 0 0, a.getD 1 0⟩ else none
def one (k : Int) (a : List Int) : Option Oq := if a.length = 1 then some ⟨k, 0, a.getD 0 0⟩ else none
/-- An op's N, that much more. -/
def Oq.far (o : Oq) (n : Int) : Oq := ⟨o.k, o.r, wrap64 (o.n + n)⟩
def reg (k : Int) (a : List Int) : Option Oq := if a.length = 1 then some ⟨k, a.getD 0 0, 0⟩ else none
def non (k : Int) (a : List Int) : Option Oq := if a.length = 0 then some ⟨k, 0, 0⟩ else none
/-- An event's op, where the frame's N is n. -/
def opE (s : List UInt8) (a : List Int) (n : Int) : Option Oq :=
  if s == nm0 then two 2 a else if s == nm1 then one 3 a else if s == nm2 then reg 4 a
  else if s == nm3 then two 5 a else if s == nm4 then (two 5 a).map (·.far (-n)) else if s == nm5 then (one 3 a).map (·.far n)
  else if s == nm6 then reg 6 a else if s == nm7 then reg 7 a else if s == nm8 then reg 8 a
  else if s == nm9 then non 9 a else if s == nm10 then non 10 a else none
/-- What was done so far: the table, the last place, the ops. -/
structure Es where
  t : Tb
  p : Int
  L : List Oq
def oqA (n : Int) : Oq := ⟨1, 0, n⟩
/-- Up to an event's place. -/
def goM (s : Es) (p : Int) : Option Es :=
  if p < s.p then none else if s.p < p then (match oneM false s.t (oqA (p - s.p)) with | none => none | some t' => some ⟨t', p, s.L ++ [oqA (p - s.p)]⟩) else some s
def evM (s : Es) (v : Ev) : Option Es := match opE v.s.toList v.a s.t.now.n with
  | none => none
  | some o => match goM s v.p with
    | none => none
    | some s1 => match oneM false s1.t o with
      | none => none
      | some t2 => some ⟨t2, v.p, s1.L ++ [o]⟩
def evsM : Es → List Ev → Option Es
  | s, [] => some s
  | s, v :: l => match evM s v with
    | none => none
    | some s' => evsM s' l
/-- The table behind Usual. -/
def tbU (size : Int) : Tb := ⟨[], ⟨0, 7, 8, zero17.set 16 (2, -8)⟩, ⟨0, 7, 8, zero17.set 16 (2, -8)⟩, [], size⟩
theorem usual_ops (size : Int) : opsM true (tbNew size) kI = some ⟨[], ⟨0, 7, 8, zero17.set 16 (2, -8)⟩, Rw.zero, [], size⟩ := rfl
theorem usual_beg (size : Int) : begM (tbNew size) kI = some (tbU size) := rfl
def esU (size : Int) : Es := ⟨tbU size, 0, []⟩
/-- What Compile answers: its error, its ops. -/
def comR (l : List Ev) (size : Int) : Int × List Oq :=
  if size < 0 ∨ 1048576 < size then (11, []) else if 4000 < l.length then (6, [])
  else match evsM (esU size) l with
    | none => (130, [])
    | some s => if 4000 < s.L.length then (6, []) else (0, s.L)

theorem evsM_snoc (s : Es) (l : List Ev) (v : Ev) : evsM s (l ++ [v]) = (match evsM s l with | none => none | some s' => evM s' v) := by
  induction l generalizing s with
  | nil =>
    simp only [List.nil_append, evsM]
    cases evM s v <;> rfl
  | cons x l ih =>
    simp only [List.cons_append, evsM]
    cases evM s x with
    | none => rfl
    | some s' => exact ih s'
theorem evsM_take {s s' : Es} {l : List Ev} {k : Nat} (hk : k < l.length) (h : evsM s (l.take k) = some s') : evsM s (l.take (k + 1)) = evM s' (l.getD k Ev.zero) := by
  have e : l.take (k + 1) = l.take k ++ [l.getD k Ev.zero] := by
    rw [List.take_add_one]
    simp [hk]
  rw [e, evsM_snoc, h]
theorem evsM_none {s : Es} {l : List Ev} {k : Nat} (h : evsM s (l.take k) = none) : evsM s l = none := by
  have e : l = l.take k ++ l.drop k := (List.take_append_drop k l).symm
  have app : ∀ (a b : List Ev) (s : Es), evsM s a = none → evsM s (a ++ b) = none := by
    intro a
    induction a with
    | nil => intro b s h; cases h
    | cons x a ih =>
      intro b s h
      simp only [List.cons_append, evsM] at h ⊢
      cases hx : evM s x with
      | none => rfl
      | some s1 => rw [hx] at h; exact ih b s1 h
  rw [e]
  exact app _ _ _ h
/-- What holds of the work while events are done. -/
structure Ei (m : Nat) (s : Es) : Prop where
  pl : Pl (2 * m) true s.t
  at_ : s.t.now.p = s.p
  L : s.L.length ≤ 2 * m
theorem oneM_pl {m : Nat} {t t' : Tb} {o : Oq} (h : Pl m true t) (hd : oneM false t o = some t') : Pl (m + 1) true t' :=
  pl_do h (oneM_some hd).1 (by rw [← oneM_d (oneM_some hd).1]; exact hd)
theorem doM_p {t t' : Tb} {o : Oq} (hk : o.k ≠ 1) (hd : doM t o = some t') : t'.now.p = t.now.p ∧ t'.size = t.size := by
  unfold doM at hd
  rw [if_neg hk] at hd
  repeat' (first
    | (split at hd)
    | (simp only [Option.some.injEq] at hd; subst hd; exact ⟨rfl, rfl⟩)
    | (cases hd; done))
  unfold recM at hd
  split at hd
  · cases hd
  · simp only [Option.some.injEq] at hd; subst hd; exact ⟨rfl, rfl⟩
/-- What an op is not. -/
def NoA (x : Option Oq) : Prop := ∀ o, x = some o → o.k ≠ 1
theorem NoA.ite {b : Bool} {x y : Option Oq} (hx : NoA x) (hy : NoA y) : NoA (if b = true then x else y) := by
  cases b
  · exact hy
  · exact hx
theorem NoA.of {p : Prop} [Decidable p] {k r n : Int} (hk : k ≠ 1) : NoA (if p then some ⟨k, r, n⟩ else none) := fun o h => by
  by_cases hp : p
  · rw [if_pos hp] at h; simp only [Option.some.injEq] at h; subst h; exact hk
  · rw [if_neg hp] at h; cases h
theorem NoA.far {x : Option Oq} {n : Int} (hx : NoA x) : NoA (x.map (·.far n)) := fun o h => by
  cases x with
  | none => cases h
  | some q => simp only [Option.map_some, Option.some.injEq] at h; subst h; exact hx q rfl
theorem opE_k {s : List UInt8} {a : List Int} {n : Int} {o : Oq} (h : opE s a n = some o) : o.k ≠ 1 := by
  have : NoA (opE s a n) := .ite (.of (by decide)) (.ite (.of (by decide)) (.ite (.of (by decide)) (.ite (.of (by decide)) (.ite (.far (.of (by decide))) (.ite (.far (.of (by decide))) (.ite (.of (by decide)) (.ite (.of (by decide)) (.ite (.of (by decide)) (.ite (.of (by decide)) (.ite (.of (by decide)) (fun o h => by cases h)))))))))))
  exact this o h
theorem adv_may {n : Int} (h0 : 0 ≤ n) (h1 : n < 2147483648) : mayB (oqA n) = true := by simp [oqA, mayB, farB, h0, h1]
theorem adv_one {t : Tb} {n : Int} (h0 : 0 < n) (h1 : n < 2147483648) : oneM false t (oqA n) = if t.now.p + n ≤ t.size then some ⟨t.L ++ [t.now], ⟨t.now.p + n, t.now.r, t.now.n, t.now.z⟩, t.first, t.kept, t.size⟩ else none := by
  unfold oneM
  rw [adv_may (by omega) h1]
  simp [doM, oqA, advM, h0]
theorem adv_far {t : Tb} {n : Int} (h1 : 2147483648 ≤ n) : oneM false t (oqA n) = none := by
  unfold oneM
  have e : decide (n < 2147483648) = false := by simpa using h1
  have : mayB (oqA n) = false := by
    unfold mayB farB oqA
    rw [e]
    simp
  rw [this]
  simp
/-- A place is within the size just if one may go there. -/
theorem go_far {m : Nat} {s : Es} {p : Int} (h : Ei m s) (hp : s.t.size < p) : goM s p = none := by
  have h1 := h.pl.p1
  have h2 := h.at_
  have h3 := h.pl.s
  unfold goM
  rw [if_neg (by omega), if_pos (by omega)]
  by_cases hn : 2147483648 ≤ p - s.p
  · rw [adv_far hn]
  · rw [adv_one (by omega) (by omega), if_neg (by omega)]
theorem go_some {m : Nat} {s : Es} {p : Int} (h : Ei m s) (h1 : s.p < p) (h2 : p ≤ s.t.size) : ∃ t', oneM false s.t (oqA (p - s.p)) = some t' ∧ goM s p = some ⟨t', p, s.L ++ [oqA (p - s.p)]⟩ ∧ t'.now.n = s.t.now.n ∧ t'.now.p = p ∧ t'.size = s.t.size := by
  have h3 := h.pl.p0
  have h4 := h.at_
  have h5 := h.pl.s
  have e := adv_one (t := s.t) (n := p - s.p) (by omega) (by omega)
  rw [if_pos (by omega)] at e
  refine ⟨_, e, ?_, rfl, by show s.t.now.p + (p - s.p) = p; omega, rfl⟩
  unfold goM
  rw [if_neg (by omega), if_pos h1, e]
theorem ev_ei {m : Nat} {s s' : Es} {v : Ev} (h : Ei m s) (hd : evM s v = some s') : Ei (m + 1) s' ∧ s'.t.size = s.t.size := by
  unfold evM at hd
  cases ho : opE v.s.toList v.a s.t.now.n with
  | none => rw [ho] at hd; cases hd
  | some o =>
    rw [ho] at hd
    dsimp only at hd
    cases hg : goM s v.p with
    | none => rw [hg] at hd; cases hd
    | some s1 =>
      rw [hg] at hd
      dsimp only at hd
      cases h2 : oneM false s1.t o with
      | none => rw [h2] at hd; cases hd
      | some t2 =>
        rw [h2] at hd
        simp only [Option.some.injEq] at hd
        subst hd
        have hk := opE_k ho
        obtain ⟨q1, q2⟩ := doM_p hk (oneM_some h2).2.2
        by_cases hlt : s.p < v.p
        · by_cases hsz : v.p ≤ s.t.size
          · obtain ⟨t', e1, e2, e3, e4, e5⟩ := go_some h hlt hsz
            rw [hg] at e2
            simp only [Option.some.injEq] at e2
            subst e2
            have p1 := oneM_pl (oneM_pl h.pl e1) h2
            refine ⟨⟨?_, by show t2.now.p = v.p; rw [q1]; exact e4, ?_⟩, by show t2.size = s.t.size; rw [q2]; exact e5⟩
            · exact p1
            · have := h.L; simp; omega
          · rw [go_far h (by omega)] at hg; cases hg
        · have e : v.p = s.p := by
            unfold goM at hg
            by_cases hb : v.p < s.p
            · rw [if_pos hb] at hg; cases hg
            · omega
          have e2 : s1 = s := by
            unfold goM at hg
            rw [if_neg (by omega), if_neg (by omega)] at hg
            simpa using hg.symm
          subst e2
          have p1 := oneM_pl h.pl h2
          refine ⟨⟨?_, by show t2.now.p = v.p; rw [q1, e]; exact h.at_, ?_⟩, q2⟩
          · exact ⟨p1.p0, p1.p1, p1.s, Nat.le_trans p1.L (by omega), p1.K, p1.k0, p1.r, p1.kr⟩
          · have := h.L; simp; omega
theorem ei_new {size : Int} (h0 : 0 ≤ size) (h1 : size ≤ 1048576) : Ei 0 (esU size) :=
  ⟨⟨Int.le_refl 0, h0, h1, Nat.le_refl 0, Nat.zero_le _, fun _ => rfl, .inr (by show (0 : Int) ≤ 7; omega), fun q hq => by cases hq⟩, rfl, Nat.le_refl 0⟩
/-- A name is one of them, or none. -/
theorem nm_some (s : List UInt8) : s = nm0 ∨ s = nm1 ∨ s = nm2 ∨ s = nm3 ∨ s = nm4 ∨ s = nm5 ∨ s = nm6 ∨ s = nm7 ∨ s = nm8 ∨ s = nm9 ∨ s = nm10 ∨ ((s == nm0) = false ∧ (s == nm1) = false ∧ (s == nm2) = false ∧ (s == nm3) = false ∧ (s == nm4) = false ∧ (s == nm5) = false ∧ (s == nm6) = false ∧ (s == nm7) = false ∧ (s == nm8) = false ∧ (s == nm9) = false ∧ (s == nm10) = false) := by
  simp only [beq_eq_false_iff_ne, ne_eq]
  by_cases h0 : s = nm0
  · exact .inl h0
  by_cases h1 : s = nm1
  · exact .inr (.inl h1)
  by_cases h2 : s = nm2
  · exact .inr (.inr (.inl h2))
  by_cases h3 : s = nm3
  · exact .inr (.inr (.inr (.inl h3)))
  by_cases h4 : s = nm4
  · exact .inr (.inr (.inr (.inr (.inl h4))))
  by_cases h5 : s = nm5
  · exact .inr (.inr (.inr (.inr (.inr (.inl h5)))))
  by_cases h6 : s = nm6
  · exact .inr (.inr (.inr (.inr (.inr (.inr (.inl h6))))))
  by_cases h7 : s = nm7
  · exact .inr (.inr (.inr (.inr (.inr (.inr (.inr (.inl h7)))))))
  by_cases h8 : s = nm8
  · exact .inr (.inr (.inr (.inr (.inr (.inr (.inr (.inr (.inl h8))))))))
  by_cases h9 : s = nm9
  · exact .inr (.inr (.inr (.inr (.inr (.inr (.inr (.inr (.inr (.inl h9)))))))))
  by_cases h10 : s = nm10
  · exact .inr (.inr (.inr (.inr (.inr (.inr (.inr (.inr (.inr (.inr (.inl h10))))))))))
  exact .inr (.inr (.inr (.inr (.inr (.inr (.inr (.inr (.inr (.inr (.inr ⟨h0, h1, h2, h3, h4, h5, h6, h7, h8, h9, h10⟩))))))))))
theorem opE_none {s : List UInt8} (h : (s == nm0) = false ∧ (s == nm1) = false ∧ (s == nm2) = false ∧ (s == nm3) = false ∧ (s == nm4) = false ∧ (s == nm5) = false ∧ (s == nm6) = false ∧ (s == nm7) = false ∧ (s == nm8) = false ∧ (s == nm9) = false ∧ (s == nm10) = false) (a : List Int) (n : Int) : opE s a n = none := by
  obtain ⟨h0, h1, h2, h3, h4, h5, h6, h7, h8, h9, h10⟩ := h
  unfold opE
  rw [h0, h1, h2, h3, h4, h5, h6, h7, h8, h9, h10]
  rfl
end Go.Proofs.YtpbnldfekadalaaDoor
