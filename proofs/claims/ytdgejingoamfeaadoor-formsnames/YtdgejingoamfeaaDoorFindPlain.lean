/- What formsLike stores, round by round. -/
import Derived.Test.YtdgejingoamfeaaDoorName2
import Derived.Test.YtdgejingoamfeaaDoorMapInv
namespace Go.Proofs.YtdgejingoamfeaaDoor
open Go.ChangeShapes Go.WideShapes Go.ChangeAt Go.RowKit Go.Maps
set_option linter.unusedVariables false
set_option linter.unusedSimpArgs false

/-- Has the op that size and condition? -/
def hbK (o : Nat) (s c : Int) : Bool := if 1 ≤ o ∧ o ≤ 35 then hasB (rowL o) s c else false
def stemK (o : Nat) : ByteArray := if 1 ≤ o ∧ o ≤ 35 then (rowL o).stem else ⟨#[]⟩
def preB (name st : ByteArray) : Bool := decide (st.size ≤ name.size) && ((name.extract 0 st.size).toList == st.toList)
def formE (o : Nat) (s c : Int) : Value := .agg #[.int .i64 o, .int .i64 s, .int .i64 c]
def szV (a : Nat) : Int := if a = 0 then 0 else if a = 1 then 1 else if a = 2 then 4 else 8

/-- What was stored of those forms that P says. -/
def St (name : ByteArray) (P : Nat → Int → Int → Prop) (t : ByteArray) (v : Value) : Prop :=
  ∃ o s c, P o s c ∧ hbK o s c = true ∧ preB name (stemK o) = true ∧ t = nameV o s c ∧ v = formE o s c
def P1 (k : Nat) (o : Nat) (s c : Int) : Prop := o < k
def P2 (k a : Nat) (o : Nat) (s c : Int) : Prop := o < k ∨ (o = k ∧ ∃ i, i < a ∧ s = szV i)
def P3 (k a : Nat) (c0 : Int) (o : Nat) (s c : Int) : Prop := P2 k a o s c ∨ (o = k ∧ s = szV a ∧ c < c0)

theorem hbK_parts {o : Nat} {s c : Int} (h : hbK o s c = true) : (1 ≤ o ∧ o ≤ 35) ∧ (0 ≤ c ∧ c < 16) ∧ (s = 0 ∨ s = 1 ∨ s = 4 ∨ s = 8) := by
  unfold hbK at h
  split at h
  · rename_i ho
    obtain ⟨hc, h0, h1⟩ := has_parts h
    refine ⟨ho, hc, ?_⟩
    by_cases e : s = 0
    · exact .inl e
    · have := h1 e
      unfold placeV at this
      split at this
      · omega
      · split at this
        · omega
        · split at this <;> omega
  · cases h

theorem hbK_down {o : Nat} {s c c' : Int} (h : hbK o s c = true) (h0 : 0 ≤ c') (h1 : c' ≤ c) : hbK o s c' = true := by
  unfold hbK at h ⊢
  split at h
  · rename_i ho
    rw [if_pos ho]
    unfold hasB condOk at h ⊢
    simp only [Bool.and_eq_true, Bool.or_eq_true, decide_eq_true_eq, Bool.not_eq_true'] at h ⊢
    obtain ⟨a, ⟨b, c2, d⟩, e⟩ := h
    refine ⟨a, ⟨h0, by omega, ?_⟩, e⟩
    rcases d with d | d
    · left; omega
    · right; exact d
  · cases h

theorem St_congr {name : ByteArray} {P Q : Nat → Int → Int → Prop} (h : ∀ o s c, hbK o s c = true → preB name (stemK o) = true → (P o s c ↔ Q o s c)) (t : ByteArray) (u : Value) : St name P t u ↔ St name Q t u := by
  constructor
  · rintro ⟨o, s, c, hp, hh, hr, h1, h2⟩; exact ⟨o, s, c, (h o s c hh hr).1 hp, hh, hr, h1, h2⟩
  · rintro ⟨o, s, c, hp, hh, hr, h1, h2⟩; exact ⟨o, s, c, (h o s c hh hr).2 hp, hh, hr, h1, h2⟩

theorem St_inner {name : ByteArray} {k a : Nat} {c0 : Int} (hh : hbK k (szV a) c0 = true) (hp : preB name (stemK k) = true) (t : ByteArray) (u : Value) :
    St name (P3 k a (c0 + 1)) t u ↔ St name (P3 k a c0) t u ∨ (t = nameV k (szV a) c0 ∧ u = formE k (szV a) c0) := by
  constructor
  · rintro ⟨o, s, c, h, hh, hr, h1, h2⟩
    rcases h with h | ⟨rfl, rfl, h⟩
    · exact .inl ⟨o, s, c, .inl h, hh, hr, h1, h2⟩
    · by_cases e : c = c0
      · subst e; exact .inr ⟨h1, h2⟩
      · exact .inl ⟨o, _, c, .inr ⟨rfl, rfl, by omega⟩, hh, hr, h1, h2⟩
  · rintro (⟨o, s, c, h, hh, hr, h1, h2⟩ | ⟨h1, h2⟩)
    · refine ⟨o, s, c, ?_, hh, hr, h1, h2⟩
      rcases h with h | ⟨x, y, h⟩
      · exact .inl h
      · exact .inr ⟨x, y, by omega⟩
    · exact ⟨k, szV a, c0, .inr ⟨rfl, rfl, by omega⟩, hh, hp, h1, h2⟩

theorem St_close {name : ByteArray} {k a : Nat} {c0 : Int} (hh : hbK k (szV a) c0 = false) (h0 : 0 ≤ c0) (t : ByteArray) (u : Value) : St name (P3 k a c0) t u ↔ St name (P2 k (a + 1)) t u := by
  refine St_congr (fun o s c hv _ => ?_) t u
  constructor
  · rintro ((h | ⟨h, i, hi, hs⟩) | ⟨x, y, h⟩)
    · exact .inl h
    · exact .inr ⟨h, i, by omega, hs⟩
    · exact .inr ⟨x, a, by omega, y⟩
  · rintro (h | ⟨h, i, hi, hs⟩)
    · exact .inl (.inl h)
    · by_cases e : i = a
      · subst e h hs
        refine .inr ⟨rfl, rfl, ?_⟩
        by_cases hc : c < c0
        · exact hc
        · rw [hbK_down hv h0 (by omega)] at hh; cases hh
      · exact .inl (.inr ⟨h, i, by omega, hs⟩)

theorem St_open {name : ByteArray} {k a : Nat} (t : ByteArray) (u : Value) : St name (P2 k a) t u ↔ St name (P3 k a 0) t u := by
  refine St_congr (fun o s c hv _ => ?_) t u
  have := (hbK_parts hv).2.1
  constructor
  · exact .inl
  · rintro (h | ⟨_, _, h⟩)
    · exact h
    · omega

theorem St_mid {name : ByteArray} {k : Nat} (t : ByteArray) (u : Value) : St name (P1 k) t u ↔ St name (P2 k 0) t u := by
  refine St_congr (fun o s c hv _ => ?_) t u
  constructor
  · exact .inl
  · rintro (h | ⟨_, i, hi, _⟩)
    · exact h
    · omega

theorem St_end {name : ByteArray} {k : Nat} (t : ByteArray) (u : Value) : St name (P2 k 4) t u ↔ St name (P1 (k + 1)) t u := by
  refine St_congr (fun o s c hv _ => ?_) t u
  have hs := (hbK_parts hv).2.2
  constructor
  · rintro (h | ⟨h, _⟩)
    · show o < k + 1; omega
    · show o < k + 1; omega
  · intro h
    have h : o < k + 1 := h
    by_cases e : o = k
    · refine .inr ⟨e, ?_⟩
      rcases hs with rfl | rfl | rfl | rfl
      · exact ⟨0, by omega, rfl⟩
      · exact ⟨1, by omega, rfl⟩
      · exact ⟨2, by omega, rfl⟩
      · exact ⟨3, by omega, rfl⟩
    · exact .inl (by omega)

theorem St_skip {name : ByteArray} {k : Nat} (hp : preB name (stemK k) = false) (t : ByteArray) (u : Value) : St name (P1 k) t u ↔ St name (P1 (k + 1)) t u := by
  refine St_congr (fun o s c hv hr => ?_) t u
  constructor
  · intro h
    have h : o < k := h
    show o < k + 1; omega
  · intro h
    have h : o < k + 1 := h
    by_cases e : o = k
    · subst e; rw [hp] at hr; cases hr
    · show o < k; omega

theorem owns_bel {v u : World} {b n : Nat} {D : DataW Value} (h : v.ownsMap Tryd.prog 9 RV b n D) (hb : Below v.heap.size v u) : u.ownsMap Tryd.prog 9 RV b n D := by
  have hlt := h.lt
  obtain ⟨es, clock, h1, h2⟩ := h
  exact ⟨es, clock, (hb.block b hlt).trans h1, h2⟩
end Go.Proofs.YtdgejingoamfeaaDoor
