/- What is known of a name, said of all symbols that count. -/
import Derived.Test.YtgoaegembijdcaaRPlain
namespace Go.Proofs.Ytgoaegembijdcaa
open Go.ChangeShapes Go.WideShapes Go.ChangeAt Go.RowKit Go.Maps
set_option linter.unusedVariables false
set_option linter.unusedSimpArgs false

def isDef (x : Oc) : Bool := !empB x.s.sc
def isStr (x : Oc) : Bool := isDef x && x.s.b == 1
def isWan (x : Oc) : Bool := !isDef x && x.s.b == 1
def isTl (x : Oc) : Bool := x.s.t == 6
def isOt (x : Oc) : Bool := !(x.s.t == 6) && !(x.s.t == 0)
def enOf (x : Oc) : En := ⟨x.s.nm, x.o, x.k, x.s.b, x.s.t⟩
def fold (xs : List Oc) : Us := xs.foldl (fun u x => withU u x.s x.o x.k) Us.zero
theorem fold_snoc (xs : List Oc) (x : Oc) : fold (xs ++ [x]) = withU (fold xs) x.s x.o x.k := by unfold fold; rw [List.foldl_append]; rfl
structure Spec (xs : List Oc) (u : Us) : Prop where
  st : u.st = (xs.countP isStr : Nat)
  d : u.d = xs.any isDef
  wa : u.wa = xs.any isWan
  tl : u.tl = xs.any isTl
  ot : u.ot = xs.any isOt
  m : u.d = true → ∃ x ∈ xs, isDef x = true ∧ u.m = enOf x ∧ (0 < xs.countP isStr → isStr x = true)
theorem list_snoc {α : Type} {P : List α → Prop} (h0 : P []) (h1 : ∀ l x, P l → P (l ++ [x])) (l : List α) : P l := by
  have h : ∀ r : List α, P r.reverse := by
    intro r
    induction r with
    | nil => exact h0
    | cons x r ih => rw [List.reverse_cons]; exact h1 _ _ ih
  have := h l.reverse
  rwa [List.reverse_reverse] at this
theorem spec_fold : ∀ xs : List Oc, xs.length ≤ 2097152 → Spec xs (fold xs) := by
  intro xs
  induction xs using list_snoc with
  | h0 => exact fun _ => ⟨rfl, rfl, rfl, rfl, rfl, fun h => by cases h⟩
  | h1 l x ih =>
    intro hl
    rw [List.length_append, List.length_singleton] at hl
    have I := ih (by omega)
    rw [fold_snoc]
    generalize fold l = u at I
    have hc : l.countP isStr ≤ 2097152 := Nat.le_trans List.countP_le_length (by omega)
    have hst := I.st
    obtain ⟨o, k, s⟩ := x
    by_cases he : empB s.sc = true
    · have hd : isDef ⟨o, k, s⟩ = false := by unfold isDef; rw [he]; rfl
      have hs : isStr ⟨o, k, s⟩ = false := by unfold isStr; rw [hd]; rfl
      unfold withU
      rw [if_pos he]
      refine ⟨?_, ?_, ?_, ?_, ?_, fun h => ?_⟩
      · simp [List.countP_append, hs, I.st]
      · simp [hd, I.d]
      · simp [isWan, hd, I.wa]
      · simp [isTl, I.tl]
      · simp [isOt, I.ot]
      · obtain ⟨y, h1, h2, h3, h4⟩ := I.m h
        exact ⟨y, List.mem_append_left _ h1, h2, h3, by simpa [List.countP_append, hs] using h4⟩
    · have he' : empB s.sc = false := by simpa using he
      have hd : isDef ⟨o, k, s⟩ = true := by unfold isDef; rw [he']; rfl
      unfold withU
      rw [if_neg he]
      have hw : isWan ⟨o, k, s⟩ = false := by unfold isWan; rw [hd]; rfl
      by_cases hb : s.b = 1
      · have hs : isStr ⟨o, k, s⟩ = true := by unfold isStr; rw [hd]; simp [hb]
        refine ⟨?_, ?_, ?_, ?_, ?_, fun h => ?_⟩
        · simp only [defU, hb, beq_self_eq_true, if_true, List.countP_append, List.countP_singleton, hs, hst]
          unfold wrap64
          omega
        · simp [defU, hd]
        · simp [defU, hw, I.wa]
        · simp [defU, isTl, I.tl]
        · simp [defU, isOt, I.ot]
        · exact ⟨⟨o, k, s⟩, by simp, hd, by simp [defU, hb, enOf], fun _ => hs⟩
      · have hb' : (s.b == 1) = false := by simpa using hb
        have hs : isStr ⟨o, k, s⟩ = false := by unfold isStr; rw [hd]; simpa using hb
        refine ⟨?_, ?_, ?_, ?_, ?_, fun h => ?_⟩
        · simp [defU, hb', List.countP_append, hs, I.st]
        · simp [defU, hd]
        · simp [defU, hw, I.wa]
        · simp [defU, isTl, I.tl]
        · simp [defU, isOt, I.ot]
        · by_cases hud : u.d = true
          · obtain ⟨y, h1, h2, h3, h4⟩ := I.m hud
            exact ⟨y, List.mem_append_left _ h1, h2, by simp [defU, hb', hud, h3], by simpa [List.countP_append, hs] using h4⟩
          · have hud' : u.d = false := by simpa using hud
            refine ⟨⟨o, k, s⟩, by simp, hd, by simp [defU, hud', enOf], fun h => ?_⟩
            exfalso
            have hz : l.countP isStr = 0 := by
              rw [List.countP_eq_zero]
              intro y hy hs2
              have hdy : isDef y = true := by unfold isStr at hs2; simp at hs2; exact hs2.1
              have : l.any isDef = true := List.any_eq_true.2 ⟨y, hy, hdy⟩
              rw [← I.d, hud'] at this
              cases this
            simp [List.countP_append, hs, hz] at h
theorem useOf_spec (l : List Oc) (n : ByteArray) (h : l.length ≤ 2097152) : Spec (l.filter (cnt n)) (useOf l n) := spec_fold _ (Nat.le_trans (List.length_filter_le _ _) h)
end Go.Proofs.Ytgoaegembijdcaa
