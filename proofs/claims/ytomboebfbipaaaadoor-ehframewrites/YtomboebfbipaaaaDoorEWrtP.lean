/- How many places Write answers; rows of ints of the call's own, and how they are read. -/
import Derived.Test.YtomboebfbipaaaaDoorERWri
import Derived.Test.YtomboebfbipaaaaDoorESame
import Derived.Test.YtomboebfbipaaaaDoorEMovX
namespace Go.Proofs.YtomboebfbipaaaaDoor
open Go.ChangeShapes Go.WideShapes Go.ChangeAt Go.RowKit Go.Maps
set_option linter.unusedVariables false
set_option linter.unusedSimpArgs false

theorem grpM_len {addr enc : Int} {place : Nat} {f : List Fe} : ∀ (is : List Int) (s s' : List Int × List Int), grpM addr enc place f is s = some s' → s'.2.length = s.2.length
  | [], s, s', h => by
    simp only [grpM, Option.some.injEq] at h
    rw [← h]
  | i :: is, (L, A), s', h => by
    unfold grpM at h
    split at h
    · cases h
    · have := grpM_len is _ s' h
      simpa using this
theorem runM_len {addr : Int} {c : List Ce} {f : List Fe} : ∀ (k : Nat) (s : List Int × List Int), runM addr c f k = some s → s.2.length = f.length
  | 0, s, h => by
    simp only [runM, Option.some.injEq] at h
    rw [← h]
    simp
  | k + 1, s, h => by
    unfold runM at h
    split at h
    · cases h
    · rename_i L A e
      have h1 := runM_len k _ e
      have h2 := grpM_len _ _ s h
      rw [h2]
      exact h1
theorem wriR_len (c : List Ce) (f : List Fe) (addr : Int) (en : Bool) : (wriR c f addr en).2.2.length ≤ f.length := by
  unfold wriR
  split
  · simp
  · split
    · simp
    · unfold wriT
      split
      · simp
      · rename_i L A e
        have := runM_len _ _ e
        split
        · simp
        · simp only at this
          simp only
          omega

/-- A row of ints lies there. -/
def IntsAt (w : World) (ao : Option Addr) (l : List Int) : Prop := l.length = 0 ∨ ∃ b, ao = some ⟨b, 0, none⟩ ∧ ∀ i, i < l.length → w.cell? ⟨b, i, none⟩ = some (.int .i64 (l.getD i 0))
theorem IntsAt.bel {w w' : World} {ao : Option Addr} {l : List Int} (h : IntsAt w ao l) (hb : Below w.heap.size w w') : IntsAt w' ao l := by
  rcases h with h | ⟨b, e, h⟩
  · exact .inl h
  · exact .inr ⟨b, e, fun i hi => up_bel (h i hi) hb⟩
theorem eaddr_add (b i n : Nat) : (⟨b, i, none⟩ : Addr).add n = ⟨b, i + n, none⟩ := by cases n <;> rfl
theorem OwnI.ints {w : World} {base n c : Nat} {ao : Option Addr} {l : List Int} (h : OwnI w base (.slice ao n c) l) : IntsAt w ao l := by
  by_cases h0 : 1 ≤ l.length
  · rcases h.2 with ⟨hv, e⟩ | ⟨g, cap, cur, hv, e1, e2, _⟩
    · omega
    · have hv2 := hv
      injection hv2 with q1 q2 q3
      refine .inr ⟨g, q1, fun k hk => ?_⟩
      have := World.ownsRow.cells (g := g) h (by rw [hv]; rfl) k (.int .i64 (l.getD k 0)) (by simp [hk])
      rwa [eaddr_add, Nat.zero_add] at this
  · exact .inl (by omega)
end Go.Proofs.YtomboebfbipaaaaDoor
