/- Pages, plainly: a page's number, what may be done with it, its bytes; lists of pages by their numbers; the pieces of an access. -/
import Derived.Test.YtpfmnopokfiheaaRows
import Derived.WalkKit
import Derived.ProofKit
import Derived.Below
import Derived.Laws.BitsAllLaws
import Derived.WalkLawsBesides
namespace Go.Proofs.Ytpfmnopokfiheaa
open Go.ChangeShapes Go.WideShapes Go.ChangeAt Go.RowKit
set_option linter.unusedVariables false

/-- A fact that the walk does not look into. -/
structure Hid (p : Prop) : Prop where
  out : p

theorem ret_bool {a b : Bool} (h : a = b) : Ending.returned (.bool a) = .returned (.bool b) := by rw [h]
theorem ret_int {k : IntKind} {a b : Int} (h : a = b) : Ending.returned (.int k a) = .returned (.int k b) := by rw [h]

/-- A page: its number, what may be done with it, its bytes. -/
structure Pz where
  k : Nat
  may : Int
  B : List Int

/-- A page that may be. -/
structure Pz.Ok (p : Pz) : Prop where
  k : p.k < 34359738368
  lo : 0 ≤ p.may
  hi : p.may ≤ 7
  len : p.B.length = 4096
  byte : ∀ x ∈ p.B, 0 ≤ x ∧ x < 256

/-- Pages by their numbers, rising. -/
structure Mz (L : List Pz) : Prop where
  ok : ∀ p ∈ L, p.Ok
  up : L.Pairwise (fun p q => p.k < q.k)

/-- The page of a number. -/
def fnd (L : List Pz) (k : Nat) : Option Pz := L.find? (fun p => p.k == k)

theorem fnd_mem {L : List Pz} {k : Nat} {p : Pz} (h : fnd L k = some p) : p ∈ L ∧ p.k = k := by
  refine ⟨List.mem_of_find?_eq_some h, ?_⟩
  have := List.find?_some h
  simpa using this

theorem mem_fnd {L : List Pz} (h : L.Pairwise (fun p q => p.k < q.k)) {p : Pz} (hp : p ∈ L) : fnd L p.k = some p := by
  induction L with
  | nil => cases hp
  | cons q L ih =>
    obtain ⟨h1, h2⟩ := List.pairwise_cons.1 h
    unfold fnd
    rw [List.find?_cons]
    rcases List.mem_cons.1 hp with rfl | hp
    · simp
    · have := h1 p hp
      rw [show (q.k == p.k) = false by simp; omega]
      exact ih h2 hp

theorem fnd_none {L : List Pz} {k : Nat} : fnd L k = none ↔ ∀ p ∈ L, p.k ≠ k := by
  unfold fnd
  rw [List.find?_eq_none]
  simp

/-- The pieces of an access: a page, from which byte on, how many. -/
def pcs (L : List Pz) (may : Int) : Nat → Nat → Nat → Nat → List (Pz × Nat × Nat)
  | 0, _, _, _ => []
  | f + 1, k, fr, left =>
    if left = 0 then [] else
    match fnd L k with
    | none => []
    | some p => if bits .and .i64 p.may may = may then (p, fr, min left (4096 - fr)) :: pcs L may f (k + 1) 0 (left - min left (4096 - fr)) else []
end Go.Proofs.Ytpfmnopokfiheaa
