/- Names, tables of names and hashes, plainly. -/
import Derived.Test.YtojiomkinhnodaaRows
import Derived.WalkKit
import Derived.ProofKit
import Derived.Below
import Derived.Laws.BitsAllLaws
import Derived.WalkLawsBesides
namespace Go.Proofs.Ytojiomkinhnodaa
open Go.ChangeShapes Go.WideShapes Go.ChangeAt Go.RowKit
set_option linter.unusedVariables false

/-- A fact that the walk does not look into. -/
structure Hid (p : Prop) : Prop where
  out : p

theorem ret_bool {a b : Bool} (h : a = b) : Ending.returned (.bool a) = .returned (.bool b) := by rw [h]
theorem ret_int {k : IntKind} {a b : Int} (h : a = b) : Ending.returned (.int k a) = .returned (.int k b) := by rw [h]

theorem take_succ_get (s : ByteArray) (k : Nat) (h : k < s.size) : s.data.toList.take (k + 1) = s.data.toList.take k ++ [s[k]] := by
  have hl : k < s.data.toList.length := by simpa using h
  rw [List.take_succ_eq_append_getElem hl]
  congr 2

/-- The hash that goes on byte by byte. -/
def gnuL (l : List UInt8) : Int := l.foldl (fun h c => (33 * h + c.toNat) % 4294967296) 5381
def gnuB (s : ByteArray) : Int := gnuL s.data.toList
theorem gnuL_snoc (l : List UInt8) (c : UInt8) : gnuL (l ++ [c]) = (33 * gnuL l + c.toNat) % 4294967296 := by simp [gnuL]
theorem gnuL_range (l : List UInt8) : 0 ≤ gnuL l ∧ gnuL l < 4294967296 := by
  rcases List.eq_nil_or_concat l with rfl | ⟨l, c, rfl⟩
  · simp [gnuL]
  · simp only [List.concat_eq_append]; rw [gnuL_snoc]; omega

/-- One step of the other one. -/
def hashS (h c : Int) : Int := let x := (16 * h + c) % 4294967296; ((x % 268435456).toNat ^^^ (x / 268435456 * 16).toNat : Nat)
def hashL (l : List UInt8) : Int := l.foldl (fun h c => hashS h c.toNat) 0
def hashB (s : ByteArray) : Int := hashL s.data.toList
theorem hashL_snoc (l : List UInt8) (c : UInt8) : hashL (l ++ [c]) = hashS (hashL l) c.toNat := by simp [hashL]
theorem hashS_range (h c : Int) : 0 ≤ hashS h c ∧ hashS h c < 268435456 := by
  unfold hashS
  refine ⟨by simp, ?_⟩
  have h1 : ((16 * h + c) % 4294967296 % 268435456).toNat < 2 ^ 28 := by omega
  have h2 : ((16 * h + c) % 4294967296 / 268435456 * 16).toNat < 2 ^ 28 := by omega
  have := Nat.xor_lt_two_pow h1 h2
  simp only []
  omega
theorem hashL_range (l : List UInt8) : 0 ≤ hashL l ∧ hashL l < 268435456 := by
  rcases List.eq_nil_or_concat l with rfl | ⟨l, c, rfl⟩
  · simp [hashL]
  · simp only [List.concat_eq_append]; rw [hashL_snoc]; exact hashS_range _ _
end Go.Proofs.Ytojiomkinhnodaa
