/- The document's one token. -/
import Derived.Test.YtljmbgflcidokaaGreatDoorLxSign
namespace Go.Proofs.YtljmbgflcidokaaGreatDoor
open Go.ChangeShapes Go.WideShapes Go.ChangeAt Go.RowKit
set_option linter.unusedVariables false
set_option linter.unusedSimpArgs false

/-- A token's value, with its line. -/
abbrev Tok.val (t : Tok) (line : Int) : Value := .agg #[.int .i64 t.k, .int .i64 line, .int .i64 t.n, .string (St t.t)]
/-- One's three results. -/
def One3 (m : Option (Tok × Nat)) (e : Ending) : Prop :=
  match m with
  | none => ∃ (a b c : Int) (s : ByteArray) (n : Int), e = .returned (.tuple #[.agg #[.int .i64 a, .int .i64 b, .int .i64 c, .string s], .int .i64 n, .bool false])
  | some p => e = .returned (.tuple #[p.1.val 0, .int .i64 p.2, .bool true])

theorem one_c (s : ByteArray) (h0 : 0 < s.size) : oneM (lo s) =
    if s[0] = 59 then some (⟨6, 0, []⟩, 1)
    else if isDig s[0] = true ∨ s[0] = 39 then (numM (lo s)).map fun p => (⟨2, wrap64 p.1, []⟩, p.2)
    else if s[0] = 34 then (quoM (lo s)).map fun p => (⟨3, 0, p.1⟩, p.2)
    else if s[0] = 37 then if regN ((lo s).drop 1) = 0 then none else some (⟨5, 0, ((lo s).drop 1).take (regN ((lo s).drop 1))⟩, 1 + regN ((lo s).drop 1))
    else if isIn s[0] = true then if wordN (lo s) ≤ 255 then some (⟨1, 0, (lo s).take (wordN (lo s))⟩, wordN (lo s)) else none
    else if signN (lo s) = 0 then none else some (⟨4, 0, (lo s).take (signN (lo s))⟩, signN (lo s)) := by
  have e := lo_cons s h0
  unfold oneM
  conv => lhs; rw [e]
  simp only
  rw [← e]

abbrev tokZ : Obj := .cells #[.int .i64 0, .int .i64 0, .int .i64 0, .string ⟨#[]⟩] 60
/-- The token's block, behind a call. -/
structure TB4 (w : World) (g : Nat) : Prop where
  c0 : w.cell? ⟨g, 0, none⟩ = some (.int .i64 0)
  c1 : w.cell? ⟨g, 1, none⟩ = some (.int .i64 0)
  c2 : w.cell? ⟨g, 2, none⟩ = some (.int .i64 0)
  c3 : w.cell? ⟨g, 3, none⟩ = some (.string ⟨#[]⟩)
  fz : ∀ j, w.frozen? ⟨g, j, none⟩ = false
theorem TB4.of {w w1 : World} (hb : Below (w.alloc tokZ).heap.size (w.alloc tokZ) w1) : TB4 w1 w.heap.size := by
  have e : ∀ o, w1.cell? ⟨w.heap.size, o, none⟩ = (w.alloc tokZ).cell? ⟨w.heap.size, o, none⟩ := fun o => hb.cell (p := ⟨w.heap.size, o, none⟩) (by simp)
  have hblk := hb.block w.heap.size (by simp)
  refine ⟨(e 0).trans (by simp), (e 1).trans (by simp), (e 2).trans (by simp), (e 3).trans (by simp), fun j => ?_⟩
  simp only [World.frozen?]
  rw [hblk, heap_alloc_new]
  rfl

theorem one_no {a b c : Int} {s : ByteArray} {n : Int} {d : Bool} (hd : d = false) : One3 none (.returned (.tuple #[.agg #[.int .i64 a, .int .i64 b, .int .i64 c, .string s], .int .i64 n, .bool d])) := by
  subst hd; exact ⟨_, _, _, _, _, rfl⟩
theorem one_yes {k v : Int} {l : List UInt8} {s : ByteArray} {n : Nat} {d : Bool} (hd : d = true) (hs : s = St l) : One3 (some (⟨k, v, l⟩, n)) (.returned (.tuple #[.agg #[.int .i64 k, .int .i64 0, .int .i64 v, .string s], .int .i64 n, .bool d])) := by
  subst hd; subst hs; exact rfl
theorem sign_le (s : ByteArray) (h0 : 0 < s.size) : signN (lo s) ≤ s.size := by
  rw [sign_c s h0]
  by_cases h1 : 1 < s.size
  · split
    · omega
    · split <;> omega
  · have hd : (lo s).drop 1 = [] := List.drop_of_length_le (by rw [lo_len]; omega)
    rw [hd]
    simp only [List.head?_nil, reduceCtorEq, and_false, or_false, if_false]
    split <;> omega
theorem bel4 {w w1 : World} (hb : Below (w.alloc tokZ).heap.size (w.alloc tokZ) w1) (a b c d : Value) : Below w.heap.size w ((((w1.setCell ⟨w.heap.size, 0, none⟩ a).setCell ⟨w.heap.size, 1, none⟩ b).setCell ⟨w.heap.size, 2, none⟩ c).setCell ⟨w.heap.size, 3, none⟩ d) :=
  (((((((Below.refl _ _).alloc (Nat.le_refl _) tokZ).trans (hb.mono (by simp))).setCell (Nat.le_refl _) _).setCell (Nat.le_refl _) _).setCell (Nat.le_refl _) _).setCell (Nat.le_refl _) _)

end Go.Proofs.YtljmbgflcidokaaGreatDoor
