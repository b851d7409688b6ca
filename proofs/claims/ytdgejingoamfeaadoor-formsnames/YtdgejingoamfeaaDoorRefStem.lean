/- The document's stem and condName. -/
import Derived.Test.YtdgejingoamfeaaDoorName2
namespace Go.Proofs.YtdgejingoamfeaaDoor
open Go.ChangeShapes Go.WideShapes Go.ChangeAt Go.RowKit
set_option linter.unusedVariables false
set_option linter.unusedSimpArgs false

theorem cond_at (n : Nat) (h : n < 16) (t : ByteArray) (ht : condL.getD n ⟨#[]⟩ = t) (v : World) (ty : TypeId) : (v.alloc (.cells #[.string ⟨#[111]⟩, .string ⟨#[110, 111]⟩, .string ⟨#[98]⟩, .string ⟨#[97, 101]⟩, .string ⟨#[101]⟩, .string ⟨#[110, 101]⟩, .string ⟨#[98, 101]⟩, .string ⟨#[97]⟩, .string ⟨#[115]⟩, .string ⟨#[110, 115]⟩, .string ⟨#[112]⟩, .string ⟨#[110, 112]⟩, .string ⟨#[108]⟩, .string ⟨#[103, 101]⟩, .string ⟨#[108, 101]⟩, .string ⟨#[103]⟩] ty)).cell? ⟨v.heap.size, n, none⟩ = some (.string t) := by
  rw [← ht]
  have : ∀ k : Fin 16, (#[.string ⟨#[111]⟩, .string ⟨#[110, 111]⟩, .string ⟨#[98]⟩, .string ⟨#[97, 101]⟩, .string ⟨#[101]⟩, .string ⟨#[110, 101]⟩, .string ⟨#[98, 101]⟩, .string ⟨#[97]⟩, .string ⟨#[115]⟩, .string ⟨#[110, 115]⟩, .string ⟨#[112]⟩, .string ⟨#[110, 112]⟩, .string ⟨#[108]⟩, .string ⟨#[103, 101]⟩, .string ⟨#[108, 101]⟩, .string ⟨#[103]⟩] : Array Value)[k.val]? = some (.string ((fun n : Nat => condL.getD n ⟨#[]⟩) k.val)) := by
    intro k
    match k with
    | ⟨0, _⟩ => rfl
    | ⟨1, _⟩ => rfl
    | ⟨2, _⟩ => rfl
    | ⟨3, _⟩ => rfl
    | ⟨4, _⟩ => rfl
    | ⟨5, _⟩ => rfl
    | ⟨6, _⟩ => rfl
    | ⟨7, _⟩ => rfl
    | ⟨8, _⟩ => rfl
    | ⟨9, _⟩ => rfl
    | ⟨10, _⟩ => rfl
    | ⟨11, _⟩ => rfl
    | ⟨12, _⟩ => rfl
    | ⟨13, _⟩ => rfl
    | ⟨14, _⟩ => rfl
    | ⟨15, _⟩ => rfl
    | ⟨k + 16, h⟩ => exact absurd h (by omega)
  have := this ⟨n, h⟩
  simpa using this

set_option maxHeartbeats 1000000 in
theorem refCondName_any (c : Int) (h : 0 ≤ c ∧ c < 16) (w : World) :
    Calls Tryd.prog 42 #[.int .i64 c] w fun e w' => e = .returned (.string (condV c)) ∧ Below w.heap.size w w' := by
  obtain ⟨n, rfl⟩ := Int.eq_ofNat_of_zero_le h.1
  have hn : n < 16 := by omega
  obtain ⟨t, ht⟩ : ∃ t, condV (n : Int) = t := ⟨_, rfl⟩
  have HV : Hid (condL.getD n ⟨#[]⟩ = t) := ⟨by rw [← ht]; rfl⟩
  rw [ht]
  clear ht h
  have HT := fun v => cond_at n (by omega) t HV.out v 9
  clear HV
  go_enter Tryd.func42, Tryd.ntmps42
  go_wp2
  go_ret
  exact ⟨rfl, bel_alloc (Below.refl _ _) _⟩

theorem stem_at (n : Nat) (h : n < 36) (t : ByteArray) (ht : (if n = 0 then (⟨#[]⟩ : ByteArray) else (rowL (n : Int)).stem) = t) (v : World) (ty : TypeId) : (v.alloc (.cells #[.string ⟨#[]⟩, .string ⟨#[109, 111, 118]⟩, .string ⟨#[108, 101, 97]⟩, .string ⟨#[97, 100, 100]⟩, .string ⟨#[111, 114]⟩, .string ⟨#[97, 100, 99]⟩, .string ⟨#[115, 98, 98]⟩, .string ⟨#[97, 110, 100]⟩, .string ⟨#[115, 117, 98]⟩, .string ⟨#[120, 111, 114]⟩, .string ⟨#[99, 109, 112]⟩, .string ⟨#[116, 101, 115, 116]⟩, .string ⟨#[105, 109, 117, 108]⟩, .string ⟨#[110, 101, 103]⟩, .string ⟨#[110, 111, 116]⟩, .string ⟨#[105, 110, 99]⟩, .string ⟨#[100, 101, 99]⟩, .string ⟨#[115, 104, 108]⟩, .string ⟨#[115, 104, 114]⟩, .string ⟨#[115, 97, 114]⟩, .string ⟨#[112, 117, 115, 104]⟩, .string ⟨#[112, 111, 112]⟩, .string ⟨#[99, 97, 108, 108]⟩, .string ⟨#[106, 109, 112]⟩, .string ⟨#[106]⟩, .string ⟨#[114, 101, 116]⟩, .string ⟨#[108, 101, 97, 118, 101]⟩, .string ⟨#[115, 101, 116]⟩, .string ⟨#[99, 109, 111, 118]⟩, .string ⟨#[109, 111, 118, 122, 98]⟩, .string ⟨#[109, 111, 118, 115, 98]⟩, .string ⟨#[120, 99, 104, 103]⟩, .string ⟨#[99, 113, 116, 111]⟩, .string ⟨#[110, 111, 112]⟩, .string ⟨#[117, 100, 50]⟩, .string ⟨#[115, 121, 115, 99, 97, 108, 108]⟩] ty)).cell? ⟨v.heap.size, n, none⟩ = some (.string t) := by
  rw [← ht]
  have : ∀ k : Fin 36, (#[.string ⟨#[]⟩, .string ⟨#[109, 111, 118]⟩, .string ⟨#[108, 101, 97]⟩, .string ⟨#[97, 100, 100]⟩, .string ⟨#[111, 114]⟩, .string ⟨#[97, 100, 99]⟩, .string ⟨#[115, 98, 98]⟩, .string ⟨#[97, 110, 100]⟩, .string ⟨#[115, 117, 98]⟩, .string ⟨#[120, 111, 114]⟩, .string ⟨#[99, 109, 112]⟩, .string ⟨#[116, 101, 115, 116]⟩, .string ⟨#[105, 109, 117, 108]⟩, .string ⟨#[110, 101, 103]⟩, .string ⟨#[110, 111, 116]⟩, .string ⟨#[105, 110, 99]⟩, .string ⟨#[100, 101, 99]⟩, .string ⟨#[115, 104, 108]⟩, .string ⟨#[115, 104, 114]⟩, .string ⟨#[115, 97, 114]⟩, .string ⟨#[112, 117, 115, 104]⟩, .string ⟨#[112, 111, 112]⟩, .string ⟨#[99, 97, 108, 108]⟩, .string ⟨#[106, 109, 112]⟩, .string ⟨#[106]⟩, .string ⟨#[114, 101, 116]⟩, .string ⟨#[108, 101, 97, 118, 101]⟩, .string ⟨#[115, 101, 116]⟩, .string ⟨#[99, 109, 111, 118]⟩, .string ⟨#[109, 111, 118, 122, 98]⟩, .string ⟨#[109, 111, 118, 115, 98]⟩, .string ⟨#[120, 99, 104, 103]⟩, .string ⟨#[99, 113, 116, 111]⟩, .string ⟨#[110, 111, 112]⟩, .string ⟨#[117, 100, 50]⟩, .string ⟨#[115, 121, 115, 99, 97, 108, 108]⟩] : Array Value)[k.val]? = some (.string ((fun n : Nat => (if n = 0 then (⟨#[]⟩ : ByteArray) else (rowL (n : Int)).stem)) k.val)) := by
    intro k
    match k with
    | ⟨0, _⟩ => rfl
    | ⟨1, _⟩ => rfl
    | ⟨2, _⟩ => rfl
    | ⟨3, _⟩ => rfl
    | ⟨4, _⟩ => rfl
    | ⟨5, _⟩ => rfl
    | ⟨6, _⟩ => rfl
    | ⟨7, _⟩ => rfl
    | ⟨8, _⟩ => rfl
    | ⟨9, _⟩ => rfl
    | ⟨10, _⟩ => rfl
    | ⟨11, _⟩ => rfl
    | ⟨12, _⟩ => rfl
    | ⟨13, _⟩ => rfl
    | ⟨14, _⟩ => rfl
    | ⟨15, _⟩ => rfl
    | ⟨16, _⟩ => rfl
    | ⟨17, _⟩ => rfl
    | ⟨18, _⟩ => rfl
    | ⟨19, _⟩ => rfl
    | ⟨20, _⟩ => rfl
    | ⟨21, _⟩ => rfl
    | ⟨22, _⟩ => rfl
    | ⟨23, _⟩ => rfl
    | ⟨24, _⟩ => rfl
    | ⟨25, _⟩ => rfl
    | ⟨26, _⟩ => rfl
    | ⟨27, _⟩ => rfl
    | ⟨28, _⟩ => rfl
    | ⟨29, _⟩ => rfl
    | ⟨30, _⟩ => rfl
    | ⟨31, _⟩ => rfl
    | ⟨32, _⟩ => rfl
    | ⟨33, _⟩ => rfl
    | ⟨34, _⟩ => rfl
    | ⟨35, _⟩ => rfl
    | ⟨k + 36, h⟩ => exact absurd h (by omega)
  have := this ⟨n, h⟩
  simpa using this

set_option maxHeartbeats 1000000 in
theorem refStem_any (c : Int) (h : 1 ≤ c ∧ c ≤ 35) (w : World) :
    Calls Tryd.prog 41 #[.int .i64 c] w fun e w' => e = .returned (.string ((rowL c).stem)) ∧ Below w.heap.size w w' := by
  obtain ⟨n, rfl⟩ := Int.eq_ofNat_of_zero_le (show 0 ≤ c by omega)
  have hn : n < 36 := by omega
  have hp : n ≠ 0 := by omega
  obtain ⟨t, ht⟩ : ∃ t, (rowL (n : Int)).stem = t := ⟨_, rfl⟩
  have HV : Hid ((if n = 0 then (⟨#[]⟩ : ByteArray) else (rowL (n : Int)).stem) = t) := ⟨by rw [← ht, if_neg hp]⟩
  rw [ht]
  clear ht h
  have HT := fun v => stem_at n (by omega) t HV.out v 9
  clear HV
  go_enter Tryd.func41, Tryd.ntmps41
  go_wp2
  go_ret
  exact ⟨rfl, bel_alloc (Below.refl _ _) _⟩

end Go.Proofs.YtdgejingoamfeaaDoor
