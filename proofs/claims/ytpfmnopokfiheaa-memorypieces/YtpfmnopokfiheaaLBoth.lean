/- What both Memories answer to Read and to Fetch, in one form. -/
import Derived.Test.YtpfmnopokfiheaaLSpoil
import Derived.Test.YtpfmnopokfiheaaMFetch
namespace Go.Proofs.Ytpfmnopokfiheaa
open Go.ChangeShapes Go.WideShapes Go.ChangeAt Go.RowKit Go.Maps
set_option linter.unusedVariables false
set_option linter.unusedSimpArgs false

/-- The bytes that Read tells, its error. -/
def rdX (L : List Pz) (a : Nat) (n : Int) : List Int := if n < 0 ∨ 1048576 < n then [] else if reachB L 4 a n.toNat = true then rdB L 4 a n.toNat else []
def rdE (L : List Pz) (a : Nat) (n : Int) : Int := if n < 0 then 1 else if 1048576 < n then 6 else if reachB L 4 a n.toNat = true then 0 else 61
/-- The bytes that Fetch tells, its error. -/
def ftX (L : List Pz) (a : Nat) (n : Int) : List Int := if n < 1 ∨ 15 < n then [] else rdB L 1 a n.toNat
def ftE (L : List Pz) (a : Nat) (n : Int) : Int := if n < 1 ∨ 15 < n then 1 else if rdB L 1 a n.toNat = [] then 61 else 0

/-- Bytes and an error. -/
def BE (xs : List Int) (E : Int) (w : World) (e : Ending) (w' : World) : Prop := ∃ v, e = .returned (.tuple #[v, .int .i64 E]) ∧ Own w' w.heap.size v xs ∧ Below w.heap.size w w'

theorem mread_be (mb gb a : Nat) (pl : Nat → Nat) (L : List Pz) (n : Int) (w : World) (h : MA w mb gb pl L) (ha : a < 18446744073709551616) :
    Calls Try.prog 20 #[.pointer (some ⟨mb, 0, none⟩), .int .u64 a, .int .i64 n] w fun e w' => BE (rdX L a n) (rdE L a n) w e w' := by
  unfold rdX rdE
  by_cases h1 : n < 0
  · rw [if_pos (.inl h1), if_pos h1]
    refine (read_neg mb gb a n w h.mcell h1).mono ?_
    rintro e w' ⟨rfl, rfl⟩
    exact ⟨_, rfl, Own.nil _ _, Below.refl _ _⟩
  by_cases h2 : 1048576 < n
  · rw [if_pos (.inr h2), if_neg h1, if_pos h2]
    refine (read_big mb gb a n w h.mcell h2).mono ?_
    rintro e w' ⟨rfl, rfl⟩
    exact ⟨_, rfl, Own.nil _ _, Below.refl _ _⟩
  rw [if_neg (by omega), if_neg h1, if_neg h2]
  obtain ⟨m, rfl⟩ : ∃ m : Nat, n = (m : Int) := ⟨n.toNat, by omega⟩
  rw [Int.toNat_natCast]
  refine (read_any mb gb a m pl L w h ha (by omega)).mono ?_
  rintro e w' ⟨⟨h3, h4⟩, hb⟩
  cases hr : reachB L 4 a m with
  | true =>
    rw [if_pos rfl, if_pos rfl]
    obtain ⟨rfl, hg⟩ := h3 hr
    have hl : (rdB L 4 a m).length = m := by rw [rdB_len h.mz]; simpa [reachB] using hr
    refine ⟨_, rfl, ⟨by simp, .inr ⟨w.heap.size, m, _, by rw [hl], Nat.le_refl _, hg, by omega, by unfold maxLen; omega, by simp [hl], ?_⟩⟩, hb⟩
    exact List.take_of_length_le (by simp)
  | false =>
    rw [if_neg (by decide), if_neg (by decide)]
    obtain rfl := h4 hr
    exact ⟨_, rfl, Own.nil _ _, hb⟩

theorem rread_be (rb a : Nat) (lv : Value) (pb : Nat → Nat) (L : List Pz) (n : Int) (w : World) (h : RA w rb lv pb L) (ha : a < 18446744073709551616) (hL : L.length ≤ 1048576) :
    Calls Try.prog 54 #[.pointer (some ⟨rb, 0, none⟩), .int .u64 a, .int .i64 n] w fun e w' => BE (rdX L a n) (rdE L a n) w e w' := by
  unfold rdX rdE
  by_cases h1 : n < 0
  · rw [if_pos (.inl h1), if_pos h1]
    refine (rread_neg rb a n w h1).mono ?_
    rintro e w' ⟨rfl, rfl⟩
    exact ⟨_, rfl, Own.nil _ _, Below.refl _ _⟩
  by_cases h2 : 1048576 < n
  · rw [if_pos (.inr h2), if_neg h1, if_pos h2]
    refine (rread_big rb a n w h2).mono ?_
    rintro e w' ⟨rfl, rfl⟩
    exact ⟨_, rfl, Own.nil _ _, Below.refl _ _⟩
  rw [if_neg (by omega), if_neg h1, if_neg h2]
  obtain ⟨m, rfl⟩ : ∃ m : Nat, n = (m : Int) := ⟨n.toNat, by omega⟩
  rw [Int.toNat_natCast]
  exact rread_any rb a m lv pb L w h ha hL (by omega)

theorem mfetch_be (mb gb a : Nat) (pl : Nat → Nat) (L : List Pz) (n : Int) (w : World) (h : MA w mb gb pl L) (ha : a < 18446744073709551616) :
    Calls Try.prog 22 #[.pointer (some ⟨mb, 0, none⟩), .int .u64 a, .int .i64 n] w fun e w' => BE (ftX L a n) (ftE L a n) w e w' := by
  unfold ftX ftE
  by_cases h1 : n < 1 ∨ 15 < n
  · rw [if_pos h1, if_pos h1]
    refine (fetch_bad mb gb a n w h.mcell h1).mono ?_
    rintro e w' ⟨rfl, rfl⟩
    exact ⟨_, rfl, Own.nil _ _, Below.refl _ _⟩
  rw [if_neg h1, if_neg h1]
  obtain ⟨m, rfl⟩ : ∃ m : Nat, n = (m : Int) := ⟨n.toNat, by omega⟩
  rw [Int.toNat_natCast]
  refine (fetch_any mb gb a m pl L w h ha (by omega)).mono ?_
  rintro e w' ⟨⟨h3, h4⟩, hb⟩
  by_cases hr : rdB L 1 a m = []
  · rw [if_pos hr, hr]
    obtain rfl := h3 hr
    exact ⟨_, rfl, Own.nil _ _, hb⟩
  · rw [if_neg hr]
    obtain ⟨v, rfl, ho⟩ := h4 hr
    exact ⟨v, rfl, ho, hb⟩

theorem rfetch_be (rb a : Nat) (lv : Value) (pb : Nat → Nat) (L : List Pz) (n : Int) (w : World) (h : RA w rb lv pb L) (ha : a < 18446744073709551616) (hL : L.length ≤ 1048576) :
    Calls Try.prog 55 #[.pointer (some ⟨rb, 0, none⟩), .int .u64 a, .int .i64 n] w fun e w' => BE (ftX L a n) (ftE L a n) w e w' := by
  unfold ftX ftE
  by_cases h1 : n < 1 ∨ 15 < n
  · rw [if_pos h1, if_pos h1]
    refine (rfetch_bad rb a n w h1).mono ?_
    rintro e w' ⟨rfl, rfl⟩
    exact ⟨_, rfl, Own.nil _ _, Below.refl _ _⟩
  rw [if_neg h1, if_neg h1]
  obtain ⟨m, rfl⟩ : ∃ m : Nat, n = (m : Int) := ⟨n.toNat, by omega⟩
  rw [Int.toNat_natCast]
  refine (rfetch_any rb a m lv pb L w h ha hL (by omega)).mono ?_
  rintro e w' ⟨⟨h3, h4⟩, hb⟩
  by_cases hr : rdB L 1 a m = []
  · rw [if_pos hr, hr]
    obtain rfl := h3 hr
    exact ⟨_, rfl, Own.nil _ _, hb⟩
  · rw [if_neg hr]
    obtain ⟨v, rfl, ho⟩ := h4 hr
    exact ⟨v, rfl, ho, hb⟩
end Go.Proofs.Ytpfmnopokfiheaa
