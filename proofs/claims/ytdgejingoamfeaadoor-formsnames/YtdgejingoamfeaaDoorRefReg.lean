/- The document's Register. -/
import Derived.Test.YtdgejingoamfeaaDoorRefWhole
namespace Go.Proofs.YtdgejingoamfeaaDoor
open Go.ChangeShapes Go.WideShapes Go.ChangeAt Go.RowKit
set_option linter.unusedVariables false
set_option linter.unusedSimpArgs false

set_option maxHeartbeats 1000000 in
theorem refReg_no (r s : Int) (w : World) (h : ¬ ((0 ≤ r ∧ r ≤ 15) ∧ (s = 1 ∨ s = 4 ∨ s = 8))) :
    Calls Tryd.prog 22 #[.int .i64 r, .int .i64 s] w fun e w' => e = .returned (.string ⟨#[]⟩) ∧ Below w.heap.size w w' := by
  by_cases h0 : r < 0
  · clear h
    go_enter Tryd.func22, Tryd.ntmps22
    go_wp2
    go_ret
    exact ⟨rfl, Below.refl _ _⟩
  by_cases h1 : 15 < r
  · clear h
    go_enter Tryd.func22, Tryd.ntmps22
    go_wp2
    go_ret
    exact ⟨rfl, Below.refl _ _⟩
  have g1 : (s != 1) = true := by simp; omega
  have g4 : (s != 4) = true := by simp; omega
  have g8 : (s != 8) = true := by simp; omega
  clear h
  go_enter Tryd.func22, Tryd.ntmps22
  go_wp2
  go_ret
  exact ⟨rfl, Below.refl _ _⟩

theorem regV_no (r s : Int) (h : ¬ ((0 ≤ r ∧ r ≤ 15) ∧ (s = 1 ∨ s = 4 ∨ s = 8))) : regV r s = ⟨#[]⟩ := by
  unfold regV
  rw [if_pos]
  by_cases h0 : 0 ≤ r ∧ r ≤ 15
  · left
    unfold placeV
    rw [if_neg (by omega), if_neg (by omega), if_neg (by omega)]
    decide
  · right
    cases e : isRegB r
    · rfl
    · exact absurd ((isReg_iff r).1 e) h0

theorem dig_vals : digS 8 = ⟨#[56]⟩ ∧ digS 9 = ⟨#[57]⟩ ∧ digS 10 = ⟨#[49, 48]⟩ ∧ digS 11 = ⟨#[49, 49]⟩ ∧ digS 12 = ⟨#[49, 50]⟩ ∧ digS 13 = ⟨#[49, 51]⟩ ∧ digS 14 = ⟨#[49, 52]⟩ ∧ digS 15 = ⟨#[49, 53]⟩ := by
  unfold digS
  refine ⟨?_, ?_, ?_, ?_, ?_, ?_, ?_, ?_⟩
  · rw [Lib.decDigits_one (by omega)]; rfl
  · rw [Lib.decDigits_one (by omega)]; rfl
  all_goals rw [Lib.decDigits_two (by omega) (by omega)]; rfl

set_option maxHeartbeats 4000000 in
theorem refReg_high (r s : Int) (w : World) (h0 : 8 ≤ r) (h1 : r ≤ 15) (hs : s = 1 ∨ s = 4 ∨ s = 8) :
    Calls Tryd.prog 22 #[.int .i64 r, .int .i64 s] w fun e w' => e = .returned (.string (regV r s)) ∧ Below w.heap.size w w' := by
  have hr : r = 8 ∨ r = 9 ∨ r = 10 ∨ r = 11 ∨ r = 12 ∨ r = 13 ∨ r = 14 ∨ r = 15 := by omega
  obtain ⟨d8, d9, d10, d11, d12, d13, d14, d15⟩ := dig_vals
  have HD : Hid (∀ v, Calls Tryd.prog 45 #[.int .i64 (r.toNat : Int)] v fun e w' => e = .returned (.string (digS r.toNat)) ∧ Below v.heap.size v w') := ⟨fun v => digits_any r.toNat (by omega) v⟩
  have HG : Hid (digS r.toNat = digS r.toNat) := ⟨rfl⟩
  have hsz := digS_size r.toNat (by omega)
  have HV : Hid (regV r s = ⟨#[114]⟩ ++ digS r.toNat ++ (if s = 1 then ⟨#[98]⟩ else if s = 4 then ⟨#[100]⟩ else ⟨#[]⟩)) := ⟨by
    rcases hr with rfl | rfl | rfl | rfl | rfl | rfl | rfl | rfl
    · rw [show (8 : Int).toNat = 8 from rfl, d8]; rcases hs with rfl | rfl | rfl <;> rfl
    · rw [show (9 : Int).toNat = 9 from rfl, d9]; rcases hs with rfl | rfl | rfl <;> rfl
    · rw [show (10 : Int).toNat = 10 from rfl, d10]; rcases hs with rfl | rfl | rfl <;> rfl
    · rw [show (11 : Int).toNat = 11 from rfl, d11]; rcases hs with rfl | rfl | rfl <;> rfl
    · rw [show (12 : Int).toNat = 12 from rfl, d12]; rcases hs with rfl | rfl | rfl <;> rfl
    · rw [show (13 : Int).toNat = 13 from rfl, d13]; rcases hs with rfl | rfl | rfl <;> rfl
    · rw [show (14 : Int).toNat = 14 from rfl, d14]; rcases hs with rfl | rfl | rfl <;> rfl
    · rw [show (15 : Int).toNat = 15 from rfl, d15]; rcases hs with rfl | rfl | rfl <;> rfl⟩
  rw [show ((r.toNat : Nat) : Int) = r by omega] at HD
  generalize regV r s = z at *
  generalize digS r.toNat = d at *
  have k1 : (⟨#[114]⟩ : ByteArray).size = 1 := rfl
  have k2 : (⟨#[98]⟩ : ByteArray).size = 1 := rfl
  have k3 : (⟨#[100]⟩ : ByteArray).size = 1 := rfl
  have A1 : ∀ v, (Op.stringOp .add ⟨#[114]⟩ d).run Tryd.prog v = .ok (.string (⟨#[114]⟩ ++ d)) v := fun v => run_string_add_sum v _ _ (by omega)
  have A2 : ∀ v, (Op.stringOp .add (⟨#[114]⟩ ++ d) ⟨#[98]⟩).run Tryd.prog v = .ok (.string (⟨#[114]⟩ ++ d ++ ⟨#[98]⟩)) v := fun v => run_string_add_sum v _ _ (by simp only [ByteArray.size_append]; omega)
  have A3 : ∀ v, (Op.stringOp .add (⟨#[114]⟩ ++ d) ⟨#[100]⟩).run Tryd.prog v = .ok (.string (⟨#[114]⟩ ++ d ++ ⟨#[100]⟩)) v := fun v => run_string_add_sum v _ _ (by simp only [ByteArray.size_append]; omega)
  clear hr d8 d9 d10 d11 d12 d13 d14 d15 hsz HG
  rcases hs with rfl | rfl | rfl
  all_goals
    go_enter Tryd.func22, Tryd.ntmps22
    go_wp2_with (go_at_call 45; refine (HD.out _).mono ?_; rintro e w1 ⟨rfl, hb⟩)
    go_ret
    exact ⟨ret_str (by rw [HV.out]; first | rfl | exact ByteArray.append_empty.symm), hb⟩

theorem low_at (n : Nat) (h : n < 8) (v : World) : ((v.alloc (.cells #[.string ⟨#[114, 97, 120]⟩, .string ⟨#[114, 99, 120]⟩, .string ⟨#[114, 100, 120]⟩, .string ⟨#[114, 98, 120]⟩, .string ⟨#[114, 115, 112]⟩, .string ⟨#[114, 98, 112]⟩, .string ⟨#[114, 115, 105]⟩, .string ⟨#[114, 100, 105]⟩] 9)).alloc (.cells #[.string ⟨#[97, 108]⟩, .string ⟨#[99, 108]⟩, .string ⟨#[100, 108]⟩, .string ⟨#[98, 108]⟩, .string ⟨#[115, 112, 108]⟩, .string ⟨#[98, 112, 108]⟩, .string ⟨#[115, 105, 108]⟩, .string ⟨#[100, 105, 108]⟩] 9)).cell? ⟨v.heap.size, n, none⟩ = some (.string (regV n 8)) ∧ ((v.alloc (.cells #[.string ⟨#[114, 97, 120]⟩, .string ⟨#[114, 99, 120]⟩, .string ⟨#[114, 100, 120]⟩, .string ⟨#[114, 98, 120]⟩, .string ⟨#[114, 115, 112]⟩, .string ⟨#[114, 98, 112]⟩, .string ⟨#[114, 115, 105]⟩, .string ⟨#[114, 100, 105]⟩] 9)).alloc (.cells #[.string ⟨#[97, 108]⟩, .string ⟨#[99, 108]⟩, .string ⟨#[100, 108]⟩, .string ⟨#[98, 108]⟩, .string ⟨#[115, 112, 108]⟩, .string ⟨#[98, 112, 108]⟩, .string ⟨#[115, 105, 108]⟩, .string ⟨#[100, 105, 108]⟩] 9)).cell? ⟨v.heap.size + 1, n, none⟩ = some (.string (regV n 1)) := by
  have : ∀ k : Fin 8, (#[.string ⟨#[114, 97, 120]⟩, .string ⟨#[114, 99, 120]⟩, .string ⟨#[114, 100, 120]⟩, .string ⟨#[114, 98, 120]⟩, .string ⟨#[114, 115, 112]⟩, .string ⟨#[114, 98, 112]⟩, .string ⟨#[114, 115, 105]⟩, .string ⟨#[114, 100, 105]⟩] : Array Value)[k.val]? = some (.string (regV k.val 8)) ∧ (#[.string ⟨#[97, 108]⟩, .string ⟨#[99, 108]⟩, .string ⟨#[100, 108]⟩, .string ⟨#[98, 108]⟩, .string ⟨#[115, 112, 108]⟩, .string ⟨#[98, 112, 108]⟩, .string ⟨#[115, 105, 108]⟩, .string ⟨#[100, 105, 108]⟩] : Array Value)[k.val]? = some (.string (regV k.val 1)) := by
    intro k
    match k with
    | ⟨0, _⟩ => exact ⟨rfl, rfl⟩
    | ⟨1, _⟩ => exact ⟨rfl, rfl⟩
    | ⟨2, _⟩ => exact ⟨rfl, rfl⟩
    | ⟨3, _⟩ => exact ⟨rfl, rfl⟩
    | ⟨4, _⟩ => exact ⟨rfl, rfl⟩
    | ⟨5, _⟩ => exact ⟨rfl, rfl⟩
    | ⟨6, _⟩ => exact ⟨rfl, rfl⟩
    | ⟨7, _⟩ => exact ⟨rfl, rfl⟩
    | ⟨k + 8, h⟩ => exact absurd h (by omega)
  have := this ⟨n, h⟩
  refine ⟨?_, ?_⟩
  · rw [World.cell?_alloc_lt _ _ _ (by simp)]
    simpa using this.1
  · have e : v.heap.size + 1 = (v.alloc (.cells #[.string ⟨#[114, 97, 120]⟩, .string ⟨#[114, 99, 120]⟩, .string ⟨#[114, 100, 120]⟩, .string ⟨#[114, 98, 120]⟩, .string ⟨#[114, 115, 112]⟩, .string ⟨#[114, 98, 112]⟩, .string ⟨#[114, 115, 105]⟩, .string ⟨#[114, 100, 105]⟩] 9)).heap.size := by simp
    rw [e]
    simpa using this.2

theorem low_four (n : Nat) (h : n < 8) : regV n 4 = ⟨#[101]⟩ ++ (regV n 8).extract 1 3 ∧ (regV n 8).size = 3 := by
  have : ∀ k : Fin 8, regV k.val 4 = ⟨#[101]⟩ ++ (regV k.val 8).extract 1 3 ∧ (regV k.val 8).size = 3 := by
    intro k
    match k with
    | ⟨0, _⟩ => exact ⟨rfl, rfl⟩
    | ⟨1, _⟩ => exact ⟨rfl, rfl⟩
    | ⟨2, _⟩ => exact ⟨rfl, rfl⟩
    | ⟨3, _⟩ => exact ⟨rfl, rfl⟩
    | ⟨4, _⟩ => exact ⟨rfl, rfl⟩
    | ⟨5, _⟩ => exact ⟨rfl, rfl⟩
    | ⟨6, _⟩ => exact ⟨rfl, rfl⟩
    | ⟨7, _⟩ => exact ⟨rfl, rfl⟩
    | ⟨k + 8, h⟩ => exact absurd h (by omega)
  exact this ⟨n, h⟩

set_option maxHeartbeats 2000000 in
theorem refReg_low (r s : Int) (w : World) (h0 : 0 ≤ r) (h1 : r ≤ 7) (hs : s = 1 ∨ s = 4 ∨ s = 8) :
    Calls Tryd.prog 22 #[.int .i64 r, .int .i64 s] w fun e w' => e = .returned (.string (regV r s)) ∧ Below w.heap.size w w' := by
  obtain ⟨n, rfl⟩ := Int.eq_ofNat_of_zero_le h0
  have hn : n < 8 := by omega
  have T8 := (low_at n hn w).1
  have T1 := (low_at n hn w).2
  obtain ⟨h4, hz⟩ := low_four n hn
  have H4 := hid h4
  clear h0 h1 h4
  rcases hs with rfl | rfl | rfl
  · generalize regV n 1 = t at *
    go_enter Tryd.func22, Tryd.ntmps22
    go_wp2
    go_ret
    exact ⟨rfl, bel_alloc (bel_alloc (Below.refl _ _) _) _⟩
  · generalize regV n 4 = z at *
    generalize regV n 8 = t at *
    go_enter Tryd.func22, Tryd.ntmps22
    go_wp2
    go_ret
    exact ⟨ret_str H4.out.symm, bel_alloc (bel_alloc (Below.refl _ _) _) _⟩
  · generalize regV n 8 = t at *
    go_enter Tryd.func22, Tryd.ntmps22
    go_wp2
    go_ret
    exact ⟨rfl, bel_alloc (bel_alloc (Below.refl _ _) _) _⟩

theorem refRegister_any (r s : Int) (w : World) :
    Calls Tryd.prog 22 #[.int .i64 r, .int .i64 s] w fun e w' => e = .returned (.string (regV r s)) ∧ Below w.heap.size w w' := by
  by_cases h : (0 ≤ r ∧ r ≤ 15) ∧ (s = 1 ∨ s = 4 ∨ s = 8)
  · by_cases h8 : 8 ≤ r
    · exact refReg_high r s w h8 h.1.2 h.2
    · exact refReg_low r s w h.1.1 (by omega) h.2
  · rw [regV_no r s h]
    exact refReg_no r s w h
end Go.Proofs.YtdgejingoamfeaaDoor
