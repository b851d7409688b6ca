/- The contracts of hasZero, isTooLong and of slices.ContainsFunc over names. -/
import Derived.Test.YtojiomkinhnodaaSPlain
import Derived.Lib.BytesEntry
import Derived.Laws.StandIn
import Derived.Shelf.Abstract
namespace Go.Proofs.Ytojiomkinhnodaa
open Go.ChangeShapes Go.WideShapes Go.ChangeAt Go.RowKit
set_option linter.unusedVariables false

/-- Has a name a byte 0? -/
def zeroB (s : ByteArray) : Bool := s.data.toList.any (· == 0)
def longB (s : ByteArray) : Bool := decide (255 < s.size)

theorem index_zero : ∀ (l : List UInt8), decide (0 ≤ Lib.indexByte l ((0 : Int).toNat.toUInt8)) = l.any (· == 0)
  | [] => rfl
  | x :: l => by
    have h1 := index_zero l
    have h2 := Lib.indexByte_ge l ((0 : Int).toNat.toUInt8)
    show decide (0 ≤ (if (x == (0 : Int).toNat.toUInt8) = true then (0 : Int) else if (Lib.indexByte l ((0 : Int).toNat.toUInt8) == -1) = true then -1 else Lib.indexByte l ((0 : Int).toNat.toUInt8) + 1)) = _
    rw [List.any_cons, ← h1]
    have e0 : (0 : Int).toNat.toUInt8 = (0 : UInt8) := rfl
    rw [e0] at *
    cases hx : (x == (0 : UInt8))
    · simp only [Bool.false_or, Bool.false_eq_true, if_false]
      by_cases hm : Lib.indexByte l (0 : UInt8) = -1
      · simp [hm]
      · have : (Lib.indexByte l (0 : UInt8) == -1) = false := by simpa using hm
        rw [this]
        simp only [Bool.false_eq_true, if_false, decide_eq_decide]
        omega
    · simp

set_option maxRecDepth 10000 in
theorem indexByteS_any (s : ByteArray) (w : World) :
    Calls Try.prog 103 #[.string s, .int .u8 0] w fun e w' => e = .returned (.int .i64 (Lib.indexByte s.data.toList ((0 : Int).toNat.toUInt8))) ∧ w' = w := by
  have R := Lib.run_indexByteString (P := Try.prog) s 0 w
  go_enter Try.func103, Try.ntmps103
  go_wp2
  rw [run_callFunc_extern Try.func105 (by kernel_rfl) (by kernel_rfl) (by kernel_rfl) (e := Extern.BytealgIndexByte.indexByte) (by kernel_rfl), R]
  simp only [Result.andThen]
  rw [Oper.upon_value]
  go_wp2
  go_ret
  exact ⟨rfl, rfl⟩

set_option maxRecDepth 10000 in
theorem indexByteT_any (s : ByteArray) (w : World) :
    Calls Try.prog 94 #[.string s, .int .u8 0] w fun e w' => e = .returned (.int .i64 (Lib.indexByte s.data.toList ((0 : Int).toNat.toUInt8))) ∧ w' = w := by
  go_enter Try.func94, Try.ntmps94
  go_wp2_with (go_at_call 103; refine (indexByteS_any _ _).mono ?_; rintro e w' ⟨rfl, rfl⟩)
  go_ret
  exact ⟨rfl, rfl⟩

theorem hasZero_any (s : ByteArray) (w : World) :
    Calls Try.prog 77 #[.string s] w fun e w' => e = .returned (.bool (zeroB s)) ∧ w' = w := by
  unfold zeroB
  rw [← index_zero s.data.toList]
  go_enter Try.func77, Try.ntmps77
  go_wp2_with (go_at_call 94; refine (indexByteT_any _ _).mono ?_; rintro e w' ⟨rfl, rfl⟩)
  go_ret
  exact ⟨rfl, rfl⟩

theorem isTooLong_any (s : ByteArray) (w : World) :
    Calls Try.prog 76 #[.string s] w fun e w' => e = .returned (.bool (longB s)) ∧ w' = w := by
  unfold longB
  go_enter Try.func76, Try.ntmps76
  go_wp2
  all_goals
    go_ret
    exact ⟨ret_bool (by simp [*]; try omega), rfl⟩

/-- Names that lie in memory. -/
def Strs (w : World) (ao : Option Addr) (l : List ByteArray) : Prop :=
  l = [] ∨ ∃ b off, ao = some ⟨b, off, none⟩ ∧ ∀ i, i < l.length → w.cell? ⟨b, off + i, none⟩ = some (.string (l.getD i ByteArray.empty))

theorem Strs.below {w w' : World} {ao : Option Addr} {l : List ByteArray} (h : Strs w ao l) {B : Nat} (hb : Below B w w') (hB : w.heap.size ≤ B) : Strs w' ao l := by
  rcases h with h | ⟨b, off, e, h⟩
  · exact .inl h
  · refine .inr ⟨b, off, e, fun i hi => ?_⟩
    have h1 := h i hi
    rw [hb.cell (p := ⟨b, off + i, none⟩) (Nat.lt_of_lt_of_le (World.block_lt_of_cell? w ⟨b, off + i, none⟩ h1) hB)]
    exact h1

theorem enters_hasZero : ∀ args w, (callFunc 77 args).run Try.prog w = .ok (.enter 77 args) w := enters_of Try.func77 (by kernel_rfl) rfl
theorem enters_isTooLong : ∀ args w, (callFunc 76 args).run Try.prog w = .ok (.enter 76 args) w := enters_of Try.func76 (by kernel_rfl) rfl

theorem indexFunc_any (J : Nat) (p : ByteArray → Bool) (ao : Option Addr) (c : Nat) (l : List ByteArray) (w : World) (hl : l.length ≤ 9223372036854775806) (hr : Strs w ao l)
    (hent : ∀ args w, (callFunc J args).run Try.prog w = .ok (.enter J args) w)
    (hop : ∀ s w, Calls Try.prog J #[.string s] w fun e w' => e = .returned (.bool (p s)) ∧ w' = w) :
    Calls Try.prog 93 #[.slice ao l.length c, .func (.func J) #[] #[]] w fun e w' => ∃ i : Int, e = .returned (.int .i64 i) ∧ decide (0 ≤ i) = l.any p ∧ w' = w := by
  have HO : Hid (∀ s w, Calls Try.prog J #[.string s] w fun e w' => e = .returned (.bool (p s)) ∧ w' = w) := ⟨hop⟩
  have HR : Hid (Strs w ao l) := ⟨hr⟩
  clear hop hr
  go_enter Try.func93, Try.ntmps93
  go_wp2
  go_loop [8] (fun i => ∃ k : Nat, k ≤ l.length ∧ i = .int .i64 k ∧ Hid ((l.take k).any p = false)) (fun i => l.length - (intOf i).toNat)
  case atStart => exact ⟨0, by omega, rfl, ⟨by simp⟩⟩
  case round =>
    obtain ⟨k, hk, rfl, hall⟩ := hrel
    by_cases hlt : k < l.length
    · obtain ⟨b, off, rfl, hcell⟩ : ∃ b off, ao = some ⟨b, off, none⟩ ∧ ∀ i, i < l.length → w.cell? ⟨b, off + i, none⟩ = some (.string (l.getD i ByteArray.empty)) := by
        rcases HR.out with h | h
        · subst h; simp at hlt
        · exact h
      have hcx := hcell k hlt
      have hget : l.getD k ByteArray.empty = l[k] := by simp [hlt]
      rw [hget] at hcx
      obtain ⟨q, hq⟩ : ∃ q, p l[k] = q := ⟨_, rfl⟩
      have HO1 := HO.out l[k]
      rw [hq] at HO1
      have HH : Hid (∀ w, Calls Try.prog J #[.string l[k]] w fun e w' => e = .returned (.bool q) ∧ w' = w) := ⟨HO1⟩
      have HQ : Hid (p l[k] = q) := ⟨hq⟩
      clear HO1 hq hcell hget HO
      cases q
      · go_wp2_with (go_at_fn J; refine (HH.out _).mono ?_; rintro e w' ⟨rfl, rfl⟩)
        go_round
        case rel =>
          refine ⟨k + 1, hlt, by go_num, ⟨?_⟩⟩
          rw [List.take_succ_eq_append_getElem hlt, List.any_append, hall.out]
          simp [HQ.out]
        case measure => simp [intOf]; omega
      · go_wp2_with (go_at_fn J; refine (HH.out _).mono ?_; rintro e w' ⟨rfl, rfl⟩)
        go_ret
        refine ⟨_, rfl, ?_, rfl⟩
        have : l.any p = true := List.any_eq_true.2 ⟨l[k], List.getElem_mem hlt, HQ.out⟩
        rw [this]
        simp
    · obtain rfl : k = l.length := by omega
      have he := hall.out
      rw [List.take_of_length_le (Nat.le_refl _)] at he
      have HE : Hid (l.any p = false) := ⟨he⟩
      clear he
      go_wp2
      go_ret
      exact ⟨_, rfl, by rw [HE.out]; rfl, rfl⟩

theorem containsFunc_any (J : Nat) (p : ByteArray → Bool) (ao : Option Addr) (c : Nat) (l : List ByteArray) (w : World) (hl : l.length ≤ 9223372036854775806) (hr : Strs w ao l)
    (hent : ∀ args w, (callFunc J args).run Try.prog w = .ok (.enter J args) w)
    (hop : ∀ s w, Calls Try.prog J #[.string s] w fun e w' => e = .returned (.bool (p s)) ∧ w' = w) :
    Calls Try.prog 74 #[.slice ao l.length c, .func (.func J) #[] #[]] w fun e w' => e = .returned (.bool (l.any p)) ∧ w' = w := by
  have I := indexFunc_any J p ao c l w hl hr hent hop
  have HI : Hid (Calls Try.prog 93 #[.slice ao l.length c, .func (.func J) #[] #[]] w fun e w' => ∃ i : Int, e = .returned (.int .i64 i) ∧ decide (0 ≤ i) = l.any p ∧ w' = w) := ⟨I⟩
  clear I hr hop hent
  obtain ⟨r, HRR⟩ : ∃ r, Hid (l.any p = r) := ⟨_, ⟨rfl⟩⟩
  rw [HRR.out]
  go_enter Try.func74, Try.ntmps74
  go_wp2_with (go_at_call 93; refine HI.out.mono ?_; rintro e w' ⟨i, rfl, hi, hw'⟩; subst w'; rw [HRR.out] at hi)
  go_ret
  exact ⟨rfl, rfl⟩
end Go.Proofs.Ytojiomkinhnodaa
