/- The contracts on names: IndexByte, isName, placeOf. -/
import Derived.Test.YtdgejingoamfeaaDoorSmall
import Derived.Lib.Bytealg
import Derived.Laws.StandIn
namespace Go.Proofs.YtdgejingoamfeaaDoor
open Go.ChangeShapes Go.WideShapes Go.ChangeAt Go.RowKit
set_option linter.unusedVariables false

def barL : List UInt8 := [40, 41, 44, 64, 36, 37, 42, 35, 59, 58, 34, 39]
theorem bar_all : ∀ n : Fin 256, barL.contains (UInt8.ofNat n.val) = decide (0 ≤ Lib.indexByte barL (UInt8.ofNat n.val)) := by decide +kernel
theorem bar_eq (c : UInt8) : barL.contains c = decide (0 ≤ Lib.indexByte barL c) := by
  have h := bar_all ⟨c.toNat, c.toNat_lt⟩
  simpa using h

set_option maxRecDepth 100000 in
theorem indexByte_any (s : ByteArray) (c : Int) (w : World) :
    Calls Tryd.prog 102 #[.string s, .int .u8 c] w fun e w' => e = .returned (.int .i64 (Lib.indexByte s.data.toList c.toNat.toUInt8)) ∧ w' = w := by
  have R := Lib.run_indexByteString (P := Tryd.prog) s c w
  have K : Calls Tryd.prog 107 #[.string s, .int .u8 c] w fun e w' => e = .returned (.int .i64 (Lib.indexByte s.data.toList c.toNat.toUInt8)) ∧ w' = w := by
    go_enter Tryd.func107, Tryd.ntmps107
    go_wp2
    rw [run_callFunc_extern Tryd.func113 (by kernel_rfl) (by kernel_rfl) (by kernel_rfl) (e := Extern.BytealgIndexByte.indexByte) (by kernel_rfl), R]
    simp only [Result.andThen]
    rw [Oper.upon_value]
    go_wp2
    go_ret
    exact ⟨rfl, rfl⟩
  go_enter Tryd.func102, Tryd.ntmps102
  go_wp2_with (go_at_call 107; refine K.mono ?_; rintro e w1 ⟨rfl, hw⟩; subst w1)
  go_ret
  exact ⟨rfl, rfl⟩

/-- All bytes up to a place may be. -/
theorem all_take_succ (l : List UInt8) (k : Nat) (h : k < l.length) : (l.take (k + 1)).all byteB = ((l.take k).all byteB && byteB l[k]) := by
  rw [List.take_succ_eq_append_getElem h, List.all_append]
  simp

theorem isName_0 (s : ByteArray) (w : World) (h : s.size < 1 ∨ 255 < s.size) :
    Calls Tryd.prog 98 #[.string s] w fun e w' => e = .returned (.bool false) ∧ w' = w := by
  rcases h with h | h
  · go_enter Tryd.func98, Tryd.ntmps98
    go_wp2
    go_ret
    exact ⟨rfl, rfl⟩
  · have h1 : ¬ s.size < 1 := by omega
    go_enter Tryd.func98, Tryd.ntmps98
    go_wp2
    go_ret
    exact ⟨rfl, rfl⟩

theorem isName_1 (s : ByteArray) (w : World) (h : 1 ≤ s.size) (h' : s.size ≤ 255) :
    Calls Tryd.prog 98 #[.string s] w fun e w' => e = .returned (.bool (s.data.toList.all byteB)) ∧ w' = w := by
  have hl : s.data.toList.length = s.size := by simp
  obtain ⟨r, HR⟩ : ∃ r, Hid (s.data.toList.all byteB = r) := ⟨_, ⟨rfl⟩⟩
  rw [HR.out]
  go_enter Tryd.func98, Tryd.ntmps98
  go_wp2
  go_loop [14] (fun i => ∃ k : Nat, k ≤ s.size ∧ i = .int .i64 k ∧ Hid ((s.data.toList.take k).all byteB = true)) (fun i => s.size - (intOf i).toNat)
  case atStart => exact ⟨0, by omega, rfl, ⟨by simp⟩⟩
  case round =>
    obtain ⟨k, hk, rfl, hall⟩ := hrel
    by_cases hlt : k < s.size
    · have hget : s.data.toList[k]'(by omega) = s[k] := by rw [Array.getElem_toList]; rfl
      have hs := all_take_succ s.data.toList k (by omega)
      rw [hget, hall.out, Bool.true_and] at hs
      have hx : byteB s[k] = false → s.data.toList.all byteB = false := fun hb => by
        rw [List.all_eq_false]; exact ⟨s.data.toList[k]'(by omega), List.getElem_mem .., by rw [hget, hb]; simp⟩
      have hbar := bar_eq s[k]
      have hbyte : byteB s[k] = !(decide (s[k].toNat < 33) || decide (126 < s[k].toNat) || decide (0 ≤ Lib.indexByte barL s[k])) := by rw [← hbar]; rfl
      have HS : Hid (byteB s[k] = false → s.data.toList.all byteB = false) := ⟨hx⟩
      have HT : Hid ((s.data.toList.take (k + 1)).all byteB = byteB s[k]) := ⟨hs⟩
      have HI : ∃ ix, ix = Lib.indexByte barL s[k] ∧ ∀ v, Calls Tryd.prog 102 #[.string ⟨#[40, 41, 44, 64, 36, 37, 42, 35, 59, 58, 34, 39]⟩, .int .u8 (s[k].toNat : Int)] v fun e w' => e = .returned (.int .i64 ix) ∧ w' = v := ⟨_, rfl, fun v => by
        have := indexByte_any ⟨#[40, 41, 44, 64, 36, 37, 42, 35, 59, 58, 34, 39]⟩ (s[k].toNat : Int) v
        rw [show ((s[k].toNat : Int)).toNat.toUInt8 = s[k] by simp] at this; exact this⟩
      obtain ⟨ix, hix, HI⟩ := HI
      rw [← hix] at hbyte
      clear hx hs hbar hget hall hix
      by_cases g1 : s[k].toNat < 33
      · have hb : Hid (byteB s[k] = false) := ⟨by simp [hbyte, g1]⟩
        clear hbyte
        go_wp2
        go_ret
        exact ⟨ret_bool (HR.out ▸ (HS.out hb.out).symm), rfl⟩
      · by_cases g2 : 126 < s[k].toNat
        · have hb : Hid (byteB s[k] = false) := ⟨by simp [hbyte, g2]⟩
          clear hbyte
          go_wp2
          go_ret
          exact ⟨ret_bool (HR.out ▸ (HS.out hb.out).symm), rfl⟩
        · by_cases g3 : 0 ≤ ix
          · have hb : Hid (byteB s[k] = false) := ⟨by simp [hbyte, g3]⟩
            clear hbyte
            go_wp2_with (go_at_call 102; refine (HI _).mono ?_; rintro e w1 ⟨rfl, hw⟩; subst w1)
            go_ret
            exact ⟨ret_bool (HR.out ▸ (HS.out hb.out).symm), rfl⟩
          · have hb : Hid (byteB s[k] = true) := ⟨by rw [hbyte, decide_eq_false g1, decide_eq_false g2, decide_eq_false g3]; rfl⟩
            clear hbyte
            go_wp2_with (go_at_call 102; refine (HI _).mono ?_; rintro e w1 ⟨rfl, hw⟩; subst w1)
            go_round
            case rel => exact ⟨k + 1, hlt, by go_num, ⟨by rw [HT.out, hb.out]⟩⟩
            case measure => simp [intOf]; omega
    · have hk' : k = s.size := by omega
      subst hk'
      have he : Hid (s.data.toList.all byteB = true) := ⟨by
        have := hall.out
        rwa [List.take_of_length_le (by omega)] at this⟩
      go_wp2
      go_ret
      exact ⟨ret_bool (HR.out ▸ he.out.symm), rfl⟩

theorem isName_any (s : ByteArray) (w : World) :
    Calls Tryd.prog 98 #[.string s] w fun e w' => e = .returned (.bool (isNameB s)) ∧ w' = w := by
  have hl : s.data.toList.length = s.size := by simp
  by_cases h : s.size < 1 ∨ 255 < s.size
  · have e : isNameB s = false := by
      unfold isNameB; rw [hl]
      rcases h with h | h
      · simp [show ¬ 1 ≤ s.size by omega]
      · simp [show ¬ s.size ≤ 255 by omega]
    rw [e]; exact isName_0 s w h
  · have e : isNameB s = s.data.toList.all byteB := by
      unfold isNameB; rw [hl]
      simp [show 1 ≤ s.size by omega, show s.size ≤ 255 by omega]
    rw [e]; exact isName_1 s w (by omega) (by omega)
end Go.Proofs.YtdgejingoamfeaaDoor
