/- The document's number. -/
import Derived.Test.YthdkbjifjmhgoaaDoorLxNum
import Derived.Test.YthdkbjifjmhgoaaDoorLPlain
namespace Go.Proofs.YthdkbjifjmhgoaaDoor
open Go.ChangeShapes Go.WideShapes Go.ChangeAt Go.RowKit
set_option linter.unusedVariables false
set_option linter.unusedSimpArgs false

theorem ret3_no (v n : Int) {M : Option (Int × Nat)} (h : M = none) {w w' : World} (hw : Below w.heap.size w w') : Num3 M (.returned (.tuple #[.int .i64 v, .int .i64 n, .bool false])) ∧ Below w.heap.size w w' := by
  subst h; exact ⟨⟨v, n, rfl⟩, hw⟩
theorem ret3_yes (v : Int) (n : Nat) {u : Int} {M : Option (Int × Nat)} (h : M = some (v, n)) (hu : u = wrap64 v) {w w' : World} (hw : Below w.heap.size w w') : Num3 M (.returned (.tuple #[.int .i64 u, .int .i64 n, .bool true])) ∧ Below w.heap.size w w' := by
  subst h; subst hu; exact ⟨rfl, hw⟩

theorem join16 (x d : Int) (hx0 : 0 ≤ x) (hx1 : x < 1152921504606846976) (hd0 : 0 ≤ d) (hd1 : d < 16) : bits .or .u64 (x * 16) d = 16 * x + d := by
  have := join_u64 4 (by omega) d x hd0 (by omega)
  rw [show (2 : Int) ^ 4 = 16 from by decide] at this
  rw [or_comm_bits] at this
  rw [Int.emod_eq_of_lt (by omega) (by omega), Int.emod_eq_of_lt (by omega) (by omega), Int.emod_eq_of_lt (by omega) (by omega)] at this
  rw [this]; omega

set_option maxHeartbeats 4000000 in
set_option maxRecDepth 10000 in
theorem rnumber_q (s : ByteArray) (w : World) (h0 : 0 < s.size) (hl : s.size ≤ 9223372036854775807) (hq : s[0] = 39) :
    Calls Tryd.prog 54 #[.string s] w fun e w' => Num3 (numM (lo s)) e ∧ Below w.heap.size w w' := by
  obtain ⟨M, hM⟩ : ∃ M, numM (lo s) = M := ⟨_, rfl⟩
  obtain ⟨N1, N2⟩ := num_q s h0 hq M hM
  rw [hM]
  have q0 : ((s[0].toNat : Int) == 39) = true := by rw [hq]; rfl
  clear hM
  by_cases h3 : s.size < 3
  · have hn : Hid (M = none) := ⟨N1 h3⟩
    clear N1 N2 hq
    go_enter Tryd.func54, Tryd.ntmps54
    go_wp2
    go_ret3
    exact ret3_no _ _ hn.out (Below.refl _ _)
  · have h3' : 3 ≤ s.size := by omega
    have N := N2 h3'
    have b1 : 1 < s.size := by omega
    have b2 : 2 < s.size := by omega
    have hc := s[1].toNat_lt
    have hzz : zOf s[1] = (s[1].toNat : Int) := rfl
    rw [hzz] at N
    clear N1 N2 hzz
    by_cases g1 : (s[1].toNat : Int) < 33
    · have hn : Hid (M = none) := ⟨by rw [N, if_neg (by omega)]⟩
      clear N hq
      go_enter Tryd.func54, Tryd.ntmps54
      go_wp2
      go_ret3
      exact ret3_no _ _ hn.out (Below.refl _ _)
    · by_cases g2 : 126 < (s[1].toNat : Int)
      · have hn : Hid (M = none) := ⟨by rw [N, if_neg (by omega)]⟩
        clear N hq
        go_enter Tryd.func54, Tryd.ntmps54
        go_wp2
        go_ret3
        exact ret3_no _ _ hn.out (Below.refl _ _)
      · cases g3 : ((s[2].toNat : Int) != 39)
        · have e3 : s[2] = 39 := by
            have h39 : s[2].toNat = 39 := by
              have := (bne_eq_false_iff_eq.1 g3); omega
            exact UInt8.toNat_inj.1 (by rw [h39]; rfl)
          by_cases h4 : s.size = 3
          · have hn : Hid (M = some ((s[1].toNat : Int), 3)) := ⟨by
              have hdr : (lo s).drop 3 = [] := List.drop_of_length_le (by rw [lo_len]; omega)
              rw [N, if_pos ⟨by omega, by omega, e3, by rw [hdr]; rfl⟩]⟩
            have h4b : ((s.size : Int) == 3) = true := by rw [h4]; rfl
            have hw1 : IntKind.i64.wrap (s[1].toNat : Int) = (s[1].toNat : Int) := by rw [IntKind.wrap_i64]; omega
            clear N hq e3
            go_enter Tryd.func54, Tryd.ntmps54
            go_wp2
            go_quiet (fail)
            go_wp2
            go_ret3
            exact ret3_yes _ 3 hn.out (by unfold wrap64; omega) (below_drewN (Below.refl _ _) _)
          · have b3 : 3 < s.size := by omega
            have b3i : (3 : Int) < (s.size : Int) := by omega
            have e4 : (((lo s).drop 3).head?.map isIn).getD false = isIn s[3] := by rw [lo_drop s 3 b3]; rfl
            rw [e4] at N
            have h4b : ((s.size : Int) == 3) = false := by rw [beq_eq_false_iff_ne]; omega
            have HI : Hid (∀ w, Calls Tryd.prog 57 #[.int .u8 (s[3].toNat : Int)] w fun e w' => e = .returned (.bool (isIn s[3])) ∧ w' = w) := ⟨fun w => rinside_any _ w⟩
            have hw1 : IntKind.i64.wrap (s[1].toNat : Int) = (s[1].toNat : Int) := by rw [IntKind.wrap_i64]; omega
            cases hi : isIn s[3]
            · rw [hi] at N HI
              have hn : Hid (M = some ((s[1].toNat : Int), 3)) := ⟨by rw [N, if_pos ⟨by omega, by omega, e3, rfl⟩]⟩
              clear N hq e3 e4
              go_enter Tryd.func54, Tryd.ntmps54
              go_wp2
              go_quiet (first | (go_at_call 57; exact Calls.quiet_of_same (HI.out _)))
              go_wp2
              go_ret3
              exact ret3_yes _ 3 hn.out (by unfold wrap64; omega) (below_drewN (Below.refl _ _) _)
            · rw [hi] at N HI
              have hn : Hid (M = none) := ⟨by rw [N, if_neg (by simp)]⟩
              clear N hq e3 e4
              go_enter Tryd.func54, Tryd.ntmps54
              go_wp2
              go_quiet (first | (go_at_call 57; exact Calls.quiet_of_same (HI.out _)))
              go_wp2
              go_ret3
              exact ret3_no _ _ hn.out (below_drewN (Below.refl _ _) _)
        · have hn : Hid (M = none) := ⟨by
            rw [N, if_neg]
            rintro ⟨_, _, e, _⟩
            rw [e] at g3
            cases g3⟩
          clear N hq
          go_enter Tryd.func54, Tryd.ntmps54
          go_wp2
          go_ret3
          exact ret3_no _ _ hn.out (Below.refl _ _)
end Go.Proofs.YthdkbjifjmhgoaaDoor
