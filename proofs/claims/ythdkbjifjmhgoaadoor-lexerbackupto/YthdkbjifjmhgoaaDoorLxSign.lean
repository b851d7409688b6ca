/- The document's signs. -/
import Derived.Test.YthdkbjifjmhgoaaDoorLxQuo
namespace Go.Proofs.YthdkbjifjmhgoaaDoor
open Go.ChangeShapes Go.WideShapes Go.ChangeAt Go.RowKit
set_option linter.unusedVariables false
set_option linter.unusedSimpArgs false

def sgI (b : Bool) : Int := if b = true then 1 else 0
theorem sign_c (s : ByteArray) (h0 : 0 < s.size) : signN (lo s) = if (s[0] = 60 ∧ ((lo s).drop 1).head? = some 60) ∨ (s[0] = 62 ∧ ((lo s).drop 1).head? = some 62) then 2 else if signs.contains s[0] = true then 1 else 0 := by
  rw [lo_cons s h0]; rfl
theorem two_eq (s : ByteArray) (h1 : 1 < s.size) (c : UInt8) : ((s.extract 0 2).toList == [c, c]) = decide (s[0] = c ∧ s[1] = c) := by
  rw [ByteArray.toList_eq]
  have e : (s.extract 0 2).data.toList = [s[0], s[1]] := by
    have := lo_sub s 0 2
    rw [List.drop_zero] at this
    have e0 := lo_cons s (by omega)
    have e1 := lo_drop s 1 h1
    rw [e1] at e0
    rw [e0] at this
    exact this
  rw [e]
  by_cases a : s[0] = c
  · by_cases b : s[1] = c
    · simp [a, b]
    · simp [a, b]
  · simp [a]

set_option maxHeartbeats 8000000 in
set_option maxRecDepth 10000 in
theorem rsign_any (s : ByteArray) (w : World) (h0 : 0 < s.size) (hl : s.size ≤ 9223372036854775807) :
    Calls Tryd.prog 59 #[.string s] w fun e w' => e = .returned (.int .i64 (signN (lo s))) ∧ Below w.heap.size w w' := by
  have hN := sign_c s h0
  obtain ⟨N, hM⟩ : ∃ N, signN (lo s) = N := ⟨_, rfl⟩
  rw [hM] at hN ⊢
  have h0i : (0 : Int) < (s.size : Int) := by omega
  have hcl := s[0].toNat_lt
  clear hM
  by_cases h1 : 1 < s.size
  · have h1i : (1 : Int) < (s.size : Int) := by omega
    have h2i : (2 : Int) ≤ (s.size : Int) := by omega
    have A1 := two_eq s h1 60
    have A2 := two_eq s h1 62
    have hhd : ((lo s).drop 1).head? = some s[1] := by rw [lo_drop s 1 h1]; rfl
    rw [hhd] at hN
    simp only [Option.some.injEq] at hN
    by_cases t1 : s[0] = 60 ∧ s[1] = 60
    · rw [if_pos (.inl t1)] at hN
      rw [decide_eq_true t1] at A1
      have HG : Hid (N = 2) := ⟨hN⟩
      clear hN A2 t1 hhd
      go_enter Tryd.func59, Tryd.ntmps59
      go_wp2
      go_ret
      exact ⟨ret_int (by rw [HG.out]; rfl), Below.refl _ _⟩
    · rw [decide_eq_false t1] at A1
      by_cases t2 : s[0] = 62 ∧ s[1] = 62
      · rw [if_pos (.inr t2)] at hN
        rw [decide_eq_true t2] at A2
        have HG : Hid (N = 2) := ⟨hN⟩
        clear hN t1 t2 hhd
        go_enter Tryd.func59, Tryd.ntmps59
        go_wp2
        go_ret
        exact ⟨ret_int (by rw [HG.out]; rfl), Below.refl _ _⟩
      · rw [decide_eq_false t2] at A2
        rw [if_neg (fun h => h.elim t1 t2)] at hN
        have HG : Hid (N = if signs.contains s[0] = true then 1 else 0) := ⟨hN⟩
        clear hN t1 t2 hhd
        go_enter Tryd.func59, Tryd.ntmps59
        go_wp2
        go_loopw [4] (fun i wr => ∃ k : Nat, i = .int .i64 k ∧ k ≤ 15 ∧ Hid ((∀ c ∈ signs.take k, c ≠ s[0]) ∧ Below w.heap.size w wr)) (fun i _ => 16 - (intOf i).toNat)
        case atStart => exact ⟨0, rfl, by omega, ⟨by simp, Below.refl _ _⟩⟩
        case round =>
          obtain ⟨k, rfl, hk, HW⟩ := hrel
          by_cases hlt : k < 15
          · have hlti : (k : Int) < 15 := by omega
            have hk15 : k < (⟨#[44, 40, 41, 58, 36, 43, 45, 42, 47, 38, 126, 64, 61, 124, 94]⟩ : ByteArray).size := hlt
            have hsz : ((⟨#[44, 40, 41, 58, 36, 43, 45, 42, 47, 38, 126, 64, 61, 124, 94]⟩ : ByteArray).size : Int) = 15 := rfl
            have hks : (k : Int) < ((⟨#[44, 40, 41, 58, 36, 43, 45, 42, 47, 38, 126, 64, 61, 124, 94]⟩ : ByteArray).size : Int) := by rw [hsz]; omega
            have hgk : signs[k]'hlt = (⟨#[44, 40, 41, 58, 36, 43, 45, 42, 47, 38, 126, 64, 61, 124, 94]⟩ : ByteArray)[k]'hk15 := rfl
            cases q : ((s[0].toNat : Int) == (((⟨#[44, 40, 41, 58, 36, 43, 45, 42, 47, 38, 126, 64, 61, 124, 94]⟩ : ByteArray)[k]'hk15).toNat : Int))
            · have hc : ¬ signs[k]'hlt = s[0] := by rw [hgk]; intro h; rw [h] at q; simp at q
              have hn : Hid (∀ c ∈ signs.take (k + 1), c ≠ s[0]) := ⟨fun c h => by
                rw [List.take_succ_eq_append_getElem (show k < signs.length from hlt)] at h
                rcases List.mem_append.1 h with h | h
                · exact HW.out.1 c h
                · rw [List.mem_singleton.1 h]; exact hc⟩
              clear hc hgk
              go_wp2
              go_quiet (fail)
              go_wp2
              go_roundw
              case rel => exact ⟨k + 1, by go_num, by omega, ⟨hn.out, below_drewN HW.out.2 _⟩⟩
              case measure => simp [intOf]; omega
            · have hc : signs[k]'hlt = s[0] := by rw [hgk]; exact (UInt8.toNat_inj.1 (by have := of_decide_eq_true (p := (s[0].toNat : Int) = _) q; omega))
              have hn : Hid (signs.contains s[0] = true) := ⟨by rw [← hc]; exact List.elem_eq_true_of_mem (List.getElem_mem (show k < signs.length from hlt))⟩
              clear hc hgk
              go_wp2
              go_quiet (fail)
              go_wp2
              go_ret
              exact ⟨ret_int (by rw [HG.out, hn.out]; rfl), below_drewN HW.out.2 _⟩
          · obtain rfl : k = 15 := by omega
            have hn : Hid (signs.contains s[0] = false) := ⟨by
              cases hh : signs.contains s[0]
              · rfl
              · exact absurd rfl (HW.out.1 s[0] (by simpa [signs] using hh))⟩
            go_wp2
            go_ret
            exact ⟨ret_int (by rw [HG.out, hn.out]; rfl), HW.out.2⟩
  · have h1i : ¬ (1 : Int) < (s.size : Int) := by omega
    have hd : (lo s).drop 1 = [] := List.drop_of_length_le (by rw [lo_len]; omega)
    rw [hd] at hN
    simp only [List.head?_nil, reduceCtorEq, and_false, or_false, if_false] at hN
    have HG : Hid (N = if signs.contains s[0] = true then 1 else 0) := ⟨hN⟩
    clear hN hd
    go_enter Tryd.func59, Tryd.ntmps59
    go_wp2
    go_loopw [4] (fun i wr => ∃ k : Nat, i = .int .i64 k ∧ k ≤ 15 ∧ Hid ((∀ c ∈ signs.take k, c ≠ s[0]) ∧ Below w.heap.size w wr)) (fun i _ => 16 - (intOf i).toNat)
    case atStart => exact ⟨0, rfl, by omega, ⟨by simp, Below.refl _ _⟩⟩
    case round =>
      obtain ⟨k, rfl, hk, HW⟩ := hrel
      by_cases hlt : k < 15
      · have hlti : (k : Int) < 15 := by omega
        have hk15 : k < (⟨#[44, 40, 41, 58, 36, 43, 45, 42, 47, 38, 126, 64, 61, 124, 94]⟩ : ByteArray).size := hlt
        have hsz : ((⟨#[44, 40, 41, 58, 36, 43, 45, 42, 47, 38, 126, 64, 61, 124, 94]⟩ : ByteArray).size : Int) = 15 := rfl
        have hks : (k : Int) < ((⟨#[44, 40, 41, 58, 36, 43, 45, 42, 47, 38, 126, 64, 61, 124, 94]⟩ : ByteArray).size : Int) := by rw [hsz]; omega
        have hgk : signs[k]'hlt = (⟨#[44, 40, 41, 58, 36, 43, 45, 42, 47, 38, 126, 64, 61, 124, 94]⟩ : ByteArray)[k]'hk15 := rfl
        cases q : ((s[0].toNat : Int) == (((⟨#[44, 40, 41, 58, 36, 43, 45, 42, 47, 38, 126, 64, 61, 124, 94]⟩ : ByteArray)[k]'hk15).toNat : Int))
        · have hc : ¬ signs[k]'hlt = s[0] := by rw [hgk]; intro h; rw [h] at q; simp at q
          have hn : Hid (∀ c ∈ signs.take (k + 1), c ≠ s[0]) := ⟨fun c h => by
            rw [List.take_succ_eq_append_getElem (show k < signs.length from hlt)] at h
            rcases List.mem_append.1 h with h | h
            · exact HW.out.1 c h
            · rw [List.mem_singleton.1 h]; exact hc⟩
          clear hc hgk
          go_wp2
          go_quiet (fail)
          go_wp2
          go_roundw
          case rel => exact ⟨k + 1, by go_num, by omega, ⟨hn.out, below_drewN HW.out.2 _⟩⟩
          case measure => simp [intOf]; omega
        · have hc : signs[k]'hlt = s[0] := by rw [hgk]; exact (UInt8.toNat_inj.1 (by have := of_decide_eq_true (p := (s[0].toNat : Int) = _) q; omega))
          have hn : Hid (signs.contains s[0] = true) := ⟨by rw [← hc]; exact List.elem_eq_true_of_mem (List.getElem_mem (show k < signs.length from hlt))⟩
          clear hc hgk
          go_wp2
          go_quiet (fail)
          go_wp2
          go_ret
          exact ⟨ret_int (by rw [HG.out, hn.out]; rfl), below_drewN HW.out.2 _⟩
      · obtain rfl : k = 15 := by omega
        have hn : Hid (signs.contains s[0] = false) := ⟨by
          cases hh : signs.contains s[0]
          · rfl
          · exact absurd rfl (HW.out.1 s[0] (by simpa [signs] using hh))⟩
        go_wp2
        go_ret
        exact ⟨ret_int (by rw [HG.out, hn.out]; rfl), HW.out.2⟩
end Go.Proofs.YthdkbjifjmhgoaaDoor
