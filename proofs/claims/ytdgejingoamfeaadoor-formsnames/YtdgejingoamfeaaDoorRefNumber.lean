/- The document's Number. -/
import Derived.Test.YtdgejingoamfeaaDoorRefReg
import Derived.Test.YtdgejingoamfeaaDoorRefMem
import Derived.Test.YtdgejingoamfeaaDoorBackWalk
namespace Go.Proofs.YtdgejingoamfeaaDoor
open Go.ChangeShapes Go.WideShapes Go.ChangeAt Go.RowKit Go.Maps
set_option linter.unusedVariables false
set_option linter.unusedSimpArgs false

def sz3 (a : Nat) : Int := if a = 0 then 1 else if a = 1 then 4 else 8
theorem reg_some (k a : Nat) (hk : k < 16) (ha : a < 3) : (regV k (sz3 a)).toList.isEmpty = false := by
  have : ∀ (i : Fin 16) (j : Fin 3), (regV (i.val : Int) (sz3 j.val)).data.toList.isEmpty = false := by decide +kernel
  rw [ByteArray.toList_eq]
  exact this ⟨k, hk⟩ ⟨a, ha⟩
theorem reg_all : ∀ i : Fin 48, ∃ j : Fin 3, regL.getD i.val ⟨#[]⟩ = regV ((i.val / 3 : Nat) : Int) (sz3 j.val) := by decide +kernel

theorem num_none {t : ByteArray} (h : ∀ k a : Nat, k < 16 → a < 3 → regV k (sz3 a) ≠ t) : numV t = (0, 0, false) := by
  unfold numV
  cases hf : regL.findIdx? (fun x => decide (x = t)) with
  | none => rfl
  | some i =>
    exfalso
    obtain ⟨hi, hx, _⟩ := List.findIdx?_eq_some_iff_getElem.1 hf
    have hi48 : i < 48 := by simpa [regL] using hi
    obtain ⟨j, hj⟩ := reg_all ⟨i, hi48⟩
    have hg : regL.getD i ⟨#[]⟩ = t := by rw [List.getD, List.getElem?_eq_getElem hi]; simpa using hx
    simp only [hg] at hj
    exact h (i / 3) j.val (by omega) j.isLt hj.symm

theorem eq_of_list {s t : ByteArray} (h : (s.toList == t.toList) = true) : s = t := by
  rw [beq_iff_eq, ByteArray.toList_eq, ByteArray.toList_eq] at h
  exact ByteArray.ext (Array.toList_inj.1 h)
theorem ne_of_list {s t : ByteArray} (h : (s.toList == t.toList) = false) : s ≠ t := by
  rintro rfl
  simp at h

theorem ints_new3 (w : World) (t : TypeId) : Ints (w.alloc (.cells #[.int .i64 1, .int .i64 4, .int .i64 8] t)) w.heap.size [1, 4, 8] := by
  intro j hj
  have : j = 0 ∨ j = 1 ∨ j = 2 := by
    have : j < 3 := hj
    omega
  rcases this with rfl | rfl | rfl <;> simp
theorem ints_new4 (w : World) (t : TypeId) : Ints (w.alloc (.cells #[.int .i64 0, .int .i64 1, .int .i64 4, .int .i64 8] t)) w.heap.size [0, 1, 4, 8] := by
  intro j hj
  have : j = 0 ∨ j = 1 ∨ j = 2 ∨ j = 3 := by
    have : j < 4 := hj
    omega
  rcases this with rfl | rfl | rfl | rfl <;> simp

set_option maxHeartbeats 2000000 in
set_option maxRecDepth 4000 in
theorem refNumber_any (t : ByteArray) (w : World) :
    Calls Tryd.prog 18 #[.string t] w fun e w' => e = .returned (.tuple #[.int .i64 (numV t).1, .int .i64 (numV t).2.1, .bool (numV t).2.2]) ∧ Below w.heap.size w w' := by
  have HC : Hid (∀ (r s : Int) v, Calls Tryd.prog 22 #[.int .i64 r, .int .i64 s] v fun e w' => e = .returned (.string (regV r s)) ∧ Below v.heap.size v w') := ⟨refRegister_any⟩
  rcases hN : numV t with ⟨a0, b0, q0⟩
  have HN := hid2 hN
  dsimp only
  clear hN
  go_enter Tryd.func18, Tryd.ntmps18
  go_wp2
  go_loopw [6] (fun i wr => ∃ k : Nat, k ≤ 16 ∧ i = .int .i64 k ∧ Hid (Ints wr w.heap.size [1, 4, 8] ∧ (∀ j a : Nat, j < k → a < 3 → regV j (sz3 a) ≠ t) ∧ Below w.heap.size w wr)) (fun i _ => 16 - (intOf i).toNat)
  case atStart => exact ⟨0, by omega, rfl, ⟨ints_new3 w _, fun j a hj => by omega, bel_alloc (Below.refl _ _) _⟩⟩
  case round =>
    obtain ⟨k, hk, rfl, HX⟩ := hrel
    by_cases hlt : k < 16
    · have hk3 : (k : Int) < 16 := by omega
      go_wp2
      go_loopw [7] (fun i wr => ∃ a : Nat, a ≤ 3 ∧ i = .int .i64 a ∧ Hid (Ints wr w.heap.size [1, 4, 8] ∧ (∀ j b : Nat, j < k → b < 3 → regV j (sz3 b) ≠ t) ∧ (∀ b : Nat, b < a → regV k (sz3 b) ≠ t) ∧ Below w.heap.size w wr)) (fun i _ => 3 - (intOf i).toNat)
      case atStart => exact ⟨0, by omega, rfl, ⟨HX.out.1, HX.out.2.1, fun b hb => by omega, HX.out.2.2⟩⟩
      case round =>
        clear HX
        obtain ⟨a, ha, rfl, HX⟩ := hrel
        by_cases ha3 : a < 3
        · have cz := HX.out.1 a (by simpa using ha3)
          obtain ⟨z, hz⟩ : ∃ z, sz3 a = z := ⟨_, rfl⟩
          have hze : ([1, 4, 8] : List Int).getD a 0 = z := by
            rw [← hz]
            have : a = 0 ∨ a = 1 ∨ a = 2 := by omega
            rcases this with rfl | rfl | rfl <;> rfl
          rw [hze] at cz
          have HZ := hid2 hz
          have hai : (a : Int) < 3 := by omega
          obtain ⟨g, hg⟩ : ∃ g, regV k z = g := ⟨_, rfl⟩
          have HG : Hid (regV k (sz3 a) = g) := ⟨by rw [hz]; exact hg⟩
          have CR := hid2 (HC.out k z)
          rw [hg] at CR
          obtain ⟨q, hq⟩ : ∃ q, (g.toList == t.toList) = q := ⟨_, rfl⟩
          clear hz hze hg
          rcases q with _ | _
          · have HQ := hid2 (ne_of_list hq)
            go_wp2_with (go_at_call 22; refine (CR.out _).mono ?_; rintro e u ⟨rfl, hb⟩)
            go_roundw
            case rel => exact ⟨a + 1, by omega, by go_num, ⟨HX.out.1.bel hb, HX.out.2.1, fun b hb' => by
              rcases Nat.lt_succ_iff_lt_or_eq.1 hb' with h | h
              · exact HX.out.2.2.1 b h
              · subst h; rw [HG.out]; exact HQ.out, bel_trans HX.out.2.2.2 hb⟩⟩
            case measure => simp [intOf]; omega
          · have HV : Hid (a0 = k ∧ b0 = z ∧ q0 = true) := ⟨by
              have e := eq_of_list hq
              have h1 := back_reg k (sz3 a) (reg_some k a hlt ha3)
              rw [HG.out, e, HN.out, HZ.out] at h1
              simpa using h1⟩
            go_wp2_with (go_at_call 22; refine (CR.out _).mono ?_; rintro e u ⟨rfl, hb⟩; have cu := to_bel hb cz)
            go_quiet (fail)
            go_wp2
            go_ret3
            refine ⟨?_, below_drewN (bel_trans HX.out.2.2.2 hb) _⟩
            obtain ⟨rfl, rfl, rfl⟩ := HV.out
            rfl
        · obtain rfl : a = 3 := by omega
          go_wp2
          go_roundw
          case rel => exact ⟨k + 1, by omega, by go_num, ⟨HX.out.1, fun j b hj hb => by
            rcases Nat.lt_succ_iff_lt_or_eq.1 hj with h | h
            · exact HX.out.2.1 j b h hb
            · subst h; exact HX.out.2.2.1 b hb, HX.out.2.2.2⟩⟩
          case measure => simp [intOf]; omega
    · obtain rfl : k = 16 := by omega
      have HV : Hid (a0 = 0 ∧ b0 = 0 ∧ q0 = false) := ⟨by
        have h1 := num_none (t := t) (fun j a hj ha => HX.out.2.1 j a hj ha)
        rw [HN.out] at h1
        simpa using h1⟩
      go_wp2
      go_ret3
      refine ⟨?_, HX.out.2.2⟩
      obtain ⟨rfl, rfl, rfl⟩ := HV.out
      rfl
end Go.Proofs.YtdgejingoamfeaaDoor
