/- The document's Find. -/
import Derived.Test.YtdgejingoamfeaaDoorRefNameV
import Derived.Test.YtdgejingoamfeaaDoorRefNumber
namespace Go.Proofs.YtdgejingoamfeaaDoor
open Go.ChangeShapes Go.WideShapes Go.ChangeAt Go.RowKit Go.Maps
set_option linter.unusedVariables false
set_option linter.unusedSimpArgs false

/-- None of the forms that P says bears the name. -/
def NoN (t : ByteArray) (P : Nat → Nat → Nat → Prop) : Prop := ∀ o a c : Nat, P o a c → 1 ≤ o → a < 4 → c < 16 → nameV o (szV a) c ≠ t

theorem find_no {t : ByteArray} (h : ∀ o a c : Nat, 1 ≤ o → o ≤ 35 → a < 4 → c < 16 → nameV o (szV a) c ≠ t) : findV t = (0, 0, 0, false) := by
  refine find_none (fun o s c hv hp => ?_)
  obtain ⟨ho, hc, hs⟩ := hbK_parts hv
  obtain ⟨d, rfl⟩ := Int.eq_ofNat_of_zero_le hc.1
  rcases hs with rfl | rfl | rfl | rfl
  · exact h o 0 d ho.1 ho.2 (by omega) (by omega)
  · exact h o 1 d ho.1 ho.2 (by omega) (by omega)
  · exact h o 2 d ho.1 ho.2 (by omega) (by omega)
  · exact h o 3 d ho.1 ho.2 (by omega) (by omega)

set_option maxHeartbeats 4000000 in
set_option maxRecDepth 4000 in
theorem refFind_any (t : ByteArray) (w : World) (he : t.toList.isEmpty = false) :
    Calls Tryd.prog 16 #[.string t] w fun e w' => e = .returned (.tuple #[.int .i64 (findV t).1, .int .i64 (findV t).2.1, .int .i64 (findV t).2.2.1, .bool (findV t).2.2.2]) ∧ Below w.heap.size w w' := by
  have HC : Hid (∀ (o s c : Int) v, Calls Tryd.prog 20 #[.int .i64 o, .int .i64 s, .int .i64 c] v fun e w' => e = .returned (.string (nameV o s c)) ∧ Below v.heap.size v w') := ⟨refName_all⟩
  rcases hN : findV t with ⟨a0, b0, c0, q0⟩
  have HN := hid2 hN
  have HE := hid2 he
  dsimp only
  clear hN
  go_enter Tryd.func16, Tryd.ntmps16
  go_wp2
  go_loopw [7] (fun i wr => ∃ k : Nat, 1 ≤ k ∧ k ≤ 36 ∧ i = .int .i64 k ∧ Hid (Ints wr w.heap.size [0, 1, 4, 8] ∧ NoN t (fun o a c => o < k) ∧ Below w.heap.size w wr)) (fun i _ => 36 - (intOf i).toNat)
  case atStart => exact ⟨1, by omega, by omega, rfl, ⟨ints_new4 w _, fun o a c h h1 => by omega, bel_alloc (Below.refl _ _) _⟩⟩
  case round =>
    obtain ⟨k, hk1, hk, rfl, HX⟩ := hrel
    by_cases hlt : k ≤ 35
    · have hk3 : (k : Int) ≤ 35 := by omega
      go_wp2
      go_loopw [8] (fun i wr => ∃ a : Nat, a ≤ 4 ∧ i = .int .i64 a ∧ Hid (Ints wr w.heap.size [0, 1, 4, 8] ∧ NoN t (fun o b c => o < k ∨ (o = k ∧ b < a)) ∧ Below w.heap.size w wr)) (fun i _ => 4 - (intOf i).toNat)
      case atStart => exact ⟨0, by omega, rfl, ⟨HX.out.1, fun o b c h => by rcases h with h | h; exact HX.out.2.1 o b c h; omega, HX.out.2.2⟩⟩
      case round =>
        clear HX
        obtain ⟨a, ha, rfl, HX⟩ := hrel
        by_cases ha4 : a < 4
        · have hai : (a : Int) < 4 := by omega
          go_wp2
          go_loopw [9] (fun i wr => ∃ c : Nat, c ≤ 16 ∧ i = .int .i64 c ∧ Hid (Ints wr w.heap.size [0, 1, 4, 8] ∧ NoN t (fun o b d => o < k ∨ (o = k ∧ b < a) ∨ (o = k ∧ b = a ∧ d < c)) ∧ Below w.heap.size w wr)) (fun i _ => 16 - (intOf i).toNat)
          case atStart => exact ⟨0, by omega, rfl, ⟨HX.out.1, fun o b c h => HX.out.2.1 o b c (by omega), HX.out.2.2⟩⟩
          case round =>
            clear HX
            obtain ⟨c, hc, rfl, HX⟩ := hrel
            by_cases hc16 : c < 16
            · have hci : (c : Int) < 16 := by omega
              have cz := HX.out.1 a (by simpa using ha4)
              obtain ⟨z, hz⟩ : ∃ z, szV a = z := ⟨_, rfl⟩
              have hze : ([0, 1, 4, 8] : List Int).getD a 0 = z := by
                rw [← hz]
                have : a = 0 ∨ a = 1 ∨ a = 2 ∨ a = 3 := by omega
                rcases this with rfl | rfl | rfl | rfl <;> rfl
              rw [hze] at cz
              obtain ⟨g, hg⟩ : ∃ g, nameV k z c = g := ⟨_, rfl⟩
              have HG : Hid (nameV k (szV a) c = g) := ⟨by rw [hz]; exact hg⟩
              have HG2 := hid2 hg
              have CR := hid2 (HC.out k z c)
              rw [hg] at CR
              obtain ⟨q, hq⟩ : ∃ q, (g.toList == t.toList) = q := ⟨_, rfl⟩
              clear hz hze hg
              rcases q with _ | _
              · have HQ := hid2 (ne_of_list hq)
                go_wp2_with (go_at_call 20; refine (CR.out _).mono ?_; rintro e u ⟨rfl, hb⟩)
                go_roundw
                case rel => exact ⟨c + 1, by omega, by go_num, ⟨HX.out.1.bel hb, fun o b d h h1 h2 h3 => by
                  by_cases e : o = k ∧ b = a ∧ d = c
                  · obtain ⟨rfl, rfl, rfl⟩ := e
                    rw [HG.out]; exact HQ.out
                  · exact HX.out.2.1 o b d (by omega) h1 h2 h3, bel_trans HX.out.2.2 hb⟩⟩
                case measure => simp [intOf]; omega
              · have HV : Hid (a0 = k ∧ b0 = z ∧ c0 = c ∧ q0 = true) := ⟨by
                  have e := eq_of_list hq
                  have h1 := back_name k z c (by rw [HG2.out, e]; exact HE.out)
                  rw [HG2.out, e, HN.out] at h1
                  simpa using h1⟩
                go_wp2_with (go_at_call 20; refine (CR.out _).mono ?_; rintro e u ⟨rfl, hb⟩; have cu := to_bel hb cz)
                go_quiet (fail)
                go_wp2
                (try simp only [Exit.inBlock, Exit.then])
                refine bodyPost_ret (results_tmp4 rfl _ _ _) rfl ?_
                refine ⟨?_, below_drewN (bel_trans HX.out.2.2 hb) _⟩
                obtain ⟨rfl, rfl, rfl, rfl⟩ := HV.out
                rfl
            · obtain rfl : c = 16 := by omega
              go_wp2
              go_roundw
              case rel => exact ⟨a + 1, by omega, by go_num, ⟨HX.out.1, fun o b d h h1 h2 h3 => HX.out.2.1 o b d (by omega) h1 h2 h3, HX.out.2.2⟩⟩
              case measure => simp [intOf]; omega
        · obtain rfl : a = 4 := by omega
          go_wp2
          go_roundw
          case rel => exact ⟨k + 1, by omega, by omega, by go_num, ⟨HX.out.1, fun o b d h h1 h2 h3 => HX.out.2.1 o b d (by omega) h1 h2 h3, HX.out.2.2⟩⟩
          case measure => simp [intOf]; omega
    · obtain rfl : k = 36 := by omega
      have HV : Hid (a0 = 0 ∧ b0 = 0 ∧ c0 = 0 ∧ q0 = false) := ⟨by
        have h1 := find_no (t := t) (fun o b d h1 h2 h3 h4 => HX.out.2.1 o b d (by omega) h1 h3 h4)
        rw [HN.out] at h1
        simpa using h1⟩
      go_wp2
      (try simp only [Exit.inBlock, Exit.then])
      refine bodyPost_ret (results_tmp4 rfl _ _ _) rfl ?_
      refine ⟨?_, HX.out.2.2⟩
      obtain ⟨rfl, rfl, rfl, rfl⟩ := HV.out
      rfl

theorem findV_emp : findV ⟨#[]⟩ = (0, 0, 0, false) := by decide +kernel
theorem emp_is {t : ByteArray} (h : t.toList.isEmpty = true) : t = ⟨#[]⟩ := by
  rw [ByteArray.toList_eq, List.isEmpty_iff] at h
  exact ByteArray.ext (Array.toList_inj.1 h)

set_option maxHeartbeats 4000000 in
set_option maxRecDepth 4000 in
theorem refFind_emp (t : ByteArray) (w : World) (he : t.toList.isEmpty = true) :
    Calls Tryd.prog 16 #[.string t] w fun e w' => e = .returned (.tuple #[.int .i64 0, .int .i64 0, .int .i64 0, .bool false]) ∧ Below w.heap.size w w' := by
  go_enter Tryd.func16, Tryd.ntmps16
  go_wp2
  go_loopw [7] (fun i wr => ∃ k : Nat, 1 ≤ k ∧ k ≤ 36 ∧ i = .int .i64 k ∧ Hid (Below w.heap.size w wr)) (fun i _ => 36 - (intOf i).toNat)
  case atStart => exact ⟨1, by omega, by omega, rfl, ⟨bel_alloc (Below.refl _ _) _⟩⟩
  case round =>
    obtain ⟨k, hk1, hk, rfl, HX⟩ := hrel
    by_cases hlt : k ≤ 35
    · have hk3 : (k : Int) ≤ 35 := by omega
      go_wp2
      go_loopw [8] (fun i wr => ∃ a : Nat, a ≤ 4 ∧ i = .int .i64 a ∧ Hid (Below w.heap.size w wr)) (fun i _ => 4 - (intOf i).toNat)
      case atStart => exact ⟨0, by omega, rfl, HX⟩
      case round =>
        clear HX
        obtain ⟨a, ha, rfl, HX⟩ := hrel
        by_cases ha4 : a < 4
        · have hai : (a : Int) < 4 := by omega
          go_wp2
          go_loopw [9] (fun i wr => ∃ c : Nat, c ≤ 16 ∧ i = .int .i64 c ∧ Hid (Below w.heap.size w wr)) (fun i _ => 16 - (intOf i).toNat)
          case atStart => exact ⟨0, by omega, rfl, HX⟩
          case round =>
            clear HX
            obtain ⟨c, hc, rfl, HX⟩ := hrel
            by_cases hc16 : c < 16
            · have hci : (c : Int) < 16 := by omega
              go_wp2
              go_roundw
              case rel => exact ⟨c + 1, by omega, by go_num, HX⟩
              case measure => simp [intOf]; omega
            · obtain rfl : c = 16 := by omega
              go_wp2
              go_roundw
              case rel => exact ⟨a + 1, by omega, by go_num, HX⟩
              case measure => simp [intOf]; omega
        · obtain rfl : a = 4 := by omega
          go_wp2
          go_roundw
          case rel => exact ⟨k + 1, by omega, by omega, by go_num, HX⟩
          case measure => simp [intOf]; omega
    · obtain rfl : k = 36 := by omega
      go_wp2
      (try simp only [Exit.inBlock, Exit.then])
      refine bodyPost_ret (results_tmp4 rfl _ _ _) rfl ?_
      exact ⟨rfl, HX.out⟩

theorem refFind_all (t : ByteArray) (w : World) :
    Calls Tryd.prog 16 #[.string t] w fun e w' => e = .returned (.tuple #[.int .i64 (findV t).1, .int .i64 (findV t).2.1, .int .i64 (findV t).2.2.1, .bool (findV t).2.2.2]) ∧ Below w.heap.size w w' := by
  cases he : t.toList.isEmpty
  · exact refFind_any t w he
  · have h := refFind_emp t w he
    rw [emp_is he, findV_emp]
    rw [emp_is he] at h
    exact h
end Go.Proofs.YtdgejingoamfeaaDoor
