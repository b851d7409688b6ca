/- The contracts of the law's same and of the document's May. -/
import Derived.Test.YtpbnldfekadalaaDoorCMem
import Derived.Laws.AppendOwnNone
import Derived.Laws.Bits128
import Derived.Laws.BitsAllLaws
import Derived.Laws.BytesArg
import Derived.Outline
import Derived.WalkLawsBesides
import Derived.Deep.QuietTactic
import Derived.BigQuiet
import Derived.Deep.CutRange
namespace Go.Proofs.YtpbnldfekadalaaDoor
open Go.ChangeShapes Go.WideShapes Go.ChangeAt Go.RowKit
set_option linter.unusedVariables false
set_option linter.unusedSimpArgs false

theorem ret_boolM {a b : Bool} (h : a = b) : Ending.returned (.bool a) = .returned (.bool b) := by rw [h]
set_option maxHeartbeats 2000000 in
set_option maxRecDepth 10000 in
/-- The program's ops are the document's. -/
theorem same_any (a1 a2 : Option Addr) (c1 c2 : Nat) (l : List Oq) (w : World) (hl : l.length ≤ 9223372036854775806) (h1 : Oqs w a1 l) (h2 : Oqs w a2 l) :
    Calls Tryd.prog 6 #[.slice a1 l.length c1, .slice a2 l.length c2] w fun e w' => e = .returned (.bool true) ∧ Below w.heap.size w w' := by
  have H1 : Hid _ := ⟨h1⟩
  have H2 : Hid _ := ⟨h2⟩
  clear h1 h2
  go_enter Tryd.func6, Tryd.ntmps6
  go_wp2
  go_loopw [5] (fun i wr => ∃ k : Nat, k ≤ l.length ∧ i = .int .i64 k ∧ Hid (Below w.heap.size w wr)) (fun i _ => l.length - (intOf i).toNat)
  case atStart => exact ⟨0, by omega, rfl, ⟨Below.refl _ _⟩⟩
  case round =>
    obtain ⟨k, hk, rfl, HB⟩ := hrel
    by_cases hlt : k < l.length
    · obtain ⟨b1, o1, rfl, hc1⟩ : ∃ b off, a1 = some ⟨b, off, none⟩ ∧ ∀ i, i < l.length → OqAt wr b (off + i * 3) (l.getD i Oq.none) := by
        rcases H1.out.below HB.out (Nat.le_refl _) with h | h
        · subst h; simp at hlt
        · exact h
      obtain ⟨b2, o2, rfl, hc2⟩ : ∃ b off, a2 = some ⟨b, off, none⟩ ∧ ∀ i, i < l.length → OqAt wr b (off + i * 3) (l.getD i Oq.none) := by
        rcases H2.out.below HB.out (Nat.le_refl _) with h | h
        · subst h; simp at hlt
        · exact h
      obtain ⟨x0, x1, x2⟩ := hc1 k hlt
      obtain ⟨y0, y1, y2⟩ := hc2 k hlt
      generalize l.getD k Oq.none = s at *
      obtain ⟨sk, sr, sn⟩ := s
      dsimp only at x0 x1 x2 y0 y1 y2
      have i1 : (0 : Int) ≤ (k : Int) := by omega
      have i2 : (k : Int) < (l.length : Int) := by omega
      have e0 : (sk != sk) = false := by simp
      have e1 : (sr != sr) = false := by simp
      have e2 : (sn != sn) = false := by simp
      clear hc1 hc2
      go_wp2
      go_quiet (fail)
      go_wp2
      go_roundw
      case rel => exact ⟨k + 1, hlt, by go_num, ⟨below_drewN HB.out _⟩⟩
      case measure => simp [intOf]; omega
    · obtain rfl : k = l.length := by omega
      go_wp2
      go_ret
      exact ⟨rfl, HB.out⟩

set_option maxHeartbeats 4000000 in
set_option maxRecDepth 10000 in
theorem may_any (k r n : Int) (w : World) :
    Calls Tryd.prog 26 #[.agg #[.int .i64 k, .int .i64 r, .int .i64 n]] w fun e w' => e = .returned (.bool (mayB ⟨k, r, n⟩)) ∧ Below w.heap.size w w' := by
  go_enter Tryd.func26, Tryd.ntmps26
  go_upto_region 1 with (fail)
  have HB : Hid (Below w.heap.size w (w.alloc (.cells #[.int .i64 k, .int .i64 r, .int .i64 n] 52))) := ⟨(Below.refl _ _).alloc (Nat.le_refl _) _⟩
  have c0 : (w.alloc (.cells #[.int .i64 k, .int .i64 r, .int .i64 n] 52)).cell? ⟨w.heap.size, 0, none⟩ = some (.int .i64 k) := by simp
  have c1 : (w.alloc (.cells #[.int .i64 k, .int .i64 r, .int .i64 n] 52)).cell? ⟨w.heap.size, 1, none⟩ = some (.int .i64 r) := by simp
  have c2 : (w.alloc (.cells #[.int .i64 k, .int .i64 r, .int .i64 n] 52)).cell? ⟨w.heap.size, 2, none⟩ = some (.int .i64 n) := by simp
  obtain ⟨B, hB⟩ : ∃ B, w.heap.size = B := ⟨_, rfl⟩
  generalize w.alloc (.cells #[.int .i64 k, .int .i64 r, .int .i64 n] 52) = W at *
  rw [hB] at c0 c1 c2 ⊢
  have HB' : Hid (w.heap.size = B) := ⟨hB⟩
  clear hB
  go_cut [3] from 5 to 12 (fun s3 wx => s3 = .bool (regB ⟨k, r, n⟩) ∧ wx = W)
  case first =>
    by_cases h1 : 0 ≤ r
    · by_cases h2 : r ≤ 16
      · go_wp2
        go_meet
        exact ⟨by congr 1; simp [regB]; omega, rfl⟩
      · go_wp2
        go_meet
        exact ⟨by congr 1; simp [regB]; omega, rfl⟩
    · go_wp2
      go_meet
      exact ⟨by congr 1; simp [regB]; omega, rfl⟩
  case rest =>
  obtain ⟨rfl, hwx⟩ := hcut
  replace hwx := hwx.symm
  subst hwx
  go_upto_region 2 with (fail)
  go_cut [4] from 13 to 20 (fun s4 wx => s4 = .bool (farB ⟨k, r, n⟩) ∧ wx = W)
  case first =>
    by_cases h1 : 0 ≤ n
    · by_cases h2 : n < 2147483648
      · go_wp2
        go_meet
        exact ⟨by congr 1; simp [farB]; omega, rfl⟩
      · go_wp2
        go_meet
        exact ⟨by congr 1; simp [farB]; omega, rfl⟩
    · go_wp2
      go_meet
      exact ⟨by congr 1; simp [farB]; omega, rfl⟩
  case rest =>
  obtain ⟨rfl, hwx⟩ := hcut
  replace hwx := hwx.symm
  subst hwx
  obtain ⟨x3, hx3⟩ : ∃ x, regB ⟨k, r, n⟩ = x := ⟨_, rfl⟩
  obtain ⟨x4, hx4⟩ : ∃ x, farB ⟨k, r, n⟩ = x := ⟨_, rfl⟩
  rw [hx3, hx4]
  have HX3 : Hid (∀ k', regB ⟨k', r, n⟩ = x3) := ⟨fun _ => hx3⟩
  have HX4 : Hid (∀ k', farB ⟨k', r, n⟩ = x4) := ⟨fun _ => hx4⟩
  clear hx3 hx4
  obtain ⟨z1, hz1⟩ : ∃ z, (r == 0) = z := ⟨_, rfl⟩
  obtain ⟨z2, hz2⟩ : ∃ z, (n == 0) = z := ⟨_, rfl⟩
  by_cases k0 : k = 0
  · subst k0
    cases z1 <;> cases z2 <;> (go_wp2; go_ret; exact ⟨by simp [mayB, hz1, hz2], HB.out⟩)
  by_cases k9 : k = 9
  · subst k9
    cases z1 <;> cases z2 <;> (go_wp2; go_ret; exact ⟨by simp [mayB, hz1, hz2], HB.out⟩)
  by_cases k10 : k = 10
  · subst k10
    cases z1 <;> cases z2 <;> (go_wp2; go_ret; exact ⟨by simp [mayB, hz1, hz2], HB.out⟩)
  by_cases k1 : k = 1
  · subst k1
    cases z1 <;> cases x4 <;> (go_wp2; go_ret; exact ⟨by simp [mayB, hz1, HX4.out], HB.out⟩)
  by_cases k3 : k = 3
  · subst k3
    cases z1 <;> cases x4 <;> (go_wp2; go_ret; exact ⟨by simp [mayB, hz1, HX4.out], HB.out⟩)
  by_cases k2 : k = 2
  · subst k2
    cases x3 <;> cases x4 <;> (go_wp2; go_ret; exact ⟨by simp [mayB, HX3.out, HX4.out], HB.out⟩)
  by_cases k4 : k = 4
  · subst k4
    cases x3 <;> cases z2 <;> (go_wp2; go_ret; exact ⟨by simp [mayB, HX3.out, hz2], HB.out⟩)
  by_cases k6 : k = 6
  · subst k6
    cases x3 <;> cases z2 <;> (go_wp2; go_ret; exact ⟨by simp [mayB, HX3.out, hz2], HB.out⟩)
  by_cases k7 : k = 7
  · subst k7
    cases x3 <;> cases z2 <;> (go_wp2; go_ret; exact ⟨by simp [mayB, HX3.out, hz2], HB.out⟩)
  by_cases k8 : k = 8
  · subst k8
    cases x3 <;> cases z2 <;> (go_wp2; go_ret; exact ⟨by simp [mayB, HX3.out, hz2], HB.out⟩)
  by_cases k5 : k = 5
  · subst k5
    obtain ⟨z3, hz3⟩ : ∃ z, (n.tmod 8 == 0) = z := ⟨_, rfl⟩
    cases x3
    · go_wp2
      go_ret
      exact ⟨by simp [mayB, HX3.out], HB.out⟩
    · by_cases h1 : -2147483648 ≤ n
      · by_cases h2 : n < 2147483648
        · cases z3 <;> (go_wp2; go_ret; exact ⟨by simp [mayB, HX3.out, h1, h2, hz3], HB.out⟩)
        · go_wp2
          go_ret
          exact ⟨by simp [mayB, HX3.out]; intros; omega, HB.out⟩
      · go_wp2
        go_ret
        exact ⟨by simp [mayB, HX3.out]; intros; omega, HB.out⟩
  have b0 : (k == 0) = false := by simpa using k0
  have b1 : (k == 1) = false := by simpa using k1
  have b2 : (k == 2) = false := by simpa using k2
  have b3 : (k == 3) = false := by simpa using k3
  have b4 : (k == 4) = false := by simpa using k4
  have b5 : (k == 5) = false := by simpa using k5
  have b6 : (k == 6) = false := by simpa using k6
  have b7 : (k == 7) = false := by simpa using k7
  have b8 : (k == 8) = false := by simpa using k8
  have b9 : (k == 9) = false := by simpa using k9
  have b10 : (k == 10) = false := by simpa using k10
  have HM : Hid (mayB ⟨k, r, n⟩ = false) := ⟨by simp [mayB, b0, b1, b2, b3, b4, b5, b6, b7, b8, b9, b10]⟩
  go_wp2
  go_ret
  exact ⟨ret_boolM HM.out.symm, HB.out⟩
end Go.Proofs.YtpbnldfekadalaaDoor
