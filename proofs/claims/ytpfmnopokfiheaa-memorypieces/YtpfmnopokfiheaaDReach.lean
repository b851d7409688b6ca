/- The contracts of the document's May and reach. -/
import Derived.Test.YtpfmnopokfiheaaDFind
namespace Go.Proofs.Ytpfmnopokfiheaa
open Go.ChangeShapes Go.WideShapes Go.ChangeAt Go.RowKit Go.Maps
set_option linter.unusedVariables false
set_option linter.unusedSimpArgs false

/-- A page of the list, as it lies in memory. -/
theorem RA.at' {w : World} {rb : Nat} {lv : Value} {pb : Nat → Nat} {L : List Pz} (h : RA w rb lv pb L) {i : Nat} (hi : i < L.length) :
    ∃ b cap, lv = .slice (some ⟨b, 0, none⟩) L.length cap ∧ L.length ≤ cap ∧ cap ≤ 9223372036854775807 ∧ w.cell? ⟨b, i * 3, none⟩ = some (.int .u64 ((L[i].k * 4096 : Nat) : Int)) ∧ w.cell? ⟨b, i * 3 + 1, none⟩ = some (.int .i64 L[i].may) ∧ w.cell? ⟨b, i * 3 + 2, none⟩ = some (.slice (some ⟨pb L[i].k, 0, none⟩) 4096 4096) := by
  obtain ⟨ao, cap, hv, hc1, hc2, hn, hz, hrow⟩ := h.row.any
  rcases ao with _ | ⟨b, o, c⟩
  · have := (hn rfl).1; subst this; simp at hi
  · obtain ⟨rfl, rfl⟩ := hz b o c rfl
    obtain ⟨c0, c1, c2⟩ := (hrow b rfl).2 i hi
    exact ⟨b, cap, hv, hc1, hc2, c0, c1, c2⟩
theorem RA.sl {w : World} {rb : Nat} {lv : Value} {pb : Nat → Nat} {L : List Pz} (h : RA w rb lv pb L) : ∃ ao cap, lv = .slice ao L.length cap ∧ L.length ≤ cap ∧ cap ≤ 9223372036854775807 := by
  obtain ⟨ao, cap, hv, hc1, hc2, _⟩ := h.row.any
  exact ⟨ao, cap, hv, hc1, hc2⟩

/-- What May answers. -/
def mayV (o : Option Pz) : Value := match o with | none => .tuple #[.int .i64 0, .bool false] | some p => .tuple #[.int .i64 p.may, .bool true]

theorem rmay_any (rb a : Nat) (lv : Value) (pb : Nat → Nat) (L : List Pz) (w : World) (h : RA w rb lv pb L) (ha : a < 18446744073709551616) (hL : L.length ≤ 1048576) :
    Calls Try.prog 39 #[.pointer (some ⟨rb, 0, none⟩), .int .u64 a] w fun e w' => e = .returned (mayV (fnd L (a / 4096))) ∧ w' = w := by
  have HF := find_any rb a lv pb L w h ha hL
  have c0 := h.rcell
  cases hf : fnd L (a / 4096) with
  | none =>
    rw [fix_none hf] at HF
    obtain ⟨ao, cap, rfl, _, _⟩ := h.sl
    have q1 : ((L.length : Int) == (L.length : Int)) = true := by simp
    clear h ha hf
    go_enter Try.func39, Try.ntmps39
    go_wp2_with (go_at_call 58; with_reducible refine HF.mono ?_; rintro e w1 ⟨he, hw⟩; subst he; subst hw)
    go_ret2
    exact ⟨rfl, rfl⟩
  | some p =>
    obtain ⟨hi, e⟩ := fix_some h.mz.up hf
    obtain ⟨b, cap, rfl, _, _, _, c1, _⟩ := h.at' hi
    rw [e] at c1
    generalize fix L (a / 4096) = i at *
    have q1 : ((i : Int) == (L.length : Int)) = false := by simp; omega
    have q2 : (i : Int) < (L.length : Int) := by omega
    have HM : Hid (mayV (some p) = .tuple #[.int .i64 p.may, .bool true]) := ⟨rfl⟩
    rw [HM.out]
    generalize p.may = m at *
    clear h ha hf e
    go_enter Try.func39, Try.ntmps39
    go_wp2_with (go_at_call 58; with_reducible refine HF.mono ?_; rintro e w1 ⟨he, hw⟩; subst he; subst hw)
    go_ret2
    exact ⟨rfl, rfl⟩

set_option maxRecDepth 10000 in
theorem pcs_top {L : List Pz} (hz : Mz L) {so : Int} : ∀ (f k fr left : Nat), fr < 4096 → 0 < left → smQ (pcs L so f k fr left) = left → k * 4096 + fr + left ≤ 140737488355328
  | 0, k, fr, left, _, h0, h => by simp [pcs, smQ] at h; omega
  | f + 1, k, fr, left, hfr, h0, h => by
    cases hp : fnd L k with
    | none => rw [pcs_none hp] at h; simp [smQ] at h; omega
    | some p =>
      obtain ⟨hm, rfl⟩ := fnd_mem hp
      have hk := (hz.ok p hm).k
      by_cases hb : bits .and .i64 p.may so = so
      · rw [pcs_more hp hb (by omega)] at h
        have h' : min left (4096 - fr) + smQ (pcs L so f (p.k + 1) 0 (left - min left (4096 - fr))) = left := by simpa [smQ] using h
        by_cases hl : left ≤ 4096 - fr
        · omega
        · rw [Nat.min_eq_right (by omega)] at h'
          have := pcs_top (so := so) hz f (p.k + 1) 0 (left - (4096 - fr)) (by omega) (by omega) (by omega)
          omega
      · rw [pcs_not hp hb] at h; simp [smQ] at h; omega
theorem reach_top {L : List Pz} (hz : Mz L) {so : Int} {a n : Nat} (h0 : 0 < n) (h : 140737488355328 < a + n) : reachB L so a n = false := by
  unfold reachB
  rw [beq_eq_false_iff_ne]
  intro e
  have := pcs_top hz _ _ _ _ (Nat.mod_lt _ (by omega)) h0 e
  omega

set_option maxHeartbeats 1000000 in
set_option maxRecDepth 10000 in
theorem reach_any (rb a n : Nat) (so : Int) (lv : Value) (pb : Nat → Nat) (L : List Pz) (w : World) (h : RA w rb lv pb L) (ha : a < 18446744073709551616) (hL : L.length ≤ 1048576) (hn : n ≤ 1048576) :
    Calls Try.prog 56 #[.pointer (some ⟨rb, 0, none⟩), .int .u64 a, .int .i64 n, .int .i64 so] w fun e w' => e = .returned (.bool (reachB L so a n)) ∧ w' = w := by
  have HM : Hid (∀ b : Nat, b < 18446744073709551616 → Calls Try.prog 39 #[.pointer (some ⟨rb, 0, none⟩), .int .u64 b] w fun e w' => e = .returned (mayV (fnd L (b / 4096))) ∧ w' = w) := ⟨fun b hb => rmay_any rb b lv pb L w h hb hL⟩
  have hz := h.mz
  clear h
  obtain ⟨x, hx⟩ : ∃ x : Int, (a : Int) = x := ⟨_, rfl⟩
  rw [hx]
  have x0 : 0 ≤ x := by omega
  have x1 : x < 18446744073709551616 := by omega
  have n0 : (0 : Int) ≤ n := by omega
  have n1 : (n : Int) ≤ 1048576 := by omega
  by_cases hn0 : 0 < n
  rotate_left
  · obtain rfl : n = 0 := by omega
    have HE : Hid (reachB L so a 0 = true) := ⟨by unfold reachB pcsA; rw [pcs_end]; rfl⟩
    rw [HE.out]
    clear hx ha
    go_enter Try.func56, Try.ntmps56
    go_wp2
    go_loopw [9, 10, 11] (fun i _ _ wr => i = .int .i64 0 ∧ wr = w) (fun _ _ _ _ => 0)
    case atStart => exact ⟨rfl, rfl⟩
    case round =>
      obtain ⟨rfl, rfl⟩ := hrel
      go_wp2
      go_ret
      exact ⟨rfl, rfl⟩
  by_cases ht : 140737488355328 < a + n
  · rw [reach_top hz hn0 ht]
    have p0 : (0 : Int) < n := by omega
    by_cases h5 : 140737488355328 ≤ x
    · clear hx ha ht
      go_enter Try.func56, Try.ntmps56
      go_wp2
      go_ret
      exact ⟨rfl, rfl⟩
    · have h6 : 140737488355328 - x < (n : Int) := by omega
      clear hx ha ht
      go_enter Try.func56, Try.ntmps56
      go_wp2
      go_ret
      exact ⟨rfl, rfl⟩
  have p0 : (0 : Int) < n := by omega
  have h5 : ¬ 140737488355328 ≤ x := by omega
  have h6 : ¬ 140737488355328 - x < (n : Int) := by omega
  have HX : Hid ((a : Int) = x) := ⟨hx⟩
  obtain ⟨B, HB⟩ : ∃ B, Hid (reachB L so a n = B) := ⟨_, ⟨rfl⟩⟩
  rw [HB.out]
  clear hx ha ht
  go_enter Try.func56, Try.ntmps56
  go_wp2
  go_loopw [9, 10, 11] (fun i _ _ wr => ∃ j : Nat, j ≤ n + 4096 ∧ i = .int .i64 j ∧ wr = w ∧ Hid (∃ f left, (B = (smQ (pcs L so f ((a + j) / 4096) ((a + j) % 4096) left) == left)) ∧ left < f ∧ ((0 < left ∧ j + left = n) ∨ (left = 0 ∧ n ≤ j)))) (fun i _ _ _ => n + 4096 - (intOf i).toNat)
  case atStart => exact ⟨0, by omega, rfl, rfl, ⟨n + 1, n, by rw [← HB.out]; rfl, by omega, .inl ⟨hn0, by omega⟩⟩⟩
  case round =>
    obtain ⟨j, hj, rfl, hw, HW⟩ := hrel
    subst hw
    obtain ⟨f, left, hB, hlf, hl⟩ := HW.out
    by_cases hlt : j < n
    · rcases hl with ⟨l0, l1⟩ | ⟨l0, l1⟩
      rotate_left
      · omega
      have hj1 : (j : Int) < n := by omega
      obtain ⟨f, rfl⟩ : ∃ g, f = g + 1 := ⟨f - 1, by omega⟩
      have hxj : x + (j : Int) = ((a + j : Nat) : Int) := by have := HX.out; omega
      have hM := HM.out (a + j) (by have := HX.out; omega)
      obtain ⟨A, hA⟩ : ∃ A, A = a + j := ⟨_, rfl⟩
      rw [← hA] at hM hxj hB
      have hAt : A < 140737488355328 := by have := HX.out; omega
      obtain ⟨y, hy⟩ : ∃ y : Int, (A : Int) = y := ⟨_, rfl⟩
      have y0 : 0 ≤ y := by omega
      have y1 : y < 140737488355328 := by omega
      rw [hy] at hM hxj
      have HY : Hid ((A : Int) = y) := ⟨hy⟩
      have HA : Hid (A = a + j) := ⟨hA⟩
      cases hp : fnd L (A / 4096) with
      | none =>
        rw [pcs_none hp] at hB
        have HB2 : Hid (B = false) := ⟨by rw [hB]; simp [smQ]; omega⟩
        rw [hp] at hM
        unfold mayV at hM
        clear hB hA hp HW l0 l1 hlf hAt hy
        go_wp2_with (go_at_call 39; with_reducible refine hM.mono ?_; rintro e w1 ⟨he, hw⟩; subst he; subst hw)
        go_ret
        exact ⟨by rw [HB2.out]; rfl, rfl⟩
      | some p =>
        rw [hp] at hM
        unfold mayV at hM
        by_cases hb : bits .and .i64 p.may so = so
        · rw [pcs_more hp hb (by omega)] at hB
          have q1 : (bits .and .i64 p.may so == so) = true := by simpa using hb
          have HC : Hid (B = (min left (4096 - A % 4096) + smQ (pcs L so f (A / 4096 + 1) 0 (left - min left (4096 - A % 4096))) == left)) := ⟨by rw [hB]; simp [smQ]⟩
          have HL : Hid (0 < left ∧ j + left = n ∧ left < f + 1) := ⟨l0, l1, hlf⟩
          have HA63 : Hid (A < 140737488355328) := ⟨hAt⟩
          have r0 : 0 ≤ y % 4096 := by omega
          have r1 : y % 4096 < 4096 := by omega
          have q2 : (bits .and .i64 p.may so != so) = false := by simp [hb]
          clear hB hA hp HW l0 l1 hlf hAt hb hy
          go_wp2_with (go_at_call 39; with_reducible refine hM.mono ?_; rintro e w1 ⟨he, hw⟩; subst he; subst hw)
          go_roundw
          case rel =>
            obtain ⟨l0, l1, hlf⟩ := HL.out
            have hA := HA.out
            refine ⟨j + 4096 - A % 4096, by omega, ?_, by trivial, ⟨f, left - min left (4096 - A % 4096), ?_, by omega, ?_⟩⟩
            · simp only [Value.int.injEq, true_and]; have := HY.out; omega
            · rw [HC.out]
              have e7 : a + (j + 4096 - A % 4096) = (A / 4096 + 1) * 4096 := by omega
              rw [e7, Nat.mul_div_cancel _ (by omega), Nat.mul_mod_left]
              apply Bool.eq_iff_iff.2
              simp only [beq_iff_eq]
              omega
            · by_cases hl : left ≤ 4096 - A % 4096
              · right; omega
              · left; omega
          case measure => have := HY.out; simp [intOf]; omega
        · rw [pcs_not hp hb] at hB
          have HB2 : Hid (B = false) := ⟨by rw [hB]; simp [smQ]; omega⟩
          have q1 : (bits .and .i64 p.may so == so) = false := by simpa using hb
          have q2 : (bits .and .i64 p.may so != so) = true := by simpa using hb
          clear hB hA hp HW l0 l1 hlf hAt hb hy
          go_wp2_with (go_at_call 39; with_reducible refine hM.mono ?_; rintro e w1 ⟨he, hw⟩; subst he; subst hw)
          go_ret
          exact ⟨by rw [HB2.out]; rfl, rfl⟩
    · have l0 : left = 0 := by rcases hl with ⟨h1, h2⟩ | ⟨h1, h2⟩ <;> omega
      subst l0
      have HB2 : Hid (B = true) := ⟨by rw [hB, pcs_end]; rfl⟩
      have hj1 : ¬ (j : Int) < n := by omega
      clear hB HW hl hlf
      go_wp2
      go_ret
      exact ⟨by rw [HB2.out]; rfl, rfl⟩
end Go.Proofs.Ytpfmnopokfiheaa
