/- The contract of the document's Fetch. -/
import Derived.Test.YtpfmnopokfiheaaDAcc
namespace Go.Proofs.Ytpfmnopokfiheaa
open Go.ChangeShapes Go.WideShapes Go.ChangeAt Go.RowKit Go.Maps
set_option linter.unusedVariables false
set_option linter.unusedSimpArgs false

theorem pcs_fuel {L : List Pz} {so : Int} : ∀ (f g k fr n : Nat), fr < 4096 → n < f → n < g → pcs L so f k fr n = pcs L so g k fr n
  | 0, g, k, fr, n, _, h, _ => by omega
  | f + 1, 0, k, fr, n, _, _, h => by omega
  | f + 1, g + 1, k, fr, n, hfr, h1, h2 => by
    by_cases h0 : n = 0
    · subst h0; rw [pcs_end, pcs_end]
    cases hp : fnd L k with
    | none => rw [pcs_none hp, pcs_none hp]
    | some p =>
      by_cases hb : bits .and .i64 p.may so = so
      · rw [pcs_more hp hb h0, pcs_more hp hb h0, pcs_fuel f g (k + 1) 0 (n - min n (4096 - fr)) (by omega) (by omega) (by omega)]
      · rw [pcs_not hp hb, pcs_not hp hb]

theorem smQ_cons (q : Pz × Nat × Nat) (l : List (Pz × Nat × Nat)) : smQ (q :: l) = q.2.2 + smQ l := by simp [smQ]
theorem smQ_nil : smQ [] = 0 := rfl
theorem flQ_cons (q : Pz × Nat × Nat) (l : List (Pz × Nat × Nat)) : flQ (q :: l) = byQ q ++ flQ l := by simp [flQ]

theorem pcs_sub {L : List Pz} {so : Int} : ∀ (f k fr n m : Nat), fr < 4096 → m ≤ n → n < f → smQ (pcs L so f k fr m) = min m (smQ (pcs L so f k fr n))
  | 0, k, fr, n, m, _, _, h => by omega
  | f + 1, k, fr, n, m, hfr, hm, h => by
    by_cases h0 : m = 0
    · subst h0; rw [pcs_end, smQ_nil]; omega
    cases hp : fnd L k with
    | none => rw [pcs_none hp, pcs_none hp, smQ_nil]; omega
    | some p =>
      by_cases hb : bits .and .i64 p.may so = so
      · rw [pcs_more hp hb h0, pcs_more hp hb (by omega), smQ_cons, smQ_cons]
        simp only
        by_cases hl : m ≤ 4096 - fr
        · rw [show m - min m (4096 - fr) = 0 by omega, pcs_end, smQ_nil]
          omega
        · rw [show min m (4096 - fr) = 4096 - fr by omega, show min n (4096 - fr) = 4096 - fr by omega, pcs_sub f (k + 1) 0 (n - (4096 - fr)) (m - (4096 - fr)) (by omega) (by omega) (by omega)]
          omega
      · rw [pcs_not hp hb, pcs_not hp hb, smQ_nil]; omega

theorem pcs_cut {L : List Pz} {so : Int} : ∀ (f k fr n : Nat), fr < 4096 → n < f → flQ (pcs L so f k fr (smQ (pcs L so f k fr n))) = flQ (pcs L so f k fr n)
  | 0, k, fr, n, _, h => by omega
  | f + 1, k, fr, n, hfr, h => by
    by_cases h0 : n = 0
    · subst h0; rw [pcs_end, smQ_nil, pcs_end]
    cases hp : fnd L k with
    | none => rw [pcs_none hp, pcs_none hp]
    | some p =>
      by_cases hb : bits .and .i64 p.may so = so
      · rw [pcs_more hp hb h0, smQ_cons]
        simp only
        by_cases hl : n ≤ 4096 - fr
        · rw [show n - min n (4096 - fr) = 0 by omega, pcs_end, smQ_nil, show min n (4096 - fr) + 0 = n by omega, pcs_more hp hb h0, show n - min n (4096 - fr) = 0 by omega, pcs_end]
        · have ih := pcs_cut (L := L) (so := so) f (k + 1) 0 (n - (4096 - fr)) (by omega) (by omega)
          rw [show min n (4096 - fr) = 4096 - fr by omega]
          generalize smQ (pcs L so f (k + 1) 0 (n - (4096 - fr))) = t at *
          rw [pcs_more hp hb (by omega), show min (4096 - fr + t) (4096 - fr) = 4096 - fr by omega, show 4096 - fr + t - (4096 - fr) = t by omega, flQ_cons, flQ_cons, ih]
      · rw [pcs_not hp hb, pcs_not hp hb]

theorem fetch_reach {L : List Pz} {so : Int} {a n m : Nat} (hm : m ≤ n) : reachB L so a m = decide (m ≤ smQ (pcsA L so a n)) := by
  unfold reachB pcsA
  rw [pcs_fuel (m + 1) (n + 1) _ _ _ (Nat.mod_lt _ (by omega)) (by omega) (by omega), pcs_sub (n + 1) _ _ n m (Nat.mod_lt _ (by omega)) hm (by omega)]
  apply Bool.eq_iff_iff.2
  simp only [beq_iff_eq, decide_eq_true_eq]
  omega
theorem fetch_bytes {L : List Pz} {so : Int} {a n : Nat} : rdB L so a (smQ (pcsA L so a n)) = rdB L so a n := by
  unfold rdB
  have hle : smQ (pcsA L so a n) ≤ n := pcs_sum _ _ _ _
  have e : ∀ t, t ≤ n → pcsA L so a t = pcs L so (n + 1) (a / 4096) (a % 4096) t := fun t ht => pcs_fuel _ _ _ _ _ (Nat.mod_lt _ (by omega)) (by omega) (by omega)
  rw [e _ hle]
  exact pcs_cut (n + 1) (a / 4096) (a % 4096) n (Nat.mod_lt _ (by omega)) (by omega)

theorem rfetch_bad (rb a : Nat) (n : Int) (w : World) (hn : n < 1 ∨ 15 < n) :
    Calls Try.prog 55 #[.pointer (some ⟨rb, 0, none⟩), .int .u64 a, .int .i64 n] w fun e w' => e = .returned (.tuple #[.slice none 0 0, .int .i64 1]) ∧ w' = w := by
  by_cases h1 : n < 1
  · clear hn
    go_enter Try.func55, Try.ntmps55
    go_wp2
    go_ret2
    exact ⟨rfl, rfl⟩
  · have h2 : 15 < n := by omega
    clear hn
    go_enter Try.func55, Try.ntmps55
    go_wp2
    go_ret2
    exact ⟨rfl, rfl⟩

set_option maxHeartbeats 1000000 in
theorem rfetch_any (rb a n : Nat) (lv : Value) (pb : Nat → Nat) (L : List Pz) (w : World) (h : RA w rb lv pb L) (ha : a < 18446744073709551616) (hL : L.length ≤ 1048576) (hn : 1 ≤ n ∧ n ≤ 15) :
    Calls Try.prog 55 #[.pointer (some ⟨rb, 0, none⟩), .int .u64 a, .int .i64 n] w fun e w' =>
      ((rdB L 1 a n = [] → e = .returned (.tuple #[.slice none 0 0, .int .i64 61])) ∧ (rdB L 1 a n ≠ [] → ∃ v, e = .returned (.tuple #[v, .int .i64 0]) ∧ Own w' w.heap.size v (rdB L 1 a n))) ∧ Below w.heap.size w w' := by
  have hlen := rdB_len h.mz 1 a n
  have hle : smQ (pcsA L 1 a n) ≤ n := pcs_sum _ _ _ _
  have HR : Hid (∀ m : Nat, m ≤ n → Calls Try.prog 56 #[.pointer (some ⟨rb, 0, none⟩), .int .u64 a, .int .i64 m, .int .i64 1] w fun e w' => e = .returned (.bool (decide (m ≤ smQ (pcsA L 1 a n)))) ∧ w' = w) := ⟨fun m hm => by
    have := reach_any rb a m 1 lv pb L w h ha hL (by omega)
    rw [fetch_reach hm] at this
    exact this⟩
  have HB : Hid (Calls Try.prog 64 #[.pointer (some ⟨rb, 0, none⟩), .int .u64 a, .int .i64 (smQ (pcsA L 1 a n) : Nat)] w fun e w' => ∃ v, e = .returned v ∧ Own w' w.heap.size v (rdB L 1 a n) ∧ Below w.heap.size w w') := ⟨by
    have := bytes_any rb a (smQ (pcsA L 1 a n)) 1 lv pb L w h ha hL (by omega) (by rw [fetch_reach hle]; simp)
    rw [fetch_bytes] at this
    exact this⟩
  generalize smQ (pcsA L 1 a n) = s at *
  generalize rdB L 1 a n = l at *
  have Hl : Hid _ := ⟨hlen⟩
  have q1 : ¬ ((n : Nat) : Int) < 1 := by omega
  have q2 : ¬ (15 : Int) < ((n : Nat) : Int) := by omega
  have hn15 : n ≤ 15 := hn.2
  clear h hlen hn ha
  go_enter Try.func55, Try.ntmps55
  go_wp2
  go_loopw [8] (fun i wr => ∃ j : Nat, j ≤ s ∧ i = .int .i64 j ∧ wr = w) (fun i _ => s - (intOf i).toNat)
  case atStart => exact ⟨0, by omega, rfl, rfl⟩
  case round =>
    obtain ⟨j, hj, rfl, hw⟩ := hrel
    have hw' := hw.symm
    subst hw'
    clear hw
    by_cases hjs : j < s
    · have q3 : (j : Int) < (n : Int) := by omega
      have hR := HR.out (j + 1) (by omega)
      rw [decide_eq_true (show j + 1 ≤ s by omega)] at hR
      have e1 : (j : Int) + 1 = ((j + 1 : Nat) : Int) := by omega
      rw [← e1] at hR
      clear e1
      go_wp2_with (go_at_call 56; with_reducible refine hR.mono ?_; rintro e w1 ⟨he, hw⟩; subst he; subst hw)
      go_roundw
      case rel => exact ⟨j + 1, by omega, by go_num, by trivial⟩
      case measure => simp [intOf]; omega
    · obtain rfl : j = s := by omega
      by_cases hjn : j < n
      · have q3 : (j : Int) < (n : Int) := by omega
        have hR := HR.out (j + 1) (by omega)
        rw [decide_eq_false (show ¬ j + 1 ≤ j by omega)] at hR
        have e1 : (j : Int) + 1 = ((j + 1 : Nat) : Int) := by omega
        rw [← e1] at hR
        clear e1
        by_cases h0 : j = 0
        · have q4 : ((j : Int) == 0) = true := by simpa using h0
          clear h0
          go_wp2_with (go_at_call 56; with_reducible refine hR.mono ?_; rintro e w1 ⟨he, hw⟩; subst he; subst hw)
          go_ret2
          exact ⟨⟨fun _ => rfl, fun hne => absurd (List.eq_nil_of_length_eq_zero (by have := Hl.out; simp at q4; omega)) hne⟩, Below.refl _ _⟩
        · have q4 : ((j : Int) == 0) = false := by simpa using h0
          have HNe : Hid (l ≠ []) := ⟨fun e => h0 (by have := Hl.out; rw [e] at this; simpa using this.symm)⟩
          clear h0
          go_wp2_with (first
            | (go_at_call 56; with_reducible refine hR.mono ?_; rintro e w1 ⟨he, hw⟩; subst he; subst hw)
            | (go_at_call 64; with_reducible refine HB.out.mono ?_; rintro e w2 ⟨v, he, hv, hb⟩; subst he))
          go_ret2
          exact ⟨⟨fun e => absurd e HNe.out, fun _ => ⟨v, rfl, hv⟩⟩, hb⟩
      · have q3 : ¬ (j : Int) < (n : Int) := by omega
        have q4 : ((j : Int) == 0) = false := by simp; omega
        have HNe : Hid (l ≠ []) := ⟨fun e => by have := Hl.out; rw [e] at this; simp at this; omega⟩
        go_wp2_with (go_at_call 64; with_reducible refine HB.out.mono ?_; rintro e w2 ⟨v, he, hv, hb⟩; subst he)
        go_ret2
        exact ⟨⟨fun e => absurd e HNe.out, fun _ => ⟨v, rfl, hv⟩⟩, hb⟩
end Go.Proofs.Ytpfmnopokfiheaa
