/- The contracts of the document's Store and Load. -/
import Derived.Test.YtpfmnopokfiheaaDFetch
import Derived.Test.YtpfmnopokfiheaaMNum
namespace Go.Proofs.Ytpfmnopokfiheaa
open Go.ChangeShapes Go.WideShapes Go.ChangeAt Go.RowKit Go.Maps
set_option linter.unusedVariables false
set_option linter.unusedSimpArgs false

theorem size_no {n : Int} (h : isSizeB n = false) : (n == 1) = false ∧ (n == 4) = false ∧ (n == 8) = false ∧ (n != 1) = true ∧ (n != 4) = true ∧ (n != 8) = true := by
  unfold isSizeB at h
  simp at h ⊢
  omega
theorem rstore_bad (rb a : Nat) (n x : Int) (w : World) (hn : isSizeB n = false) :
    Calls Try.prog 34 #[.pointer (some ⟨rb, 0, none⟩), .int .u64 a, .int .i64 n, .int .u64 x] w fun e w' => e = .returned (.int .i64 1) ∧ w' = w := by
  obtain ⟨h1, h2, h3, h4, h5, h6⟩ := size_no hn
  clear hn
  go_enter Try.func34, Try.ntmps34
  go_wp2
  go_ret
  exact ⟨rfl, rfl⟩
theorem rload_bad (rb a : Nat) (n : Int) (w : World) (hn : isSizeB n = false) :
    Calls Try.prog 33 #[.pointer (some ⟨rb, 0, none⟩), .int .u64 a, .int .i64 n] w fun e w' => e = .returned (.tuple #[.int .u64 0, .int .i64 1]) ∧ w' = w := by
  obtain ⟨h1, h2, h3, h4, h5, h6⟩ := size_no hn
  clear hn
  go_enter Try.func33, Try.ntmps33
  go_wp2
  go_ret2
  exact ⟨rfl, rfl⟩

theorem btL_succ (v : Int) (k : Nat) : btL v (k + 1) = btL v k ++ [bt v k] := by
  unfold btL
  rw [List.range_succ, List.map_append]
  rfl

set_option maxHeartbeats 1000000 in
theorem rstore_any (rb a n : Nat) (x : Int) (lv : Value) (pb : Nat → Nat) (L : List Pz) (w : World) (h : RA w rb lv pb L) (ha : a < 18446744073709551616) (hL : L.length ≤ 1048576) (hx : 0 ≤ x ∧ x < 18446744073709551616) (hn : isSizeB n = true) :
    Calls Try.prog 34 #[.pointer (some ⟨rb, 0, none⟩), .int .u64 a, .int .i64 n, .int .u64 x] w fun e w' => e = .returned (.int .i64 (givE L 2 61 a n)) ∧ RA w' rb lv pb (givL L 2 61 a (btL x n)) ∧ Turn (RS rb lv pb L) w w' := by
  have hn8 : (n = 1 ∨ n = 4 ∨ n = 8) := by
    unfold isSizeB at hn
    simp at hn
    omega
  have HM : Hid _ := ⟨h⟩
  have HW : Hid (∀ W v, Below w.heap.size w W → Own W w.heap.size v (btL x n) → ∀ ao c, v = .slice ao n c → Calls Try.prog 36 #[.pointer (some ⟨rb, 0, none⟩), .int .u64 a, v] W fun e w' => e = .returned (.int .i64 (givE L 2 61 a n)) ∧ RA w' rb lv pb (givL L 2 61 a (btL x n)) ∧ Turn (RS rb lv pb L) w w') := ⟨fun W v hW hown ao c hv => by
    have hl : (btL x n).length = n := by simp [btL]
    obtain ⟨g, cp, hv', hg0, hg1, hcell⟩ := hown.lies (by omega)
    subst hv
    rw [hl] at hv' hcell
    cases hv'
    have hs : RSrc W rb lv pb L (some ⟨g, 0, none⟩) (btL x n) := ⟨.inr ⟨g, 0, rfl, fun hb => by have := h.slt hb; omega, fun i hi => by
      rw [hl] at hi
      rw [Nat.zero_add]
      exact hcell i hi⟩, fun y hy => by
      unfold btL at hy
      obtain ⟨k, _, rfl⟩ := List.mem_map.1 hy
      exact bt_in x k⟩
    have := rwrite_any rb a c (some ⟨g, 0, none⟩) (btL x n) lv pb L W (h.below hW) ha hL (by omega) hs
    rw [hl] at this
    refine this.mono ?_
    rintro e w' ⟨he, hm, ht⟩
    exact ⟨he, hm, (Turn.of_below hW _).trans ht⟩⟩
  have hb : ((n : Int) != 1 && (n : Int) != 4 && (n : Int) != 8) = false := by
    rcases hn8 with rfl | rfl | rfl <;> rfl
  have hn9 : (n : Int) ≤ 8 := by omega
  generalize givE L 2 61 a n = E at *
  generalize givL L 2 61 a (btL x n) = M at *
  clear hn h ha hL
  have hx0 := hx.1
  have hx1 := hx.2
  clear hx
  have h3 : n = 1 ∨ n = 4 ∨ n = 8 := hn8
  clear hn8
  obtain ⟨b1, hb1⟩ : ∃ b, ((n : Int) == 1) = b := ⟨_, rfl⟩
  obtain ⟨b4, hb4⟩ : ∃ b, ((n : Int) == 4) = b := ⟨_, rfl⟩
  obtain ⟨b8, hb8⟩ : ∃ b, ((n : Int) == 8) = b := ⟨_, rfl⟩
  have hc1 : ((n : Int) != 1) = !b1 := by rw [← hb1]; rfl
  have hc4 : ((n : Int) != 4) = !b4 := by rw [← hb4]; rfl
  have hc8 : ((n : Int) != 8) = !b8 := by rw [← hb8]; rfl
  have H3 : Hid (n = 1 ∨ n = 4 ∨ n = 8) := ⟨h3⟩
  clear hb h3
  cases b1 <;> cases b4 <;> cases b8
  · exfalso; simp at hb1 hb4 hb8; have := H3.out; omega
  all_goals
    simp only [Bool.not_false, Bool.not_true] at hc1 hc4 hc8
    go_enter Try.func34, Try.ntmps34
    go_wp2
    go_loopw [10, 9] (fun i v wr => ∃ k : Nat, k ≤ n ∧ i = .int .i64 (k : Int) ∧ Hid (Own wr w.heap.size v (btL x k) ∧ Below w.heap.size w wr)) (fun i _ _ => n - (intOf i).toNat)
    case atStart => exact ⟨0, by omega, rfl, ⟨Own.nil _ _, Below.refl _ _⟩⟩
    case round =>
      obtain ⟨k, hk, rfl, HR⟩ := hrel
      by_cases hlt : k < n
      · have q1 : ((k : Nat) : Int) < ((n : Nat) : Int) := by omega
        have q2 : ((k : Nat) : Int) < 8 := by omega
        have e1 : (8 * (k : Int)).toNat = 8 * k := by omega
        have hll : (btL x k).length + 1 ≤ 140737488355328 := by simp [btL]; omega
        have HLL : Hid _ := ⟨hll⟩
        clear hll
        go_wp2_with (at_builtin; refine append_byte _ rfl _ _ rfl w.heap.size _ (btL x k) rfl HR.out.1 _ rfl HLL.out HR.out.2.size ?_; intro v' w' ho' hb')
        go_roundw
        case rel =>
          refine ⟨k + 1, by omega, by go_num, ⟨?_, HR.out.2.trans hb'⟩⟩
          rw [btL_succ]
          first | exact ho' | (simpa [bt, e1] using ho')
        case measure => simp [intOf]; omega
      · obtain rfl : k = n := by omega
        have q1 : ¬ ((k : Nat) : Int) < ((k : Nat) : Int) := by omega
        obtain ⟨ho, hbel⟩ := HR.out
        have hl : (btL x k).length = k := by simp [btL]
        obtain ⟨g, cp, hv', _⟩ := ho.lies (by have := H3.out; omega)
        rw [hl] at hv'
        subst hv'
        have HC := HW.out wr _ hbel ho _ _ rfl
        clear ho hbel hl HR
        go_wp2_with (go_at_call 36; with_reducible refine HC.mono ?_; rintro e w1 ⟨he, hm, ht⟩; subst he)
        go_ret
        exact ⟨rfl, hm, ht⟩

set_option maxHeartbeats 1000000 in
theorem rload_any (rb a n : Nat) (lv : Value) (pb : Nat → Nat) (L : List Pz) (w : World) (h : RA w rb lv pb L) (ha : a < 18446744073709551616) (hL : L.length ≤ 1048576) (hn : isSizeB n = true) :
    Calls Try.prog 33 #[.pointer (some ⟨rb, 0, none⟩), .int .u64 a, .int .i64 n] w fun e w' =>
      e = .returned (if reachB L 4 a n = true then .tuple #[.int .u64 (ldN (rdB L 4 a n) n), .int .i64 0] else .tuple #[.int .u64 0, .int .i64 61]) ∧ Below w.heap.size w w' := by
  have h3 : (n = 1 ∨ n = 4 ∨ n = 8) := by
    unfold isSizeB at hn
    simp at hn
    omega
  have HRd := rread_any rb a n lv pb L w h ha hL (by omega)
  have hlen := rdB_len h.mz 4 a n
  have hbyt := rdB_byte h.mz 4 a n
  have HRB : Hid (reachB L 4 a n = (smQ (pcsA L 4 a n) == n)) := ⟨rfl⟩
  have hn9 : (n : Int) ≤ 8 := by omega
  have hn1 : (1 : Int) ≤ (n : Int) := by omega
  obtain ⟨b1, hb1⟩ : ∃ b, ((n : Int) == 1) = b := ⟨_, rfl⟩
  obtain ⟨b4, hb4⟩ : ∃ b, ((n : Int) == 4) = b := ⟨_, rfl⟩
  obtain ⟨b8, hb8⟩ : ∃ b, ((n : Int) == 8) = b := ⟨_, rfl⟩
  have hc1 : ((n : Int) != 1) = !b1 := by rw [← hb1]; rfl
  have hc4 : ((n : Int) != 4) = !b4 := by rw [← hb4]; rfl
  have hc8 : ((n : Int) != 8) = !b8 := by rw [← hb8]; rfl
  have H3 : Hid (n = 1 ∨ n = 4 ∨ n = 8) := ⟨h3⟩
  clear h3 hn h ha hL
  by_cases hr : reachB L 4 a n = true
  · have HL : Hid ((rdB L 4 a n).length = n) := ⟨by rw [hlen]; rw [HRB.out] at hr; simpa using hr⟩
    have HY : Hid (∀ i, 0 ≤ (rdB L 4 a n).getD i 0 ∧ (rdB L 4 a n).getD i 0 < 256) := ⟨getD_byte hbyt⟩
    simp only [hr, if_true] at HRd ⊢
    generalize rdB L 4 a n = l at *
    clear hr hlen hbyt HRB
    cases b1 <;> cases b4 <;> cases b8
    · exfalso; simp at hb1 hb4 hb8; have := H3.out; omega
    all_goals
      simp only [Bool.not_false, Bool.not_true] at hc1 hc4 hc8
      go_enter Try.func33, Try.ntmps33
      go_wp2_with (go_at_call 54; with_reducible refine HRd.mono ?_; rintro e w1 ⟨v, he, hv, hbw⟩; subst he)
      obtain ⟨g, cp, hv', _, _, hcell⟩ := hv.lies (by have := HL.out; omega)
      rw [HL.out] at hv' hcell
      subst hv'
      have HC : Hid _ := ⟨hcell⟩
      have HBW : Hid _ := ⟨hbw⟩
      clear hcell hbw hv
      go_loopw [11, 10] (fun i v wr => ∃ m : Nat, m ≤ n ∧ i = .int .i64 ((n : Int) - 1 - (m : Int)) ∧ v = .int .u64 (bacc (fun i => l.getD i 0) (n - m) m) ∧ wr = w1) (fun i _ _ => (intOf i + 1).toNat)
      case atStart => exact ⟨0, by omega, by first | rfl | (congr 1; omega), rfl, rfl⟩
      case round =>
        obtain ⟨m, hm, rfl, rfl, hw⟩ := hrel
        have hw' := hw.symm
        subst hw'
        clear hw
        by_cases hlt : m < n
        · have q1 : (0 : Int) ≤ (n : Int) - 1 - (m : Int) := by omega
          have hcx := HC.out (n - m - 1) (by omega)
          have e1 : (n : Int) - 1 - (m : Int) = ((n - m - 1 : Nat) : Int) := by omega
          have hst := bacc_back (fun i => l.getD i 0) HY.out (n - m - 1) m (by omega)
          rw [show n - m - 1 + 1 = n - m by omega] at hst
          obtain ⟨y, hy⟩ : ∃ y, l.getD (n - m - 1) 0 = y := ⟨_, rfl⟩
          have hyi := HY.out (n - m - 1)
          rw [hy] at hyi hcx
          simp only [hy] at hst
          have HST : Hid _ := ⟨hst⟩
          have HE1 : Hid ((n : Int) - 1 - (m : Int) = ((n - m - 1 : Nat) : Int)) := ⟨e1⟩
          obtain ⟨t, ht⟩ : ∃ t, n - m - 1 = t := ⟨_, rfl⟩
          rw [ht] at e1 hcx
          have e3 : (t : Int) < (n : Int) := by omega
          have HT : Hid (n - m - 1 = t) := ⟨ht⟩
          generalize bacc (fun i => l.getD i 0) (n - m) m = B at *
          clear hst hy ht
          go_wp2
          have h := HST.out
          rw [show IntKind.u64.wrap y = y by rw [IntKind.wrap_u64]; omega] at h
          have hT := HT.out
          exact ⟨⟨m + 1, by omega, by simp only [Value.int.injEq, true_and]; omega, congrArg (Value.int .u64) (h.trans (by rw [show n - (m + 1) = n - m - 1 by omega])), trivial⟩, by simp only [intOf]; omega⟩
        · obtain rfl : m = n := by omega
          have q1 : ¬ (0 : Int) ≤ (m : Int) - 1 - (m : Int) := by omega
          have HF : Hid (bacc (fun i => l.getD i 0) (m - m) m = ldN l m) := ⟨by rw [Nat.sub_self]; rfl⟩
          rw [HF.out]
          go_wp2
          go_ret2
          exact ⟨rfl, HBW.out⟩
  · have hr' : reachB L 4 a n = false := by simpa using hr
    simp only [hr'] at HRd ⊢
    clear hr hr' hlen hbyt HRB
    have z1 : ((61 : Int) == 0) = false := rfl
    cases b1 <;> cases b4 <;> cases b8
    · exfalso; simp at hb1 hb4 hb8; have := H3.out; omega
    all_goals
      simp only [Bool.not_false, Bool.not_true] at hc1 hc4 hc8
      go_enter Try.func33, Try.ntmps33
      go_wp2_with (go_at_call 54; with_reducible refine HRd.mono ?_; rintro e w1 ⟨v, he, hv, hbw⟩; subst he)
      go_ret2
      exact ⟨rfl, hbw⟩
end Go.Proofs.Ytpfmnopokfiheaa
