/- The contract of the document's Protect. -/
import Derived.Test.YtpfmnopokfiheaaDAll
import Derived.Test.YtpfmnopokfiheaaMProt
namespace Go.Proofs.Ytpfmnopokfiheaa
open Go.ChangeShapes Go.WideShapes Go.ChangeAt Go.RowKit Go.Maps
set_option linter.unusedVariables false
set_option linter.unusedSimpArgs false

/-- What a call leaves of the document's Memory. -/
def RX (w w' : World) (rb : Nat) (lv : Value) (pb : Nat → Nat) (L L' : List Pz) : Prop :=
  ∃ lv' pb', RA w' rb lv' pb' L' ∧ Turn (RS rb lv pb L) w w' ∧ ∀ b, RS rb lv' pb' L' b → RS rb lv pb L b ∨ w.heap.size ≤ b
theorem RX.same {w w' : World} {rb : Nat} {lv : Value} {pb : Nat → Nat} {L : List Pz} (h : RA w rb lv pb L) (hb : Below w.heap.size w w') : RX w w' rb lv pb L L :=
  ⟨lv, pb, h.below hb, Turn.of_below hb _, fun _ h => .inl h⟩

theorem k_inj {L : List Pz} (hu : L.Pairwise (fun p q => p.k < q.k)) {i j : Nat} (hi : i < L.length) (hj : j < L.length) (e : L[i].k = L[j].k) : i = j := by
  rcases Nat.lt_trichotomy i j with c | c | c
  · have := up_at hu hi hj c; omega
  · exact c
  · have := up_at hu hj hi c; omega

theorem pzs_set {L : List Pz} (hu : L.Pairwise (fun p q => p.k < q.k)) (pb : Nat → Nat) {i : Nat} (hi : i < L.length) (m : Int) : (pzs pb L).set (i * 3 + 1) (.int .i64 m) = pzs pb (maL L L[i].k m) := by
  have hlen : (maL L L[i].k m).length = L.length := by simp [maL]
  apply List.ext_getElem?
  intro t
  by_cases ht : t < L.length * 3
  · obtain ⟨q, r, hr, rfl⟩ : ∃ q r, r < 3 ∧ t = q * 3 + r := ⟨t / 3, t % 3, by omega, by omega⟩
    have hq : q < L.length := by omega
    rw [pzs_at pb (maL L L[i].k m) q r (by omega) hr]
    have hg : (maL L L[i].k m)[q]'(by omega) = if L[q].k = L[i].k then ⟨L[q].k, m, L[q].B⟩ else L[q] := by simp [maL]
    rw [hg]
    by_cases c : i * 3 + 1 = q * 3 + r
    · obtain rfl : i = q := by omega
      obtain rfl : r = 1 := by omega
      rw [List.getElem?_set_self (by rw [pzs_len]; omega), if_pos rfl]
      rfl
    · rw [List.getElem?_set_ne c, pzs_at pb L q r hq hr]
      by_cases e : L[q].k = L[i].k
      · obtain rfl : q = i := k_inj hu hq hi e
        rw [if_pos rfl]
        have : r = 0 ∨ r = 2 := by omega
        rcases this with rfl | rfl <;> rfl
      · rw [if_neg e]
  · rw [List.getElem?_eq_none (by rw [List.length_set, pzs_len]; omega), List.getElem?_eq_none (by rw [pzs_len, hlen]; omega)]

theorem RA.rv {w : World} {rb : Nat} {lv : Value} {pb : Nat → Nat} {L : List Pz} (h : RA w rb lv pb L) {b : Nat} (hb : lv.ownBlock = some b) : ∃ cur, w.heap[b]? = some (.cells cur 78) := by
  rcases h.row.2 with ⟨hv, _⟩ | ⟨g, cap, cur, hv, _, hg, _⟩
  · rw [hv] at hb; cases hb
  · rw [hv] at hb; cases hb; exact ⟨cur, hg⟩
theorem RA.rne {w : World} {rb : Nat} {lv : Value} {pb : Nat → Nat} {L : List Pz} (h : RA w rb lv pb L) {b : Nat} (hb : lv.ownBlock = some b) : rb ≠ b := by
  intro e
  obtain ⟨cur, hg⟩ := h.rv hb
  rw [← e, h.cells] at hg
  injection hg with hg
  injection hg with h1 h2
  cases h2
theorem RA.bne {w : World} {rb : Nat} {lv : Value} {pb : Nat → Nat} {L : List Pz} (h : RA w rb lv pb L) {p : Pz} (hp : p ∈ L) {b : Nat} (hb : lv.ownBlock = some b) : pb p.k ≠ b := by
  intro e
  obtain ⟨cur, hg⟩ := h.rv hb
  rw [← e, h.bytes p hp] at hg
  injection hg with hg
  injection hg with h1 h2
  cases h2
theorem RA.brb {w : World} {rb : Nat} {lv : Value} {pb : Nat → Nat} {L : List Pz} (h : RA w rb lv pb L) {p : Pz} (hp : p ∈ L) : pb p.k ≠ rb := by
  intro e
  have hg := h.cells
  rw [← e, h.bytes p hp] at hg
  injection hg with hg
  injection hg with h1 h2
  cases h2

theorem RA.may {w : World} {rb b cap N : Nat} {pb : Nat → Nat} {L : List Pz} (h : RA w rb (.slice (some ⟨b, 0, none⟩) N cap) pb L) (hN : N = L.length) {i : Nat} (hi : i < L.length) {m : Int} (h0 : 0 ≤ m) (h7 : m ≤ 7) :
    RA (w.setCell ⟨b, i * 3 + 1, none⟩ (.int .i64 m)) rb (.slice (some ⟨b, 0, none⟩) N cap) pb (maL L L[i].k m) := by
  subst hN
  have hlen : (maL L L[i].k m).length = L.length := by simp [maL]
  have hk := maL_k L L[i].k m
  have hb : ∀ c, c ≠ b → (w.setCell ⟨b, i * 3 + 1, none⟩ (.int .i64 m)).heap[c]? = w.heap[c]? := fun c hne => Below.heap_setCell _ _ _ _ (by simpa using hne)
  refine ⟨?_, ?_, fun q hq => ?_, fun q hq q' hq' e => ?_, ⟨fun q hq => ?_, up_k hk h.mz.up⟩⟩
  · rw [hb rb (h.rne rfl)]; exact h.cells
  · rcases h.row.2 with ⟨hv, _⟩ | ⟨g, cap', cur, hv, hb0, hg, h1, h2, h3, h4⟩
    · cases hv
    · cases hv
      have hset := setCell_eq_setRow w b (i * 3 + 1) _ _ _ (.int .i64 m) hg
      refine ⟨by rw [pzs_len], .inr ⟨b, cap, cur.setIfInBounds (i * 3 + 1) (.int .i64 m), by rw [hlen], Nat.zero_le _, ?_, by rw [hlen]; exact h1, h2, by simpa using h3, ?_⟩⟩
      · rw [hset, setRow_heap w b _ _ _ _ hg]
      · rw [hlen, Array.toList_setIfInBounds, List.take_set, h4, pzs_set h.mz.up pb hi m]
  · unfold maL at hq
    obtain ⟨q0, hq0, rfl⟩ := List.mem_map.1 hq
    have hk0 : (if q0.k = L[i].k then (⟨q0.k, m, q0.B⟩ : Pz) else q0).k = q0.k := by split <;> rfl
    have hB0 : (if q0.k = L[i].k then (⟨q0.k, m, q0.B⟩ : Pz) else q0).B = q0.B := by split <;> rfl
    rw [hk0, hB0, hb _ (h.bne hq0 rfl)]
    exact h.bytes q0 hq0
  · obtain ⟨a, ha, ea⟩ := k_mem hk.symm hq
    obtain ⟨b', hb', eb⟩ := k_mem hk.symm hq'
    rw [← ea, ← eb] at e ⊢
    exact h.inj a ha b' hb' e
  · unfold maL at hq
    obtain ⟨q0, hq0, rfl⟩ := List.mem_map.1 hq
    have ho := h.mz.ok q0 hq0
    by_cases e : q0.k = L[i].k
    · rw [if_pos e]; exact ⟨ho.k, h0, h7, ho.len, ho.byte⟩
    · rw [if_neg e]; exact ho

theorem rprotect_bad (rb a : Nat) (lv : Value) (pb : Nat → Nat) (L : List Pz) (pages may : Int) (w : World) (h : RA w rb lv pb L) (ha : a < 18446744073709551616) (hp : -9223372036854775808 ≤ pages ∧ pages ≤ 9223372036854775807) (hL : L.length ≤ 1048576) (hE : thrE L a pages may ≠ 0) :
    Calls Try.prog 31 #[.pointer (some ⟨rb, 0, none⟩), .int .u64 a, .int .i64 pages, .int .i64 may] w fun e w' => e = .returned (.int .i64 (thrE L a pages may)) ∧ w' = w := by
  have HN := wrong_any a pages may w ha hp
  by_cases hN : namE a pages may = 0
  · obtain ⟨p1, p2, p3, p4, p5, p6⟩ := namE_ok hN
    have HA := all_any rb (a / 4096) pages.toNat lv pb L w h (by omega) hL
    rw [show a / 4096 * 4096 = a by omega, show ((pages.toNat : Nat) : Int) = pages by omega] at HA
    have hin : inN L (a / 4096) (a / 4096 + pages.toNat) < pages.toNat := by
      refine Classical.byContradiction fun c => hE ?_
      unfold thrE
      rw [if_neg (by simpa using hN), if_neg c]
    have HT : Hid (thrE L a pages may = 60) := ⟨by unfold thrE; rw [if_neg (by simpa using hN), if_pos hin]⟩
    unfold allV at HA
    rw [if_pos hin] at HA
    rw [HT.out]
    rw [hN] at HN
    clear h hN hE p1 p2 p3 p4 p5 p6 hin ha hp
    go_enter Try.func31, Try.ntmps31
    go_wp2_with (first
      | (go_at_call 52; with_reducible refine HN.mono ?_; rintro e w1 ⟨he, hw⟩; subst he; subst hw)
      | (go_at_call 53; with_reducible refine HA.mono ?_; rintro e w1 ⟨he, hw⟩; subst he; subst hw))
    go_ret
    exact ⟨rfl, rfl⟩
  · have HT : thrE L a pages may = namE a pages may := by unfold thrE; rw [if_pos hN]
    rw [HT]
    generalize namE a pages may = q at *
    have q1 : (q == 0) = false := by simpa using hN
    have q2 : (q != 0) = true := by simpa using hN
    clear h hE HT hN
    go_enter Try.func31, Try.ntmps31
    go_wp2_with (go_at_call 52; with_reducible refine HN.mono ?_; rintro e w1 ⟨he, hw⟩; subst he; subst hw)
    go_ret
    exact ⟨rfl, rfl⟩

set_option maxHeartbeats 1000000 in
theorem rprotect_done (rb a : Nat) (lv : Value) (pb : Nat → Nat) (L : List Pz) (pages may : Int) (w : World) (h : RA w rb lv pb L) (ha : a < 18446744073709551616) (hp : -9223372036854775808 ≤ pages ∧ pages ≤ 9223372036854775807) (hL : L.length ≤ 1048576) (hE : thrE L a pages may = 0) :
    Calls Try.prog 31 #[.pointer (some ⟨rb, 0, none⟩), .int .u64 a, .int .i64 pages, .int .i64 may] w fun e w' => e = .returned (.int .i64 (thrE L a pages may)) ∧ RA w' rb lv pb (proL L a pages may) ∧ Turn (RS rb lv pb L) w w' := by
  have HN := wrong_any a pages may w ha hp
  have hN := thr_nam hE
  obtain ⟨p1, p2, p3, p4, p5, p6⟩ := namE_ok hN
  have HA := all_any rb (a / 4096) pages.toNat lv pb L w h (by omega) hL
  have hpn : ((pages.toNat : Nat) : Int) = pages := by omega
  rw [show a / 4096 * 4096 = a by omega, hpn] at HA
  have hin : ¬ inN L (a / 4096) (a / 4096 + pages.toNat) < pages.toNat := fun hi => by
    unfold thrE at hE
    rw [if_neg (by simpa using hN), if_pos hi] at hE
    cases hE
  have HL : proL L a pages may = prL L (a / 4096) pages.toNat may := by unfold proL; rw [if_pos hE]
  have hall := all_of h.mz.up hin
  unfold allV at HA
  rw [if_neg hin] at HA
  rw [HL, hE]
  rw [hN] at HN
  have h1 : 0 < pages.toNat := by omega
  generalize a / 4096 = f at *
  obtain ⟨n, hn⟩ : ∃ n, pages.toNat = n := ⟨_, rfl⟩
  rw [hn] at hpn hall h1
  rw [hn]
  subst hpn
  obtain ⟨b, cap, hv⟩ : ∃ b cap, lv = .slice (some ⟨b, 0, none⟩) L.length cap := by
    obtain ⟨hs0, _⟩ := hall 0 h1
    obtain ⟨b, cap, hv, _⟩ := h.at' hs0
    exact ⟨b, cap, hv⟩
  subst hv
  have hsn : fix L f + (n - 1) < L.length := by obtain ⟨h, _⟩ := hall (n - 1) (by omega); exact h
  obtain ⟨s, hs⟩ : ∃ s, s = fix L f := ⟨_, rfl⟩
  rw [← hs] at HA hsn
  have hall' : ∀ i, i < n → ∃ hi : s + i < L.length, L[s + i].k = f + i := by subst hs; exact hall
  have HM : Hid _ := ⟨h⟩
  have HAll : Hid _ := ⟨hall'⟩
  have Hm : Hid (0 ≤ may ∧ may ≤ 7) := ⟨p2, p3⟩
  have s1 : (s : Int) + (n : Int) ≤ (L.length : Int) := by omega
  have s2 : (L.length : Int) ≤ 1048576 := by omega
  clear h HL hE hin hall hall' p1 p2 p3 p4 p5 p6 hs hsn hN hn ha hp
  go_enter Try.func31, Try.ntmps31
  go_wp2_with (first
      | (go_at_call 52; with_reducible refine HN.mono ?_; rintro e w1 ⟨he, hw⟩; subst he; subst hw)
      | (go_at_call 53; with_reducible refine HA.mono ?_; rintro e w1 ⟨he, hw⟩; subst he; subst hw))
  go_loopw [12] (fun i wr => ∃ j : Nat, j ≤ n ∧ i = .int .i64 j ∧ Hid (RA wr rb (.slice (some ⟨b, 0, none⟩) L.length cap) pb (prL L f j may) ∧ Turn (RS rb (.slice (some ⟨b, 0, none⟩) L.length cap) pb L) w1 wr)) (fun i _ => n - (intOf i).toNat)
  case atStart => exact ⟨0, by omega, rfl, ⟨by rw [prL_zero]; exact HM.out, Turn.refl _ _⟩⟩
  case round =>
    obtain ⟨j, hj, rfl, HR⟩ := hrel
    obtain ⟨hra, htu⟩ := HR.out
    have c0 := hra.rcell
    by_cases hlt : j < n
    · have q1 : (j : Int) < (n : Int) := by omega
      have hlen : (prL L f j may).length = L.length := by simp [prL]
      obtain ⟨hi, hk⟩ := HAll.out j hlt
      have hi' : s + j < (prL L f j may).length := by omega
      have hk' : (prL L f j may)[s + j].k = f + j := by
        have : (prL L f j may)[s + j].k = ((prL L f j may).map (fun p => p.k))[s + j]'(by simpa using hi') := by simp
        rw [this]
        simp only [prL_k]
        simpa using hk
      obtain ⟨b', cap', hv, _, _, f0, f1, _⟩ := hra.at' hi'
      rw [hlen] at hv
      cases hv
      have e1 : (s : Int) + (j : Int) = ((s + j : Nat) : Int) := by omega
      have e2 : ((s + j : Nat) : Int) < (L.length : Int) := by omega
      have fz : wr.frozen? ⟨b, (s + j) * 3 + 1, none⟩ = false := by
        obtain ⟨cur, hg⟩ := hra.rv rfl
        simp [World.frozen?, hg]
      have HI : Hid (∃ hi : s + j < (prL L f j may).length, (prL L f j may)[s + j].k = f + j) := ⟨hi', hk'⟩
      have HA2 : Hid _ := ⟨hra⟩
      have HT2 : Hid _ := ⟨htu⟩
      have q2 : (L.length : Int) ≤ 1048576 := by omega
      generalize (prL L f j may)[s + j].may = om at *
      generalize (((prL L f j may)[s + j].k * 4096 : Nat) : Int) = ok at *
      obtain ⟨t, ht⟩ : ∃ t, s + j = t := ⟨_, rfl⟩
      rw [ht] at e1 e2 fz f1
      have HTj : Hid (s + j = t) := ⟨ht⟩
      clear hra htu hk hk' HR f0 ht
      go_wp2
      go_roundw
      case rel =>
        obtain ⟨h1, h2⟩ := HI.out
        have h3 := HA2.out.may hlen.symm h1 Hm.out.1 Hm.out.2
        rw [h2, ← prL_succ, HTj.out] at h3
        exact ⟨j + 1, by omega, by go_num, ⟨h3, HT2.out.setCell ⟨b, t * 3 + 1, none⟩ (.inl (.inr (.inl rfl))) _⟩⟩
      case measure => simp [intOf]; omega
    · obtain rfl : j = n := by omega
      have q1 : ¬ (j : Int) < (j : Int) := by omega
      clear hra htu
      go_wp2
      go_ret
      exact ⟨rfl, HR.out.1, HR.out.2⟩
theorem rprotect_any (rb a : Nat) (lv : Value) (pb : Nat → Nat) (L : List Pz) (pages may : Int) (w : World) (h : RA w rb lv pb L) (ha : a < 18446744073709551616) (hp : -9223372036854775808 ≤ pages ∧ pages ≤ 9223372036854775807) (hL : L.length ≤ 1048576) :
    Calls Try.prog 31 #[.pointer (some ⟨rb, 0, none⟩), .int .u64 a, .int .i64 pages, .int .i64 may] w fun e w' => e = .returned (.int .i64 (thrE L a pages may)) ∧ RA w' rb lv pb (proL L a pages may) ∧ Turn (RS rb lv pb L) w w' := by
  by_cases hE : thrE L a pages may = 0
  · exact rprotect_done rb a lv pb L pages may w h ha hp hL hE
  · refine (rprotect_bad rb a lv pb L pages may w h ha hp hL hE).mono ?_
    rintro e w' ⟨he, hw⟩
    subst hw
    refine ⟨he, ?_, Turn.refl _ _⟩
    unfold proL
    rw [if_neg hE]
    exact h
end Go.Proofs.Ytpfmnopokfiheaa
