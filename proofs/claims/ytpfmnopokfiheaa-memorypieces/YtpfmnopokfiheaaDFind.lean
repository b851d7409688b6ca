/- The contracts of the document's wrong and find. -/
import Derived.Test.YtpfmnopokfiheaaDState
namespace Go.Proofs.Ytpfmnopokfiheaa
open Go.ChangeShapes Go.WideShapes Go.ChangeAt Go.RowKit Go.Maps
set_option linter.unusedVariables false
set_option linter.unusedSimpArgs false

/-- The document's errors of pages that are named are the program's. -/
theorem wrong_any (a : Nat) (pages may : Int) (w : World) (ha : a < 18446744073709551616) (hp : -9223372036854775808 ≤ pages ∧ pages ≤ 9223372036854775807) :
    Calls Try.prog 52 #[.int .u64 a, .int .i64 pages, .int .i64 may] w fun e w' => e = .returned (.int .i64 (namE a pages may)) ∧ w' = w := by
  by_cases h1 : pages < 1
  · have HV : Hid (namE a pages may = 1) := ⟨by unfold namE; simp [h1]⟩
    go_enter Try.func52, Try.ntmps52
    go_wp2
    go_ret
    exact ⟨by rw [HV.out]; rfl, rfl⟩
  by_cases h2 : may < 0
  · have HV : Hid (namE a pages may = 1) := ⟨by unfold namE; simp [h2]⟩
    go_enter Try.func52, Try.ntmps52
    go_wp2
    go_ret
    exact ⟨by rw [HV.out]; rfl, rfl⟩
  by_cases h3 : 7 < may
  · have HV : Hid (namE a pages may = 1) := ⟨by unfold namE; simp [h3]⟩
    go_enter Try.func52, Try.ntmps52
    go_wp2
    go_ret
    exact ⟨by rw [HV.out]; rfl, rfl⟩
  obtain ⟨x, hx⟩ : ∃ x : Int, (a : Int) = x := ⟨_, rfl⟩
  obtain ⟨E, HE⟩ : ∃ E, Hid (namE a pages may = E) := ⟨_, ⟨rfl⟩⟩
  have H4 : a % 4096 = 0 ↔ x % 4096 = 0 := by omega
  have x0 : 0 ≤ x := by omega
  have x1 : x < 18446744073709551616 := by omega
  rw [hx, HE.out]
  have hE := HE.out
  unfold namE at hE
  rw [if_neg (by omega)] at hE
  have e1 : ((140737488355328 - a : Nat) / 4096 : Nat) < pages ↔ (140737488355328 < x ∨ (140737488355328 - x) / 4096 < pages) := by omega
  by_cases h4 : x % 4096 = 0
  rotate_left
  · have HV : Hid (E = 11) := ⟨by rw [if_pos (by omega)] at hE; exact hE.symm⟩
    have q4 : (x % 4096 == 0) = false := by simpa using h4
    clear hE e1 hx H4 HE ha
    go_enter Try.func52, Try.ntmps52
    go_wp2
    go_ret
    exact ⟨by rw [HV.out]; rfl, rfl⟩
  have q4 : (x % 4096 == 0) = true := by simpa using h4
  by_cases h5 : 140737488355328 ≤ x
  · have HV : Hid (E = 11) := ⟨by
      by_cases h6 : 140737488355328 < x
      · rw [if_pos (by omega)] at hE; exact hE.symm
      · rw [if_neg (by omega), if_pos (by omega)] at hE; exact hE.symm⟩
    clear hE e1 hx H4 HE ha
    go_enter Try.func52, Try.ntmps52
    go_wp2
    go_ret
    exact ⟨by rw [HV.out]; rfl, rfl⟩
  have p0 : 0 ≤ pages := by omega
  by_cases h6 : (140737488355328 - x) / 4096 < pages
  · have HV : Hid (E = 11) := ⟨by rw [if_neg (by omega), if_pos (by omega)] at hE; exact hE.symm⟩
    clear hE e1 hx H4 HE ha
    go_enter Try.func52, Try.ntmps52
    go_wp2
    go_ret
    exact ⟨by rw [HV.out]; rfl, rfl⟩
  · have HV : Hid (E = 0) := ⟨by rw [if_neg (by omega), if_neg (by omega)] at hE; exact hE.symm⟩
    clear hE e1 hx H4 HE ha
    go_enter Try.func52, Try.ntmps52
    go_wp2
    go_ret
    exact ⟨by rw [HV.out]; rfl, rfl⟩

/-- The place of a page; how many there are, if it is not there. -/
def fix (L : List Pz) (k : Nat) : Nat := if (fnd L k).isSome then (L.takeWhile (fun p => decide (p.k < k))).length else L.length

theorem up_at {L : List Pz} (h : L.Pairwise (fun p q => p.k < q.k)) {i j : Nat} (hi : i < L.length) (hj : j < L.length) (hij : i < j) : L[i].k < L[j].k :=
  List.pairwise_iff_getElem.1 h i j hi hj hij

theorem tw_len {L : List Pz} {k lo : Nat} (hlo : lo ≤ L.length) (h1 : ∀ i (hi : i < L.length), i < lo → L[i].k < k) (h2 : ∀ i (hi : i < L.length), lo ≤ i → k ≤ L[i].k) : (L.takeWhile (fun p => decide (p.k < k))).length = lo := by
  induction L generalizing lo with
  | nil => simp at hlo; simp [hlo]
  | cons p L ih =>
    rw [List.takeWhile_cons]
    cases lo with
    | zero =>
      have := h2 0 (by simp) (Nat.le_refl _)
      rw [if_neg (by simpa using this)]
      rfl
    | succ lo =>
      have := h1 0 (by simp) (by omega)
      rw [if_pos (by simpa using this), List.length_cons, ih (lo := lo) (by simpa using hlo)]
      · intro i hi hl
        exact h1 (i + 1) (by simpa using hi) (by omega)
      · intro i hi hl
        exact h2 (i + 1) (by simpa using hi) (by omega)

theorem fix_at {L : List Pz} (hu : L.Pairwise (fun p q => p.k < q.k)) {i : Nat} (hi : i < L.length) : fix L L[i].k = i := by
  unfold fix
  rw [mem_fnd hu (List.getElem_mem hi), Option.isSome_some, if_pos rfl]
  refine tw_len (Nat.le_of_lt hi) (fun j hj hl => up_at hu hj hi hl) (fun j hj hl => ?_)
  rcases Nat.lt_or_eq_of_le hl with h | h
  · exact Nat.le_of_lt (up_at hu hi hj h)
  · subst h; exact Nat.le_refl _
theorem fix_none {L : List Pz} {k : Nat} (h : fnd L k = none) : fix L k = L.length := by unfold fix; rw [h]; rfl
theorem fix_some {L : List Pz} (hu : L.Pairwise (fun p q => p.k < q.k)) {k : Nat} {p : Pz} (h : fnd L k = some p) : ∃ hi : fix L k < L.length, L[fix L k] = p := by
  obtain ⟨hm, rfl⟩ := fnd_mem h
  obtain ⟨i, hi, rfl⟩ := List.getElem_of_mem hm
  rw [fix_at hu hi]
  exact ⟨hi, rfl⟩
theorem fix_le {L : List Pz} (hu : L.Pairwise (fun p q => p.k < q.k)) (k : Nat) : fix L k ≤ L.length := by
  cases h : fnd L k with
  | none => rw [fix_none h]; exact Nat.le_refl _
  | some p => obtain ⟨h1, _⟩ := fix_some hu h; exact Nat.le_of_lt h1
/-- What the search has come to. -/
theorem fix_lo {L : List Pz} (hu : L.Pairwise (fun p q => p.k < q.k)) {k lo : Nat} (hlo : lo ≤ L.length) (h1 : ∀ i (hi : i < L.length), i < lo → L[i].k < k) (h2 : ∀ i (hi : i < L.length), lo ≤ i → k ≤ L[i].k) :
    fix L k = if h : lo < L.length then (if L[lo].k = k then lo else L.length) else L.length := by
  by_cases h : lo < L.length
  · rw [dif_pos h]
    by_cases e : L[lo].k = k
    · rw [if_pos e, ← e, fix_at hu h]
    · rw [if_neg e]
      refine fix_none (fnd_none.2 (fun p hp e' => ?_))
      obtain ⟨i, hi, rfl⟩ := List.getElem_of_mem hp
      by_cases c : i < lo
      · have := h1 i hi c; omega
      · have a1 := h2 lo h (Nat.le_refl _)
        rcases Nat.lt_or_eq_of_le (Nat.le_of_not_lt c) with h' | h'
        · have := up_at hu h hi h'; omega
        · subst h'; exact e e'
  · rw [dif_neg h]
    refine fix_none (fnd_none.2 (fun p hp e' => ?_))
    obtain ⟨i, hi, rfl⟩ := List.getElem_of_mem hp
    have := h1 i hi (by omega)
    omega

set_option maxHeartbeats 1000000 in
set_option maxRecDepth 10000 in
theorem find_any (rb a : Nat) (lv : Value) (pb : Nat → Nat) (L : List Pz) (w : World) (h : RA w rb lv pb L) (ha : a < 18446744073709551616) (hL : L.length ≤ 1048576) :
    Calls Try.prog 58 #[.pointer (some ⟨rb, 0, none⟩), .int .u64 a] w fun e w' => e = .returned (.int .i64 (fix L (a / 4096))) ∧ w' = w := by
  obtain ⟨ao, cap, hv, hc1, hc2, hn, hz0, hrow⟩ := h.row.any
  subst hv
  have c0 := h.rcell
  have hu := h.mz.up
  have hk : ∀ i (hi : i < L.length), L[i].k < 34359738368 := fun i hi => (h.mz.ok _ (List.getElem_mem hi)).k
  have HU : Hid _ := ⟨hu⟩
  have HK : Hid _ := ⟨hk⟩
  have HR : Hid _ := ⟨hrow⟩
  have HN : Hid _ := ⟨hn⟩
  have HZ : Hid _ := ⟨hz0⟩
  obtain ⟨z, hz⟩ : ∃ z : Int, z = ((a / 4096 * 4096 : Nat) : Int) := ⟨_, rfl⟩
  have e1 : IntKind.u64.wrap ((a : Int) / 4096) = ((a / 4096 : Nat) : Int) := by
    rw [IntKind.wrap_u64]; omega
  have e2 : IntKind.u64.wrap (((a / 4096 : Nat) : Int) * 4096) = z := by
    rw [IntKind.wrap_u64]; omega
  clear h hu hk hrow hn hz0
  have eL : (L.length : Int) ≤ 1048576 := by omega
  generalize a / 4096 = q at *
  have HZ2 : Hid _ := ⟨hz⟩
  clear ha hz
  go_enter Try.func58, Try.ntmps58
  go_wp2
  go_loopw [5, 6, 8] (fun i j _ wr => ∃ lo hi : Nat, lo ≤ hi ∧ hi ≤ L.length ∧ i = .int .i64 lo ∧ j = .int .i64 hi ∧ wr = w ∧ Hid ((∀ i (h : i < L.length), i < lo → L[i].k < q) ∧ (∀ i (h : i < L.length), hi ≤ i → q ≤ L[i].k))) (fun i j _ _ => (intOf j).toNat - (intOf i).toNat)
  case atStart => exact ⟨0, L.length, by omega, by omega, rfl, rfl, rfl, ⟨fun i _ h => by omega, fun i h h' => by omega⟩⟩
  case round =>
    obtain ⟨lo, hi, hlh, hhi, rfl, rfl, hw, HW⟩ := hrel
    subst hw
    by_cases hlt : lo < hi
    · obtain ⟨m, hm⟩ : ∃ m, m = (lo + hi) / 2 := ⟨_, rfl⟩
      have eM : ((lo : Int) + (hi : Int)) / 2 = (m : Int) := by omega
      have hmL : m < L.length := by omega
      have m1 : lo ≤ m := by omega
      have m2 : m < hi := by omega
      obtain ⟨b, rfl⟩ : ∃ b, ao = some ⟨b, 0, none⟩ := by
        rcases ao with _ | ⟨b, o, c⟩
        · have := (HN.out rfl).1; subst this; simp at hmL
        · obtain ⟨rfl, rfl⟩ := HZ.out b o c rfl; exact ⟨b, rfl⟩
      obtain ⟨f0, _, _⟩ := (HR.out b rfl).2 m hmL
      have hkm := HK.out m hmL
      have l1 : (lo : Int) < (hi : Int) := by omega
      have l2 : (m : Int) < (L.length : Int) := by omega
      by_cases hc : L[m].k < q
      · have HC : Hid (L[m].k < q) := ⟨hc⟩
        have HM : Hid (m = (lo + hi) / 2) := ⟨hm⟩
        have q1 : ((L[m].k * 4096 : Nat) : Int) < z := by have := HZ2.out; omega
        generalize ((L[m].k * 4096 : Nat) : Int) = u at *
        clear hm hc hkm
        go_wp2
        go_roundw
        case rel =>
          refine ⟨m + 1, hi, by omega, hhi, by go_num, rfl, trivial, ⟨fun i h h' => ?_, HW.out.2⟩⟩
          rcases Nat.lt_or_eq_of_le (Nat.le_of_lt_succ h') with h2 | h2
          · have := up_at HU.out h hmL h2; have := HC.out; omega
          · subst h2; exact HC.out
        case measure => simp [intOf]; omega
      · have HC : Hid (q ≤ L[m].k) := ⟨by omega⟩
        have HM : Hid (m = (lo + hi) / 2) := ⟨hm⟩
        have q1 : ¬ ((L[m].k * 4096 : Nat) : Int) < z := by have := HZ2.out; omega
        generalize ((L[m].k * 4096 : Nat) : Int) = u at *
        clear hm hc hkm
        go_wp2
        go_roundw
        case rel =>
          refine ⟨lo, m, by omega, by omega, rfl, by rw [eM], trivial, ⟨HW.out.1, fun i h h' => ?_⟩⟩
          rcases Nat.lt_or_eq_of_le h' with h2 | h2
          · have := up_at HU.out hmL h h2; have := HC.out; omega
          · subst h2; exact HC.out
        case measure => simp [intOf]; omega
    · obtain rfl : lo = hi := by omega
      have HF := fix_lo HU.out hhi HW.out.1 HW.out.2
      by_cases hlL : lo < L.length
      · obtain ⟨b, rfl⟩ : ∃ b, ao = some ⟨b, 0, none⟩ := by
          rcases ao with _ | ⟨b, o, c⟩
          · have := (HN.out rfl).1; subst this; simp at hlL
          · obtain ⟨rfl, rfl⟩ := HZ.out b o c rfl; exact ⟨b, rfl⟩
        obtain ⟨f0, _, _⟩ := (HR.out b rfl).2 lo hlL
        have l2 : (lo : Int) < (L.length : Int) := by omega
        have hkm := HK.out lo hlL
        rw [dif_pos hlL] at HF
        by_cases hc : L[lo].k = q
        · rw [if_pos hc] at HF
          have HF' : Hid _ := ⟨HF⟩
          have q1 : (((L[lo].k * 4096 : Nat) : Int) == z) = true := by rw [hc, HZ2.out]; simp
          generalize ((L[lo].k * 4096 : Nat) : Int) = u at *
          clear hc hkm HF
          go_wp2
          go_ret
          exact ⟨by rw [HF'.out]; rfl, rfl⟩
        · rw [if_neg hc] at HF
          have HF' : Hid _ := ⟨HF⟩
          have q1 : (((L[lo].k * 4096 : Nat) : Int) == z) = false := by rw [HZ2.out]; simp; omega
          generalize ((L[lo].k * 4096 : Nat) : Int) = u at *
          clear hc hkm HF
          go_wp2
          go_ret
          exact ⟨by rw [HF'.out]; rfl, rfl⟩
      · have l2 : ¬ (lo : Int) < (L.length : Int) := by omega
        rw [dif_neg hlL] at HF
        have HF' : Hid _ := ⟨HF⟩
        clear HF
        go_wp2
        go_ret
        exact ⟨by rw [HF'.out]; rfl, rfl⟩
end Go.Proofs.Ytpfmnopokfiheaa
