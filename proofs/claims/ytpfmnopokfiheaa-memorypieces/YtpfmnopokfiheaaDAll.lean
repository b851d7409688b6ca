/- The contract of the document's all: are all pages there, and where. -/
import Derived.Test.YtpfmnopokfiheaaDReach
import Derived.Test.YtpfmnopokfiheaaMUnmap
namespace Go.Proofs.Ytpfmnopokfiheaa
open Go.ChangeShapes Go.WideShapes Go.ChangeAt Go.RowKit Go.Maps
set_option linter.unusedVariables false
set_option linter.unusedSimpArgs false

theorem all_of {L : List Pz} (hu : L.Pairwise (fun p q => p.k < q.k)) {f n : Nat} (h : ¬ inN L f (f + n) < n) : ∀ i, i < n → ∃ hi : fix L f + i < L.length, L[fix L f + i].k = f + i := by
  intro i
  induction i with
  | zero =>
    intro h0
    obtain ⟨p, hp, hk⟩ := in_all hu n f h 0 h0
    have hf : fnd L f = some p := by rw [← Nat.add_zero f, ← hk]; exact mem_fnd hu hp
    obtain ⟨hi, e⟩ := fix_some hu hf
    exact ⟨hi, by simp only [Nat.add_zero]; rw [e]; exact hk⟩
  | succ i ih =>
    intro h1
    obtain ⟨hi, e⟩ := ih (by omega)
    obtain ⟨p, hp, hk⟩ := in_all hu n f h (i + 1) h1
    obtain ⟨j, hj, rfl⟩ := List.getElem_of_mem hp
    have c1 : fix L f + i < j := by
      rcases Nat.lt_trichotomy (fix L f + i) j with c | c | c
      · exact c
      · subst c; omega
      · have := up_at hu hj hi c; omega
    rcases Nat.lt_or_eq_of_le (Nat.succ_le_of_lt c1) with c | c
    · have h2 : fix L f + (i + 1) < L.length := by omega
      have a1 := up_at hu hi h2 (by omega)
      have a2 := up_at hu h2 hj (by omega)
      omega
    · have c' : fix L f + (i + 1) = j := by omega
      subst c'
      exact ⟨hj, hk⟩

theorem in_of {L : List Pz} {f n s : Nat} (h1 : s + n ≤ L.length) (h2 : ∀ i (hi : s + i < L.length), i < n → L[s + i].k = f + i) : n ≤ inN L f (f + n) := by
  have hs : ((L.drop s).take n).Sublist L := (List.take_sublist _ _).trans (List.drop_sublist _ _)
  have hl : ((L.drop s).take n).length = n := by simp; omega
  have hf : ((L.drop s).take n).filter (inB f (f + n)) = (L.drop s).take n := by
    rw [List.filter_eq_self]
    intro p hp
    obtain ⟨i, hi, rfl⟩ := List.getElem_of_mem hp
    have hi' : i < n := by omega
    rw [List.getElem_take, List.getElem_drop]
    have := h2 i (by omega) hi'
    simp only [inB, this]
    simp; omega
  have := (hs.filter (inB f (f + n))).length_le
  rw [hf, hl] at this
  exact this

/-- What all answers. -/
def allV (L : List Pz) (f n : Nat) : Value := if inN L f (f + n) < n then .tuple #[.int .i64 0, .bool false] else .tuple #[.int .i64 (fix L f), .bool true]

set_option maxHeartbeats 1000000 in
set_option maxRecDepth 10000 in
theorem all_any (rb f n : Nat) (lv : Value) (pb : Nat → Nat) (L : List Pz) (w : World) (h : RA w rb lv pb L) (hf : f + n ≤ 34359738368) (hL : L.length ≤ 1048576) :
    Calls Try.prog 53 #[.pointer (some ⟨rb, 0, none⟩), .int .u64 ((f * 4096 : Nat) : Int), .int .i64 n] w fun e w' => e = .returned (allV L f n) ∧ w' = w := by
  have HF := find_any rb (f * 4096) lv pb L w h (by omega) hL
  rw [Nat.mul_div_cancel _ (by omega)] at HF
  have hu := h.mz.up
  have c0 := h.rcell
  obtain ⟨x, hx⟩ : ∃ x : Int, ((f * 4096 : Nat) : Int) = x := ⟨_, rfl⟩
  rw [hx] at HF ⊢
  have x0 : 0 ≤ x := by omega
  have x1 : x + (n : Int) * 4096 ≤ 140737488355328 := by omega
  have n1 : (n : Int) ≤ 34359738368 := by omega
  have hfl := fix_le hu f
  obtain ⟨s, hs⟩ : ∃ s, fix L f = s := ⟨_, rfl⟩
  rw [hs] at HF hfl
  have s1 : (s : Int) ≤ (L.length : Int) := by omega
  have s2 : (L.length : Int) ≤ 1048576 := by omega
  by_cases hm : L.length - s < n
  · have HV : Hid (allV L f n = .tuple #[.int .i64 0, .bool false]) := ⟨by
      unfold allV
      by_cases c : inN L f (f + n) < n
      · rw [if_pos c]
      · obtain ⟨hi, _⟩ := all_of hu c (n - 1) (by omega)
        omega⟩
    obtain ⟨ao, cap, rfl, _, _⟩ := h.sl
    have q1 : (L.length : Int) - (s : Int) < (n : Int) := by omega
    rw [HV.out]
    clear h hx hs hm
    go_enter Try.func53, Try.ntmps53
    go_wp2_with (go_at_call 58; with_reducible refine HF.mono ?_; rintro e w1 ⟨he, hw⟩; subst he; subst hw)
    go_ret2
    exact ⟨rfl, rfl⟩
  · have q1 : ¬ (L.length : Int) - (s : Int) < (n : Int) := by omega
    have hR := h
    obtain ⟨ao, cap, hv, _, _⟩ := h.sl
    subst hv
    obtain ⟨V, HV⟩ : ∃ V, Hid (allV L f n = V) := ⟨_, ⟨rfl⟩⟩
    rw [HV.out]
    have HH : Hid _ := ⟨hR⟩
    have HU : Hid _ := ⟨hu⟩
    have HX : Hid (((f * 4096 : Nat) : Int) = x) := ⟨hx⟩
    have HS : Hid (fix L f = s) := ⟨hs⟩
    clear h hR hx hs hu
    go_enter Try.func53, Try.ntmps53
    go_wp2_with (go_at_call 58; with_reducible refine HF.mono ?_; rintro e w1 ⟨he, hw⟩; subst he; subst hw)
    go_loopw [9] (fun i wr => ∃ j : Nat, j ≤ n ∧ i = .int .i64 j ∧ wr = w1 ∧ Hid (∀ i (hi : s + i < L.length), i < j → L[s + i].k = f + i)) (fun i _ => n - (intOf i).toNat)
    case atStart => exact ⟨0, by omega, rfl, rfl, ⟨fun i _ h => by omega⟩⟩
    case round =>
      obtain ⟨j, hj, rfl, hw, HW⟩ := hrel
      subst hw
      by_cases hlt : j < n
      · have hj1 : (j : Int) < n := by omega
        have hi : s + j < L.length := by omega
        obtain ⟨b, cap', hv, _, _, f0, _, _⟩ := HH.out.at' hi
        cases hv
        have e1 : (s : Int) + (j : Int) = ((s + j : Nat) : Int) := by omega
        have e2 : ((s + j : Nat) : Int) < (L.length : Int) := by omega
        by_cases hc : L[s + j].k = f + j
        · have q2 : (((L[s + j].k * 4096 : Nat) : Int) == x + (j : Int) * 4096) = true := by
            have := HX.out; simp; omega
          have q3 : (((L[s + j].k * 4096 : Nat) : Int) != x + (j : Int) * 4096) = false := by
            have := HX.out; simp; omega
          have HC : Hid (L[s + j].k = f + j) := ⟨hc⟩
          generalize ((L[s + j].k * 4096 : Nat) : Int) = u at *
          generalize s + j = t at f0 e1 e2
          clear hc
          go_wp2
          go_roundw
          case rel =>
            refine ⟨j + 1, by omega, by go_num, by trivial, ⟨fun i hi h => ?_⟩⟩
            rcases Nat.lt_or_eq_of_le (Nat.le_of_lt_succ h) with h2 | h2
            · exact HW.out i hi h2
            · subst h2; exact HC.out
          case measure => simp [intOf]; omega
        · have q2 : (((L[s + j].k * 4096 : Nat) : Int) == x + (j : Int) * 4096) = false := by
            have := HX.out; simp; omega
          have q3 : (((L[s + j].k * 4096 : Nat) : Int) != x + (j : Int) * 4096) = true := by
            have := HX.out; simp; omega
          have HV2 : Hid (V = .tuple #[.int .i64 0, .bool false]) := ⟨by
            rw [← HV.out]
            unfold allV
            by_cases c : inN L f (f + n) < n
            · rw [if_pos c]
            · obtain ⟨h1, h2⟩ := all_of HU.out c j hlt
              simp only [HS.out] at h2
              exact absurd h2 hc⟩
          generalize ((L[s + j].k * 4096 : Nat) : Int) = u at *
          generalize s + j = t at f0 e1 e2
          clear hc
          go_wp2
          go_ret2
          exact ⟨by rw [HV2.out]; rfl, rfl⟩
      · obtain rfl : j = n := by omega
        have HV2 : Hid (V = .tuple #[.int .i64 s, .bool true]) := ⟨by
          rw [← HV.out]
          unfold allV
          have := in_of (f := f) (by omega) HW.out
          rw [if_neg (by omega), HS.out]⟩
        clear HW
        go_wp2
        go_ret2
        exact ⟨by rw [HV2.out]; rfl, rfl⟩
end Go.Proofs.Ytpfmnopokfiheaa
