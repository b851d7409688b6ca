/- The contracts of the document's own named and good. -/
import Derived.Test.YtpdcbokcoaienaaDoorSRef
import Derived.Test.YtpdcbokcoaienaaDoorSWriteP
namespace Go.Proofs.YtpdcbokcoaienaaDoor
open Go.ChangeShapes Go.WideShapes Go.ChangeAt Go.RowKit Go.Maps
set_option linter.unusedVariables false
set_option linter.unusedSimpArgs false

def star : ByteArray := ⟨#[42]⟩
theorem star_ne : star ≠ ByteArray.empty := by decide

/-- The numbers of the first k sections. -/
structure NI (ss : List ByteArray) (k : Nat) (m : ByteArray → Option Int) : Prop where
  emp : m ByteArray.empty = some 0
  str : m star = some 65521
  oth : ∀ t, t ≠ ByteArray.empty → t ≠ star → m t = if pl ss t < k then some (1 + (pl ss t : Int)) else none

theorem NI.start (ss : List ByteArray) : NI ss 0 num0 := by
  refine ⟨?_, ?_, fun t h1 h2 => ?_⟩
  · have hne : ByteArray.empty ≠ (⟨#[42]⟩ : ByteArray) := Ne.symm star_ne
    unfold num0 mput
    rw [if_neg hne]
    simp
  · unfold num0 mput
    exact if_pos rfl
  · unfold num0 mput
    have h2' : t ≠ ⟨#[42]⟩ := h2
    simp [h1, h2']

theorem NI.isSome {ss : List ByteArray} {k : Nat} {m : ByteArray → Option Int} (h : NI ss k m) (t : ByteArray) : (m t).isSome = (decide (t = ByteArray.empty) || (decide (t = star) || decide (pl ss t < k))) := by
  by_cases h1 : t = ByteArray.empty
  · rw [h1, h.emp]; simp
  · by_cases h2 : t = star
    · rw [h2, h.str]; simp
    · rw [h.oth t h1 h2, decide_eq_false h1, decide_eq_false h2]
      by_cases h3 : pl ss t < k
      · rw [if_pos h3, decide_eq_true h3]; rfl
      · rw [if_neg h3, decide_eq_false h3]; rfl

theorem pl_at (ss : List ByteArray) (k : Nat) (hk : k < ss.length) : pl ss ss[k] ≤ k := by
  unfold pl
  apply Classical.byContradiction
  intro h
  have := List.not_of_lt_findIdx (p := fun t => decide (t = ss[k])) (xs := ss) (i := k) (by omega)
  simp at this
theorem pl_is (ss : List ByteArray) (t : ByteArray) (h : pl ss t < ss.length) : ss[pl ss t] = t := by
  have := List.findIdx_getElem (p := fun x => decide (x = t)) (xs := ss) (w := h)
  exact of_decide_eq_true this

theorem NI.step {ss : List ByteArray} {k : Nat} {m : ByteArray → Option Int} (h : NI ss k m) (hk : k < ss.length) (hn : (m ss[k]).isSome = false) : NI ss (k + 1) (mput m ss[k] ((k : Int) + 1)) := by
  rw [h.isSome] at hn
  simp only [Bool.or_eq_false_iff, decide_eq_false_iff_not] at hn
  obtain ⟨n1, n2, n3⟩ := hn
  have hp : pl ss ss[k] = k := by have := pl_at ss k hk; omega
  refine ⟨?_, ?_, fun t h1 h2 => ?_⟩
  · unfold mput; rw [if_neg (Ne.symm n1)]; exact h.emp
  · unfold mput; rw [if_neg (Ne.symm n2)]; exact h.str
  · unfold mput
    by_cases e : t = ss[k]
    · rw [if_pos e, e, hp, if_pos (by omega)]
      congr 1; omega
    · rw [if_neg e, h.oth t h1 h2]
      by_cases h3 : pl ss t < k
      · rw [if_pos h3, if_pos (by omega)]
      · have : pl ss t ≠ k := fun e' => by
          have := pl_is ss t (by omega)
          apply e
          rw [← this]
          congr 1
        rw [if_neg h3, if_neg (by omega)]

theorem numM_NI {ss : List ByteArray} {f : ByteArray → Option Int} (h : numM ss = some f) : NI ss ss.length f := by
  have key : ∀ (n k : Nat) (m : ByteArray → Option Int), n = ss.length - k → k ≤ ss.length → NI ss k m → numF (ss.drop k) k m = some f → NI ss ss.length f := by
    intro n
    induction n with
    | zero =>
      intro k m hn hk hi hf
      obtain rfl : k = ss.length := by omega
      rw [List.drop_of_length_le (Nat.le_refl _)] at hf
      cases hf
      exact hi
    | succ n ih =>
      intro k m hn hk hi hf
      have hlt : k < ss.length := by omega
      rw [List.drop_eq_getElem_cons hlt] at hf
      unfold numF at hf
      split at hf
      · cases hf
      · rename_i hc
        simp only [Bool.not_eq_true, Bool.or_eq_false_iff] at hc
        exact ih (k + 1) _ (by omega) hlt (hi.step hlt hc.1) hf
  exact key ss.length 0 num0 (by omega) (by omega) (NI.start ss) (by simpa [numM] using h)

theorem star_tl : star.toList = [42] := by rw [ByteArray.toList_eq]; rfl
theorem emp_tl (s : ByteArray) : (s.toList == [42]) = decide (s = star) := by rw [← star_tl]; exact tl_beq s star

set_option maxHeartbeats 2000000 in
set_option maxRecDepth 10000 in
theorem rnamed_any (ao : Option Addr) (c : Nat) (ss : List ByteArray) (w : World) (hl : ss.length ≤ 8796093022208) (hr : Strs w ao ss) (hsz : ∀ s ∈ ss, s.size ≤ 9223372036854775807) :
    Calls Tryd.prog 27 #[.slice ao ss.length c] w fun e w' => e = .returned (.bool (numM ss).isSome) ∧ w' = w := by
  have HR : Hid _ := ⟨hr⟩
  have HZ : Hid _ := ⟨hsz⟩
  obtain ⟨M, HM⟩ : ∃ M, Hid ((numM ss).isSome = M) := ⟨_, ⟨rfl⟩⟩
  rw [HM.out]
  clear hr hsz
  go_enter Tryd.func27, Tryd.ntmps27
  go_wp2
  go_loop [3] (fun i => ∃ (k : Nat) (m : ByteArray → Option Int), k ≤ ss.length ∧ i = .int .i64 k ∧ Hid (NI ss k m ∧ numM ss = numF (ss.drop k) k m)) (fun i => ss.length - (intOf i).toNat)
  case atStart => exact ⟨0, num0, by omega, rfl, ⟨NI.start ss, by simp [numM]⟩⟩
  case round =>
    obtain ⟨k, m, hk, rfl, HI⟩ := hrel
    by_cases hlt : k < ss.length
    · obtain ⟨b, off, rfl, hcell⟩ : ∃ b off, ao = some ⟨b, off, none⟩ ∧ ∀ i, i < ss.length → w.cell? ⟨b, off + i, none⟩ = some (.string (ss.getD i ByteArray.empty)) := by
        rcases HR.out with h | h
        · subst h; simp at hlt
        · exact h
      have hcx := hcell k hlt
      have hget : ss.getD k ByteArray.empty = ss[k] := by simp [hlt]
      rw [hget] at hcx
      have F : numF (ss.drop k) k m = if (m ss[k]).isSome || zeroB ss[k] then none else numF (ss.drop (k + 1)) (k + 1) (mput m ss[k] ((k : Int) + 1)) := by
        rw [List.drop_eq_getElem_cons hlt]; rfl
      have hso := HI.out.1.isSome ss[k]
      have hst := HI.out.1.step hlt
      have Z := rzero_any ss[k] w (HZ.out _ (List.getElem_mem hlt))
      have P := rplace_any (some ⟨b, off, none⟩) c ss ss[k] w (by omega) HR.out
      have hem := decide_eq_emptyBytes ss[k]
      have hsr := emp_tl ss[k]
      generalize ss[k] = s at *
      rw [hso] at F hst
      have HNO : Hid ((decide (s = ByteArray.empty) || (decide (s = star) || decide (pl ss s < k)) || zeroB s) = true → M = false) := ⟨fun h => by rw [← HM.out, HI.out.2, F, if_pos h]; rfl⟩
      have HGO : Hid ((decide (s = ByteArray.empty) || (decide (s = star) || decide (pl ss s < k)) || zeroB s) = false → numM ss = numF (ss.drop (k + 1)) (k + 1) (mput m s ((k : Int) + 1)) ∧ NI ss (k + 1) (mput m s ((k : Int) + 1))) := ⟨fun h => by
        refine ⟨by rw [HI.out.2, F, if_neg (by rw [h]; simp)], hst ?_⟩
        simp only [Bool.or_eq_false_iff] at h
        simp only [Bool.or_eq_false_iff]
        exact h.1⟩
      clear F hso hst
      generalize pl ss s = p at *
      generalize decide (s = ByteArray.empty) = e1 at *
      generalize decide (s = star) = e2 at *
      generalize zeroB s = e3 at *
      obtain ⟨e4, he4⟩ : ∃ e4, decide (p < k) = e4 := ⟨_, rfl⟩
      rw [he4] at HNO HGO
      have hpk : decide ((p : Int) < (k : Int)) = e4 := by rw [← he4, decide_eq_decide]; omega
      have HZZ : Hid _ := ⟨Z⟩
      have HP : Hid _ := ⟨P⟩
      have he1 : s.toList.isEmpty = e1 := hem.symm
      clear Z P hcell hget hem he4
      cases e1
      · cases e2
        · cases e3
          · cases e4
            · have hgo := HGO.out rfl
              have HG2 : Hid _ := ⟨hgo⟩
              have hpk' : ¬ (p : Int) < (k : Int) := of_decide_eq_false hpk
              clear hgo
              go_wp2_with (first
                | (go_at_call 43; refine HZZ.out.mono ?_; rintro e w' ⟨rfl, hw'⟩; subst w')
                | (go_at_call 23; refine HP.out.mono ?_; rintro e w' ⟨rfl, hw'⟩; subst w'))
              go_round
              case rel => exact ⟨k + 1, _, hlt, by go_num, ⟨HG2.out.2, HG2.out.1⟩⟩
              case measure => simp [intOf]; omega
            · have HMM : Hid (M = false) := ⟨HNO.out rfl⟩
              have hpk' : (p : Int) < (k : Int) := of_decide_eq_true hpk
              go_wp2_with (first
                | (go_at_call 43; refine HZZ.out.mono ?_; rintro e w' ⟨rfl, hw'⟩; subst w')
                | (go_at_call 23; refine HP.out.mono ?_; rintro e w' ⟨rfl, hw'⟩; subst w'))
              go_ret
              exact ⟨ret_bool HMM.out.symm, rfl⟩
          · have HMM : Hid (M = false) := ⟨HNO.out (by simp)⟩
            go_wp2_with (go_at_call 43; refine HZZ.out.mono ?_; rintro e w' ⟨rfl, hw'⟩; subst w')
            go_ret
            exact ⟨ret_bool HMM.out.symm, rfl⟩
        · have HMM : Hid (M = false) := ⟨HNO.out (by simp)⟩
          go_wp2
          go_ret
          exact ⟨ret_bool HMM.out.symm, rfl⟩
      · have HMM : Hid (M = false) := ⟨HNO.out (by simp)⟩
        go_wp2
        go_ret
        exact ⟨ret_bool HMM.out.symm, rfl⟩
    · obtain rfl : k = ss.length := by omega
      have HMM : Hid (M = true) := ⟨by rw [← HM.out, HI.out.2, List.drop_of_length_le (Nat.le_refl _)]; rfl⟩
      go_wp2
      go_ret
      exact ⟨ret_bool HMM.out.symm, rfl⟩
end Go.Proofs.YtpdcbokcoaienaaDoor
