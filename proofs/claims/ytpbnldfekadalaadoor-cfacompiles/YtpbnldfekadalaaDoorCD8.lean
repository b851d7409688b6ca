/- The document's One, Begin and Rows, whole. -/
import Derived.Test.YtpbnldfekadalaaDoorCD3
import Derived.Test.YtpbnldfekadalaaDoorCD4
import Derived.Test.YtpbnldfekadalaaDoorCD5
import Derived.Test.YtpbnldfekadalaaDoorCD6
import Derived.Test.YtpbnldfekadalaaDoorCD7
namespace Go.Proofs.YtpbnldfekadalaaDoor
open Go.ChangeShapes Go.WideShapes Go.ChangeAt Go.RowKit
set_option linter.unusedVariables false
set_option linter.unusedSimpArgs false
variable {X : Nat → Option Obj}

theorem oneM_t {b : Bool} {t : Tb} {o : Oq} (h : mayB o = true) (hb : b = true → notB o = false) : oneM b t o = doM t o := by
  unfold oneM
  rw [if_neg (by simp [h]; intro e; simp [hb e])]
theorem oneM_f {t : Tb} {o : Oq} (hb : notB o = true) : oneM true t o = none := by
  unfold oneM
  rw [if_pos (.inr ⟨rfl, hb⟩)]
/-- Every op. -/
theorem rone_any {base tb m : Nat} {w : World} {t : Tb} {vL vK : Value} (h : TD X base w tb t vL vK) (b : Bool) (hp : Pl m (!b) t) (hmm : m ≤ 90000) (o : Oq) :
    Calls Tryd.prog 16 #[.pointer (some ⟨tb, 0, none⟩), .agg (oqD o.k o.r o.n), .bool b] w fun e w' => e = .returned (.bool (oneM b t o).isSome) ∧ DEnd X base tb w w' (oneM b t o) := by
  obtain ⟨k, r, n⟩ := o
  dsimp only
  cases hm : mayB ⟨k, r, n⟩ with
  | false =>
    have e1 : oneM b t ⟨k, r, n⟩ = none := by unfold oneM; rw [if_pos (.inl hm)]
    rw [e1]
    refine (one_may h k r n b hm).mono ?_
    rintro e w' ⟨rfl, hb⟩
    exact ⟨rfl, hb, fun t' ht => by cases ht⟩
  | true =>
    obtain ⟨j, hj, e⟩ := may_kind hm
    dsimp only at e
    subst e
    have hL := hp.L
    have no : ∀ {k' : Int}, k' = 1 ∨ k' = 9 ∨ k' = 10 ∨ k' = 6 → (j : Int) = k' → b = true → Calls Tryd.prog 16 #[.pointer (some ⟨tb, 0, none⟩), .agg (oqD (j : Int) r n), .bool b] w fun e w' => e = .returned (.bool (oneM b t ⟨(j : Int), r, n⟩).isSome) ∧ DEnd X base tb w w' (oneM b t ⟨(j : Int), r, n⟩) := by
      intro k' hk' hjk hb
      subst hb
      have hn : notB ⟨(j : Int), r, n⟩ = true := by rcases hk' with h | h | h | h <;> simp [notB, hjk, h]
      rw [oneM_f hn]
      rw [hjk] at hm ⊢
      have key : Calls Tryd.prog 16 #[.pointer (some ⟨tb, 0, none⟩), .agg (oqD k' r n), .bool true] w fun e w' => e = .returned (.bool false) ∧ Below base w w' := by
        rcases hk' with rfl | rfl | rfl | rfl
        · exact one_beg1 h r n hm
        · exact one_beg9 h r n hm
        · exact one_beg10 h r n hm
        · exact one_beg6 h r n hm
      refine key.mono ?_
      rintro e w' ⟨rfl, hb⟩
      exact ⟨rfl, hb, fun t' ht => by cases ht⟩
    have hcases : j = 0 ∨ j = 1 ∨ j = 2 ∨ j = 3 ∨ j = 4 ∨ j = 5 ∨ j = 6 ∨ j = 7 ∨ j = 8 ∨ j = 9 ∨ j = 10 := by omega
    have yes : ∀ {t2 : Tb} {f : Ending → World → Prop}, True := fun {_ _} => trivial
    rcases hcases with rfl | rfl | rfl | rfl | rfl | rfl | rfl | rfl | rfl | rfl | rfl
    · have e1 : oneM b t ⟨((0 : Nat) : Int), r, n⟩ = some t := by rw [oneM_t hm (fun _ => by simp [notB])]; simp [doM]
      rw [e1]
      exact tone_0 h r n b hm
    · cases b with
      | true => exact no (.inl rfl) rfl rfl
      | false =>
        have e1 := oneM_t (b := false) (t := t) hm (fun e => by cases e)
        have hn := may_adv hm rfl
        dsimp only at hn
        by_cases hpos : 0 < n
        · have e2 : oneM false t ⟨((1 : Nat) : Int), r, n⟩ = if t.now.p + n ≤ t.size then some ⟨t.L ++ [t.now], ⟨t.now.p + n, t.now.r, t.now.n, t.now.z⟩, t.first, t.kept, t.size⟩ else none := by
            rw [e1]; simp [doM, advM, hpos]
          rw [e2]
          refine (tone_1p h r n hm hpos hn.2 hp.p0 (by have := hp.p1; have := hp.s; omega) (by omega)).mono ?_
          rintro e w' ⟨rfl, hb, vL', vK', hT⟩
          by_cases hs : t.now.p + n ≤ t.size
          · rw [if_pos hs]
            exact ⟨by simp [hs], hb, fun t' ht => by cases ht; exact ⟨_, _, hT⟩⟩
          · rw [if_neg hs]
            exact ⟨by simp [hs], hb, fun t' ht => by cases ht⟩
        · obtain rfl : n = 0 := by omega
          have e2 : oneM false t ⟨((1 : Nat) : Int), r, 0⟩ = some t := by
            rw [e1]; simp [doM, advM, hp.p1]
          rw [e2]
          refine (tone_1z h r 0 hm rfl).mono ?_
          rintro e w' ⟨rfl, hb, vL', vK', hT⟩
          exact ⟨by simp [hp.p1], hb, fun t' ht => by cases ht; exact ⟨_, _, hT⟩⟩
    · have e1 : oneM b t ⟨((2 : Nat) : Int), r, n⟩ = some ⟨t.L, ⟨t.now.p, r, n, t.now.z⟩, t.first, t.kept, t.size⟩ := by rw [oneM_t hm (fun _ => by simp [notB])]; simp [doM]
      rw [e1]
      exact tone_2 h r n b hm
    · have e1 : oneM b t ⟨((3 : Nat) : Int), r, n⟩ = if 0 ≤ t.now.r then some ⟨t.L, ⟨t.now.p, t.now.r, n, t.now.z⟩, t.first, t.kept, t.size⟩ else none := by rw [oneM_t hm (fun _ => by simp [notB])]; simp [doM]
      rw [e1]
      refine (tone_3 h r n b hm).mono ?_
      rintro e w' ⟨rfl, hb, vL', vK', hT⟩
      by_cases hs : 0 ≤ t.now.r
      · rw [if_pos hs]
        exact ⟨by simp [hs], hb, fun t' ht => by cases ht; exact ⟨_, _, hT⟩⟩
      · rw [if_neg hs]
        exact ⟨by simp [hs], hb, fun t' ht => by cases ht⟩
    · have e1 : oneM b t ⟨((4 : Nat) : Int), r, n⟩ = if 0 ≤ t.now.r then some ⟨t.L, ⟨t.now.p, r, t.now.n, t.now.z⟩, t.first, t.kept, t.size⟩ else none := by rw [oneM_t hm (fun _ => by simp [notB])]; simp [doM]
      rw [e1]
      refine (tone_4 h r n b hm).mono ?_
      rintro e w' ⟨rfl, hb, vL', vK', hT⟩
      by_cases hs : 0 ≤ t.now.r
      · rw [if_pos hs]
        exact ⟨by simp [hs], hb, fun t' ht => by cases ht; exact ⟨_, _, hT⟩⟩
      · rw [if_neg hs]
        exact ⟨by simp [hs], hb, fun t' ht => by cases ht⟩
    · have e1 : oneM b t ⟨((5 : Nat) : Int), r, n⟩ = some ⟨t.L, t.now.set r (2, n), t.first, t.kept, t.size⟩ := by rw [oneM_t hm (fun _ => by simp [notB])]; simp [doM]
      rw [e1]
      refine (tone_5 h r n b hm).mono ?_
      rintro e w' ⟨rfl, hb, vL', vK', hT⟩
      exact ⟨rfl, hb, fun t' ht => by cases ht; exact ⟨_, _, hT⟩⟩
    · cases b with
      | true => exact no (.inr (.inr (.inr rfl))) rfl rfl
      | false =>
        have e1 : oneM false t ⟨((6 : Nat) : Int), r, n⟩ = some ⟨t.L, t.now.set r (t.first.z.getD r.toNat (0, 0)), t.first, t.kept, t.size⟩ := by rw [oneM_t hm (fun e => by cases e)]; simp [doM]
        rw [e1]
        refine (tone_6 h r n hm).mono ?_
        rintro e w' ⟨rfl, hb, vL', vK', hT⟩
        exact ⟨rfl, hb, fun t' ht => by cases ht; exact ⟨_, _, hT⟩⟩
    · have e1 : oneM b t ⟨((7 : Nat) : Int), r, n⟩ = some ⟨t.L, t.now.set r (1, 0), t.first, t.kept, t.size⟩ := by rw [oneM_t hm (fun _ => by simp [notB])]; simp [doM]
      rw [e1]
      refine (tone_7 h r n b hm).mono ?_
      rintro e w' ⟨rfl, hb, vL', vK', hT⟩
      exact ⟨rfl, hb, fun t' ht => by cases ht; exact ⟨_, _, hT⟩⟩
    · have e1 : oneM b t ⟨((8 : Nat) : Int), r, n⟩ = some ⟨t.L, t.now.set r (0, 0), t.first, t.kept, t.size⟩ := by rw [oneM_t hm (fun _ => by simp [notB])]; simp [doM]
      rw [e1]
      refine (tone_8 h r n b hm).mono ?_
      rintro e w' ⟨rfl, hb, vL', vK', hT⟩
      exact ⟨rfl, hb, fun t' ht => by cases ht; exact ⟨_, _, hT⟩⟩
    · cases b with
      | true => exact no (.inr (.inl rfl)) rfl rfl
      | false =>
        have e1 : oneM false t ⟨((9 : Nat) : Int), r, n⟩ = if t.kept.length + 1 ≤ 64 then some ⟨t.L, t.now, t.first, t.kept ++ [t.now], t.size⟩ else none := by rw [oneM_t hm (fun e => by cases e)]; simp [doM]
        rw [e1]
        refine (tone_9 h r n hm hp.K).mono ?_
        rintro e w' ⟨rfl, hb, vL', vK', hT⟩
        by_cases hs : t.kept.length + 1 ≤ 64
        · rw [if_pos hs]
          exact ⟨by simp [hs], hb, fun t' ht => by cases ht; exact ⟨_, _, hT⟩⟩
        · rw [if_neg hs]
          exact ⟨by simp [hs], hb, fun t' ht => by cases ht⟩
    · cases b with
      | true => exact no (.inr (.inr (.inl rfl))) rfl rfl
      | false =>
        have e1 : oneM false t ⟨((10 : Nat) : Int), r, n⟩ = recM t := by rw [oneM_t hm (fun e => by cases e)]; simp [doM]
        rw [e1]
        rcases List.eq_nil_or_concat t.kept with hk | ⟨l, q, hk⟩
        · have e2 : recM t = none := by unfold recM; rw [hk]; rfl
          rw [e2]
          refine (tone_10n h r n hm hk).mono ?_
          rintro e w' ⟨rfl, hb⟩
          exact ⟨rfl, hb, fun t' ht => by cases ht⟩
        · rw [List.concat_eq_append] at hk
          have e2 : recM t = some ⟨t.L, ⟨t.now.p, q.r, q.n, q.z⟩, t.first, l, t.size⟩ := by unfold recM; rw [hk]; simp
          rw [e2]
          refine (tone_10s h r n hm l q hk hp.K).mono ?_
          rintro e w' ⟨rfl, hb, vL', vK', hT⟩
          exact ⟨rfl, hb, fun t' ht => by cases ht; exact ⟨_, _, hT⟩⟩

end Go.Proofs.YtpbnldfekadalaaDoor
