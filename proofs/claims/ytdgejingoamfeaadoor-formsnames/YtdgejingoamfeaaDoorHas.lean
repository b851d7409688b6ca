/- The contracts of has and reaches. -/
import Derived.Test.YtdgejingoamfeaaDoorRow
namespace Go.Proofs.YtdgejingoamfeaaDoor
open Go.ChangeShapes Go.WideShapes Go.ChangeAt Go.RowKit
set_option linter.unusedVariables false

/-- Does a condition fit the row? -/
def condOk (r : R) (c : Int) : Bool := decide (0 ≤ c) && (decide (c < 16) && (decide (c ≤ 0) || r.conditional))
/-- Does a size fit the row? -/
def sizeOk (r : R) (s : Int) : Bool := if s = 0 then r.sizes == 0 else decide (0 ≤ placeV s) && (bits .and .i64 r.sizes s != 0)
def hasB (r : R) (s c : Int) : Bool := !empB r.stem && (condOk r c && sizeOk r s)

theorem has_zero (s c : Int) (w : World) : Calls Tryd.prog 32 #[zeroV, .int .i64 s, .int .i64 c] w fun e w' => e = .returned (.bool false) ∧ Below w.heap.size w w' := by
  unfold zeroV
  go_enter Tryd.func32, Tryd.ntmps32
  go_wp2
  go_ret
  exact ⟨rfl, bel_alloc (Below.refl _ _) _⟩

set_option maxHeartbeats 2000000 in
theorem has_bad (r : R) (s c : Int) (w : World) (h : empB r.stem = true ∨ condOk r c = false) :
    Calls Tryd.prog 32 #[r.val, .int .i64 s, .int .i64 c] w fun e w' => e = .returned (.bool false) ∧ Below w.heap.size w w' := by
  unfold R.val
  cases he : r.stem.toList.isEmpty
  · have h2 : condOk r c = false := by rcases h with h | h; exact absurd (he.symm.trans h) (by simp); exact h
    clear h
    by_cases g0 : c < 0
    · clear h2
      go_enter Tryd.func32, Tryd.ntmps32
      go_wp2
      go_ret
      exact ⟨rfl, bel_alloc (Below.refl _ _) _⟩
    · by_cases g1 : 16 ≤ c
      · clear h2
        go_enter Tryd.func32, Tryd.ntmps32
        go_wp2
        go_ret
        exact ⟨rfl, bel_alloc (Below.refl _ _) _⟩
      · have g2 : 0 < c := by
          unfold condOk at h2
          by_cases g : c ≤ 0
          · simp [g, show 0 ≤ c by omega, show c < 16 by omega] at h2
          · omega
        have g3 : r.conditional = false := by
          unfold condOk at h2
          simpa [show 0 ≤ c by omega, show c < 16 by omega, show ¬ c ≤ 0 by omega] using h2
        rw [g3]
        clear h2
        go_enter Tryd.func32, Tryd.ntmps32
        go_wp2
        go_ret
        exact ⟨rfl, bel_alloc (Below.refl _ _) _⟩
  · clear h
    go_enter Tryd.func32, Tryd.ntmps32
    go_wp2
    go_ret
    exact ⟨rfl, bel_alloc (Below.refl _ _) _⟩

set_option maxHeartbeats 2000000 in
theorem has_good (r : R) (s c : Int) (w : World) (hw : Gl w) (h : r.stem.toList.isEmpty = false) (h0 : 0 ≤ c) (h1 : c < 16) (h2 : c = 0 ∨ r.conditional = true) :
    Calls Tryd.prog 32 #[r.val, .int .i64 s, .int .i64 c] w fun e w' => e = .returned (.bool (sizeOk r s)) ∧ Below w.heap.size w w' := by
  unfold R.val
  have g0 : ¬ c < 0 := by omega
  have g1 : ¬ 16 ≤ c := by omega
  have HP : Hid (∀ v, Below w.heap.size w v → Calls Tryd.prog 43 #[.int .i64 s] v fun e w' => e = .returned (.int .i64 (placeV s)) ∧ Below v.heap.size v w') := ⟨fun v hv => placeOf_any s v (hw.bel hv)⟩
  have HR : Hid (sizeOk r s = if s = 0 then r.sizes == 0 else decide (0 ≤ placeV s) && (bits .and .i64 r.sizes s != 0)) := ⟨rfl⟩
  generalize placeV s = p at *
  have h3 : Hid (c = 0 ∨ r.conditional = true) := ⟨h2⟩
  clear hw h0 h1 h2
  by_cases hs : s = 0
  · have hs' : (s == 0) = true := by simp [hs]
    rw [if_pos hs] at HR
    clear hs
    by_cases hc : 0 < c
    · have hq : r.conditional = true := by rcases h3.out with h | h; omega; exact h
      rw [hq]
      clear h3 hq
      go_enter Tryd.func32, Tryd.ntmps32
      go_wp2
      go_ret
      exact ⟨ret_bool (by rw [HR.out]), bel_alloc (Below.refl _ _) _⟩
    · clear h3
      go_enter Tryd.func32, Tryd.ntmps32
      go_wp2
      go_ret
      exact ⟨ret_bool (by rw [HR.out]), bel_alloc (Below.refl _ _) _⟩
  · have hs' : (s == 0) = false := by simp [hs]
    rw [if_neg hs] at HR
    clear hs
    by_cases hc : 0 < c
    · have hq : r.conditional = true := by rcases h3.out with h | h; omega; exact h
      rw [hq]
      clear h3 hq
      by_cases hp : 0 ≤ p
      · rw [decide_eq_true hp] at HR
        go_enter Tryd.func32, Tryd.ntmps32
        go_wp2_with (go_at_call 43; refine (HP.out _ (bel_alloc (Below.refl _ _) _)).mono ?_; rintro e w1 ⟨rfl, hb⟩; obtain ⟨hcl, hfl⟩ := bcell hb)
        go_ret
        exact ⟨ret_bool (by rw [HR.out, Bool.true_and]), bel_trans (bel_alloc (Below.refl _ _) _) hb⟩
      · rw [decide_eq_false hp] at HR
        go_enter Tryd.func32, Tryd.ntmps32
        go_wp2_with (go_at_call 43; refine (HP.out _ (bel_alloc (Below.refl _ _) _)).mono ?_; rintro e w1 ⟨rfl, hb⟩; obtain ⟨hcl, hfl⟩ := bcell hb)
        go_ret
        exact ⟨ret_bool (by rw [HR.out, Bool.false_and]), bel_trans (bel_alloc (Below.refl _ _) _) hb⟩
    · clear h3
      by_cases hp : 0 ≤ p
      · rw [decide_eq_true hp] at HR
        go_enter Tryd.func32, Tryd.ntmps32
        go_wp2_with (go_at_call 43; refine (HP.out _ (bel_alloc (Below.refl _ _) _)).mono ?_; rintro e w1 ⟨rfl, hb⟩; obtain ⟨hcl, hfl⟩ := bcell hb)
        go_ret
        exact ⟨ret_bool (by rw [HR.out, Bool.true_and]), bel_trans (bel_alloc (Below.refl _ _) _) hb⟩
      · rw [decide_eq_false hp] at HR
        go_enter Tryd.func32, Tryd.ntmps32
        go_wp2_with (go_at_call 43; refine (HP.out _ (bel_alloc (Below.refl _ _) _)).mono ?_; rintro e w1 ⟨rfl, hb⟩; obtain ⟨hcl, hfl⟩ := bcell hb)
        go_ret
        exact ⟨ret_bool (by rw [HR.out, Bool.false_and]), bel_trans (bel_alloc (Below.refl _ _) _) hb⟩

theorem has_any (r : R) (s c : Int) (w : World) (hw : Gl w) :
    Calls Tryd.prog 32 #[r.val, .int .i64 s, .int .i64 c] w fun e w' => e = .returned (.bool (hasB r s c)) ∧ Below w.heap.size w w' := by
  unfold hasB
  cases he : empB r.stem
  · cases hc : condOk r c
    · exact has_bad r s c w (.inr hc)
    · simp only [Bool.not_false, Bool.true_and]
      have hc' := hc
      unfold condOk at hc'
      simp only [Bool.and_eq_true, Bool.or_eq_true, decide_eq_true_eq] at hc'
      exact has_good r s c w hw he hc'.1 hc'.2.1 (hc'.2.2.imp (fun h => by omega) id)
  · exact has_bad r s c w (.inl he)

/-- A jump by a byte. -/
def reachB (r : R) (i : I) : Bool := !i.sh || ((r.short && i.to.k == 4) && withinB i.to.n (-128) 127)

set_option maxHeartbeats 2000000 in
theorem reaches_any (r : R) (i : I) (w : World) :
    Calls Tryd.prog 34 #[r.val, i.val] w fun e w' => e = .returned (.bool (reachB r i)) ∧ Below w.heap.size w w' := by
  unfold R.val I.val
  obtain ⟨a, ha⟩ : ∃ x, i.sh = x := ⟨_, rfl⟩
  obtain ⟨b, hb⟩ : ∃ x, r.short = x := ⟨_, rfl⟩
  obtain ⟨c, hc⟩ : ∃ x, (i.to.k == 4) = x := ⟨_, rfl⟩
  have HR : Hid (reachB r i = (!a || ((b && c) && withinB i.to.n (-128) 127))) := ⟨by unfold reachB; rw [ha, hb, hc]⟩
  rw [ha, hb]
  clear ha hb
  rcases a with _ | _
  case' true => rcases b with _ | _
  case' true.true => rcases c with _ | _
  all_goals
    go_enter Tryd.func34, Tryd.ntmps34
    go_wp2_with (go_at_call 59; refine (within_any _ _ _ _).mono ?_; rintro e w1 ⟨rfl, hw⟩; subst w1)
    go_ret
    exact ⟨ret_bool (by rw [HR.out]; rfl), bel_alloc (bel_alloc (Below.refl _ _) _) _⟩
end Go.Proofs.YtdgejingoamfeaaDoor
