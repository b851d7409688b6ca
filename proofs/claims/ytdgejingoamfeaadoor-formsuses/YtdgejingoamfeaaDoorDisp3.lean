/- The contract of displacementText, in all ways. -/
import Derived.Test.YtdgejingoamfeaaDoorDisp2
namespace Go.Proofs.YtdgejingoamfeaaDoor
open Go.ChangeShapes Go.WideShapes Go.ChangeAt Go.RowKit
set_option linter.unusedVariables false

set_option maxHeartbeats 2000000 in
theorem disp_name (o : O) (w : World) (hm : 0 ≤ o.m ∧ o.m ≤ 5) (hs : o.nm.size ≤ 255) (hw : Gp w) (he : o.nm.toList.isEmpty = false) (h0 : o.n = 0) :
    Calls Tryd.prog 93 #[o.val] w fun e w' => e = .returned (.string (o.nm ++ modV o.m)) ∧ Below w.heap.size w w' := by
  unfold O.val
  have h0' : (o.n != 0) = false := by simp [h0]
  obtain ⟨m, hm'⟩ := Int.eq_ofNat_of_zero_le hm.1
  have hm2 := hm.2
  have HT : ∀ x, (w.alloc x).cell? ⟨3, m, none⟩ = some (.string (modV o.m)) := fun x => (hw.g.alloc x).mods m (by omega) |>.trans (by rw [modV, hm']; rfl)
  have hz := modV_size o.m
  generalize modV o.m = t at *
  rw [hm'] at hm2 ⊢
  clear hw hm hm' h0
  go_enter Tryd.func93, Tryd.ntmps93
  go_wp2
  go_quiet (fail)
  go_wp2
  go_ret
  exact ⟨rfl, by repeat (first | (with_reducible exact Below.refl _ _) | (with_reducible refine bel_alloc ?_ _) | (with_reducible refine below_drewN ?_ _) | (with_reducible refine Below.drew ?_))⟩

theorem disp_none (o : O) (w : World) (he : o.nm.toList.isEmpty = true) (h0 : o.n = 0) (hf : o.fs = false) :
    Calls Tryd.prog 93 #[o.val] w fun e w' => e = .returned (.string ⟨#[]⟩) ∧ Below w.heap.size w w' := by
  unfold O.val
  have h0' : (o.n == 0) = true := by simp [h0]
  rw [hf]
  clear h0 hf
  go_enter Tryd.func93, Tryd.ntmps93
  go_wp2
  go_ret
  exact ⟨rfl, bel_alloc (Below.refl _ _) _⟩

set_option maxHeartbeats 1000000 in
theorem disp_num (o : O) (w : World) (hn : i64 o.n) (hw : Gp w) (he : o.nm.toList.isEmpty = true) (h0 : ¬ (o.n = 0 ∧ o.fs = false)) :
    Calls Tryd.prog 93 #[o.val] w fun e w' => e = .returned (.string (itoaS o.n)) ∧ Below w.heap.size w w' := by
  unfold O.val
  have HI : Hid (∀ v, Below w.heap.size w v → Calls Tryd.prog 69 #[.int .i64 o.n] v fun e w' => e = .returned (.string (itoaS o.n)) ∧ Below v.heap.size v w') := ⟨fun v hv => itoa_any o.n v hn.1 hn.2 (hw.bel hv)⟩
  generalize itoaS o.n = t at *
  clear hw hn
  by_cases h1 : o.n = 0
  · have h1' : (o.n == 0) = true := by simp [h1]
    have h2 : o.fs = true := by cases h : o.fs; exact absurd ⟨h1, h⟩ h0; rfl
    rw [h2]
    clear h0 h1 h2
    go_enter Tryd.func93, Tryd.ntmps93
    go_wp2_with (go_at_call 69; refine (HI.out _ (bel_alloc (Below.refl _ _) _)).mono ?_; rintro e w1 ⟨rfl, hb⟩)
    go_ret
    exact ⟨rfl, bel_trans (bel_alloc (Below.refl _ _) _) hb⟩
  · have h1' : (o.n == 0) = false := by simp [h1]
    clear h0 h1
    go_enter Tryd.func93, Tryd.ntmps93
    go_wp2_with (go_at_call 69; refine (HI.out _ (bel_alloc (Below.refl _ _) _)).mono ?_; rintro e w1 ⟨rfl, hb⟩)
    go_ret
    exact ⟨rfl, bel_trans (bel_alloc (Below.refl _ _) _) hb⟩

theorem disp_any (o : O) (w : World) (hn : i64 o.n) (hm : 0 ≤ o.m ∧ o.m ≤ 5) (hs : o.nm.size ≤ 255) (hw : Gp w) :
    Calls Tryd.prog 93 #[o.val] w fun e w' => e = .returned (.string (dispV o)) ∧ Below w.heap.size w w' := by
  unfold dispV
  cases he : empB o.nm
  · rw [if_neg (by simp)]
    by_cases h0 : o.n = 0
    · rw [if_pos h0]; exact disp_name o w hm hs hw he h0
    · rw [if_neg h0]; exact disp_both o w hn hm hs hw he h0
  · rw [if_pos rfl]
    by_cases h0 : o.n = 0 ∧ o.fs = false
    · rw [if_pos h0]; exact disp_none o w he h0.1 h0.2
    · rw [if_neg h0]; exact disp_num o w hn hw he h0

/-- An operand in memory, as it is written. -/
def memV (o : O) : ByteArray :=
  if o.fs then ⟨#[37, 102, 115, 58]⟩ ++ dispV o
  else if o.rip then dispV o ++ ⟨#[40, 37, 114, 105, 112, 41]⟩
  else if o.x < 0 then ((dispV o ++ ⟨#[40]⟩) ++ baseV o) ++ ⟨#[41]⟩
  else ((((((dispV o ++ ⟨#[40]⟩) ++ baseV o) ++ ⟨#[44, 37]⟩) ++ regV o.x 8) ++ ⟨#[44]⟩) ++ itoaS o.s) ++ ⟨#[41]⟩

theorem disp_at (o : O) (w : World) (hn : i64 o.n) (hm : 0 ≤ o.m ∧ o.m ≤ 5) (hs : o.nm.size ≤ 255) (hw : Gp w) :
    Hid (∀ v, Below w.heap.size w v → Calls Tryd.prog 93 #[.agg #[.int .i64 o.k, .int .i64 o.r, .int .i64 o.b, .int .i64 o.x, .int .i64 o.s, .bool o.rip, .bool o.fs, .int .i64 o.n, .string o.nm, .int .i64 o.m]] v fun e w' => e = .returned (.string (dispV o)) ∧ Below v.heap.size v w') := ⟨fun v hv => disp_any o v hn hm hs (hw.bel hv)⟩

set_option maxHeartbeats 2000000 in
theorem memText_short (o : O) (w : World) (hn : i64 o.n) (hm : 0 ≤ o.m ∧ o.m ≤ 5) (hs : o.nm.size ≤ 255) (hw : Gp w) (h : o.fs = true ∨ o.rip = true ∨ o.x < 0) :
    Calls Tryd.prog 70 #[o.val] w fun e w' => e = .returned (.string (memV o)) ∧ Below w.heap.size w w' := by
  have HD := disp_at o w hn hm hs hw
  have HB : Hid (∀ v, Below w.heap.size w v → Calls Tryd.prog 94 #[.agg #[.int .i64 o.k, .int .i64 o.r, .int .i64 o.b, .int .i64 o.x, .int .i64 o.s, .bool o.rip, .bool o.fs, .int .i64 o.n, .string o.nm, .int .i64 o.m]] v fun e w' => e = .returned (.string (baseV o)) ∧ Below v.heap.size v w') := ⟨fun v hv => baseText_any o v (hw.g.bel hv)⟩
  have hz := dispV_size o hn hs
  have hy := baseV_size o
  have HR : Hid (memV o = if o.fs then ⟨#[37, 102, 115, 58]⟩ ++ dispV o else if o.rip then dispV o ++ ⟨#[40, 37, 114, 105, 112, 41]⟩ else ((dispV o ++ ⟨#[40]⟩) ++ baseV o) ++ ⟨#[41]⟩) := ⟨by
    unfold memV
    rcases h with h | h | h
    · simp [h]
    · simp [h]
    · rw [if_pos h]⟩
  generalize dispV o = d at *
  generalize baseV o = b at *
  unfold O.val
  obtain ⟨f, hf⟩ : ∃ f, o.fs = f := ⟨_, rfl⟩
  obtain ⟨r, hr⟩ : ∃ r, o.rip = r := ⟨_, rfl⟩
  rw [hf, hr] at h HR HD HB
  rw [hf, hr]
  clear hn hm hw hf hr
  rcases f with _ | _
  case' false => rcases r with _ | _
  case' false.false => have hx : o.x < 0 := (by simpa using h)
  all_goals
    clear h
    have tk : True := trivial
    go_enter Tryd.func70, Tryd.ntmps70
    go_wp2_with (first
      | (go_at_call 93; refine (HD.out _ (bel_alloc (Below.refl _ _) _)).mono ?_; rintro e w1 ⟨rfl, hb⟩; have B1 : Hid (Below w.heap.size w w1) := ⟨bel_trans (bel_alloc (Below.refl _ _) _) hb⟩; obtain ⟨hcl, hfl⟩ := bcell hb; have hz1 : w.heap.size < w1.heap.size := (by have := hb.size; simp at this; omega); clear hb)
      | (go_at_call 94; refine (HB.out _ B1.out).mono ?_; rintro e w2 ⟨rfl, hb2⟩; have B2 : Hid (Below w.heap.size w w2) := ⟨bel_trans B1.out hb2⟩; clear hb2))
    go_ret
    exact ⟨ret_str HR.out.symm, by first | exact B2.out | exact B1.out⟩
end Go.Proofs.YtdgejingoamfeaaDoor
