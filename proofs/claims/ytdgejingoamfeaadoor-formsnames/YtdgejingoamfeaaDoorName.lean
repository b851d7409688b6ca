/- The contracts of the row's name and of Name. -/
import Derived.Test.YtdgejingoamfeaaDoorHas
import Derived.Test.YtdgejingoamfeaaDoorReg
namespace Go.Proofs.YtdgejingoamfeaaDoor
open Go.ChangeShapes Go.WideShapes Go.ChangeAt Go.RowKit
set_option linter.unusedVariables false

def condV (c : Int) : ByteArray := condL.getD c.toNat ⟨#[]⟩
def letterV (s : Int) : ByteArray := if s = 8 then ⟨#[113]⟩ else if s = 4 then ⟨#[108]⟩ else ⟨#[98]⟩
/-- The name that a row gives. -/
def rowName (r : R) (s c : Int) : ByteArray :=
  if r.conditional then (if r.lettered then r.stem ++ condV c ++ letterV s else r.stem ++ condV c) else (if r.lettered then r.stem ++ letterV s else r.stem)

theorem condV_size (c : Int) : (condV c).size ≤ 2 := by
  unfold condV
  by_cases h : c.toNat < 16
  · have : ∀ j : Fin 16, (condL.getD j.val ⟨#[]⟩).size ≤ 2 := by decide +kernel
    exact this ⟨c.toNat, h⟩
  · have : condL.length ≤ c.toNat := by simp [condL]; omega
    simp [List.getD, List.getElem?_eq_none this]
    decide
theorem letterV_size (s : Int) : (letterV s).size = 1 := by
  unfold letterV; split
  · rfl
  · split <;> rfl
theorem rowName_size (r : R) (s c : Int) (h : r.stem.size ≤ 10) : (rowName r s c).size ≤ 13 := by
  have h1 := condV_size c
  have h2 := letterV_size s
  unfold rowName
  split
  · split <;> (try simp only [ByteArray.size_append]) <;> omega
  · split <;> (try simp only [ByteArray.size_append]) <;> omega

theorem letter_cell (s : Int) (w : World) (hw : Gl w) (h : 0 ≤ placeV s) : ∃ p : Nat, placeV s = p ∧ p < 3 ∧ w.cell? ⟨1, p * 2 + 1, none⟩ = some (.string (letterV s)) := by
  by_cases h8 : s = 8
  · subst h8; exact ⟨0, rfl, by omega, hw.w1⟩
  · by_cases h4 : s = 4
    · subst h4; exact ⟨1, rfl, by omega, hw.w3⟩
    · by_cases h1 : s = 1
      · subst h1; exact ⟨2, rfl, by omega, hw.w5⟩
      · unfold placeV at h; simp [h8, h4, h1] at h

set_option maxHeartbeats 2000000 in
theorem rowName_any (r : R) (s c : Int) (w : World) (hw : Gl w) (hs : r.stem.size ≤ 10) (hc : 0 ≤ c ∧ c < 16) (hp : r.lettered = true → 0 ≤ placeV s) :
    Calls Tryd.prog 40 #[r.val, .int .i64 s, .int .i64 c] w fun e w' => e = .returned (.string (rowName r s c)) ∧ Below w.heap.size w w' := by
  unfold R.val
  obtain ⟨n, hn⟩ := Int.eq_ofNat_of_zero_le hc.1
  have hc2 := hc.2
  have HT : ∀ x, (w.alloc x).cell? ⟨2, n, none⟩ = some (.string (condV c)) := fun x => ((hw.alloc x).conds n (by omega)).trans (by rw [condV, hn]; rfl)
  obtain ⟨a, ha⟩ : ∃ x, r.conditional = x := ⟨_, rfl⟩
  obtain ⟨b, hb⟩ : ∃ x, r.lettered = x := ⟨_, rfl⟩
  obtain ⟨z, hz⟩ : ∃ z, rowName r s c = z := ⟨_, rfl⟩
  have HR : Hid (z = if a then (if b then r.stem ++ condV c ++ letterV s else r.stem ++ condV c) else (if b then r.stem ++ letterV s else r.stem)) := ⟨by rw [← hz]; unfold rowName; rw [ha, hb]⟩
  rw [hz]
  clear hz
  have h1 := condV_size c
  have h2 := letterV_size s
  rw [ha, hb]
  rw [hb] at hp
  rw [hn] at hc2 ⊢
  generalize condV c = t at *
  rcases b with _ | _
  · clear hw hc hn hp ha hb
    rcases a with _ | _
    all_goals
      go_enter Tryd.func40, Tryd.ntmps40
      go_wp2
      go_ret
      exact ⟨ret_str HR.out.symm, bel_alloc (Below.refl _ _) _⟩
  · obtain ⟨p, hq, hp3, _⟩ := letter_cell s w hw (hp rfl)
    have HP : Hid (∀ v, Below w.heap.size w v → Calls Tryd.prog 43 #[.int .i64 s] v fun e w' => e = .returned (.int .i64 (p : Int)) ∧ Below v.heap.size v w') := ⟨fun v hv => hq ▸ placeOf_any s v (hw.bel hv)⟩
    have HL : Hid (∀ v, Below w.heap.size w v → v.cell? ⟨1, p * 2 + 1, none⟩ = some (.string (letterV s))) := ⟨fun v hv => by
      obtain ⟨p', hq', _, hx⟩ := letter_cell s v (hw.bel hv) (hp rfl)
      have : p' = p := by omega
      subst this; exact hx⟩
    generalize letterV s = l at *
    clear hw hc hn hp ha hb hq
    rcases a with _ | _
    all_goals
      go_enter Tryd.func40, Tryd.ntmps40
      go_wp2_with (go_at_call 43; refine (HP.out _ (bel_alloc (Below.refl _ _) _)).mono ?_; rintro e w1 ⟨rfl, hb⟩; have B1 : Hid (Below w.heap.size w w1) := ⟨bel_trans (bel_alloc (Below.refl _ _) _) hb⟩; clear hb; have hl := HL.out _ B1.out)
      go_ret
      exact ⟨ret_str HR.out.symm, B1.out⟩
end Go.Proofs.YtdgejingoamfeaaDoor
