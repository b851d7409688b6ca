/- The contracts of baseText, withSign, displacementText, targetText. -/
import Derived.Test.YtdgejingoamfeaaDoorReg
import Derived.BigQuiet
import Derived.Deep.QuietTactic
import Derived.Deep.RegionWith
namespace Go.Proofs.YtdgejingoamfeaaDoor
open Go.ChangeShapes Go.WideShapes Go.ChangeAt Go.RowKit
set_option linter.unusedVariables false

/-- A number that is an int. -/
def i64 (n : Int) : Prop := -9223372036854775808 ≤ n ∧ n ≤ 9223372036854775807

theorem itoa_size (n : Int) (h : i64 n) : (itoaS n).size ≤ 21 := by
  have := Lib.itoa_length_le n h.1 h.2
  show (Lib.itoa n).toArray.size ≤ 21
  simpa using this

def pc : ByteArray := ⟨#[37]⟩
def plusS : ByteArray := ⟨#[43]⟩

/-- The number with a sign. -/
def signV (n : Int) : ByteArray := if n < 0 then itoaS n else ⟨#[43]⟩ ++ itoaS n
theorem signV_size (n : Int) (h : i64 n) : (signV n).size ≤ 22 := by
  have := itoa_size n h
  unfold signV; split
  · omega
  · rw [ByteArray.size_append]
    have : (⟨#[43]⟩ : ByteArray).size = 1 := rfl
    omega

def baseV (o : O) : ByteArray := ⟨#[37]⟩ ++ regV o.b 8
theorem baseV_size (o : O) : (baseV o).size ≤ 5 := by
  have := regV_size o.b 8
  unfold baseV
  rw [ByteArray.size_append]
  have : (⟨#[37]⟩ : ByteArray).size = 1 := rfl
  omega

set_option maxHeartbeats 1000000 in
theorem baseText_any (o : O) (w : World) (hw : Gl w) :
    Calls Tryd.prog 94 #[o.val] w fun e w' => e = .returned (.string (baseV o)) ∧ Below w.heap.size w w' := by
  unfold O.val baseV
  have HG : Hid (∀ v, Below w.heap.size w v → Calls Tryd.prog 21 #[.int .i64 o.b, .int .i64 8] v fun e w' => e = .returned (.string (regV o.b 8)) ∧ Below v.heap.size v w') := ⟨fun v hv => register_any o.b 8 v (hw.bel hv)⟩
  have hs := regV_size o.b 8
  generalize regV o.b 8 = t at *
  clear hw
  go_enter Tryd.func94, Tryd.ntmps94
  go_wp2_with (go_at_call 21; refine (HG.out _ (bel_alloc (Below.refl _ _) _)).mono ?_; rintro e w1 ⟨rfl, hb⟩)
  go_ret
  exact ⟨rfl, bel_trans (bel_alloc (Below.refl _ _) _) hb⟩

theorem withSign_any (n : Int) (w : World) (hn : i64 n) (hw : Gp w) :
    Calls Tryd.prog 95 #[.int .i64 n] w fun e w' => e = .returned (.string (signV n)) ∧ Below w.heap.size w w' := by
  have HI : Hid (∀ v, Below w.heap.size w v → Calls Tryd.prog 69 #[.int .i64 n] v fun e w' => e = .returned (.string (itoaS n)) ∧ Below v.heap.size v w') := ⟨fun v hv => itoa_any n v hn.1 hn.2 (hw.bel hv)⟩
  have hs := itoa_size n hn
  unfold signV
  generalize itoaS n = t at *
  clear hw hn
  by_cases h : n < 0
  · rw [if_pos h]
    go_enter Tryd.func95, Tryd.ntmps95
    go_wp2_with (go_at_call 69; refine (HI.out _ (Below.refl _ _)).mono ?_; rintro e w1 ⟨rfl, hb⟩)
    go_ret
    exact ⟨rfl, hb⟩
  · rw [if_neg h]
    go_enter Tryd.func95, Tryd.ntmps95
    go_wp2_with (go_at_call 69; refine (HI.out _ (Below.refl _ _)).mono ?_; rintro e w1 ⟨rfl, hb⟩)
    go_ret
    exact ⟨rfl, hb⟩

/-- What stands behind a name. -/
def modV (m : Int) : ByteArray := modL.getD m.toNat ⟨#[]⟩
theorem modV_size (m : Int) : (modV m).size ≤ 9 := by
  unfold modV
  by_cases h : m.toNat < 6
  · have : ∀ j : Fin 6, (modL.getD j.val ⟨#[]⟩).size ≤ 9 := by decide +kernel
    exact this ⟨m.toNat, h⟩
  · have : modL.length ≤ m.toNat := by simp [modL]; omega
    simp [List.getD, List.getElem?_eq_none this]
    decide

def targetV (o : O) : ByteArray := if empB o.nm then ⟨#[46]⟩ ++ signV o.n else o.nm ++ modV o.m

set_option maxHeartbeats 1000000 in
theorem targetText_any (o : O) (w : World) (hn : i64 o.n) (hm : 0 ≤ o.m ∧ o.m ≤ 5) (hs : o.nm.size ≤ 255) (hw : Gp w) :
    Calls Tryd.prog 71 #[o.val] w fun e w' => e = .returned (.string (targetV o)) ∧ Below w.heap.size w w' := by
  unfold O.val
  cases he : o.nm.toList.isEmpty
  · have HR : Hid (targetV o = o.nm ++ modV o.m) := ⟨by unfold targetV empB; rw [he]; rfl⟩
    obtain ⟨m, hm'⟩ := Int.eq_ofNat_of_zero_le hm.1
    have hm2 := hm.2
    have HT : ∀ x, (w.alloc x).cell? ⟨3, m, none⟩ = some (.string (modV o.m)) := fun x => (hw.g.alloc x).mods m (by omega) |>.trans (by rw [modV, hm']; rfl)
    have hz := modV_size o.m
    generalize modV o.m = t at *
    rw [hm'] at hm2 ⊢
    clear hw hn hm hm'
    go_enter Tryd.func71, Tryd.ntmps71
    go_wp2
    go_quiet (fail)
    go_wp2
    go_ret
    exact ⟨ret_str HR.out.symm, by repeat (first | (with_reducible exact Below.refl _ _) | (with_reducible refine bel_alloc ?_ _) | (with_reducible refine below_drewN ?_ _) | (with_reducible refine Below.drew ?_))⟩
  · have HR : Hid (targetV o = ⟨#[46]⟩ ++ signV o.n) := ⟨by unfold targetV empB; rw [he]; rfl⟩
    have HS : Hid (∀ v, Below w.heap.size w v → Calls Tryd.prog 95 #[.int .i64 o.n] v fun e w' => e = .returned (.string (signV o.n)) ∧ Below v.heap.size v w') := ⟨fun v hv => withSign_any o.n v hn (hw.bel hv)⟩
    have hz := signV_size o.n hn
    generalize signV o.n = t at *
    clear hw hn hm
    go_enter Tryd.func71, Tryd.ntmps71
    go_wp2_with (go_at_call 95; refine (HS.out _ (bel_alloc (Below.refl _ _) _)).mono ?_; rintro e w1 ⟨rfl, hb⟩)
    go_ret
    exact ⟨ret_str HR.out.symm, bel_trans (bel_alloc (Below.refl _ _) _) hb⟩
end Go.Proofs.YtdgejingoamfeaaDoor
