/- The contracts of baseText, withSign, displacementText, targetText. The contract of displacementText. The contract of displacementText, in all ways. The contract of memoryText with an index. -/
import Derived.Test.YtdgejingoamfeaaDoorReg
import Derived.BigQuiet
import Derived.Deep.QuietTactic
import Derived.Deep.RegionWith
import Derived.Deep.RegionHeld3
namespace Go.Proofs.YtdgejingoamfeaaDoor
open Go.ChangeShapes Go.WideShapes Go.ChangeAt Go.RowKit
set_option linter.unusedVariables false

/-- A number that is an int. -/
def i64 (n : Int) : Prop := -9223372036854775808 ≤ n ∧ n ≤ 9223372036854775807

theorem itoa_size (n : Int) (h : i64 n) : (itoaS n).size ≤ 21 := by
  have := Lib.itoa_length_le n h.1 h.2
  show (Lib.itoa n).toArray.size ≤ 21
  simpa using this

def pc : ByteArray := ⟨#[37]⟩
def plusS : ByteArray := ⟨#[43]⟩

/-- The number with a sign. -/
def signV (n : Int) : ByteArray := if n < 0 then itoaS n else ⟨#[43]⟩ ++ itoaS n
theorem signV_size (n : Int) (h : i64 n) : (signV n).size ≤ 22 := by
  have := itoa_size n h
  unfold signV; split
  · omega
  · rw [ByteArray.size_append]
    have : (⟨#[43]⟩ : ByteArray).size = 1 := rfl
    omega

def baseV (o : O) : ByteArray := ⟨#[37]⟩ ++ regV o.b 8
theorem baseV_size (o : O) : (baseV o).size ≤ 5 := by
  have := regV_size o.b 8
  unfold baseV
  rw [ByteArray.size_append]
  have : (⟨#[37]⟩ : ByteArray).size = 1 := rfl
  omega

set_option maxHeartbeats 1000000 in
theorem baseText_any (o : O) (w : World) (hw : Gl w) :
    Calls Tryd.prog 94 #[o.val] w fun e w' => e = .returned (.string (baseV o)) ∧ Below w.heap.size w w' := by
  unfold O.val baseV
  have HG : Hid (∀ v, Below w.heap.size w v → Calls Tryd.prog 21 #[.int .i64 o.b, .int .i64 8] v fun e w' => e = .returned (.string (regV o.b 8)) ∧ Below v.heap.size v w') := ⟨fun v hv => register_any o.b 8 v (hw.bel hv)⟩
  have hs := regV_size o.b 8
  generalize regV o.b 8 = t at *
  clear hw
  go_enter Tryd.func94, Tryd.ntmps94
  go_wp2_with (go_at_call 21; refine (HG.out _ (bel_alloc (Below.refl _ _) _)).mono ?_; rintro e w1 ⟨rfl, hb⟩)
  go_ret
  exact ⟨rfl, bel_trans (bel_alloc (Below.refl _ _) _) hb⟩

theorem withSign_any (n : Int) (w : World) (hn : i64 n) (hw : Gp w) :
    Calls Tryd.prog 95 #[.int .i64 n] w fun e w' => e = .returned (.string (signV n)) ∧ Below w.heap.size w w' := by
  have HI : Hid (∀ v, Below w.heap.size w v → Calls Tryd.prog 69 #[.int .i64 n] v fun e w' => e = .returned (.string (itoaS n)) ∧ Below v.heap.size v w') := ⟨fun v hv => itoa_any n v hn.1 hn.2 (hw.bel hv)⟩
  have hs := itoa_size n hn
  unfold signV
  generalize itoaS n = t at *
  clear hw hn
  by_cases h : n < 0
  · rw [if_pos h]
    go_enter Tryd.func95, Tryd.ntmps95
    go_wp2_with (go_at_call 69; refine (HI.out _ (Below.refl _ _)).mono ?_; rintro e w1 ⟨rfl, hb⟩)
    go_ret
    exact ⟨rfl, hb⟩
  · rw [if_neg h]
    go_enter Tryd.func95, Tryd.ntmps95
    go_wp2_with (go_at_call 69; refine (HI.out _ (Below.refl _ _)).mono ?_; rintro e w1 ⟨rfl, hb⟩)
    go_ret
    exact ⟨rfl, hb⟩

/-- What stands behind a name. -/
def modV (m : Int) : ByteArray := modL.getD m.toNat ⟨#[]⟩
theorem modV_size (m : Int) : (modV m).size ≤ 9 := by
  unfold modV
  by_cases h : m.toNat < 6
  · have : ∀ j : Fin 6, (modL.getD j.val ⟨#[]⟩).size ≤ 9 := by decide +kernel
    exact this ⟨m.toNat, h⟩
  · have : modL.length ≤ m.toNat := by simp [modL]; omega
    simp [List.getD, List.getElem?_eq_none this]
    decide

def targetV (o : O) : ByteArray := if empB o.nm then ⟨#[46]⟩ ++ signV o.n else o.nm ++ modV o.m

set_option maxHeartbeats 1000000 in
theorem targetText_any (o : O) (w : World) (hn : i64 o.n) (hm : 0 ≤ o.m ∧ o.m ≤ 5) (hs : o.nm.size ≤ 255) (hw : Gp w) :
    Calls Tryd.prog 71 #[o.val] w fun e w' => e = .returned (.string (targetV o)) ∧ Below w.heap.size w w' := by
  unfold O.val
  cases he : o.nm.toList.isEmpty
  · have HR : Hid (targetV o = o.nm ++ modV o.m) := ⟨by unfold targetV empB; rw [he]; rfl⟩
    obtain ⟨m, hm'⟩ := Int.eq_ofNat_of_zero_le hm.1
    have hm2 := hm.2
    have HT : ∀ x, (w.alloc x).cell? ⟨3, m, none⟩ = some (.string (modV o.m)) := fun x => (hw.g.alloc x).mods m (by omega) |>.trans (by rw [modV, hm']; rfl)
    have hz := modV_size o.m
    generalize modV o.m = t at *
    rw [hm'] at hm2 ⊢
    clear hw hn hm hm'
    go_enter Tryd.func71, Tryd.ntmps71
    go_wp2
    go_quiet (fail)
    go_wp2
    go_ret
    exact ⟨ret_str HR.out.symm, by repeat (first | (with_reducible exact Below.refl _ _) | (with_reducible refine bel_alloc ?_ _) | (with_reducible refine below_drewN ?_ _) | (with_reducible refine Below.drew ?_))⟩
  · have HR : Hid (targetV o = ⟨#[46]⟩ ++ signV o.n) := ⟨by unfold targetV empB; rw [he]; rfl⟩
    have HS : Hid (∀ v, Below w.heap.size w v → Calls Tryd.prog 95 #[.int .i64 o.n] v fun e w' => e = .returned (.string (signV o.n)) ∧ Below v.heap.size v w') := ⟨fun v hv => withSign_any o.n v hn (hw.bel hv)⟩
    have hz := signV_size o.n hn
    generalize signV o.n = t at *
    clear hw hn hm
    go_enter Tryd.func71, Tryd.ntmps71
    go_wp2_with (go_at_call 95; refine (HS.out _ (bel_alloc (Below.refl _ _) _)).mono ?_; rintro e w1 ⟨rfl, hb⟩)
    go_ret
    exact ⟨ret_str HR.out.symm, bel_trans (bel_alloc (Below.refl _ _) _) hb⟩

theorem hid {p : Prop} (h : p) : Hid p := ⟨h⟩

/-- The displacement's text. -/
def dispV (o : O) : ByteArray :=
  if empB o.nm then (if o.n = 0 ∧ o.fs = false then ⟨#[]⟩ else itoaS o.n)
  else if o.n = 0 then o.nm ++ modV o.m else (o.nm ++ modV o.m) ++ signV o.n
theorem dispV_size (o : O) (hn : i64 o.n) (hs : o.nm.size ≤ 255) : (dispV o).size ≤ 300 := by
  have h1 := itoa_size o.n hn
  have h2 := signV_size o.n hn
  have h3 := modV_size o.m
  have h4 : (⟨#[]⟩ : ByteArray).size = 0 := rfl
  unfold dispV
  split
  · split <;> omega
  · split
    · rw [ByteArray.size_append]; omega
    · rw [ByteArray.size_append, ByteArray.size_append]; omega

theorem keepD {w v u : World} {m : Nat} {n mm : Int} {nm t : ByteArray} (h : v.cell? ⟨w.heap.size, 8, none⟩ = some (.string nm) ∧ v.cell? ⟨w.heap.size, 9, none⟩ = some (.int .i64 mm) ∧ v.cell? ⟨w.heap.size, 7, none⟩ = some (.int .i64 n) ∧ v.cell? ⟨3, m, none⟩ = some (.string t) ∧ Hid (Gp v ∧ Below w.heap.size w v))
    (hb : Below v.heap.size v u) : u.cell? ⟨w.heap.size, 8, none⟩ = some (.string nm) ∧ u.cell? ⟨w.heap.size, 9, none⟩ = some (.int .i64 mm) ∧ u.cell? ⟨w.heap.size, 7, none⟩ = some (.int .i64 n) ∧ u.cell? ⟨3, m, none⟩ = some (.string t) ∧ Hid (Gp u ∧ Below w.heap.size w u) :=
  ⟨to_bel hb h.1, to_bel hb h.2.1, to_bel hb h.2.2.1, to_bel hb h.2.2.2.1, ⟨h.2.2.2.2.out.1.bel hb, bel_trans h.2.2.2.2.out.2 hb⟩⟩
theorem bel_drew (v : World) : Below v.heap.size v v.drew := (Below.refl _ _).drew

set_option maxHeartbeats 2000000 in
theorem disp_both (o : O) (w : World) (hn : i64 o.n) (hm : 0 ≤ o.m ∧ o.m ≤ 5) (hs : o.nm.size ≤ 255) (hw : Gp w) (he : o.nm.toList.isEmpty = false) (h0 : ¬ o.n = 0) :
    Calls Tryd.prog 93 #[o.val] w fun e w' => e = .returned (.string ((o.nm ++ modV o.m) ++ signV o.n)) ∧ Below w.heap.size w w' := by
  unfold O.val
  have h0' : (o.n != 0) = true := by simpa using h0
  obtain ⟨m, hm'⟩ := Int.eq_ofNat_of_zero_le hm.1
  have hm2 := hm.2
  have HS : Hid (∀ v, Gp v → Calls Tryd.prog 95 #[.int .i64 o.n] v fun e w' => e = .returned (.string (signV o.n)) ∧ Below v.heap.size v w') := ⟨fun v hv => withSign_any o.n v hn hv⟩
  have hz := modV_size o.m
  have hy := signV_size o.n hn
  have HT : Hid (∀ v, Gp v → v.cell? ⟨3, m, none⟩ = some (.string (modV o.m))) := ⟨fun v hv => (hv.g.mods m (by omega)).trans (by rw [modV, hm']; rfl)⟩
  generalize modV o.m = t at *
  generalize signV o.n = s at *
  rw [hm'] at hm2 ⊢
  have HW : Hid (Gp w) := ⟨hw⟩
  have hm3 : (m : Int) < 6 := by omega
  have hm4 : (0 : Int) ≤ (m : Int) := by omega
  have S1 : ∀ v, (Op.stringOp .add o.nm t).run Tryd.prog v = .ok (.string (o.nm ++ t)) v := fun v => run_string_add_sum v _ _ (by omega)
  have S2 : ∀ v, (Op.stringOp .add (o.nm ++ t) s).run Tryd.prog v = .ok (.string (o.nm ++ t ++ s)) v := fun v => run_string_add_sum v _ _ (by rw [ByteArray.size_append]; omega)
  clear hw hn hm hm' h0
  go_enter Tryd.func93, Tryd.ntmps93
  go_wp2
  generalize hv : w.alloc (.cells #[.int .i64 o.k, .int .i64 o.r, .int .i64 o.b, .int .i64 o.x, .int .i64 o.s, .bool o.rip, .bool o.fs, .int .i64 o.n, .string o.nm, .int .i64 m] 23) = v
  have K : v.drew.cell? ⟨w.heap.size, 8, none⟩ = some (.string o.nm) ∧ v.drew.cell? ⟨w.heap.size, 9, none⟩ = some (.int .i64 m) ∧ v.drew.cell? ⟨w.heap.size, 7, none⟩ = some (.int .i64 o.n) ∧ v.drew.cell? ⟨3, m, none⟩ = some (.string t) ∧ Hid (Gp v.drew ∧ Below w.heap.size w v.drew) := by
    have hb : Below w.heap.size w v.drew := by rw [← hv]; exact (bel_alloc (Below.refl _ _) _).drew
    have hg := HW.out.bel hb
    refine ⟨?_, ?_, ?_, HT.out _ hg, ⟨hg, hb⟩⟩
    all_goals rw [← hv]; refine up_drew ?_; simp
  clear hv
  go_region_held3 (fun v => v.cell? ⟨w.heap.size, 8, none⟩ = some (.string o.nm) ∧ v.cell? ⟨w.heap.size, 9, none⟩ = some (.int .i64 m) ∧ v.cell? ⟨w.heap.size, 7, none⟩ = some (.int .i64 o.n) ∧ v.cell? ⟨3, m, none⟩ = some (.string t) ∧ Hid (Gp v ∧ Below w.heap.size w v))
    (first | (with_reducible assumption) | exact keepD (by with_reducible assumption) hb)
    (first | (go_at_call 95; refine (HS.out _ (And.right (And.right (And.right (And.right (by with_reducible assumption : _ ∧ _ ∧ _ ∧ _ ∧ Hid (Gp _ ∧ _)))))).out.1).mono ?_; rintro e wp ⟨rfl, hb⟩))
  go_wp2
  go_ret
  exact ⟨rfl, (And.right (And.right (And.right (And.right (by with_reducible assumption : _ ∧ _ ∧ _ ∧ _ ∧ Hid (Gp _ ∧ _)))))).out.2⟩

set_option maxHeartbeats 2000000 in
theorem disp_name (o : O) (w : World) (hm : 0 ≤ o.m ∧ o.m ≤ 5) (hs : o.nm.size ≤ 255) (hw : Gp w) (he : o.nm.toList.isEmpty = false) (h0 : o.n = 0) :
    Calls Tryd.prog 93 #[o.val] w fun e w' => e = .returned (.string (o.nm ++ modV o.m)) ∧ Below w.heap.size w w' := by
  unfold O.val
  have h0' : (o.n != 0) = false := by simp [h0]
  obtain ⟨m, hm'⟩ := Int.eq_ofNat_of_zero_le hm.1
  have hm2 := hm.2
  have HT : ∀ x, (w.alloc x).cell? ⟨3, m, none⟩ = some (.string (modV o.m)) := fun x => (hw.g.alloc x).mods m (by omega) |>.trans (by rw [modV, hm']; rfl)
  have hz := modV_size o.m
  generalize modV o.m = t at *
  rw [hm'] at hm2 ⊢
  clear hw hm hm' h0
  go_enter Tryd.func93, Tryd.ntmps93
  go_wp2
  go_quiet (fail)
  go_wp2
  go_ret
  exact ⟨rfl, by repeat (first | (with_reducible exact Below.refl _ _) | (with_reducible refine bel_alloc ?_ _) | (with_reducible refine below_drewN ?_ _) | (with_reducible refine Below.drew ?_))⟩

theorem disp_none (o : O) (w : World) (he : o.nm.toList.isEmpty = true) (h0 : o.n = 0) (hf : o.fs = false) :
    Calls Tryd.prog 93 #[o.val] w fun e w' => e = .returned (.string ⟨#[]⟩) ∧ Below w.heap.size w w' := by
  unfold O.val
  have h0' : (o.n == 0) = true := by simp [h0]
  rw [hf]
  clear h0 hf
  go_enter Tryd.func93, Tryd.ntmps93
  go_wp2
  go_ret
  exact ⟨rfl, bel_alloc (Below.refl _ _) _⟩

set_option maxHeartbeats 1000000 in
theorem disp_num (o : O) (w : World) (hn : i64 o.n) (hw : Gp w) (he : o.nm.toList.isEmpty = true) (h0 : ¬ (o.n = 0 ∧ o.fs = false)) :
    Calls Tryd.prog 93 #[o.val] w fun e w' => e = .returned (.string (itoaS o.n)) ∧ Below w.heap.size w w' := by
  unfold O.val
  have HI : Hid (∀ v, Below w.heap.size w v → Calls Tryd.prog 69 #[.int .i64 o.n] v fun e w' => e = .returned (.string (itoaS o.n)) ∧ Below v.heap.size v w') := ⟨fun v hv => itoa_any o.n v hn.1 hn.2 (hw.bel hv)⟩
  generalize itoaS o.n = t at *
  clear hw hn
  by_cases h1 : o.n = 0
  · have h1' : (o.n == 0) = true := by simp [h1]
    have h2 : o.fs = true := by cases h : o.fs; exact absurd ⟨h1, h⟩ h0; rfl
    rw [h2]
    clear h0 h1 h2
    go_enter Tryd.func93, Tryd.ntmps93
    go_wp2_with (go_at_call 69; refine (HI.out _ (bel_alloc (Below.refl _ _) _)).mono ?_; rintro e w1 ⟨rfl, hb⟩)
    go_ret
    exact ⟨rfl, bel_trans (bel_alloc (Below.refl _ _) _) hb⟩
  · have h1' : (o.n == 0) = false := by simp [h1]
    clear h0 h1
    go_enter Tryd.func93, Tryd.ntmps93
    go_wp2_with (go_at_call 69; refine (HI.out _ (bel_alloc (Below.refl _ _) _)).mono ?_; rintro e w1 ⟨rfl, hb⟩)
    go_ret
    exact ⟨rfl, bel_trans (bel_alloc (Below.refl _ _) _) hb⟩

theorem disp_any (o : O) (w : World) (hn : i64 o.n) (hm : 0 ≤ o.m ∧ o.m ≤ 5) (hs : o.nm.size ≤ 255) (hw : Gp w) :
    Calls Tryd.prog 93 #[o.val] w fun e w' => e = .returned (.string (dispV o)) ∧ Below w.heap.size w w' := by
  unfold dispV
  cases he : empB o.nm
  · rw [if_neg (by simp)]
    by_cases h0 : o.n = 0
    · rw [if_pos h0]; exact disp_name o w hm hs hw he h0
    · rw [if_neg h0]; exact disp_both o w hn hm hs hw he h0
  · rw [if_pos rfl]
    by_cases h0 : o.n = 0 ∧ o.fs = false
    · rw [if_pos h0]; exact disp_none o w he h0.1 h0.2
    · rw [if_neg h0]; exact disp_num o w hn hw he h0

/-- An operand in memory, as it is written. -/
def memV (o : O) : ByteArray :=
  if o.fs then ⟨#[37, 102, 115, 58]⟩ ++ dispV o
  else if o.rip then dispV o ++ ⟨#[40, 37, 114, 105, 112, 41]⟩
  else if o.x < 0 then ((dispV o ++ ⟨#[40]⟩) ++ baseV o) ++ ⟨#[41]⟩
  else ((((((dispV o ++ ⟨#[40]⟩) ++ baseV o) ++ ⟨#[44, 37]⟩) ++ regV o.x 8) ++ ⟨#[44]⟩) ++ itoaS o.s) ++ ⟨#[41]⟩

theorem disp_at (o : O) (w : World) (hn : i64 o.n) (hm : 0 ≤ o.m ∧ o.m ≤ 5) (hs : o.nm.size ≤ 255) (hw : Gp w) :
    Hid (∀ v, Below w.heap.size w v → Calls Tryd.prog 93 #[.agg #[.int .i64 o.k, .int .i64 o.r, .int .i64 o.b, .int .i64 o.x, .int .i64 o.s, .bool o.rip, .bool o.fs, .int .i64 o.n, .string o.nm, .int .i64 o.m]] v fun e w' => e = .returned (.string (dispV o)) ∧ Below v.heap.size v w') := ⟨fun v hv => disp_any o v hn hm hs (hw.bel hv)⟩

set_option maxHeartbeats 2000000 in
theorem memText_short (o : O) (w : World) (hn : i64 o.n) (hm : 0 ≤ o.m ∧ o.m ≤ 5) (hs : o.nm.size ≤ 255) (hw : Gp w) (h : o.fs = true ∨ o.rip = true ∨ o.x < 0) :
    Calls Tryd.prog 70 #[o.val] w fun e w' => e = .returned (.string (memV o)) ∧ Below w.heap.size w w' := by
  have HD := disp_at o w hn hm hs hw
  have HB : Hid (∀ v, Below w.heap.size w v → Calls Tryd.prog 94 #[.agg #[.int .i64 o.k, .int .i64 o.r, .int .i64 o.b, .int .i64 o.x, .int .i64 o.s, .bool o.rip, .bool o.fs, .int .i64 o.n, .string o.nm, .int .i64 o.m]] v fun e w' => e = .returned (.string (baseV o)) ∧ Below v.heap.size v w') := ⟨fun v hv => baseText_any o v (hw.g.bel hv)⟩
  have hz := dispV_size o hn hs
  have hy := baseV_size o
  have HR : Hid (memV o = if o.fs then ⟨#[37, 102, 115, 58]⟩ ++ dispV o else if o.rip then dispV o ++ ⟨#[40, 37, 114, 105, 112, 41]⟩ else ((dispV o ++ ⟨#[40]⟩) ++ baseV o) ++ ⟨#[41]⟩) := ⟨by
    unfold memV
    rcases h with h | h | h
    · simp [h]
    · simp [h]
    · rw [if_pos h]⟩
  generalize dispV o = d at *
  generalize baseV o = b at *
  unfold O.val
  obtain ⟨f, hf⟩ : ∃ f, o.fs = f := ⟨_, rfl⟩
  obtain ⟨r, hr⟩ : ∃ r, o.rip = r := ⟨_, rfl⟩
  rw [hf, hr] at h HR HD HB
  rw [hf, hr]
  clear hn hm hw hf hr
  rcases f with _ | _
  case' false => rcases r with _ | _
  case' false.false => have hx : o.x < 0 := (by simpa using h)
  all_goals
    clear h
    have tk : True := trivial
    go_enter Tryd.func70, Tryd.ntmps70
    go_wp2_with (first
      | (go_at_call 93; refine (HD.out _ (bel_alloc (Below.refl _ _) _)).mono ?_; rintro e w1 ⟨rfl, hb⟩; have B1 : Hid (Below w.heap.size w w1) := ⟨bel_trans (bel_alloc (Below.refl _ _) _) hb⟩; obtain ⟨hcl, hfl⟩ := bcell hb; have hz1 : w.heap.size < w1.heap.size := (by have := hb.size; simp at this; omega); clear hb)
      | (go_at_call 94; refine (HB.out _ B1.out).mono ?_; rintro e w2 ⟨rfl, hb2⟩; have B2 : Hid (Below w.heap.size w w2) := ⟨bel_trans B1.out hb2⟩; clear hb2))
    go_ret
    exact ⟨ret_str HR.out.symm, by first | exact B2.out | exact B1.out⟩

theorem keepM {w v u : World} {o : O} (h : v.cell? ⟨w.heap.size, 0, none⟩ = some (.int .i64 o.k) ∧ v.cell? ⟨w.heap.size, 1, none⟩ = some (.int .i64 o.r) ∧ v.cell? ⟨w.heap.size, 2, none⟩ = some (.int .i64 o.b) ∧ v.cell? ⟨w.heap.size, 3, none⟩ = some (.int .i64 o.x) ∧ v.cell? ⟨w.heap.size, 4, none⟩ = some (.int .i64 o.s) ∧ v.cell? ⟨w.heap.size, 5, none⟩ = some (.bool false) ∧ v.cell? ⟨w.heap.size, 6, none⟩ = some (.bool false) ∧ v.cell? ⟨w.heap.size, 7, none⟩ = some (.int .i64 o.n) ∧ v.cell? ⟨w.heap.size, 8, none⟩ = some (.string o.nm) ∧ v.cell? ⟨w.heap.size, 9, none⟩ = some (.int .i64 o.m) ∧ Hid (Gp v ∧ Below w.heap.size w v)) (hb : Below v.heap.size v u) : u.cell? ⟨w.heap.size, 0, none⟩ = some (.int .i64 o.k) ∧ u.cell? ⟨w.heap.size, 1, none⟩ = some (.int .i64 o.r) ∧ u.cell? ⟨w.heap.size, 2, none⟩ = some (.int .i64 o.b) ∧ u.cell? ⟨w.heap.size, 3, none⟩ = some (.int .i64 o.x) ∧ u.cell? ⟨w.heap.size, 4, none⟩ = some (.int .i64 o.s) ∧ u.cell? ⟨w.heap.size, 5, none⟩ = some (.bool false) ∧ u.cell? ⟨w.heap.size, 6, none⟩ = some (.bool false) ∧ u.cell? ⟨w.heap.size, 7, none⟩ = some (.int .i64 o.n) ∧ u.cell? ⟨w.heap.size, 8, none⟩ = some (.string o.nm) ∧ u.cell? ⟨w.heap.size, 9, none⟩ = some (.int .i64 o.m) ∧ Hid (Gp u ∧ Below w.heap.size w u) := ⟨to_bel hb h.1, to_bel hb h.2.1, to_bel hb h.2.2.1, to_bel hb h.2.2.2.1, to_bel hb h.2.2.2.2.1, to_bel hb h.2.2.2.2.2.1, to_bel hb h.2.2.2.2.2.2.1, to_bel hb h.2.2.2.2.2.2.2.1, to_bel hb h.2.2.2.2.2.2.2.2.1, to_bel hb h.2.2.2.2.2.2.2.2.2.1, ⟨h.2.2.2.2.2.2.2.2.2.2.out.1.bel hb, bel_trans h.2.2.2.2.2.2.2.2.2.2.out.2 hb⟩⟩
theorem lastM {w v : World} {o : O} (h : v.cell? ⟨w.heap.size, 0, none⟩ = some (.int .i64 o.k) ∧ v.cell? ⟨w.heap.size, 1, none⟩ = some (.int .i64 o.r) ∧ v.cell? ⟨w.heap.size, 2, none⟩ = some (.int .i64 o.b) ∧ v.cell? ⟨w.heap.size, 3, none⟩ = some (.int .i64 o.x) ∧ v.cell? ⟨w.heap.size, 4, none⟩ = some (.int .i64 o.s) ∧ v.cell? ⟨w.heap.size, 5, none⟩ = some (.bool false) ∧ v.cell? ⟨w.heap.size, 6, none⟩ = some (.bool false) ∧ v.cell? ⟨w.heap.size, 7, none⟩ = some (.int .i64 o.n) ∧ v.cell? ⟨w.heap.size, 8, none⟩ = some (.string o.nm) ∧ v.cell? ⟨w.heap.size, 9, none⟩ = some (.int .i64 o.m) ∧ Hid (Gp v ∧ Below w.heap.size w v)) : Gp v ∧ Below w.heap.size w v := (h.2.2.2.2.2.2.2.2.2.2.out)

set_option maxHeartbeats 4000000 in
theorem memText_long (o : O) (w : World) (hn : i64 o.n) (hi : i64 o.s) (hm : 0 ≤ o.m ∧ o.m ≤ 5) (hs : o.nm.size ≤ 255) (hw : Gp w) (hf : o.fs = false) (hr : o.rip = false) (hx : ¬ o.x < 0) :
    Calls Tryd.prog 70 #[o.val] w fun e w' => e = .returned (.string (memV o)) ∧ Below w.heap.size w w' := by
  have HD := disp_at o w hn hm hs hw
  have HB : Hid (∀ v, Gp v → Calls Tryd.prog 94 #[.agg #[.int .i64 o.k, .int .i64 o.r, .int .i64 o.b, .int .i64 o.x, .int .i64 o.s, .bool o.rip, .bool o.fs, .int .i64 o.n, .string o.nm, .int .i64 o.m]] v fun e w' => e = .returned (.string (baseV o)) ∧ Below v.heap.size v w') := ⟨fun v hv => baseText_any o v hv.g⟩
  have HG : Hid (∀ v, Gp v → Calls Tryd.prog 21 #[.int .i64 o.x, .int .i64 8] v fun e w' => e = .returned (.string (regV o.x 8)) ∧ Below v.heap.size v w') := ⟨fun v hv => register_any o.x 8 v hv.g⟩
  have HI : Hid (∀ v, Gp v → Calls Tryd.prog 69 #[.int .i64 o.s] v fun e w' => e = .returned (.string (itoaS o.s)) ∧ Below v.heap.size v w') := ⟨fun v hv => itoa_any o.s v hi.1 hi.2 hv⟩
  have h1 := dispV_size o hn hs
  have h2 := baseV_size o
  have h3 := regV_size o.x 8
  have h4 := itoa_size o.s hi
  have HR : Hid (memV o = ((((((dispV o ++ ⟨#[40]⟩) ++ baseV o) ++ ⟨#[44, 37]⟩) ++ regV o.x 8) ++ ⟨#[44]⟩) ++ itoaS o.s) ++ ⟨#[41]⟩) := ⟨by unfold memV; simp [hf, hr, hx]⟩
  generalize dispV o = d at *
  generalize baseV o = b at *
  generalize regV o.x 8 = g at *
  generalize itoaS o.s = t at *
  have k1 : (⟨#[40]⟩ : ByteArray).size = 1 := rfl
  have k2 : (⟨#[44, 37]⟩ : ByteArray).size = 2 := rfl
  have k3 : (⟨#[44]⟩ : ByteArray).size = 1 := rfl
  have k4 : (⟨#[41]⟩ : ByteArray).size = 1 := rfl
  have S1 : ∀ v, (Op.stringOp .add d ⟨#[40]⟩).run Tryd.prog v = .ok (.string (d ++ ⟨#[40]⟩)) v := fun v => run_string_add_sum v _ _ (by omega)
  have S2 : ∀ v, (Op.stringOp .add (d ++ ⟨#[40]⟩) b).run Tryd.prog v = .ok (.string (d ++ ⟨#[40]⟩ ++ b)) v := fun v => run_string_add_sum v _ _ (by simp only [ByteArray.size_append]; omega)
  have S3 : ∀ v, (Op.stringOp .add (d ++ ⟨#[40]⟩ ++ b) ⟨#[44, 37]⟩).run Tryd.prog v = .ok (.string (d ++ ⟨#[40]⟩ ++ b ++ ⟨#[44, 37]⟩)) v := fun v => run_string_add_sum v _ _ (by simp only [ByteArray.size_append]; omega)
  have S4 : ∀ v, (Op.stringOp .add (d ++ ⟨#[40]⟩ ++ b ++ ⟨#[44, 37]⟩) g).run Tryd.prog v = .ok (.string (d ++ ⟨#[40]⟩ ++ b ++ ⟨#[44, 37]⟩ ++ g)) v := fun v => run_string_add_sum v _ _ (by simp only [ByteArray.size_append]; omega)
  have S5 : ∀ v, (Op.stringOp .add (d ++ ⟨#[40]⟩ ++ b ++ ⟨#[44, 37]⟩ ++ g) ⟨#[44]⟩).run Tryd.prog v = .ok (.string (d ++ ⟨#[40]⟩ ++ b ++ ⟨#[44, 37]⟩ ++ g ++ ⟨#[44]⟩)) v := fun v => run_string_add_sum v _ _ (by simp only [ByteArray.size_append]; omega)
  have S6 : ∀ v, (Op.stringOp .add (d ++ ⟨#[40]⟩ ++ b ++ ⟨#[44, 37]⟩ ++ g ++ ⟨#[44]⟩) t).run Tryd.prog v = .ok (.string (d ++ ⟨#[40]⟩ ++ b ++ ⟨#[44, 37]⟩ ++ g ++ ⟨#[44]⟩ ++ t)) v := fun v => run_string_add_sum v _ _ (by simp only [ByteArray.size_append]; omega)
  have S7 : ∀ v, (Op.stringOp .add (d ++ ⟨#[40]⟩ ++ b ++ ⟨#[44, 37]⟩ ++ g ++ ⟨#[44]⟩ ++ t) ⟨#[41]⟩).run Tryd.prog v = .ok (.string (d ++ ⟨#[40]⟩ ++ b ++ ⟨#[44, 37]⟩ ++ g ++ ⟨#[44]⟩ ++ t ++ ⟨#[41]⟩)) v := fun v => run_string_add_sum v _ _ (by simp only [ByteArray.size_append]; omega)
  unfold O.val
  rw [hf, hr] at HD HB
  rw [hf, hr]
  have HW : Hid (Gp w) := ⟨hw⟩
  clear hn hi hm hw hf hr k1 k2 k3 k4 h1 h2 h3 h4 hs
  go_enter Tryd.func70, Tryd.ntmps70
  go_wp2_with (go_at_call 93; refine (HD.out _ (bel_alloc (Below.refl _ _) _)).mono ?_; rintro e v ⟨rfl, hb⟩; have B1 : Hid (Below w.heap.size w v) := ⟨bel_trans (bel_alloc (Below.refl _ _) _) hb⟩; obtain ⟨hcl, hfl⟩ := bcell hb; have hz1 : w.heap.size < v.heap.size := (by have := hb.size; simp at this; omega); clear hb)
  have K : v.drew.cell? ⟨w.heap.size, 0, none⟩ = some (.int .i64 o.k) ∧ v.drew.cell? ⟨w.heap.size, 1, none⟩ = some (.int .i64 o.r) ∧ v.drew.cell? ⟨w.heap.size, 2, none⟩ = some (.int .i64 o.b) ∧ v.drew.cell? ⟨w.heap.size, 3, none⟩ = some (.int .i64 o.x) ∧ v.drew.cell? ⟨w.heap.size, 4, none⟩ = some (.int .i64 o.s) ∧ v.drew.cell? ⟨w.heap.size, 5, none⟩ = some (.bool false) ∧ v.drew.cell? ⟨w.heap.size, 6, none⟩ = some (.bool false) ∧ v.drew.cell? ⟨w.heap.size, 7, none⟩ = some (.int .i64 o.n) ∧ v.drew.cell? ⟨w.heap.size, 8, none⟩ = some (.string o.nm) ∧ v.drew.cell? ⟨w.heap.size, 9, none⟩ = some (.int .i64 o.m) ∧ Hid (Gp v.drew ∧ Below w.heap.size w v.drew) := by
    have hb : Below w.heap.size w v.drew := B1.out.drew
    refine ⟨?_, ?_, ?_, ?_, ?_, ?_, ?_, ?_, ?_, ?_, ⟨HW.out.bel hb, hb⟩⟩
    all_goals refine up_drew ?_; rw [hcl _ _ (by simp)]; simp
  clear hcl hfl hz1 HW HD
  go_region_held3 (fun v => v.cell? ⟨w.heap.size, 0, none⟩ = some (.int .i64 o.k) ∧ v.cell? ⟨w.heap.size, 1, none⟩ = some (.int .i64 o.r) ∧ v.cell? ⟨w.heap.size, 2, none⟩ = some (.int .i64 o.b) ∧ v.cell? ⟨w.heap.size, 3, none⟩ = some (.int .i64 o.x) ∧ v.cell? ⟨w.heap.size, 4, none⟩ = some (.int .i64 o.s) ∧ v.cell? ⟨w.heap.size, 5, none⟩ = some (.bool false) ∧ v.cell? ⟨w.heap.size, 6, none⟩ = some (.bool false) ∧ v.cell? ⟨w.heap.size, 7, none⟩ = some (.int .i64 o.n) ∧ v.cell? ⟨w.heap.size, 8, none⟩ = some (.string o.nm) ∧ v.cell? ⟨w.heap.size, 9, none⟩ = some (.int .i64 o.m) ∧ Hid (Gp v ∧ Below w.heap.size w v))
    (first | (with_reducible assumption) | exact keepM (by with_reducible assumption) hb)
    (first
      | (go_at_call 94; refine (HB.out _ (lastM (by with_reducible assumption)).1).mono ?_; rintro e wp ⟨rfl, hb⟩)
      | (go_at_call 21; refine (HG.out _ (lastM (by with_reducible assumption)).1).mono ?_; rintro e wp ⟨rfl, hb⟩)
      | (go_at_call 69; refine (HI.out _ (lastM (by with_reducible assumption)).1).mono ?_; rintro e wp ⟨rfl, hb⟩))
  go_wp2
  go_ret
  exact ⟨ret_str HR.out.symm, (lastM (by with_reducible assumption)).2⟩
end Go.Proofs.YtdgejingoamfeaaDoor
