/- Digits read by the library: its errors, and the outer call. -/
import Derived.Test.YtljmbgflcidokaaGreatDoorQxU
namespace Go.Proofs.YtljmbgflcidokaaGreatDoor
open Go.ChangeShapes Go.WideShapes Go.ChangeAt Go.RowKit
set_option linter.unusedVariables false
set_option linter.unusedSimpArgs false

/-- The library's outer call answers an error of its own. -/
def Bad (e : Ending) : Prop := ∃ (x : Int) (N : Nat), e = .returned (.tuple #[.int .u64 x, .iface 155 (.pointer (some ⟨N, 0, none⟩))])

theorem syntaxError_any (fn s : ByteArray) (w : World) (hl : s.size ≤ 8796093022208) (he : Er w) : Calls Tryz.prog 124 #[.string fn, .string s] w fun e w' => ∃ N, e = .returned (.pointer (some ⟨N, 0, none⟩)) ∧ Below w.heap.size w w' := by
  have HE : Hid _ := ⟨he⟩
  have HC : Hid _ := ⟨fun w => clone_any s w (by omega)⟩
  have ed := he.bel (Below.refl _ _).drew
  obtain ⟨te, pe, c2⟩ := ed.sx
  have z2 : 4 < w.drew.heap.size := Nat.lt_of_lt_of_le (by omega) ed.sz
  clear he ed
  go_enter Tryz.func124, Tryz.ntmps124
  go_wp2
  go_region_held3 (fun v' => v'.cell? ⟨4, 0, none⟩ = some (.iface te pe) ∧ 4 < v'.heap.size)
    ((refine ⟨?_, ?_⟩) <;> first | (with_reducible assumption) | (simp [go_sem, *]; done) | (simp; omega))
    ((go_at_call 121; (with_reducible refine (HC.out _).mono ?_); rintro e u ⟨rfl, hu⟩; have x0 : u.cell? ⟨4, 0, none⟩ = some (.iface te pe) := (hu.cell (p := ⟨4, 0, none⟩) (by have := HE.out.sz; show 4 < w.drew.heap.size; simp; omega)).trans c2; have x1 : 4 < u.heap.size := World.block_lt_of_cell? u ⟨4, 0, none⟩ x0))
  go_wp2
  go_ret
  exact ⟨_, rfl, ((Below.refl _ _).drew.trans hu).alloc (by have := hu.size; simpa using this) _⟩
theorem toError_sx (fn s : ByteArray) (base bits : Int) (w : World) (hl : s.size ≤ 8796093022208) (he : Er w) : Calls Tryz.prog 112 #[.string fn, .string s, .int .i64 base, .int .i64 bits, .iface 153 (.int .i64 2)] w fun e w' => ∃ N, e = .returned (.iface 155 (.pointer (some ⟨N, 0, none⟩))) ∧ Below w.heap.size w w' := by
  have HS : Hid _ := ⟨syntaxError_any fn s w hl he⟩
  have q2 := iface_eql 2 2
  have q1 := iface_eql 2 1
  go_enter Tryz.func112, Tryz.ntmps112
  go_wp2_with (go_at_call 124; (with_reducible refine HS.out.mono ?_); rintro e w1 ⟨N, rfl, hb⟩)
  go_ret
  exact ⟨N, rfl, hb⟩
theorem rangeError_any (fn s : ByteArray) (w : World) (hl : s.size ≤ 8796093022208) (he : Er w) : Calls Tryz.prog 125 #[.string fn, .string s] w fun e w' => ∃ N, e = .returned (.pointer (some ⟨N, 0, none⟩)) ∧ Below w.heap.size w w' := by
  have HE : Hid _ := ⟨he⟩
  have HC : Hid _ := ⟨fun w => clone_any s w (by omega)⟩
  have ed := he.bel (Below.refl _ _).drew
  obtain ⟨te, pe, c2⟩ := ed.rg
  have z2 : 5 < w.drew.heap.size := Nat.lt_of_lt_of_le (by omega) ed.sz
  clear he ed
  go_enter Tryz.func125, Tryz.ntmps125
  go_wp2
  go_region_held3 (fun v' => v'.cell? ⟨5, 0, none⟩ = some (.iface te pe) ∧ 5 < v'.heap.size)
    ((refine ⟨?_, ?_⟩) <;> first | (with_reducible assumption) | (simp [go_sem, *]; done) | (simp; omega))
    ((go_at_call 121; (with_reducible refine (HC.out _).mono ?_); rintro e u ⟨rfl, hu⟩; have x0 : u.cell? ⟨5, 0, none⟩ = some (.iface te pe) := (hu.cell (p := ⟨5, 0, none⟩) (by have := HE.out.sz; show 5 < w.drew.heap.size; simp; omega)).trans c2; have x1 : 5 < u.heap.size := World.block_lt_of_cell? u ⟨5, 0, none⟩ x0))
  go_wp2
  go_ret
  exact ⟨_, rfl, ((Below.refl _ _).drew.trans hu).alloc (by have := hu.size; simpa using this) _⟩
theorem toError_rg (fn s : ByteArray) (base bits : Int) (w : World) (hl : s.size ≤ 8796093022208) (he : Er w) : Calls Tryz.prog 112 #[.string fn, .string s, .int .i64 base, .int .i64 bits, .iface 153 (.int .i64 1)] w fun e w' => ∃ N, e = .returned (.iface 155 (.pointer (some ⟨N, 0, none⟩))) ∧ Below w.heap.size w w' := by
  have HS : Hid _ := ⟨rangeError_any fn s w hl he⟩
  have q2 := iface_eql 1 2
  have q1 := iface_eql 1 1
  go_enter Tryz.func112, Tryz.ntmps112
  go_wp2_with (go_at_call 125; (with_reducible refine HS.out.mono ?_); rintro e w1 ⟨N, rfl, hb⟩)
  go_ret
  exact ⟨N, rfl, hb⟩

theorem emp_string (t : ByteArray) (h : t.size = 0) : t = ⟨#[]⟩ := by
  obtain ⟨⟨l⟩⟩ := t
  cases l with
  | nil => rfl
  | cons _ _ => simp [ByteArray.size] at h

set_option maxHeartbeats 4000000 in
set_option maxRecDepth 100000 in
theorem pu_10_64 (t : ByteArray) (hmax : t.size ≤ 8796093022208) (hd : ∀ c ∈ lo t, 0 ≤ hexZ (zOf c) ∧ hexZ (zOf c) < 10) (w : World) (he : Er w) :
    Calls Tryz.prog 95 #[.string t, .int .i64 10, .int .i64 64] w fun e w' => (match (if lo t = [] then none else puF 10 1844674407370955162 18446744073709551615 (lo t) 0) with | some v => e = .returned (.tuple #[.int .u64 v, .nilIface]) | none => Bad e) ∧ Below w.heap.size w w' := by
  by_cases h0 : t.size = 0
  · obtain rfl := emp_string t h0
    rw [if_pos (show lo ⟨#[]⟩ = [] from rfl)]
    have HS : Hid _ := ⟨fun b => toError_sx ⟨#[80, 97, 114, 115, 101, 85, 105, 110, 116]⟩ ⟨#[]⟩ 10 b w hmax he⟩
    have HI : Hid (Calls Tryz.prog 111 #[.string ⟨#[]⟩, .int .i64 10, .int .i64 64] w fun e w' => e = .returned (.tuple #[.int .u64 0, .iface 153 (.int .i64 2)]) ∧ w' = w) := ⟨by
      go_enter Tryz.func111, Tryz.ntmps111
      go_wp2
      go_ret2
      exact ⟨rfl, rfl⟩⟩
    clear hd he
    go_enter Tryz.func95, Tryz.ntmps95
    go_wp2_with (first
      | (go_at_call 111; (with_reducible refine HI.out.mono ?_); rintro e w' ⟨rfl, hw'⟩; subst w')
      | (go_at_call 112; (with_reducible refine (HS.out _).mono ?_); rintro e w1 ⟨N, rfl, hb⟩))
    go_ret2
    exact ⟨⟨_, N, rfl⟩, hb⟩
  · rw [if_neg (fun e => h0 (by rw [← lo_len, e]; rfl))]
    have HI : Hid _ := ⟨ipu_10_64 t h0 hmax hd w⟩
    cases hm : puF 10 1844674407370955162 18446744073709551615 (lo t) 0 with
    | none =>
      rw [hm] at HI
      dsimp only [puV] at HI
      have HS : Hid (∀ W, Er W → Calls Tryz.prog 112 #[.string ⟨#[80, 97, 114, 115, 101, 85, 105, 110, 116]⟩, .string t, .int .i64 10, .int .i64 64, .iface 153 (.int .i64 1)] W fun e w' => ∃ N, e = .returned (.iface 155 (.pointer (some ⟨N, 0, none⟩))) ∧ Below W.heap.size W w') := ⟨fun W hW => toError_rg _ t 10 64 W hmax hW⟩
      have HE : Hid _ := ⟨he⟩
      clear hd he hm h0
      go_enter Tryz.func95, Tryz.ntmps95
      go_wp2_with (first
        | (go_at_call 111; (with_reducible refine HI.out.mono ?_); rintro e w1 ⟨rfl, hb1⟩)
        | (go_at_call 112; (with_reducible refine (HS.out _ (HE.out.bel hb1)).mono ?_); rintro e w2 ⟨N, rfl, hb2⟩))
      go_ret2
      exact ⟨⟨_, N, rfl⟩, hb1.trans (hb2.mono hb1.size)⟩
    | some v =>
      rw [hm] at HI
      dsimp only [puV] at HI
      clear hd he hm h0
      go_enter Tryz.func95, Tryz.ntmps95
      go_wp2_with (go_at_call 111; (with_reducible refine HI.out.mono ?_); rintro e w1 ⟨rfl, hb1⟩)
      go_ret2
      exact ⟨rfl, hb1⟩
set_option maxHeartbeats 4000000 in
set_option maxRecDepth 100000 in
theorem pu_16_64 (t : ByteArray) (hmax : t.size ≤ 8796093022208) (hd : ∀ c ∈ lo t, 0 ≤ hexZ (zOf c) ∧ hexZ (zOf c) < 16) (w : World) (he : Er w) :
    Calls Tryz.prog 95 #[.string t, .int .i64 16, .int .i64 64] w fun e w' => (match (if lo t = [] then none else puF 16 1152921504606846976 18446744073709551615 (lo t) 0) with | some v => e = .returned (.tuple #[.int .u64 v, .nilIface]) | none => Bad e) ∧ Below w.heap.size w w' := by
  by_cases h0 : t.size = 0
  · obtain rfl := emp_string t h0
    rw [if_pos (show lo ⟨#[]⟩ = [] from rfl)]
    have HS : Hid _ := ⟨fun b => toError_sx ⟨#[80, 97, 114, 115, 101, 85, 105, 110, 116]⟩ ⟨#[]⟩ 16 b w hmax he⟩
    have HI : Hid (Calls Tryz.prog 111 #[.string ⟨#[]⟩, .int .i64 16, .int .i64 64] w fun e w' => e = .returned (.tuple #[.int .u64 0, .iface 153 (.int .i64 2)]) ∧ w' = w) := ⟨by
      go_enter Tryz.func111, Tryz.ntmps111
      go_wp2
      go_ret2
      exact ⟨rfl, rfl⟩⟩
    clear hd he
    go_enter Tryz.func95, Tryz.ntmps95
    go_wp2_with (first
      | (go_at_call 111; (with_reducible refine HI.out.mono ?_); rintro e w' ⟨rfl, hw'⟩; subst w')
      | (go_at_call 112; (with_reducible refine (HS.out _).mono ?_); rintro e w1 ⟨N, rfl, hb⟩))
    go_ret2
    exact ⟨⟨_, N, rfl⟩, hb⟩
  · rw [if_neg (fun e => h0 (by rw [← lo_len, e]; rfl))]
    have HI : Hid _ := ⟨ipu_16_64 t h0 hmax hd w⟩
    cases hm : puF 16 1152921504606846976 18446744073709551615 (lo t) 0 with
    | none =>
      rw [hm] at HI
      dsimp only [puV] at HI
      have HS : Hid (∀ W, Er W → Calls Tryz.prog 112 #[.string ⟨#[80, 97, 114, 115, 101, 85, 105, 110, 116]⟩, .string t, .int .i64 16, .int .i64 64, .iface 153 (.int .i64 1)] W fun e w' => ∃ N, e = .returned (.iface 155 (.pointer (some ⟨N, 0, none⟩))) ∧ Below W.heap.size W w') := ⟨fun W hW => toError_rg _ t 16 64 W hmax hW⟩
      have HE : Hid _ := ⟨he⟩
      clear hd he hm h0
      go_enter Tryz.func95, Tryz.ntmps95
      go_wp2_with (first
        | (go_at_call 111; (with_reducible refine HI.out.mono ?_); rintro e w1 ⟨rfl, hb1⟩)
        | (go_at_call 112; (with_reducible refine (HS.out _ (HE.out.bel hb1)).mono ?_); rintro e w2 ⟨N, rfl, hb2⟩))
      go_ret2
      exact ⟨⟨_, N, rfl⟩, hb1.trans (hb2.mono hb1.size)⟩
    | some v =>
      rw [hm] at HI
      dsimp only [puV] at HI
      clear hd he hm h0
      go_enter Tryz.func95, Tryz.ntmps95
      go_wp2_with (go_at_call 111; (with_reducible refine HI.out.mono ?_); rintro e w1 ⟨rfl, hb1⟩)
      go_ret2
      exact ⟨rfl, hb1⟩
set_option maxHeartbeats 4000000 in
set_option maxRecDepth 100000 in
theorem pu_16_8 (t : ByteArray) (hmax : t.size ≤ 8796093022208) (hd : ∀ c ∈ lo t, 0 ≤ hexZ (zOf c) ∧ hexZ (zOf c) < 16) (w : World) (he : Er w) :
    Calls Tryz.prog 95 #[.string t, .int .i64 16, .int .i64 8] w fun e w' => (match (if lo t = [] then none else puF 16 1152921504606846976 255 (lo t) 0) with | some v => e = .returned (.tuple #[.int .u64 v, .nilIface]) | none => Bad e) ∧ Below w.heap.size w w' := by
  by_cases h0 : t.size = 0
  · obtain rfl := emp_string t h0
    rw [if_pos (show lo ⟨#[]⟩ = [] from rfl)]
    have HS : Hid _ := ⟨fun b => toError_sx ⟨#[80, 97, 114, 115, 101, 85, 105, 110, 116]⟩ ⟨#[]⟩ 16 b w hmax he⟩
    have HI : Hid (Calls Tryz.prog 111 #[.string ⟨#[]⟩, .int .i64 16, .int .i64 8] w fun e w' => e = .returned (.tuple #[.int .u64 0, .iface 153 (.int .i64 2)]) ∧ w' = w) := ⟨by
      go_enter Tryz.func111, Tryz.ntmps111
      go_wp2
      go_ret2
      exact ⟨rfl, rfl⟩⟩
    clear hd he
    go_enter Tryz.func95, Tryz.ntmps95
    go_wp2_with (first
      | (go_at_call 111; (with_reducible refine HI.out.mono ?_); rintro e w' ⟨rfl, hw'⟩; subst w')
      | (go_at_call 112; (with_reducible refine (HS.out _).mono ?_); rintro e w1 ⟨N, rfl, hb⟩))
    go_ret2
    exact ⟨⟨_, N, rfl⟩, hb⟩
  · rw [if_neg (fun e => h0 (by rw [← lo_len, e]; rfl))]
    have HI : Hid _ := ⟨ipu_16_8 t h0 hmax hd w⟩
    cases hm : puF 16 1152921504606846976 255 (lo t) 0 with
    | none =>
      rw [hm] at HI
      dsimp only [puV] at HI
      have HS : Hid (∀ W, Er W → Calls Tryz.prog 112 #[.string ⟨#[80, 97, 114, 115, 101, 85, 105, 110, 116]⟩, .string t, .int .i64 16, .int .i64 8, .iface 153 (.int .i64 1)] W fun e w' => ∃ N, e = .returned (.iface 155 (.pointer (some ⟨N, 0, none⟩))) ∧ Below W.heap.size W w') := ⟨fun W hW => toError_rg _ t 16 8 W hmax hW⟩
      have HE : Hid _ := ⟨he⟩
      clear hd he hm h0
      go_enter Tryz.func95, Tryz.ntmps95
      go_wp2_with (first
        | (go_at_call 111; (with_reducible refine HI.out.mono ?_); rintro e w1 ⟨rfl, hb1⟩)
        | (go_at_call 112; (with_reducible refine (HS.out _ (HE.out.bel hb1)).mono ?_); rintro e w2 ⟨N, rfl, hb2⟩))
      go_ret2
      exact ⟨⟨_, N, rfl⟩, hb1.trans (hb2.mono hb1.size)⟩
    | some v =>
      rw [hm] at HI
      dsimp only [puV] at HI
      clear hd he hm h0
      go_enter Tryz.func95, Tryz.ntmps95
      go_wp2_with (go_at_call 111; (with_reducible refine HI.out.mono ?_); rintro e w1 ⟨rfl, hb1⟩)
      go_ret2
      exact ⟨rfl, hb1⟩
end Go.Proofs.YtljmbgflcidokaaGreatDoor
