/- The contracts of the table's shapes. The contract of shifted; the table's shapes by their number. -/
import Derived.Test.YtdgejingoamfeaaDoorSmall
import Derived.Shelf.Abstract
namespace Go.Proofs.YtdgejingoamfeaaDoor
open Go.ChangeShapes Go.WideShapes Go.ChangeAt Go.RowKit
open Go.ChangeShapes Go.WideShapes Go.ChangeAt Go.RowKit Go.Shelf
set_option linter.unusedVariables false

def storedB (t f : O) : Bool := isPlaceB t && f.k == 1
def testedB (z : Int) (t f : O) : Bool := storedB t f || ((isPlaceB t && f.k == 2) && fitsB f.n z)
def combinedB (z : Int) (t f : O) : Bool := testedB z t f || (t.k == 1 && f.k == 3)
def movedB (z : Int) (t f : O) : Bool := combinedB z t f || ((z == 8 && t.k == 1) && f.k == 2)
def loadedB (t f : O) : Bool := t.k == 1 && isPlaceB f
def locatedB (t f : O) : Bool := (t.k == 1 && f.k == 3) && !f.fs
def singleB (t f : O) : Bool := isPlaceB t && f.k == 0
def mostV (z : Int) : Int := if z = 8 then 63 else 31
def shiftedB (z : Int) (t f : O) : Bool := isPlaceB t && ((f.k == 2 && withinB f.n 0 (mostV z)) || (f.k == 1 && f.r == 1))
def pushedB (t f : O) : Bool := t.k == 0 && (isPlaceB f || (f.k == 2 && fitsSB f.n))
def aimedB (t f : O) : Bool := t.k == 4 && f.k == 0
def calledB (t f : O) : Bool := aimedB t f || singleB t f
def bareB (t f : O) : Bool := t.k == 0 && f.k == 0

theorem place_at (o : O) {p : Bool} (h : isPlaceB o = p) : Hid (∀ v, Calls Tryd.prog 51 #[.agg #[.int .i64 o.k, .int .i64 o.r, .int .i64 o.b, .int .i64 o.x, .int .i64 o.s, .bool o.rip, .bool o.fs, .int .i64 o.n, .string o.nm, .int .i64 o.m]] v fun e w' => e = .returned (.bool p) ∧ Below v.heap.size v w') := ⟨fun v => h ▸ isPlace_any o v⟩


set_option maxHeartbeats 2000000 in
theorem stored_any (z : Int) (t f : O) (w : World) :
    Calls Tryd.prog 83 #[.int .i64 z, t.val, f.val] w fun e w' => e = .returned (.bool (storedB t f)) ∧ Below w.heap.size w w' := by
  obtain ⟨b, hb⟩ : ∃ x, (f.k == 1) = x := ⟨_, rfl⟩
  obtain ⟨a, ha⟩ : ∃ x, (isPlaceB t) = x := ⟨_, rfl⟩
  have HR : Hid (storedB t f = (a && b)) := ⟨by simp only [storedB, hb, ha]⟩
  have Ca : Hid (∀ v, Calls Tryd.prog 51 #[.agg #[.int .i64 t.k, .int .i64 t.r, .int .i64 t.b, .int .i64 t.x, .int .i64 t.s, .bool t.rip, .bool t.fs, .int .i64 t.n, .string t.nm, .int .i64 t.m]] v fun e w' => e = .returned (.bool a) ∧ Below v.heap.size v w') := ⟨fun v => ha ▸ isPlace_any t v⟩
  unfold O.val
  clear ha
  rcases a with _ | _
  all_goals
    go_enter Tryd.func83, Tryd.ntmps83
    go_wp2_with (first
      | (go_at_call 51; refine (Ca.out _).mono ?_; rintro e w0 ⟨rfl, hb0⟩; obtain ⟨hcl0, hfl0⟩ := bcell hb0; have hz0 : w.heap.size + 1 < w0.heap.size := (by have := hb0.size; first | omega | (simp at this; omega)); first | (have B0 : Below w.heap.size w w0 := bel_trans B0 hb0) | (have B0 : Below w.heap.size w w0 := bel_trans (bel_alloc (bel_alloc (Below.refl _ _) _) _) hb0)))
    go_ret
    exact ⟨ret_bool (by rw [HR.out]; rfl), by first | exact B0 | exact bel_alloc (bel_alloc (Below.refl _ _) _) _⟩

set_option maxHeartbeats 2000000 in
theorem tested_any (z : Int) (t f : O) (w : World) :
    Calls Tryd.prog 75 #[.int .i64 z, t.val, f.val] w fun e w' => e = .returned (.bool (testedB z t f)) ∧ Below w.heap.size w w' := by
  obtain ⟨b, hb⟩ : ∃ x, (f.k == 2) = x := ⟨_, rfl⟩
  obtain ⟨c, hc⟩ : ∃ x, (storedB t f) = x := ⟨_, rfl⟩
  obtain ⟨a, ha⟩ : ∃ x, (isPlaceB t) = x := ⟨_, rfl⟩
  obtain ⟨d, hd⟩ : ∃ x, (fitsB f.n z) = x := ⟨_, rfl⟩
  have HR : Hid (testedB z t f = (c || ((a && b) && d))) := ⟨by simp only [testedB, hb, hc, ha, hd]⟩
  have Cc : Hid (∀ v, Calls Tryd.prog 83 #[.int .i64 z, .agg #[.int .i64 t.k, .int .i64 t.r, .int .i64 t.b, .int .i64 t.x, .int .i64 t.s, .bool t.rip, .bool t.fs, .int .i64 t.n, .string t.nm, .int .i64 t.m], .agg #[.int .i64 f.k, .int .i64 f.r, .int .i64 f.b, .int .i64 f.x, .int .i64 f.s, .bool f.rip, .bool f.fs, .int .i64 f.n, .string f.nm, .int .i64 f.m]] v fun e w' => e = .returned (.bool c) ∧ Below v.heap.size v w') := ⟨fun v => hc ▸ stored_any z t f v⟩
  have Ca : Hid (∀ v, Calls Tryd.prog 51 #[.agg #[.int .i64 t.k, .int .i64 t.r, .int .i64 t.b, .int .i64 t.x, .int .i64 t.s, .bool t.rip, .bool t.fs, .int .i64 t.n, .string t.nm, .int .i64 t.m]] v fun e w' => e = .returned (.bool a) ∧ Below v.heap.size v w') := ⟨fun v => ha ▸ isPlace_any t v⟩
  have Cd : Hid (∀ v, Calls Tryd.prog 96 #[.int .i64 f.n, .int .i64 z] v fun e w' => e = .returned (.bool d) ∧ w' = v) := ⟨fun v => hd ▸ fits_any f.n z v⟩
  unfold O.val
  clear hc ha hd
  rcases c with _ | _
  case' false => rcases a with _ | _
  case' false.true => rcases b with _ | _
  all_goals
    go_enter Tryd.func75, Tryd.ntmps75
    go_wp2_with (first
      | (go_at_call 83; refine (Cc.out _).mono ?_; rintro e w0 ⟨rfl, hb0⟩; obtain ⟨hcl0, hfl0⟩ := bcell hb0; have hz0 : w.heap.size + 1 < w0.heap.size := (by have := hb0.size; first | omega | (simp at this; omega)); first | (have B0 : Below w.heap.size w w0 := bel_trans B0 hb0) | (have B0 : Below w.heap.size w w0 := bel_trans (bel_alloc (bel_alloc (Below.refl _ _) _) _) hb0))
      | (go_at_call 51; refine (Ca.out _).mono ?_; rintro e w1 ⟨rfl, hb1⟩; obtain ⟨hcl1, hfl1⟩ := bcell hb1; have hz1 : w.heap.size + 1 < w1.heap.size := (by have := hb1.size; first | omega | (simp at this; omega)); first | (have B0 : Below w.heap.size w w1 := bel_trans B0 hb1) | (have B0 : Below w.heap.size w w1 := bel_trans (bel_alloc (bel_alloc (Below.refl _ _) _) _) hb1))
      | (go_at_call 96; refine (Cd.out _).mono ?_; rintro e w2 ⟨rfl, hw⟩; subst w2))
    go_ret
    exact ⟨ret_bool (by rw [HR.out]; rfl), by first | exact B0 | exact bel_alloc (bel_alloc (Below.refl _ _) _) _⟩

set_option maxHeartbeats 2000000 in
theorem combined_any (z : Int) (t f : O) (w : World) :
    Calls Tryd.prog 74 #[.int .i64 z, t.val, f.val] w fun e w' => e = .returned (.bool (combinedB z t f)) ∧ Below w.heap.size w w' := by
  obtain ⟨a, ha⟩ : ∃ x, (t.k == 1) = x := ⟨_, rfl⟩
  obtain ⟨b, hb⟩ : ∃ x, (f.k == 3) = x := ⟨_, rfl⟩
  obtain ⟨c, hc⟩ : ∃ x, (testedB z t f) = x := ⟨_, rfl⟩
  have HR : Hid (combinedB z t f = (c || (a && b))) := ⟨by simp only [combinedB, ha, hb, hc]⟩
  have Cc : Hid (∀ v, Calls Tryd.prog 75 #[.int .i64 z, .agg #[.int .i64 t.k, .int .i64 t.r, .int .i64 t.b, .int .i64 t.x, .int .i64 t.s, .bool t.rip, .bool t.fs, .int .i64 t.n, .string t.nm, .int .i64 t.m], .agg #[.int .i64 f.k, .int .i64 f.r, .int .i64 f.b, .int .i64 f.x, .int .i64 f.s, .bool f.rip, .bool f.fs, .int .i64 f.n, .string f.nm, .int .i64 f.m]] v fun e w' => e = .returned (.bool c) ∧ Below v.heap.size v w') := ⟨fun v => hc ▸ tested_any z t f v⟩
  unfold O.val
  clear hc
  rcases c with _ | _
  case' false => rcases a with _ | _
  all_goals
    go_enter Tryd.func74, Tryd.ntmps74
    go_wp2_with (first
      | (go_at_call 75; refine (Cc.out _).mono ?_; rintro e w0 ⟨rfl, hb0⟩; obtain ⟨hcl0, hfl0⟩ := bcell hb0; have hz0 : w.heap.size + 1 < w0.heap.size := (by have := hb0.size; first | omega | (simp at this; omega)); first | (have B0 : Below w.heap.size w w0 := bel_trans B0 hb0) | (have B0 : Below w.heap.size w w0 := bel_trans (bel_alloc (bel_alloc (Below.refl _ _) _) _) hb0)))
    go_ret
    exact ⟨ret_bool (by rw [HR.out]; rfl), by first | exact B0 | exact bel_alloc (bel_alloc (Below.refl _ _) _) _⟩

set_option maxHeartbeats 2000000 in
theorem moved_any (z : Int) (t f : O) (w : World) :
    Calls Tryd.prog 72 #[.int .i64 z, t.val, f.val] w fun e w' => e = .returned (.bool (movedB z t f)) ∧ Below w.heap.size w w' := by
  obtain ⟨d, hd⟩ : ∃ x, (z == 8) = x := ⟨_, rfl⟩
  obtain ⟨a, ha⟩ : ∃ x, (t.k == 1) = x := ⟨_, rfl⟩
  obtain ⟨b, hb⟩ : ∃ x, (f.k == 2) = x := ⟨_, rfl⟩
  obtain ⟨c, hc⟩ : ∃ x, (combinedB z t f) = x := ⟨_, rfl⟩
  have HR : Hid (movedB z t f = (c || ((d && a) && b))) := ⟨by simp only [movedB, hd, ha, hb, hc]⟩
  have Cc : Hid (∀ v, Calls Tryd.prog 74 #[.int .i64 z, .agg #[.int .i64 t.k, .int .i64 t.r, .int .i64 t.b, .int .i64 t.x, .int .i64 t.s, .bool t.rip, .bool t.fs, .int .i64 t.n, .string t.nm, .int .i64 t.m], .agg #[.int .i64 f.k, .int .i64 f.r, .int .i64 f.b, .int .i64 f.x, .int .i64 f.s, .bool f.rip, .bool f.fs, .int .i64 f.n, .string f.nm, .int .i64 f.m]] v fun e w' => e = .returned (.bool c) ∧ Below v.heap.size v w') := ⟨fun v => hc ▸ combined_any z t f v⟩
  unfold O.val
  clear hc
  rcases c with _ | _
  case' false => rcases d with _ | _
  case' false.true => rcases a with _ | _
  all_goals
    go_enter Tryd.func72, Tryd.ntmps72
    go_wp2_with (first
      | (go_at_call 74; refine (Cc.out _).mono ?_; rintro e w0 ⟨rfl, hb0⟩; obtain ⟨hcl0, hfl0⟩ := bcell hb0; have hz0 : w.heap.size + 1 < w0.heap.size := (by have := hb0.size; first | omega | (simp at this; omega)); first | (have B0 : Below w.heap.size w w0 := bel_trans B0 hb0) | (have B0 : Below w.heap.size w w0 := bel_trans (bel_alloc (bel_alloc (Below.refl _ _) _) _) hb0)))
    go_ret
    exact ⟨ret_bool (by rw [HR.out]; rfl), by first | exact B0 | exact bel_alloc (bel_alloc (Below.refl _ _) _) _⟩

set_option maxHeartbeats 2000000 in
theorem loaded_any (z : Int) (t f : O) (w : World) :
    Calls Tryd.prog 76 #[.int .i64 z, t.val, f.val] w fun e w' => e = .returned (.bool (loadedB t f)) ∧ Below w.heap.size w w' := by
  obtain ⟨a, ha⟩ : ∃ x, (t.k == 1) = x := ⟨_, rfl⟩
  obtain ⟨b, hb⟩ : ∃ x, (isPlaceB f) = x := ⟨_, rfl⟩
  have HR : Hid (loadedB t f = (a && b)) := ⟨by simp only [loadedB, ha, hb]⟩
  have Cb : Hid (∀ v, Calls Tryd.prog 51 #[.agg #[.int .i64 f.k, .int .i64 f.r, .int .i64 f.b, .int .i64 f.x, .int .i64 f.s, .bool f.rip, .bool f.fs, .int .i64 f.n, .string f.nm, .int .i64 f.m]] v fun e w' => e = .returned (.bool b) ∧ Below v.heap.size v w') := ⟨fun v => hb ▸ isPlace_any f v⟩
  unfold O.val
  clear hb
  rcases a with _ | _
  all_goals
    go_enter Tryd.func76, Tryd.ntmps76
    go_wp2_with (first
      | (go_at_call 51; refine (Cb.out _).mono ?_; rintro e w0 ⟨rfl, hb0⟩; obtain ⟨hcl0, hfl0⟩ := bcell hb0; have hz0 : w.heap.size + 1 < w0.heap.size := (by have := hb0.size; first | omega | (simp at this; omega)); first | (have B0 : Below w.heap.size w w0 := bel_trans B0 hb0) | (have B0 : Below w.heap.size w w0 := bel_trans (bel_alloc (bel_alloc (Below.refl _ _) _) _) hb0)))
    go_ret
    exact ⟨ret_bool (by rw [HR.out]; rfl), by first | exact B0 | exact bel_alloc (bel_alloc (Below.refl _ _) _) _⟩

set_option maxHeartbeats 2000000 in
theorem located_any (z : Int) (t f : O) (w : World) :
    Calls Tryd.prog 73 #[.int .i64 z, t.val, f.val] w fun e w' => e = .returned (.bool (locatedB t f)) ∧ Below w.heap.size w w' := by
  obtain ⟨a, ha⟩ : ∃ x, (t.k == 1) = x := ⟨_, rfl⟩
  obtain ⟨b, hb⟩ : ∃ x, (f.k == 3) = x := ⟨_, rfl⟩
  have HR : Hid (locatedB t f = ((a && b) && !f.fs)) := ⟨by simp only [locatedB, ha, hb]⟩
  unfold O.val
  rcases a with _ | _
  case' true => rcases b with _ | _
  all_goals
    go_enter Tryd.func73, Tryd.ntmps73
    go_wp2
    go_ret
    exact ⟨ret_bool (by rw [HR.out]; rfl), by first | exact B0 | exact bel_alloc (bel_alloc (Below.refl _ _) _) _⟩

set_option maxHeartbeats 2000000 in
theorem single_any (z : Int) (t f : O) (w : World) :
    Calls Tryd.prog 77 #[.int .i64 z, t.val, f.val] w fun e w' => e = .returned (.bool (singleB t f)) ∧ Below w.heap.size w w' := by
  obtain ⟨b, hb⟩ : ∃ x, (f.k == 0) = x := ⟨_, rfl⟩
  obtain ⟨a, ha⟩ : ∃ x, (isPlaceB t) = x := ⟨_, rfl⟩
  have HR : Hid (singleB t f = (a && b)) := ⟨by simp only [singleB, hb, ha]⟩
  have Ca : Hid (∀ v, Calls Tryd.prog 51 #[.agg #[.int .i64 t.k, .int .i64 t.r, .int .i64 t.b, .int .i64 t.x, .int .i64 t.s, .bool t.rip, .bool t.fs, .int .i64 t.n, .string t.nm, .int .i64 t.m]] v fun e w' => e = .returned (.bool a) ∧ Below v.heap.size v w') := ⟨fun v => ha ▸ isPlace_any t v⟩
  unfold O.val
  clear ha
  rcases a with _ | _
  all_goals
    go_enter Tryd.func77, Tryd.ntmps77
    go_wp2_with (first
      | (go_at_call 51; refine (Ca.out _).mono ?_; rintro e w0 ⟨rfl, hb0⟩; obtain ⟨hcl0, hfl0⟩ := bcell hb0; have hz0 : w.heap.size + 1 < w0.heap.size := (by have := hb0.size; first | omega | (simp at this; omega)); first | (have B0 : Below w.heap.size w w0 := bel_trans B0 hb0) | (have B0 : Below w.heap.size w w0 := bel_trans (bel_alloc (bel_alloc (Below.refl _ _) _) _) hb0)))
    go_ret
    exact ⟨ret_bool (by rw [HR.out]; rfl), by first | exact B0 | exact bel_alloc (bel_alloc (Below.refl _ _) _) _⟩

set_option maxHeartbeats 2000000 in
theorem pushed_any (z : Int) (t f : O) (w : World) :
    Calls Tryd.prog 79 #[.int .i64 z, t.val, f.val] w fun e w' => e = .returned (.bool (pushedB t f)) ∧ Below w.heap.size w w' := by
  obtain ⟨a, ha⟩ : ∃ x, (t.k == 0) = x := ⟨_, rfl⟩
  obtain ⟨b, hb⟩ : ∃ x, (f.k == 2) = x := ⟨_, rfl⟩
  obtain ⟨c, hc⟩ : ∃ x, (isPlaceB f) = x := ⟨_, rfl⟩
  obtain ⟨d, hd⟩ : ∃ x, (fitsSB f.n) = x := ⟨_, rfl⟩
  have HR : Hid (pushedB t f = (a && (c || (b && d)))) := ⟨by simp only [pushedB, ha, hb, hc, hd]⟩
  have Cc : Hid (∀ v, Calls Tryd.prog 51 #[.agg #[.int .i64 f.k, .int .i64 f.r, .int .i64 f.b, .int .i64 f.x, .int .i64 f.s, .bool f.rip, .bool f.fs, .int .i64 f.n, .string f.nm, .int .i64 f.m]] v fun e w' => e = .returned (.bool c) ∧ Below v.heap.size v w') := ⟨fun v => hc ▸ isPlace_any f v⟩
  have Cd : Hid (∀ v, Calls Tryd.prog 86 #[.int .i64 f.n] v fun e w' => e = .returned (.bool d) ∧ w' = v) := ⟨fun v => hd ▸ fitsS_any f.n v⟩
  unfold O.val
  clear hc hd
  rcases a with _ | _
  case' true => rcases c with _ | _
  case' true.false => rcases b with _ | _
  all_goals
    go_enter Tryd.func79, Tryd.ntmps79
    go_wp2_with (first
      | (go_at_call 51; refine (Cc.out _).mono ?_; rintro e w0 ⟨rfl, hb0⟩; obtain ⟨hcl0, hfl0⟩ := bcell hb0; have hz0 : w.heap.size + 1 < w0.heap.size := (by have := hb0.size; first | omega | (simp at this; omega)); first | (have B0 : Below w.heap.size w w0 := bel_trans B0 hb0) | (have B0 : Below w.heap.size w w0 := bel_trans (bel_alloc (bel_alloc (Below.refl _ _) _) _) hb0))
      | (go_at_call 86; refine (Cd.out _).mono ?_; rintro e w1 ⟨rfl, hw⟩; subst w1))
    go_ret
    exact ⟨ret_bool (by rw [HR.out]; rfl), by first | exact B0 | exact bel_alloc (bel_alloc (Below.refl _ _) _) _⟩

set_option maxHeartbeats 2000000 in
theorem aimed_any (z : Int) (t f : O) (w : World) :
    Calls Tryd.prog 81 #[.int .i64 z, t.val, f.val] w fun e w' => e = .returned (.bool (aimedB t f)) ∧ Below w.heap.size w w' := by
  obtain ⟨a, ha⟩ : ∃ x, (t.k == 4) = x := ⟨_, rfl⟩
  obtain ⟨b, hb⟩ : ∃ x, (f.k == 0) = x := ⟨_, rfl⟩
  have HR : Hid (aimedB t f = (a && b)) := ⟨by simp only [aimedB, ha, hb]⟩
  unfold O.val
  rcases a with _ | _
  all_goals
    go_enter Tryd.func81, Tryd.ntmps81
    go_wp2
    go_ret
    exact ⟨ret_bool (by rw [HR.out]; rfl), by first | exact B0 | exact bel_alloc (bel_alloc (Below.refl _ _) _) _⟩

set_option maxHeartbeats 2000000 in
theorem called_any (z : Int) (t f : O) (w : World) :
    Calls Tryd.prog 80 #[.int .i64 z, t.val, f.val] w fun e w' => e = .returned (.bool (calledB t f)) ∧ Below w.heap.size w w' := by
  obtain ⟨a, ha⟩ : ∃ x, (aimedB t f) = x := ⟨_, rfl⟩
  obtain ⟨b, hb⟩ : ∃ x, (singleB t f) = x := ⟨_, rfl⟩
  have HR : Hid (calledB t f = (a || b)) := ⟨by simp only [calledB, ha, hb]⟩
  have Ca : Hid (∀ v, Calls Tryd.prog 81 #[.int .i64 z, .agg #[.int .i64 t.k, .int .i64 t.r, .int .i64 t.b, .int .i64 t.x, .int .i64 t.s, .bool t.rip, .bool t.fs, .int .i64 t.n, .string t.nm, .int .i64 t.m], .agg #[.int .i64 f.k, .int .i64 f.r, .int .i64 f.b, .int .i64 f.x, .int .i64 f.s, .bool f.rip, .bool f.fs, .int .i64 f.n, .string f.nm, .int .i64 f.m]] v fun e w' => e = .returned (.bool a) ∧ Below v.heap.size v w') := ⟨fun v => ha ▸ aimed_any z t f v⟩
  have Cb : Hid (∀ v, Calls Tryd.prog 77 #[.int .i64 z, .agg #[.int .i64 t.k, .int .i64 t.r, .int .i64 t.b, .int .i64 t.x, .int .i64 t.s, .bool t.rip, .bool t.fs, .int .i64 t.n, .string t.nm, .int .i64 t.m], .agg #[.int .i64 f.k, .int .i64 f.r, .int .i64 f.b, .int .i64 f.x, .int .i64 f.s, .bool f.rip, .bool f.fs, .int .i64 f.n, .string f.nm, .int .i64 f.m]] v fun e w' => e = .returned (.bool b) ∧ Below v.heap.size v w') := ⟨fun v => hb ▸ single_any z t f v⟩
  unfold O.val
  clear ha hb
  rcases a with _ | _
  all_goals
    go_enter Tryd.func80, Tryd.ntmps80
    go_wp2_with (first
      | (go_at_call 81; refine (Ca.out _).mono ?_; rintro e w0 ⟨rfl, hb0⟩; obtain ⟨hcl0, hfl0⟩ := bcell hb0; have hz0 : w.heap.size + 1 < w0.heap.size := (by have := hb0.size; first | omega | (simp at this; omega)); first | (have B0 : Below w.heap.size w w0 := bel_trans B0 hb0) | (have B0 : Below w.heap.size w w0 := bel_trans (bel_alloc (bel_alloc (Below.refl _ _) _) _) hb0))
      | (go_at_call 77; refine (Cb.out _).mono ?_; rintro e w1 ⟨rfl, hb1⟩; obtain ⟨hcl1, hfl1⟩ := bcell hb1; have hz1 : w.heap.size + 1 < w1.heap.size := (by have := hb1.size; first | omega | (simp at this; omega)); first | (have B0 : Below w.heap.size w w1 := bel_trans B0 hb1) | (have B0 : Below w.heap.size w w1 := bel_trans (bel_alloc (bel_alloc (Below.refl _ _) _) _) hb1)))
    go_ret
    exact ⟨ret_bool (by rw [HR.out]; rfl), by first | exact B0 | exact bel_alloc (bel_alloc (Below.refl _ _) _) _⟩

set_option maxHeartbeats 2000000 in
theorem bare_any (z : Int) (t f : O) (w : World) :
    Calls Tryd.prog 82 #[.int .i64 z, t.val, f.val] w fun e w' => e = .returned (.bool (bareB t f)) ∧ Below w.heap.size w w' := by
  obtain ⟨a, ha⟩ : ∃ x, (t.k == 0) = x := ⟨_, rfl⟩
  obtain ⟨b, hb⟩ : ∃ x, (f.k == 0) = x := ⟨_, rfl⟩
  have HR : Hid (bareB t f = (a && b)) := ⟨by simp only [bareB, ha, hb]⟩
  unfold O.val
  rcases a with _ | _
  all_goals
    go_enter Tryd.func82, Tryd.ntmps82
    go_wp2
    go_ret
    exact ⟨ret_bool (by rw [HR.out]; rfl), by first | exact B0 | exact bel_alloc (bel_alloc (Below.refl _ _) _) _⟩


set_option maxHeartbeats 2000000 in
theorem shifted_any (z : Int) (t f : O) (w : World) :
    Calls Tryd.prog 78 #[.int .i64 z, t.val, f.val] w fun e w' => e = .returned (.bool (shiftedB z t f)) ∧ Below w.heap.size w w' := by
  obtain ⟨a, ha⟩ : ∃ x, (z == 8) = x := ⟨_, rfl⟩
  obtain ⟨b, hb⟩ : ∃ x, (f.k == 2) = x := ⟨_, rfl⟩
  obtain ⟨c, hc⟩ : ∃ x, (f.k == 1) = x := ⟨_, rfl⟩
  obtain ⟨p, hp⟩ : ∃ x, isPlaceB t = x := ⟨_, rfl⟩
  obtain ⟨d, hd⟩ : ∃ x, withinB f.n 0 (if a then 63 else 31) = x := ⟨_, rfl⟩
  have HR : Hid (shiftedB z t f = (p && ((b && d) || (c && f.r == 1)))) := ⟨by
    have hm : mostV z = if a then 63 else 31 := by rw [← ha]; unfold mostV; by_cases h : z = 8 <;> simp [h]
    unfold shiftedB; rw [hm, hp, hb, hc, hd]⟩
  have CP : Hid (∀ v, Calls Tryd.prog 51 #[.agg #[.int .i64 t.k, .int .i64 t.r, .int .i64 t.b, .int .i64 t.x, .int .i64 t.s, .bool t.rip, .bool t.fs, .int .i64 t.n, .string t.nm, .int .i64 t.m]] v fun e w' => e = .returned (.bool p) ∧ Below v.heap.size v w') := ⟨fun v => hp ▸ isPlace_any t v⟩
  have CW : Hid (∀ v, Calls Tryd.prog 59 #[.int .i64 f.n, .int .i64 0, .int .i64 (if a then 63 else 31)] v fun e w' => e = .returned (.bool d) ∧ w' = v) := ⟨fun v => hd ▸ within_any f.n 0 (if a then 63 else 31) v⟩
  unfold O.val
  clear hp hd
  rcases a with _ | _ <;> rcases p with _ | _ <;> rcases b with _ | _
  case' false.true.false | true.true.false => rcases c with _ | _
  case' false.true.true | true.true.true => rcases d with _ | _
  case' false.true.true.false | true.true.true.false => rcases c with _ | _
  all_goals
    (try simp only [if_true, Bool.false_eq_true, if_false] at CW)
    go_enter Tryd.func78, Tryd.ntmps78
    go_wp2_with (first
      | (go_at_call 59; refine (CW.out _).mono ?_; rintro e w1 ⟨rfl, hw⟩; subst w1)
      | (go_at_call 51; refine (CP.out _).mono ?_; rintro e w2 ⟨rfl, hb2⟩; obtain ⟨hcl, hfl⟩ := bcell hb2))
    go_ret
    exact ⟨ret_bool (by rw [HR.out]; rfl), bel_trans (bel_alloc (bel_alloc (Below.refl _ _) _) _) hb2⟩

/-- What a row takes, by its function's number. -/
def takesB (g : Nat) (z : Int) (t f : O) : Bool :=
  if g = 72 then movedB z t f else
  if g = 73 then locatedB t f else
  if g = 74 then combinedB z t f else
  if g = 75 then testedB z t f else
  if g = 76 then loadedB t f else
  if g = 77 then singleB t f else
  if g = 78 then shiftedB z t f else
  if g = 79 then pushedB t f else
  if g = 80 then calledB t f else
  if g = 81 then aimedB t f else
  if g = 82 then bareB t f else
  if g = 83 then storedB t f else
  false

def shapesL : List Nat := [72, 73, 74, 75, 76, 77, 78, 79, 80, 81, 82, 83]

theorem takes_any (g : Nat) (hg : g ∈ shapesL) (z : Int) (t f : O) (w : World) :
    Calls Tryd.prog g #[.int .i64 z, t.val, f.val] w fun e w' => e = .returned (.bool (takesB g z t f)) ∧ Below w.heap.size w w' := by
  simp only [shapesL, List.mem_cons, List.not_mem_nil, or_false] at hg
  rcases hg with rfl | rfl | rfl | rfl | rfl | rfl | rfl | rfl | rfl | rfl | rfl | rfl
  · exact moved_any z t f w
  · exact located_any z t f w
  · exact combined_any z t f w
  · exact tested_any z t f w
  · exact loaded_any z t f w
  · exact single_any z t f w
  · exact shifted_any z t f w
  · exact pushed_any z t f w
  · exact called_any z t f w
  · exact aimed_any z t f w
  · exact bare_any z t f w
  · exact stored_any z t f w

theorem takes_enters (g : Nat) (hg : g ∈ shapesL) : ∀ args w, (callFunc g args).run Tryd.prog w = .ok (.enter g args) w := by
  simp only [shapesL, List.mem_cons, List.not_mem_nil, or_false] at hg
  rcases hg with rfl | rfl | rfl | rfl | rfl | rfl | rfl | rfl | rfl | rfl | rfl | rfl
  · exact enters_of Tryd.func72 (by kernel_rfl) rfl
  · exact enters_of Tryd.func73 (by kernel_rfl) rfl
  · exact enters_of Tryd.func74 (by kernel_rfl) rfl
  · exact enters_of Tryd.func75 (by kernel_rfl) rfl
  · exact enters_of Tryd.func76 (by kernel_rfl) rfl
  · exact enters_of Tryd.func77 (by kernel_rfl) rfl
  · exact enters_of Tryd.func78 (by kernel_rfl) rfl
  · exact enters_of Tryd.func79 (by kernel_rfl) rfl
  · exact enters_of Tryd.func80 (by kernel_rfl) rfl
  · exact enters_of Tryd.func81 (by kernel_rfl) rfl
  · exact enters_of Tryd.func82 (by kernel_rfl) rfl
  · exact enters_of Tryd.func83 (by kernel_rfl) rfl
end Go.Proofs.YtdgejingoamfeaaDoor
