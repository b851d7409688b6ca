/- The contract of One, whole. -/
import Derived.Test.YtjbepojopfbajaaDOne4
namespace Go.Proofs.Ytjbepojopfbajaa
open Go.ChangeShapes Go.WideShapes Go.ChangeAt Go.RowKit
set_option linter.unusedVariables false
set_option linter.unusedSimpArgs false

theorem one_startN (w : World) (L : Ln) (hLa : L.ao = none) (hLl : L.len = 0) (hLc : L.cap = 0) (hL : Lies w w.heap.size L) :
    RS ((((w.alloc zI.box).alloc (.cells #[.int .i64 0] 3)).alloc (.cells #[.int .i64 0] 24)).alloc (rBox none 0 0)) (w.heap.size + 1 + 1 + 1) L 0 false 0 0 0 0 0 0 ∧ ((((w.alloc zI.box).alloc (.cells #[.int .i64 0] 3)).alloc (.cells #[.int .i64 0] 24)).alloc (rBox none 0 0)).heap[w.heap.size]? = some zI.box ∧ ((((w.alloc zI.box).alloc (.cells #[.int .i64 0] 3)).alloc (.cells #[.int .i64 0] 24)).alloc (rBox none 0 0)).cell? ⟨w.heap.size + 1, 0, none⟩ = some (.int .i64 0) ∧ ((((w.alloc zI.box).alloc (.cells #[.int .i64 0] 3)).alloc (.cells #[.int .i64 0] 24)).alloc (rBox none 0 0)).cell? ⟨w.heap.size + 1 + 1, 0, none⟩ = some (.int .i64 0) ∧ ((((w.alloc zI.box).alloc (.cells #[.int .i64 0] 3)).alloc (.cells #[.int .i64 0] 24)).alloc (rBox none 0 0)).frozen? ⟨w.heap.size + 1, 0, none⟩ = false ∧ ((((w.alloc zI.box).alloc (.cells #[.int .i64 0] 3)).alloc (.cells #[.int .i64 0] 24)).alloc (rBox none 0 0)).frozen? ⟨w.heap.size + 1 + 1, 0, none⟩ = false ∧ Below w.heap.size w ((((w.alloc zI.box).alloc (.cells #[.int .i64 0] 3)).alloc (.cells #[.int .i64 0] 24)).alloc (rBox none 0 0)) ∧ ((((w.alloc zI.box).alloc (.cells #[.int .i64 0] 3)).alloc (.cells #[.int .i64 0] 24)).alloc (rBox none 0 0)).heap.size = w.heap.size + 1 + 1 + 1 + 1 := by
  have hB : Below w.heap.size w ((((w.alloc zI.box).alloc (.cells #[.int .i64 0] 3)).alloc (.cells #[.int .i64 0] 24)).alloc (rBox none 0 0)) := bel_alloc (bel_alloc (bel_alloc (bel_alloc (Below.refl _ _) _) _) _) _
  have e3 : (((w.alloc zI.box).alloc (.cells #[.int .i64 0] 3)).alloc (.cells #[.int .i64 0] 24)).heap.size = w.heap.size + 1 + 1 + 1 := by simp
  have e2 : ((w.alloc zI.box).alloc (.cells #[.int .i64 0] 3)).heap.size = w.heap.size + 1 + 1 := by simp
  have e1 : (w.alloc zI.box).heap.size = w.heap.size + 1 := by simp
  have z3 := fun j => fz_new (((w.alloc zI.box).alloc (.cells #[.int .i64 0] 3)).alloc (.cells #[.int .i64 0] 24)) #[.slice none 0 0, .int .i64 0, .bool false, .int .i64 0, .int .i64 0, .int .i64 0, .int .i64 0, .int .i64 0, .int .i64 0] 77 j
  rw [e3] at z3
  have z2 := fz_new ((w.alloc zI.box).alloc (.cells #[.int .i64 0] 3)) #[.int .i64 0] 24 0
  rw [e2] at z2
  have z1 := fz_new (w.alloc zI.box) #[.int .i64 0] 3 0
  rw [e1] at z1
  have hlies : Lies ((((w.alloc zI.box).alloc (.cells #[.int .i64 0] 3)).alloc (.cells #[.int .i64 0] 24)).alloc (rBox none 0 0)) (w.heap.size + 1 + 1 + 1) L := ⟨hL.row.imp id fun ⟨c, o, e, hc, hr⟩ => ⟨c, o, e, by omega, fun i hi => to_bel hB (hr i hi)⟩, hL.byte, hL.top⟩
  refine ⟨⟨?_, ?_, ?_, ?_, ?_, ?_, ?_, ?_, ?_, z3, hlies⟩, ?_, ?_, ?_, ?_, ?_, hB, by simp⟩
  · rw [hLa, hLl, hLc]; exact cell_at e3 rfl
  · exact cell_at e3 rfl
  · exact cell_at e3 rfl
  · exact cell_at e3 rfl
  · exact cell_at e3 rfl
  · exact cell_at e3 rfl
  · exact cell_at e3 rfl
  · exact cell_at e3 rfl
  · exact cell_at e3 rfl
  · rw [Below.heap_alloc _ _ _ (by simp; omega), Below.heap_alloc _ _ _ (by simp; omega), Below.heap_alloc _ _ _ (by simp)]; exact heap_alloc_last w _
  · refine to_bel (bel_alloc (bel_alloc (Below.refl _ _) _) _) (v := (w.alloc zI.box).alloc (.cells #[.int .i64 0] 3)) ?_
    exact cell_at e1 rfl
  · refine to_bel (bel_alloc (Below.refl _ _) _) (v := ((w.alloc zI.box).alloc (.cells #[.int .i64 0] 3)).alloc (.cells #[.int .i64 0] 24)) ?_
    exact cell_at e2 rfl
  · exact fz_bel (bel_alloc (bel_alloc (Below.refl _ _) _) _) (v := (w.alloc zI.box).alloc (.cells #[.int .i64 0] 3)) (by simp) z1
  · exact fz_bel (bel_alloc (Below.refl _ _) _) (v := ((w.alloc zI.box).alloc (.cells #[.int .i64 0] 3)).alloc (.cells #[.int .i64 0] 24)) (by simp) z2

theorem one_nil (w : World) (L : Ln) (hLa : L.ao = none) (hLl : L.len = 0) (hLc : L.cap = 0) (hL : Lies w w.heap.size L) (n : Int) (hm : instM L = .error n) :
    Calls Try.prog 28 #[.slice none 0 0, .int .i64 0] w fun e w' => e = .returned (.tuple #[.agg ZZ27, .int .i64 0, .int .i64 n]) ∧ Below w.heap.size w w' := by
  obtain ⟨R, h1, h2, h3, h4, h5, hB, hs⟩ := one_startN w L hLa hLl hLc hL
  have HI := inst_any R
  rw [hm] at HI
  have hmf : ∀ (fn : Fn) (first cap : Array Value) (w : World), (Instr.makeFunc fn first cap).run Try.prog w = .ok (.func fn first cap) w := fun _ _ _ _ => rfl
  clear hm hL R
  go_enter_defers Try.func28, Try.ntmps28
  go_upto_region 5 with (fail)
  clear hLa
  generalize ((((w.alloc zI.box).alloc (.cells #[.int .i64 0] 3)).alloc (.cells #[.int .i64 0] 24)).alloc (rBox none 0 0)) = v at *
  go_wp2_with (go_at_call 40; (with_reducible refine HI.mono ?_); rintro e w1 ⟨he, hfr⟩; (have he' : _ = _ := he); subst he')
  have i1 : w1.heap[w.heap.size]? = some zI.box := (hfr.block _ (by omega) (by omega) (by omega)).trans h1
  have i2 := hfr.cell h2 (by show w.heap.size + 1 ≠ _; omega) (by show w.heap.size + 1 ≠ _; omega)
  have i3 := hfr.cell h3 (by show w.heap.size + 1 + 1 ≠ _; omega) (by show w.heap.size + 1 + 1 ≠ _; omega)
  have i4 := (hfr.frozen (p := ⟨w.heap.size + 1, 0, none⟩) (by show w.heap.size + 1 < _; omega) (by show w.heap.size + 1 ≠ _; omega) (by show w.heap.size + 1 ≠ _; omega)).trans h4
  have i5 := (hfr.frozen (p := ⟨w.heap.size + 1 + 1, 0, none⟩) (by show w.heap.size + 1 + 1 < _; omega) (by show w.heap.size + 1 + 1 ≠ _; omega) (by show w.heap.size + 1 + 1 ≠ _; omega)).trans h5
  have j1 := setRow_heap w1.drew w.heap.size _ ZZ27 _ _ i1
  refine leaves_cons (f := 39) (args := #[.pointer (some ⟨w.heap.size, 0, none⟩), .pointer (some ⟨w.heap.size + 1, 0, none⟩), .pointer (some ⟨w.heap.size + 1 + 1, 0, none⟩)]) (by simp) (by simp [go_sem]) ?_
  refine (catch_panicking w.heap.size (w.heap.size + 1) (w.heap.size + 1 + 1) n 0 0 [] w1 i1 i2 i3 i4 i5 (by omega) (by omega) (by omega)).mono ?_
  rintro e u' w'' ⟨rfl, rfl, rfl⟩
  have j2 : (((w1.drew.setRow w.heap.size ZZ27).setCell ⟨w.heap.size + 1, 0, none⟩ (.int .i64 0)).setCell ⟨w.heap.size + 1 + 1, 0, none⟩ (.int .i64 n)).heap[w.heap.size]? = some (.cells ZZ27 56 (0, 0)) := by
    rw [Below.heap_setCell _ _ _ _ (by show w.heap.size ≠ w.heap.size + 1 + 1; omega), Below.heap_setCell _ _ _ _ (by show w.heap.size ≠ w.heap.size + 1; omega)]; exact j1
  have j3 : (w1.drew.setRow w.heap.size ZZ27).cell? ⟨w.heap.size + 1, 0, none⟩ = some (.int .i64 0) := (cell_setRow_other _ _ _ _ (by show w.heap.size + 1 ≠ w.heap.size; omega)).trans i2
  have j4 : (w1.drew.setRow w.heap.size ZZ27).cell? ⟨w.heap.size + 1 + 1, 0, none⟩ = some (.int .i64 0) := (cell_setRow_other _ _ _ _ (by show w.heap.size + 1 + 1 ≠ w.heap.size; omega)).trans i3
  have j5 : (((w1.drew.setRow w.heap.size ZZ27).setCell ⟨w.heap.size + 1, 0, none⟩ (.int .i64 0)).setCell ⟨w.heap.size + 1 + 1, 0, none⟩ (.int .i64 n)).cell? ⟨w.heap.size + 1, 0, none⟩ = some (.int .i64 0) := by simp [go_sem, j3]
  have j6 : (((w1.drew.setRow w.heap.size ZZ27).setCell ⟨w.heap.size + 1, 0, none⟩ (.int .i64 0)).setCell ⟨w.heap.size + 1 + 1, 0, none⟩ (.int .i64 n)).cell? ⟨w.heap.size + 1 + 1, 0, none⟩ = some (.int .i64 n) := by simp [go_sem, j4]
  have hB9 : Below w.heap.size w (((w1.drew.setRow w.heap.size ZZ27).setCell ⟨w.heap.size + 1, 0, none⟩ (.int .i64 0)).setCell ⟨w.heap.size + 1 + 1, 0, none⟩ (.int .i64 n)) := by
    have b1 := hB.trans (hfr.below (B := w.heap.size) (by omega) (by omega) (by omega))
    have b2 : Below w.heap.size w (w1.drew.setRow w.heap.size ZZ27) := b1.drew.trans ⟨rfl, rfl, rfl, by simp, fun j hj => setRow_other _ w.heap.size j _ (by omega)⟩
    exact (b2.setCell (by show w.heap.size ≤ w.heap.size + 1; omega) _).setCell (by show w.heap.size ≤ w.heap.size + 1 + 1; omega) _
  refine ⟨_, res_one _ _ w.heap.size (w.heap.size + 1) (w.heap.size + 1 + 1) ZZ27 0 n (by kernel_rfl) (by kernel_rfl) (by kernel_rfl) j2 rfl j5 j6, rfl, hB9⟩

/-- The bytes from a place on. -/
def cut (len : Nat) (bs : Nat → Int) (k : Nat) : Ln := ⟨none, len - k, 0, fun i => bs (k + i)⟩
theorem instM_same (A : Option Addr) (c len : Nat) (bs : Nat → Int) (k : Nat) : instM ⟨A, len - k, c, fun i => bs (k + i)⟩ = instM (cut len bs k) := by kernel_rfl

/-- What One answers. -/
def oneM (len : Nat) (bs : Nat → Int) (t : Int) : I × Int × Int :=
  if t < 0 ∨ (len : Int) < t then (zI, 0, 11) else
    match instM (cut len bs t.toNat) with
    | .ok (i, a) => (i, (a : Int), 0)
    | .error n => (zI, 0, n)

theorem one_any (ao : Option Addr) (len cap : Nat) (bs : Nat → Int) (t : Int) (w : World) (hr : len = 0 ∨ ∃ b off, ao = some ⟨b, off, none⟩ ∧ ∀ i, i < len → w.cell? ⟨b, off + i, none⟩ = some (.int .u8 (bs i))) (hby : ∀ i, 0 ≤ bs i ∧ bs i < 256)
    (hnil : ao = none → len = 0 ∧ cap = 0) (hsome : ∀ a, ao = some a → ∃ b off, a = ⟨b, off, none⟩) (hc : len ≤ cap) (hcap : cap ≤ 9223372036854775807) (hl : len ≤ 140737488355328) :
    Calls Try.prog 28 #[.slice ao len cap, .int .i64 t] w fun e w' => e = .returned (.tuple #[(oneM len bs t).1.val, .int .i64 (oneM len bs t).2.1, .int .i64 (oneM len bs t).2.2]) ∧ Below w.heap.size w w' := by
  by_cases h0 : t < 0 ∨ (len : Int) < t
  · have e : oneM len bs t = (zI, 0, 11) := by unfold oneM; rw [if_pos h0]
    rw [e]; exact one_range ao len cap t w h0 hl
  obtain ⟨k, rfl⟩ := Int.eq_ofNat_of_zero_le (show 0 ≤ t by omega)
  have hk : k ≤ len := by omega
  cases ao with
  | none =>
    obtain ⟨rfl, rfl⟩ := hnil rfl
    obtain rfl : k = 0 := by omega
    have hi : instM ⟨none, 0 - 0, 0, fun i => bs (0 + i)⟩ = .error 20 := by unfold instM pre nxt; rfl
    have e : oneM 0 bs ((0 : Nat) : Int) = (zI, 0, 20) := by unfold oneM; rw [if_neg h0]; rw [show instM (cut 0 bs ((0 : Nat) : Int).toNat) = .error 20 from hi]
    rw [e]
    exact one_nil w ⟨none, 0 - 0, 0, fun i => bs (0 + i)⟩ rfl rfl rfl ⟨.inl rfl, fun i => hby _, by simp⟩ 20 hi
  | some ad =>
    obtain ⟨b, off, rfl⟩ := hsome _ rfl
    have hL : Lies w w.heap.size ⟨if cap = k then some ⟨b, off, none⟩ else some ⟨b, off + k, none⟩, len - k, cap - k, fun i => bs (k + i)⟩ := by
      refine ⟨?_, fun i => hby _, by show len - k ≤ _; omega⟩
      by_cases hz : len - k = 0
      · exact .inl hz
      · rcases hr with hr | ⟨b', off', e, hr⟩
        · omega
        · cases e
          refine .inr ⟨b, off + k, by rw [if_neg (show ¬ cap = k by omega)], World.block_lt_of_cell? w ⟨b, off + 0, none⟩ (hr 0 (by omega)), fun i hi => ?_⟩
          rw [show off + k + i = off + (k + i) by omega]
          exact hr (k + i) (by have : i < len - k := hi; omega)
    rcases hm : instM (cut len bs k) with n | ⟨i, a⟩
    · have e : oneM len bs (k : Int) = (zI, 0, n) := by unfold oneM; rw [if_neg h0, show ((k : Int)).toNat = k by omega, hm]
      rw [e]
      exact one_bad b off len cap k w _ rfl rfl rfl hL hk hc hcap hl n ((instM_same _ _ _ _ _).trans hm)
    · have e : oneM len bs (k : Int) = (i, (a : Int), 0) := by unfold oneM; rw [if_neg h0, show ((k : Int)).toNat = k by omega, hm]
      rw [e]
      exact one_ok b off len cap k w _ rfl rfl rfl hL hk hc hcap hl i a ((instM_same _ _ _ _ _).trans hm)
end Go.Proofs.Ytjbepojopfbajaa
