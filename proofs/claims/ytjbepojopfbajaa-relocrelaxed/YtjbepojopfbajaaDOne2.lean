/- The contract of One. -/
import Derived.Test.YtjbepojopfbajaaDOne
namespace Go.Proofs.Ytjbepojopfbajaa
open Go.ChangeShapes Go.WideShapes Go.ChangeAt Go.RowKit
set_option linter.unusedVariables false
set_option linter.unusedSimpArgs false

/-- The reader that One makes. -/
abbrev rBox (ao : Option Addr) (len cap : Nat) : Obj := .cells #[.slice ao len cap, .int .i64 0, .bool false, .int .i64 0, .int .i64 0, .int .i64 0, .int .i64 0, .int .i64 0, .int .i64 0] 77

theorem cell_at {W : World} {cs : Array Value} {t : TypeId} {j n : Nat} {v : Value} (hn : W.heap.size = n) (h : cs[j]? = some v) : (W.alloc (.cells cs t)).cell? ⟨n, j, none⟩ = some v := by
  subst hn; simp only [World.cell?]; rw [heap_alloc_last]; exact h

theorem one_start (b off len cap t : Nat) (w : World) (L : Ln) (hLa : L.ao = if cap = t then some ⟨b, off, none⟩ else some ⟨b, off + t, none⟩) (hLl : L.len = len - t) (hLc : L.cap = cap - t) (hL : Lies w w.heap.size L) :
    RS ((((w.alloc zI.box).alloc (.cells #[.int .i64 0] 3)).alloc (.cells #[.int .i64 0] 24)).alloc (rBox (if cap = t then some ⟨b, off, none⟩ else some ⟨b, off + t, none⟩) (len - t) (cap - t))) (w.heap.size + 1 + 1 + 1) L 0 false 0 0 0 0 0 0 ∧ ((((w.alloc zI.box).alloc (.cells #[.int .i64 0] 3)).alloc (.cells #[.int .i64 0] 24)).alloc (rBox (if cap = t then some ⟨b, off, none⟩ else some ⟨b, off + t, none⟩) (len - t) (cap - t))).heap[w.heap.size]? = some zI.box ∧ ((((w.alloc zI.box).alloc (.cells #[.int .i64 0] 3)).alloc (.cells #[.int .i64 0] 24)).alloc (rBox (if cap = t then some ⟨b, off, none⟩ else some ⟨b, off + t, none⟩) (len - t) (cap - t))).cell? ⟨w.heap.size + 1, 0, none⟩ = some (.int .i64 0) ∧ ((((w.alloc zI.box).alloc (.cells #[.int .i64 0] 3)).alloc (.cells #[.int .i64 0] 24)).alloc (rBox (if cap = t then some ⟨b, off, none⟩ else some ⟨b, off + t, none⟩) (len - t) (cap - t))).cell? ⟨w.heap.size + 1 + 1, 0, none⟩ = some (.int .i64 0) ∧ ((((w.alloc zI.box).alloc (.cells #[.int .i64 0] 3)).alloc (.cells #[.int .i64 0] 24)).alloc (rBox (if cap = t then some ⟨b, off, none⟩ else some ⟨b, off + t, none⟩) (len - t) (cap - t))).frozen? ⟨w.heap.size + 1, 0, none⟩ = false ∧ ((((w.alloc zI.box).alloc (.cells #[.int .i64 0] 3)).alloc (.cells #[.int .i64 0] 24)).alloc (rBox (if cap = t then some ⟨b, off, none⟩ else some ⟨b, off + t, none⟩) (len - t) (cap - t))).frozen? ⟨w.heap.size + 1 + 1, 0, none⟩ = false ∧ Below w.heap.size w ((((w.alloc zI.box).alloc (.cells #[.int .i64 0] 3)).alloc (.cells #[.int .i64 0] 24)).alloc (rBox (if cap = t then some ⟨b, off, none⟩ else some ⟨b, off + t, none⟩) (len - t) (cap - t))) ∧ ((((w.alloc zI.box).alloc (.cells #[.int .i64 0] 3)).alloc (.cells #[.int .i64 0] 24)).alloc (rBox (if cap = t then some ⟨b, off, none⟩ else some ⟨b, off + t, none⟩) (len - t) (cap - t))).heap.size = w.heap.size + 1 + 1 + 1 + 1 := by
  have hB : Below w.heap.size w ((((w.alloc zI.box).alloc (.cells #[.int .i64 0] 3)).alloc (.cells #[.int .i64 0] 24)).alloc (rBox (if cap = t then some ⟨b, off, none⟩ else some ⟨b, off + t, none⟩) (len - t) (cap - t))) := bel_alloc (bel_alloc (bel_alloc (bel_alloc (Below.refl _ _) _) _) _) _
  have e3 : (((w.alloc zI.box).alloc (.cells #[.int .i64 0] 3)).alloc (.cells #[.int .i64 0] 24)).heap.size = w.heap.size + 1 + 1 + 1 := by simp
  have e2 : ((w.alloc zI.box).alloc (.cells #[.int .i64 0] 3)).heap.size = w.heap.size + 1 + 1 := by simp
  have e1 : (w.alloc zI.box).heap.size = w.heap.size + 1 := by simp
  have z3 := fun j => fz_new (((w.alloc zI.box).alloc (.cells #[.int .i64 0] 3)).alloc (.cells #[.int .i64 0] 24)) #[.slice (if cap = t then some ⟨b, off, none⟩ else some ⟨b, off + t, none⟩) (len - t) (cap - t), .int .i64 0, .bool false, .int .i64 0, .int .i64 0, .int .i64 0, .int .i64 0, .int .i64 0, .int .i64 0] 77 j
  rw [e3] at z3
  have z2 := fz_new ((w.alloc zI.box).alloc (.cells #[.int .i64 0] 3)) #[.int .i64 0] 24 0
  rw [e2] at z2
  have z1 := fz_new (w.alloc zI.box) #[.int .i64 0] 3 0
  rw [e1] at z1
  have hlies : Lies ((((w.alloc zI.box).alloc (.cells #[.int .i64 0] 3)).alloc (.cells #[.int .i64 0] 24)).alloc (rBox (if cap = t then some ⟨b, off, none⟩ else some ⟨b, off + t, none⟩) (len - t) (cap - t))) (w.heap.size + 1 + 1 + 1) L := ⟨hL.row.imp id fun ⟨c, o, e, hc, hr⟩ => ⟨c, o, e, by omega, fun i hi => to_bel hB (hr i hi)⟩, hL.byte, hL.top⟩
  refine ⟨⟨?_, ?_, ?_, ?_, ?_, ?_, ?_, ?_, ?_, z3, hlies⟩, ?_, ?_, ?_, ?_, ?_, hB, by simp⟩
  · rw [hLa, hLl, hLc]; exact cell_at e3 rfl
  · exact cell_at e3 rfl
  · exact cell_at e3 rfl
  · exact cell_at e3 rfl
  · exact cell_at e3 rfl
  · exact cell_at e3 rfl
  · exact cell_at e3 rfl
  · exact cell_at e3 rfl
  · exact cell_at e3 rfl
  · rw [Below.heap_alloc _ _ _ (by simp; omega), Below.heap_alloc _ _ _ (by simp; omega), Below.heap_alloc _ _ _ (by simp)]; exact heap_alloc_last w _
  · refine to_bel (bel_alloc (bel_alloc (Below.refl _ _) _) _) (v := (w.alloc zI.box).alloc (.cells #[.int .i64 0] 3)) ?_
    exact cell_at e1 rfl
  · refine to_bel (bel_alloc (Below.refl _ _) _) (v := ((w.alloc zI.box).alloc (.cells #[.int .i64 0] 3)).alloc (.cells #[.int .i64 0] 24)) ?_
    exact cell_at e2 rfl
  · exact fz_bel (bel_alloc (bel_alloc (Below.refl _ _) _) _) (v := (w.alloc zI.box).alloc (.cells #[.int .i64 0] 3)) (by simp) z1
  · exact fz_bel (bel_alloc (Below.refl _ _) _) (v := ((w.alloc zI.box).alloc (.cells #[.int .i64 0] 3)).alloc (.cells #[.int .i64 0] 24)) (by simp) z2

theorem load1 {w : World} {t : TypeId} (hu : Try.prog.underlying t = Try.prog.underlying 3) {p : Addr} {n : Int} (hc : w.cell? p = some (.int .i64 n)) : (loadVar t p).run Try.prog w = .ok (.int .i64 n) w := by
  simp [loadVar, isAgg, run_underlying (hu.trans Try.underlying3), go_sem, hc]
theorem res_one (tmps : Array Value) (w : World) (ib nb eb : Nat) (cs : Array Value) (n e : Int) (hp : tmps.getD 4 undef = .pointer (some ⟨ib, 0, none⟩)) (hq : tmps.getD 5 undef = .pointer (some ⟨nb, 0, none⟩)) (hr : tmps.getD 6 undef = .pointer (some ⟨eb, 0, none⟩))
    (hI : w.heap[ib]? = some (.cells cs 56 (0, 0))) (hs : cs.size = 24) (hn : w.cell? ⟨nb, 0, none⟩ = some (.int .i64 n)) (he : w.cell? ⟨eb, 0, none⟩ = some (.int .i64 e)) :
    (results Try.f28 tmps).run Try.prog w = .ok (.tuple #[.agg cs, .int .i64 n, .int .i64 e]) w := by
  have hp' : tmps[4]?.getD undef = .pointer (some ⟨ib, 0, none⟩) := by simpa using hp
  have hq' : tmps[5]?.getD undef = .pointer (some ⟨nb, 0, none⟩) := by simpa using hq
  have hr' : tmps[6]?.getD undef = .pointer (some ⟨eb, 0, none⟩) := by simpa using hr
  have l1 := run_loadVar_row (P := Try.prog) w ib 56 56 cs (0, 0) _ hI under_inst rfl (by rw [hs]; exact size_inst)
  have l2 := load1 (t := 3) rfl hn
  have l3 := load1 (t := 24) (by kernel_rfl) he
  simp [results, Try.results28, hp', hq', hr', asAddr, l1, l2, l3]

theorem one_bad (b off len cap t : Nat) (w : World) (L : Ln) (hLa : L.ao = if cap = t then some ⟨b, off, none⟩ else some ⟨b, off + t, none⟩) (hLl : L.len = len - t) (hLc : L.cap = cap - t) (hL : Lies w w.heap.size L) (ht : t ≤ len) (hc : len ≤ cap) (hcap : cap ≤ 9223372036854775807) (hl : len ≤ 140737488355328) (n : Int) (hm : instM L = .error n) :
    Calls Try.prog 28 #[.slice (some ⟨b, off, none⟩) len cap, .int .i64 t] w fun e w' => e = .returned (.tuple #[.agg ZZ27, .int .i64 0, .int .i64 n]) ∧ Below w.heap.size w w' := by
  obtain ⟨R, h1, h2, h3, h4, h5, hB, hs⟩ := one_start b off len cap t w L hLa hLl hLc hL
  have HI := inst_any R
  rw [hm] at HI
  have hmf : ∀ (fn : Fn) (first cap : Array Value) (w : World), (Instr.makeFunc fn first cap).run Try.prog w = .ok (.func fn first cap) w := fun _ _ _ _ => rfl
  have t0 : ¬ (t : Int) < 0 := by omega
  have t1 : ¬ (len : Int) < (t : Int) := by omega
  have t2 : (t : Int) ≤ (len : Int) := by omega
  clear hm hL R
  go_enter_defers Try.func28, Try.ntmps28
  go_upto_region 5 with (fail)
  clear hLa
  generalize ((((w.alloc zI.box).alloc (.cells #[.int .i64 0] 3)).alloc (.cells #[.int .i64 0] 24)).alloc (rBox (if cap = t then some ⟨b, off, none⟩ else some ⟨b, off + t, none⟩) (len - t) (cap - t))) = v at *
  generalize (if cap = t then some (⟨b, off, none⟩ : Addr) else some ⟨b, off + t, none⟩) = A at *
  go_wp2_with (go_at_call 40; (with_reducible refine HI.mono ?_); rintro e w1 ⟨he, hfr⟩; (have he' : _ = _ := he); subst he')
  have i1 : w1.heap[w.heap.size]? = some zI.box := (hfr.block _ (by omega) (by omega) (by omega)).trans h1
  have i2 := hfr.cell h2 (by show w.heap.size + 1 ≠ _; omega) (by show w.heap.size + 1 ≠ _; omega)
  have i3 := hfr.cell h3 (by show w.heap.size + 1 + 1 ≠ _; omega) (by show w.heap.size + 1 + 1 ≠ _; omega)
  have i4 := (hfr.frozen (p := ⟨w.heap.size + 1, 0, none⟩) (by show w.heap.size + 1 < _; omega) (by show w.heap.size + 1 ≠ _; omega) (by show w.heap.size + 1 ≠ _; omega)).trans h4
  have i5 := (hfr.frozen (p := ⟨w.heap.size + 1 + 1, 0, none⟩) (by show w.heap.size + 1 + 1 < _; omega) (by show w.heap.size + 1 + 1 ≠ _; omega) (by show w.heap.size + 1 + 1 ≠ _; omega)).trans h5
  have j1 := setRow_heap w1.drew w.heap.size _ ZZ27 _ _ i1
  refine leaves_cons (f := 39) (args := #[.pointer (some ⟨w.heap.size, 0, none⟩), .pointer (some ⟨w.heap.size + 1, 0, none⟩), .pointer (some ⟨w.heap.size + 1 + 1, 0, none⟩)]) (by simp) (by simp [go_sem]) ?_
  refine (catch_panicking w.heap.size (w.heap.size + 1) (w.heap.size + 1 + 1) n 0 0 [] w1 i1 i2 i3 i4 i5 (by omega) (by omega) (by omega)).mono ?_
  rintro e u' w'' ⟨rfl, rfl, rfl⟩
  have j2 : (((w1.drew.setRow w.heap.size ZZ27).setCell ⟨w.heap.size + 1, 0, none⟩ (.int .i64 0)).setCell ⟨w.heap.size + 1 + 1, 0, none⟩ (.int .i64 n)).heap[w.heap.size]? = some (.cells ZZ27 56 (0, 0)) := by
    rw [Below.heap_setCell _ _ _ _ (by show w.heap.size ≠ w.heap.size + 1 + 1; omega), Below.heap_setCell _ _ _ _ (by show w.heap.size ≠ w.heap.size + 1; omega)]; exact j1
  have j3 : (w1.drew.setRow w.heap.size ZZ27).cell? ⟨w.heap.size + 1, 0, none⟩ = some (.int .i64 0) := (cell_setRow_other _ _ _ _ (by show w.heap.size + 1 ≠ w.heap.size; omega)).trans i2
  have j4 : (w1.drew.setRow w.heap.size ZZ27).cell? ⟨w.heap.size + 1 + 1, 0, none⟩ = some (.int .i64 0) := (cell_setRow_other _ _ _ _ (by show w.heap.size + 1 + 1 ≠ w.heap.size; omega)).trans i3
  have j5 : (((w1.drew.setRow w.heap.size ZZ27).setCell ⟨w.heap.size + 1, 0, none⟩ (.int .i64 0)).setCell ⟨w.heap.size + 1 + 1, 0, none⟩ (.int .i64 n)).cell? ⟨w.heap.size + 1, 0, none⟩ = some (.int .i64 0) := by simp [go_sem, j3]
  have j6 : (((w1.drew.setRow w.heap.size ZZ27).setCell ⟨w.heap.size + 1, 0, none⟩ (.int .i64 0)).setCell ⟨w.heap.size + 1 + 1, 0, none⟩ (.int .i64 n)).cell? ⟨w.heap.size + 1 + 1, 0, none⟩ = some (.int .i64 n) := by simp [go_sem, j4]
  have hB9 : Below w.heap.size w (((w1.drew.setRow w.heap.size ZZ27).setCell ⟨w.heap.size + 1, 0, none⟩ (.int .i64 0)).setCell ⟨w.heap.size + 1 + 1, 0, none⟩ (.int .i64 n)) := by
    have b1 := hB.trans (hfr.below (B := w.heap.size) (by omega) (by omega) (by omega))
    have b2 : Below w.heap.size w (w1.drew.setRow w.heap.size ZZ27) := b1.drew.trans ⟨rfl, rfl, rfl, by simp, fun j hj => setRow_other _ w.heap.size j _ (by omega)⟩
    exact (b2.setCell (by show w.heap.size ≤ w.heap.size + 1; omega) _).setCell (by show w.heap.size ≤ w.heap.size + 1 + 1; omega) _
  refine ⟨_, res_one _ _ w.heap.size (w.heap.size + 1) (w.heap.size + 1 + 1) ZZ27 0 n (by kernel_rfl) (by kernel_rfl) (by kernel_rfl) j2 rfl j5 j6, rfl, hB9⟩
end Go.Proofs.Ytjbepojopfbajaa
