/- The contract of One, where there is an instruction. -/
import Derived.Test.YtjbepojopfbajaaDOne2
namespace Go.Proofs.Ytjbepojopfbajaa
open Go.ChangeShapes Go.WideShapes Go.ChangeAt Go.RowKit
set_option linter.unusedVariables false
set_option linter.unusedSimpArgs false

theorem store_row27 {w : World} {g : Nat} {old V : Array Value} {t : TypeId} (hg : w.heap[g]? = some (.cells old t (0, 0))) (ho : old.size = 24) (hs : V.size = 24) (h1 : V.all (·.oneCell') = true) :
    Sem.run Try.prog (storeCells ⟨g, 0, none⟩ V.toList) w = .ok () (w.setRow g V) := by
  have h := run_storeCells_from (P := Try.prog) g t V.toList 0 old w hg (by simp; omega) (fun x hx => (Array.all_eq_true_iff_forall_mem.1 h1) x (by simpa using hx))
  rw [h, List.take_zero, List.nil_append, Array.toArray_toList]

theorem results_put (tmps : Array Value) (j : Nat) (v : Value) (h4 : j ≠ 4) (h5 : j ≠ 5) (h6 : j ≠ 6) : results Try.f28 (tmps.setIfInBounds j v) = results Try.f28 tmps := by
  simp [results, Try.results28, Array.getElem?_setIfInBounds_ne h4, Array.getElem?_setIfInBounds_ne h5, Array.getElem?_setIfInBounds_ne h6]

theorem leaves_put {R : Ending → World → Prop} {tmps : Array Value} {j : Nat} {v : Value} (h4 : j ≠ 4) (h5 : j ≠ 5) (h6 : j ≠ 6) : ∀ (ds : List Deferred) (u : FrameMode) (w : World),
    Leaves Try.prog Try.f28 (tmps.setIfInBounds j v) R ds u w → Leaves Try.prog Try.f28 tmps R ds u w := by
  intro ds
  induction ds with
  | nil =>
    intro u w h
    cases u with
    | run => exact h
    | returning => obtain ⟨x, hx, hr⟩ := h; exact ⟨x, by rw [results_put _ _ _ h4 h5 h6] at hx; exact hx, hr⟩
    | panicking c => exact h
  | cons d ds ih =>
    intro u w h
    obtain ⟨hu, fv, cap, f, args, e1, e2, hc⟩ := h
    refine ⟨hu, fv, cap, f, args, e1, e2, hc.mono fun e u' w' hr => ?_⟩
    cases e with
    | returned x => exact ih _ _ hr
    | panicked c => exact ih _ _ hr
    | outgrown => exact hr

set_option maxRecDepth 20000 in
theorem one_ok (b off len cap t : Nat) (w : World) (L : Ln) (hLa : L.ao = if cap = t then some ⟨b, off, none⟩ else some ⟨b, off + t, none⟩) (hLl : L.len = len - t) (hLc : L.cap = cap - t) (hL : Lies w w.heap.size L) (ht : t ≤ len) (hc : len ≤ cap) (hcap : cap ≤ 9223372036854775807) (hl : len ≤ 140737488355328) (i : I) (a : Nat) (hm : instM L = .ok (i, a)) :
    Calls Try.prog 28 #[.slice (some ⟨b, off, none⟩) len cap, .int .i64 t] w fun e w' => e = .returned (.tuple #[i.val, .int .i64 a, .int .i64 0]) ∧ Below w.heap.size w w' := by
  obtain ⟨R, h1, h2, h3, h4, h5, hB, hs⟩ := one_start b off len cap t w L hLa hLl hLc hL
  have HI := inst_any R
  rw [hm] at HI
  obtain ⟨V, hV, hVs, hV1⟩ : ∃ V : Array Value, i.val = .agg V ∧ V.size = 24 ∧ V.all (·.oneCell') = true := ⟨_, rfl, rfl, by kernel_rfl⟩
  rw [hV]
  have HI2 : Hid (∀ (e : Ending) (w' : World), (Ends2 (.ok (i, a)) I.val (fun a' => w'.cell? ⟨w.heap.size + 1 + 1 + 1, 1, none⟩ = some (.int .i64 a')) e) → e = .returned (.agg V) ∧ w'.cell? ⟨w.heap.size + 1 + 1 + 1, 1, none⟩ = some (.int .i64 a)) := ⟨fun e w' h => ⟨by rw [← hV]; exact h.1, h.2⟩⟩
  have hmf : ∀ (fn : Fn) (first cap : Array Value) (w : World), (Instr.makeFunc fn first cap).run Try.prog w = .ok (.func fn first cap) w := fun _ _ _ _ => rfl
  have t0 : ¬ (t : Int) < 0 := by omega
  have t1 : ¬ (len : Int) < (t : Int) := by omega
  have t2 : (t : Int) ≤ (len : Int) := by omega
  clear hm hL R hV
  go_enter_defers Try.func28, Try.ntmps28
  go_upto_region 5 with (fail)
  clear hLa
  generalize ((((w.alloc zI.box).alloc (.cells #[.int .i64 0] 3)).alloc (.cells #[.int .i64 0] 24)).alloc (rBox (if cap = t then some ⟨b, off, none⟩ else some ⟨b, off + t, none⟩) (len - t) (cap - t))) = v at *
  generalize (if cap = t then some (⟨b, off, none⟩ : Addr) else some ⟨b, off + t, none⟩) = A at *
  go_upto_region 6 with (go_at_call 40; (with_reducible refine HI.mono ?_); rintro e w1 ⟨he, hfr⟩; obtain ⟨he', hca⟩ := HI2.out _ _ he; subst he'; (have i1 : w1.heap[w.heap.size]? = some zI.box := (hfr.block _ (by omega) (by omega) (by omega)).trans h1); (have ST := store_row27 i1 rfl hVs hV1))
  have i2 := hfr.cell h2 (by show w.heap.size + 1 ≠ _; omega) (by show w.heap.size + 1 ≠ _; omega)
  have i3 := hfr.cell h3 (by show w.heap.size + 1 + 1 ≠ _; omega) (by show w.heap.size + 1 + 1 ≠ _; omega)
  have i4 := (hfr.frozen (p := ⟨w.heap.size + 1, 0, none⟩) (by show w.heap.size + 1 < _; omega) (by show w.heap.size + 1 ≠ _; omega) (by show w.heap.size + 1 ≠ _; omega)).trans h4
  have i5 := (hfr.frozen (p := ⟨w.heap.size + 1 + 1, 0, none⟩) (by show w.heap.size + 1 + 1 < _; omega) (by show w.heap.size + 1 + 1 ≠ _; omega) (by show w.heap.size + 1 + 1 ≠ _; omega)).trans h5
  have j1 := setRow_heap w1 w.heap.size _ V _ _ i1
  have j2 : (w1.setRow w.heap.size V).cell? ⟨w.heap.size + 1, 0, none⟩ = some (.int .i64 0) := (cell_setRow_other _ _ _ _ (by show w.heap.size + 1 ≠ w.heap.size; omega)).trans i2
  have j3 : (w1.setRow w.heap.size V).cell? ⟨w.heap.size + 1 + 1, 0, none⟩ = some (.int .i64 0) := (cell_setRow_other _ _ _ _ (by show w.heap.size + 1 + 1 ≠ w.heap.size; omega)).trans i3
  have j4 : (w1.setRow w.heap.size V).frozen? ⟨w.heap.size + 1, 0, none⟩ = false := (World.frozen?_of_block (w := w1) (setRow_other _ _ _ _ (by show w.heap.size + 1 ≠ w.heap.size; omega))).trans i4
  have j5 : (w1.setRow w.heap.size V).frozen? ⟨w.heap.size + 1 + 1, 0, none⟩ = false := (World.frozen?_of_block (w := w1) (setRow_other _ _ _ _ (by show w.heap.size + 1 + 1 ≠ w.heap.size; omega))).trans i5
  have j6 : (w1.setRow w.heap.size V).cell? ⟨w.heap.size + 1 + 1 + 1, 1, none⟩ = some (.int .i64 a) := (cell_setRow_other _ _ _ _ (by show w.heap.size + 1 + 1 + 1 ≠ w.heap.size; omega)).trans hca
  have b1 := hB.trans (hfr.below (B := w.heap.size) (by omega) (by omega) (by omega))
  have b2 : Below w.heap.size w (w1.setRow w.heap.size V) := b1.trans ⟨rfl, rfl, rfl, by simp, fun j hj => setRow_other _ w.heap.size j _ (by omega)⟩
  clear ST i1 i2 i3 i4 i5 b1 hca
  generalize w1.setRow w.heap.size V = x at *
  refine wp_region_held_drew (S := fun u => u.heap[w.heap.size]? = some (.cells V 56 (0, 0)) ∧ u.cell? ⟨w.heap.size + 1 + 1 + 1, 1, none⟩ = some (.int .i64 a)) (by kernel_rfl) ⟨j1, j6⟩ (fun hS => ?_)
  refine wpAnyH_take (i := 0) (v := .agg V) rfl (by kernel_rfl) (by kernel_rfl) (by kernel_rfl) (fun _ a' _ h => leaves_put (by decide) (by decide) (by decide) a'.defers _ _ h) (Or.inl ⟨by kernel_rfl, fun u hu => exec_loadV (t := 56) (x := .tmp 4) (p := ⟨w.heap.size, 0, none⟩) rfl (by kernel_rfl) (run_loadVar_row (P := Try.prog) u w.heap.size 56 56 V (0, 0) _ hu.1 under_inst rfl (by rw [hVs]; exact size_inst))⟩) hS ?_
  simp only [Act.put, List.getElem_toArray, List.getElem_cons_succ, List.getElem_cons_zero, List.setIfInBounds_toArray, List.set_cons_zero, List.set_cons_succ]
  refine wpAnyH_take (i := 1) (v := .pointer (some ⟨w.heap.size + 1 + 1 + 1, 1, none⟩)) rfl (by kernel_rfl) (by kernel_rfl) (by kernel_rfl) (fun _ a' _ h => leaves_put (by decide) (by decide) (by decide) a'.defers _ _ h) (Or.inl ⟨by kernel_rfl, fun u hu => by kernel_rfl⟩) hS ?_
  simp only [Act.put, List.getElem_toArray, List.getElem_cons_succ, List.getElem_cons_zero, List.setIfInBounds_toArray, List.set_cons_zero, List.set_cons_succ]
  refine wpAnyH_take (i := 2) (v := .int .i64 a) rfl (by kernel_rfl) (by kernel_rfl) (by kernel_rfl) (fun _ a' _ h => leaves_put (by decide) (by decide) (by decide) a'.defers _ _ h) (Or.inl ⟨by kernel_rfl, fun u hu => exec_load3 (x := .tmp 24) (p := ⟨w.heap.size + 1 + 1 + 1, 1, none⟩) rfl (by kernel_rfl) hu.2⟩) hS ?_
  simp only [Act.put, List.getElem_toArray, List.getElem_cons_succ, List.getElem_cons_zero, List.setIfInBounds_toArray, List.set_cons_zero, List.set_cons_succ]
  refine wpAnyH_ready (rs := [3]) (by kernel_rfl) (by simp) ?_
  refine AllReadyH.cons rfl (fun K hK => ?_) AllReadyH.nil
  simp only [List.getElem_toArray, List.getElem_cons_succ, List.getElem_cons_zero]
  refine wp_if (by kernel_rfl) ?_
  refine wp_store_row 56 _ _ rfl w.heap.size V (by kernel_rfl) (by kernel_rfl) 56 V j1 (by rw [hVs]; exact size_inst) rfl hV1 ?_
  have q1 := setRow_heap x.drew w.heap.size _ V _ _ j1
  have q2 : (x.drew.setRow w.heap.size V).cell? ⟨w.heap.size + 1, 0, none⟩ = some (.int .i64 0) := (cell_setRow_other _ _ _ _ (by show w.heap.size + 1 ≠ w.heap.size; omega)).trans j2
  have q3 : (x.drew.setRow w.heap.size V).cell? ⟨w.heap.size + 1 + 1, 0, none⟩ = some (.int .i64 0) := (cell_setRow_other _ _ _ _ (by show w.heap.size + 1 + 1 ≠ w.heap.size; omega)).trans j3
  have q4 : (x.drew.setRow w.heap.size V).frozen? ⟨w.heap.size + 1, 0, none⟩ = false := (World.frozen?_of_block (w := x) (setRow_other _ _ _ _ (by show w.heap.size + 1 ≠ w.heap.size; omega))).trans j4
  have q5 : (x.drew.setRow w.heap.size V).frozen? ⟨w.heap.size + 1 + 1, 0, none⟩ = false := (World.frozen?_of_block (w := x) (setRow_other _ _ _ _ (by show w.heap.size + 1 + 1 ≠ w.heap.size; omega))).trans j5
  have q6 : (x.drew.setRow w.heap.size V).cell? ⟨w.heap.size + 1 + 1 + 1, 1, none⟩ = some (.int .i64 a) := (cell_setRow_other _ _ _ _ (by show w.heap.size + 1 + 1 + 1 ≠ w.heap.size; omega)).trans j6
  have b3 : Below w.heap.size w (x.drew.setRow w.heap.size V) := b2.drew.trans ⟨rfl, rfl, rfl, by simp, fun j hj => setRow_other _ w.heap.size j _ (by omega)⟩
  generalize x.drew.setRow w.heap.size V = y at *
  refine hK.out _ _ (⟨q1, q6⟩) (fun _ => ?_)
  clear hK
  simp only [Act.put, List.getElem_toArray, List.getElem_cons_succ, List.getElem_cons_zero, List.setIfInBounds_toArray, List.set_cons_zero, List.set_cons_succ]
  refine wpAnyH_ready (rs := [4]) (by kernel_rfl) (by simp) ?_
  refine AllReadyH.cons rfl (fun K hK => ?_) AllReadyH.nil
  simp only [List.getElem_toArray, List.getElem_cons_succ, List.getElem_cons_zero]
  refine wp_if (by kernel_rfl) ?_
  refine wp_store1 (t := 3) (x := .tmp 5) (y := .tmp 25) (p := ⟨w.heap.size + 1, 0, none⟩) rfl (by kernel_rfl) (by kernel_rfl) (run_store1 (n := a) size3 q2 q4) ?_
  have r1 : (y.setCell ⟨w.heap.size + 1, 0, none⟩ (.int .i64 a)).heap[w.heap.size]? = some (.cells V 56 (0, 0)) := (Below.heap_setCell _ _ _ _ (by show w.heap.size ≠ w.heap.size + 1; omega)).trans q1
  have r2 : (y.setCell ⟨w.heap.size + 1, 0, none⟩ (.int .i64 a)).cell? ⟨w.heap.size + 1, 0, none⟩ = some (.int .i64 a) := by simp [go_sem, q2]
  have r3 : (y.setCell ⟨w.heap.size + 1, 0, none⟩ (.int .i64 a)).cell? ⟨w.heap.size + 1 + 1, 0, none⟩ = some (.int .i64 0) := (World.cell?_of_block (w := y) (Below.heap_setCell y ⟨w.heap.size + 1, 0, none⟩ _ (w.heap.size + 1 + 1) (by show w.heap.size + 1 + 1 ≠ w.heap.size + 1; omega))).trans q3
  have r4 : (y.setCell ⟨w.heap.size + 1, 0, none⟩ (.int .i64 a)).frozen? ⟨w.heap.size + 1 + 1, 0, none⟩ = false := (World.frozen?_setCell _ _ _ _).trans q5
  have r5 : (y.setCell ⟨w.heap.size + 1, 0, none⟩ (.int .i64 a)).cell? ⟨w.heap.size + 1 + 1 + 1, 1, none⟩ = some (.int .i64 a) := (World.cell?_of_block (w := y) (Below.heap_setCell y ⟨w.heap.size + 1, 0, none⟩ _ (w.heap.size + 1 + 1 + 1) (by show w.heap.size + 1 + 1 + 1 ≠ w.heap.size + 1; omega))).trans q6
  have b4 : Below w.heap.size w (y.setCell ⟨w.heap.size + 1, 0, none⟩ (.int .i64 a)) := b3.setCell (by show w.heap.size ≤ w.heap.size + 1; omega) _
  generalize y.setCell ⟨w.heap.size + 1, 0, none⟩ (.int .i64 a) = z at *
  refine hK.out _ _ (⟨r1, r5⟩) (fun _ => ?_)
  clear hK
  simp only [Act.put, List.getElem_toArray, List.getElem_cons_succ, List.getElem_cons_zero, List.setIfInBounds_toArray, List.set_cons_zero, List.set_cons_succ]
  refine wpAnyH_ready (rs := [5]) (by kernel_rfl) (by simp) ?_
  refine AllReadyH.cons rfl (fun K hK => ?_) AllReadyH.nil
  simp only [List.getElem_toArray, List.getElem_cons_succ, List.getElem_cons_zero]
  refine wp_if (by kernel_rfl) ?_
  refine wp_store1 (t := 24) (x := .tmp 6) (y := .const (.int .i64 0)) (p := ⟨w.heap.size + 1 + 1, 0, none⟩) rfl (by kernel_rfl) (by kernel_rfl) (run_store1 (n := 0) sizeE r3 r4) ?_
  have s1 : (z.setCell ⟨w.heap.size + 1 + 1, 0, none⟩ (.int .i64 0)).heap[w.heap.size]? = some (.cells V 56 (0, 0)) := (Below.heap_setCell _ _ _ _ (by show w.heap.size ≠ w.heap.size + 1 + 1; omega)).trans r1
  have s2 : (z.setCell ⟨w.heap.size + 1 + 1, 0, none⟩ (.int .i64 0)).cell? ⟨w.heap.size + 1, 0, none⟩ = some (.int .i64 a) := (World.cell?_of_block (w := z) (Below.heap_setCell z ⟨w.heap.size + 1 + 1, 0, none⟩ _ (w.heap.size + 1) (by show w.heap.size + 1 ≠ w.heap.size + 1 + 1; omega))).trans r2
  have s3 : (z.setCell ⟨w.heap.size + 1 + 1, 0, none⟩ (.int .i64 0)).cell? ⟨w.heap.size + 1 + 1, 0, none⟩ = some (.int .i64 0) := by simp [go_sem, r3]
  have s5 : (z.setCell ⟨w.heap.size + 1 + 1, 0, none⟩ (.int .i64 0)).cell? ⟨w.heap.size + 1 + 1 + 1, 1, none⟩ = some (.int .i64 a) := (World.cell?_of_block (w := z) (Below.heap_setCell z ⟨w.heap.size + 1 + 1, 0, none⟩ _ (w.heap.size + 1 + 1 + 1) (by show w.heap.size + 1 + 1 + 1 ≠ w.heap.size + 1 + 1; omega))).trans r5
  have b5 : Below w.heap.size w (z.setCell ⟨w.heap.size + 1 + 1, 0, none⟩ (.int .i64 0)) := b4.setCell (by show w.heap.size ≤ w.heap.size + 1 + 1; omega) _
  generalize z.setCell ⟨w.heap.size + 1 + 1, 0, none⟩ (.int .i64 0) = z9 at *
  refine hK.out _ _ (⟨s1, s5⟩) (fun _ => ?_)
  clear hK
  simp only [Act.put, List.getElem_toArray, List.getElem_cons_succ, List.getElem_cons_zero, List.setIfInBounds_toArray, List.set_cons_zero, List.set_cons_succ]
  refine wpAnyH_done (by kernel_rfl) ?_ _
  go_wp2_with fail
  refine leaves_cons (f := 39) (args := #[.pointer (some ⟨w.heap.size, 0, none⟩), .pointer (some ⟨w.heap.size + 1, 0, none⟩), .pointer (some ⟨w.heap.size + 1 + 1, 0, none⟩)]) (by simp) (by simp [go_sem]) ?_
  refine (catch_idle _ _ _ _).mono ?_
  rintro e u' w'' ⟨rfl, rfl, rfl⟩
  exact ⟨_, res_one _ _ w.heap.size (w.heap.size + 1) (w.heap.size + 1 + 1) V a 0 (by kernel_rfl) (by kernel_rfl) (by kernel_rfl) s1 hVs s2 s3, rfl, b5⟩
end Go.Proofs.Ytjbepojopfbajaa
