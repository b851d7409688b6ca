/- The contract of rowOf. -/
import Derived.Test.YtjbepojopfbajaaDTab
import Derived.Test.YtjbepojopfbajaaDSmall
import Derived.Deep.CutRange
namespace Go.Proofs.Ytjbepojopfbajaa
open Go.ChangeShapes Go.WideShapes Go.ChangeAt Go.RowKit
set_option linter.unusedVariables false
set_option linter.unusedSimpArgs false

/-- The row of an opcode. -/
def rowM (opc : Int) : Option Q := rowsQ.find? fun q => bits .andNot .i64 opc q.vr == q.code

def EndsQ (m : Option Q) (e : Ending) : Prop :=
  match m with
  | some q => e = .returned q.val
  | none => e = bad 30

theorem setRow_new (w : World) (old cs : Array Value) (t : TypeId) : (w.alloc (.cells old t)).setRow w.heap.size cs = w.alloc (.cells cs t) := World.setRow_alloc_new w old cs t

theorem store_tab (v : World) : Sem.run Try.prog (storeCells ⟨v.heap.size, 0, none⟩ tabD.toList) (v.alloc (.cells Try.zeroCells103 103)) = .ok () (v.alloc (.cells tabD 103)) := by
  have h := run_storeCells_from (P := Try.prog) v.heap.size 103 tabD.toList 0 Try.zeroCells103 (v.alloc (.cells Try.zeroCells103 103)) (heap_alloc_last v _) (by kernel_rfl) (fun x hx => (Array.all_eq_true_iff_forall_mem.1 (show tabD.all (·.oneCell') = true by kernel_rfl)) x (by simpa using hx))
  rw [h, List.take_zero, List.nil_append, Array.toArray_toList, setRow_new]

theorem flat13 : ∀ (l : List Q) (k j : Nat) (q : Q), j < 13 → l[k]? = some q → (l.flatMap Q.cells)[k * 13 + j]? = q.cells[j]?
  | [], k, j, q, _, h => by simp at h
  | x :: l, 0, j, q, hj, h => by
    simp at h; subst h
    rw [List.flatMap_cons, List.getElem?_append_left (by simp [Q.cells]; omega)]; simp
  | x :: l, k + 1, j, q, hj, h => by
    rw [List.flatMap_cons, List.getElem?_append_right (by simp [Q.cells]; omega)]
    have : (k + 1) * 13 + j - x.cells.length = k * 13 + j := by simp [Q.cells]; omega
    rw [this]
    exact flat13 l k j q hj (by simpa using h)

/-- What lies at a row's place. -/
theorem tab_at (k : Nat) (hk : k < 40) : ∃ q, rowsQ[k]? = some q ∧ ∀ j v, q.cells[j]? = some v → tabD[k * 13 + j]? = some v := by
  have hl : rowsQ.length = 40 := by kernel_rfl
  refine ⟨rowsQ[k]'(by omega), List.getElem?_eq_getElem _, fun j v hv => ?_⟩
  have hj : j < 13 := by
    have := (List.getElem?_eq_some_iff.1 hv).1
    simpa [Q.cells] using this
  have := flat13 rowsQ k j _ hj (List.getElem?_eq_getElem (by omega))
  rw [hv] at this
  rw [← this]
  simp [tabD]

theorem find_none (l : List Q) (p : Q → Bool) (h : ∀ (j : Nat) (q : Q), l[j]? = some q → p q = false) : l.find? p = none := by
  rw [List.find?_eq_none]
  intro x hx
  obtain ⟨j, hj, e⟩ := List.getElem_of_mem hx
  have := h j x (by rw [List.getElem?_eq_getElem hj, e])
  simp [this]
theorem find_at : ∀ (l : List Q) (p : Q → Bool) (k : Nat) (q : Q), l[k]? = some q → p q = true → (∀ j : Nat, j < k → ∀ q' : Q, l[j]? = some q' → p q' = false) → l.find? p = some q
  | [], p, k, q, h, _, _ => by simp at h
  | x :: l, p, 0, q, h, hp, _ => by simp at h; subst h; simp [hp]
  | x :: l, p, k + 1, q, h, hp, hn => by
    have hx := hn 0 (by omega) x (by simp)
    rw [List.find?_cons, hx]
    exact find_at l p k q (by simpa using h) hp (fun j hj q' hq' => hn (j + 1) (by omega) q' (by simpa using hq'))

theorem load_list (w : World) (b f : Nat) (vs : List Value) (h : ∀ j : Nat, ∀ v, vs[j]? = some v → w.cell? ⟨b, f + j, none⟩ = some v) :
    (loadCellsFrom ⟨b, f, none⟩ 0 vs.length #[]).run Try.prog w = .ok vs.toArray w := by
  have := run_loadCells_list (P := Try.prog) w ⟨b, f, none⟩ vs (fun j v hv => by
    have hadd : (⟨b, f, none⟩ : Addr).add j = ⟨b, f + j, none⟩ := by unfold Addr.add; split <;> simp_all
    rw [hadd]; exact h j v hv)
  simpa [loadCells] using this
theorem loadVar_of {w : World} {t : TypeId} {f : Array Field} {a : Addr} {n : Nat} {cs : Array Value} (hu : Try.prog.underlying t = some (.struct f)) (hi : (Try.prog.info? t).map (·.size) = some n)
    (hl : (loadCellsFrom a 0 n #[]).run Try.prog w = .ok cs w) : (loadVar t a).run Try.prog w = .ok (.agg cs) w := by
  cases hq : Try.prog.info? t with
  | none => simp [hq] at hi
  | some i =>
    have hs : i.size = n := by simpa [hq] using hi
    simp [loadVar, isAgg, run_underlying hu, sizeOf, typeInfo, hq, hs, loadCells, hl]
theorem size_row : (Try.prog.info? 95).map (·.size) = some 13 := by kernel_rfl
theorem under_row : Try.prog.underlying 95 = some (.struct (Try.prog.fieldsOf 95)) := by kernel_rfl

theorem len_rows : rowsQ.length = 40 := by kernel_rfl
abbrev zeroBox : Obj := .cells #[.int .i64 0, .int .i64 0, .int .u8 0, .int .u8 0, .int .u8 0, .int .u8 0, .int .u8 0, .int .u8 0, .int .u8 0, .int .u8 0, .int .i64 0, .int .i64 0, .nilFunc] 95

set_option maxHeartbeats 2000000 in
theorem rowOf_any (opc : Int) (w : World) :
    Calls Try.prog 50 #[.int .i64 opc] w fun e w' => EndsQ (rowM opc) e ∧ Below w.heap.size w w' := by
  have TB : Hid (∀ v, Calls Try.prog 68 #[] v fun e w' => e = .returned (.agg tabD) ∧ Below v.heap.size v w') := ⟨table_any⟩
  have ST := store_tab
  have hsz : tabD.size = 520 := by kernel_rfl
  have HT : Hid (∀ k, k < 40 → ∃ q, rowsQ[k]? = some q ∧ ∀ j v, q.cells[j]? = some v → tabD[k * 13 + j]? = some v) := ⟨tab_at⟩
  have HM : Hid (rowM opc = rowsQ.find? fun q => bits .andNot .i64 opc q.vr == q.code) := ⟨rfl⟩
  generalize rowM opc = m at *
  generalize tabD = T at *
  go_enter Try.func50, Try.ntmps50
  go_wp2_with (go_at_call 68; refine (TB.out _).mono ?_; rintro e w1 ⟨rfl, hb⟩)
  have HB0 : Hid (Below w.heap.size w w1) := ⟨(bel_alloc (Below.refl _ _) _).trans (hb.mono (by simp))⟩
  have HG : Hid (∀ u, Below (w1.heap.size + 1) (w1.alloc (.cells T 103)) u → ∀ j v, T[j]? = some v → u.cell? ⟨w1.heap.size, j, none⟩ = some v) := ⟨by
    intro u hu j v hv
    rw [hu.cell (p := ⟨w1.heap.size, j, none⟩) (by show w1.heap.size < _; omega)]
    simp only [World.cell?]; rw [heap_alloc_last]; exact hv⟩
  have HW : Hid (∀ u, Below (w1.heap.size + 1) (w1.alloc (.cells T 103)) u → ∀ n, (u.drewN n).heap[w.heap.size]? = some zeroBox) := ⟨by
    intro u hu n
    have hw : w.heap.size < w1.heap.size := by have := hb.size; simp at this; omega
    have b1 : Below w1.heap.size w1 (u.drewN n) := below_drewN ((bel_alloc (Below.refl w1.heap.size w1) _).trans (hu.mono (by omega))) n
    rw [b1.block _ hw, hb.block _ (by simp)]
    exact heap_alloc_last w _⟩
  go_loopw [6] (fun i wr => ∃ k : Nat, k ≤ 40 ∧ i = .int .i64 k ∧ Hid ((∀ j, j < k → ∀ q, rowsQ[j]? = some q → (bits .andNot .i64 opc q.vr == q.code) = false) ∧ Below (w1.heap.size + 1) (w1.alloc (.cells T 103)) wr)) (fun i _ => 41 - (intOf i).toNat)
  case atStart => exact ⟨0, by omega, rfl, ⟨fun j hj => by omega, Below.refl _ _⟩⟩
  case round =>
    obtain ⟨k, hk, rfl, HX⟩ := hrel
    by_cases hlt : k < 40
    · have hlt' : (k : Int) < 40 := by omega
      have k0 : (0 : Int) ≤ (k : Int) := by omega
      obtain ⟨q, hq, hcs⟩ := HT.out k hlt
      have HC : ∀ j v, q.cells[j]? = some v → wr.cell? ⟨w1.heap.size, k * 13 + j, none⟩ = some v := fun j v hv => HG.out wr HX.out.2 _ v (hcs j v hv)
      have c0 : wr.cell? ⟨w1.heap.size, k * 13, none⟩ = some (.int .i64 q.code) := HC 0 _ rfl
      have c1 := HC 1 _ rfl
      have HQ : Hid (rowsQ[k]? = some q) := ⟨hq⟩
      cases ht : (bits .andNot .i64 opc q.vr == q.code)
      · clear HC hcs hq
        go_wp2
        go_quiet (fail)
        go_wp2
        go_roundw
        case rel =>
          refine ⟨k + 1, by omega, by go_num, ⟨fun j hj q' hq' => ?_, below_drewN HX.out.2 _⟩⟩
          by_cases hjk : j = k
          · subst hjk
            rw [HQ.out] at hq'; cases hq'; exact ht
          · exact HX.out.1 j (by omega) q' hq'
        case measure => simp [intOf]; omega
      · have hld : ∀ n, (loadVar 95 ⟨w1.heap.size, k * 13, none⟩).run Try.prog (wr.drewN n) = .ok q.val (wr.drewN n) := fun n =>
          loadVar_of under_row size_row (load_list (wr.drewN n) w1.heap.size (k * 13) q.cells fun j v hv => HC j v hv)
        have hz : ∀ n, (wr.drewN n).heap[w.heap.size]? = some zeroBox := HW.out wr HX.out.2
        have b1 : Hid (Below w.heap.size w wr) := ⟨(HB0.out.alloc HB0.out.size _).trans (HX.out.2.mono (by have := HB0.out.size; omega))⟩
        clear HC hcs hq
        go_wp2
        go_quiet (fail)
        go_upto_region 6 with (fail)
        iterate 7 go_step
        refine wpList_load_of (p := ⟨w1.heap.size, k * 13, none⟩) rfl (by kernel_rfl) (by kernel_rfl) (hld _) ?_
        refine wpList_store_row rfl _ _ _ rfl w.heap.size #[.int .i64 q.code, .int .i64 q.vr, .int .u8 q.o0, .int .u8 q.o1, .int .u8 q.o2, .int .u8 q.o3, .int .u8 q.o4, .int .u8 q.o5, .int .u8 q.o6, .int .u8 q.o7, .int .i64 q.size, .int .i64 q.bes, .func (.func q.f) #[] #[]] (by kernel_rfl) (by kernel_rfl) 95 _ (hz _) (by kernel_rfl) (by kernel_rfl) (by kernel_rfl) ?_
        refine wpList_nil ?_
        have h3 := setRow_heap (wr.drewN nq) w.heap.size _ #[.int .i64 q.code, .int .i64 q.vr, .int .u8 q.o0, .int .u8 q.o1, .int .u8 q.o2, .int .u8 q.o3, .int .u8 q.o4, .int .u8 q.o5, .int .u8 q.o6, .int .u8 q.o7, .int .i64 q.size, .int .i64 q.bes, .func (.func q.f) #[] #[]] _ _ (hz nq)
        iterate 3 go_step
        show bodyPost Try.prog Try.f50 (fun e w' => EndsQ m e ∧ Below w.heap.size w w') Exit.ret _ _
        refine bodyPost_ret (v := q.val) (results_cell_row (p := 2) (ty := 95) Try.results50 _ _ w.heap.size 95 #[.int .i64 q.code, .int .i64 q.vr, .int .u8 q.o0, .int .u8 q.o1, .int .u8 q.o2, .int .u8 q.o3, .int .u8 q.o4, .int .u8 q.o5, .int .u8 q.o6, .int .u8 q.o7, .int .i64 q.size, .int .i64 q.bes, .func (.func q.f) #[] #[]] (0, 0) _ (by kernel_rfl) h3 Try.underlying95 rfl (by kernel_rfl)) (by kernel_rfl) ⟨?_, ?_⟩
        · rw [HM.out, find_at rowsQ _ k q HQ.out ht HX.out.1]; rfl
        · exact (below_drewN b1.out nq).trans ⟨rfl, rfl, rfl, by simp, fun j hj => setRow_other _ w.heap.size j _ (by omega)⟩
    · obtain rfl : k = 40 := by omega
      go_wp2
      refine ⟨rfl, ?_, (HB0.out.alloc HB0.out.size _).trans (HX.out.2.mono (by have := HB0.out.size; omega))⟩
      rw [HM.out, find_none]
      · rfl
      · intro j q hq
        exact HX.out.1 j (by have h1 := (List.getElem?_eq_some_iff.1 hq).1; rw [len_rows] at h1; exact h1) q hq
end Go.Proofs.Ytjbepojopfbajaa
