/- The program's tables: newTable, of, put. -/
import Derived.Test.YtojiomkinhnodaaRMem
namespace Go.Proofs.Ytojiomkinhnodaa
open Go.ChangeShapes Go.WideShapes Go.ChangeAt Go.RowKit Go.Maps
set_option linter.unusedVariables false
set_option linter.unusedSimpArgs false

theorem Bk.alloc {w : World} {b t : Nat} {cs : Array Value} (h : Bk w b t cs) (o : Obj) : Bk (w.alloc o) b t cs := h.of ((MapKept.heap_alloc w o).2 b h.lt)
theorem Bk.grown {w w' : World} {b t : Nat} {cs : Array Value} {row : Option Nat} (h : Bk w b t cs) (hg : w.grownBy w' row) (hr : some b ≠ row) : Bk w' b t cs := h.of (hg.block b h.lt hr)
theorem alloc_blk (w : World) (o : Obj) : w.heap.size < (w.alloc o).heap.size := by simp

theorem zeroSec (w : World) : (zeroValue 52).run Try.prog w = .ok Sec.zero.val w := by kernel_rfl
set_option maxHeartbeats 1000000 in
theorem newSec_any (w : World) : Calls Try.prog 63 #[] w fun e w' => ∃ b, e = .returned (.agg #[.map (some b)]) ∧ w.heap.size ≤ b ∧ Mp Sec.val w' b 0 (fun _ => none) ∧ Below w.heap.size w w' := by
  have hmm := @run_makeMap Try.prog
  have hK : Bk ((w.alloc (.cells #[.map (some (w.heap.size + 1))] 126)).alloc (.map #[] 0)) w.heap.size 126 #[.map (some (w.heap.size + 1))] := (Bk.new _ _ _).alloc _
  have hM : Mp Sec.val ((w.alloc (.cells #[.map (some (w.heap.size + 1))] 126)).alloc (.map #[] 0)) (w.heap.size + 1) 0 (fun _ => none) := by
    have := Mp.new (val := Sec.val) (w.alloc (.cells #[.map (some (w.heap.size + 1))] 126))
    simpa using this
  have hB : Below w.heap.size w ((w.alloc (.cells #[.map (some (w.heap.size + 1))] 126)).alloc (.map #[] 0)) := ((Below.refl _ _).alloc (Nat.le_refl _) _).alloc (by simp) _
  go_enter Try.func63, Try.ntmps63
  go_wp2
  refine bodyPost_ret (v := .agg #[.map (some (w.heap.size + 1))]) ?_ rfl ⟨_, rfl, by omega, hM, hB⟩
  exact results_cell_row (p := 0) (ty := 126) (by kernel_rfl) _ _ w.heap.size 126 _ (0, 0) _ (by kernel_rfl) hK.hp Try.underlying126 rfl (by kernel_rfl)
set_option maxHeartbeats 1000000 in
theorem ofSec_any {w : World} {b L : Nat} {m : ByteArray → Option Sec} (h : Mp Sec.val w b L m) (s : ByteArray) (hs : s.size ≤ maxLen) : Calls Try.prog 67 #[.agg #[.map (some b)], .string s] w fun e w' => e = .returned ((m s).getD Sec.zero).val ∧ Below w.heap.size w w' := by
  obtain ⟨u, hu⟩ : ∃ u, (m s).getD Sec.zero = u := ⟨_, rfl⟩
  have HH := fun (o : Obj) => h.alloc o
  have HH2 := fun (o o' : Obj) => (h.alloc o).alloc o'
  rw [hu]
  go_enter Try.func67, Try.ntmps67
  go_wp2_with (at_lookup; refine wpList_lookV rfl _ _ 124 rfl 52 Try.underlying124 (zeroSec _) rfl (HH2 _ _) rfl hs ?_; rw [hu])
  generalize hv1 : (w.alloc (.cells #[.map (some b)] 126)) = w1
  have hB1 : Below w.heap.size w w1 := by rw [← hv1]; exact (Below.refl _ _).alloc (Nat.le_refl _) _
  have hs1 : w1.heap.size = w.heap.size + 1 := by rw [← hv1]; simp
  rw [← hs1]
  refine bodyPost_ret (v := u.val) ?_ rfl ⟨rfl, hB1.alloc hB1.size _⟩
  exact results_cell_row (p := 4) (ty := 52) (by kernel_rfl) _ _ w1.heap.size 52 _ (0, 0) _ (by kernel_rfl) (heap_alloc_new w1 _) Try.underlying52 rfl (by kernel_rfl)
set_option maxHeartbeats 1000000 in
theorem putSec_any {w : World} {b L : Nat} {m : ByteArray → Option Sec} (h : Mp Sec.val w b L m) (hL : L < maxLen) (s : ByteArray) (hs : s.size ≤ maxLen) (u : Sec) : Calls Try.prog 65 #[.agg #[.map (some b)], .string s, u.val] w fun e w' => e = .returned (.tuple #[]) ∧ Mp Sec.val w' b (L + 1) (putN m s u) ∧ Turn (fun k => k = b) w w' := by
  have HH2 := fun (o o' : Obj) => (h.alloc o).alloc o'
  have T2 := fun (o o' : Obj) => ((Turn.refl (fun k => k = b) w).alloc o).alloc o'
  go_enter Try.func65, Try.ntmps65
  go_wp2_with (at_mapUpdate; refine wpList_putV rfl _ _ _ 124 rfl 52 Try.underlying124 rfl (HH2 _ _) hL rfl hs (u := u) rfl ?_; intro w3 h3 g3)
  go_end0
  exact ⟨rfl, h3, (T2 _ _).grown g3 (fun k _ e => by cases e; rfl)⟩
end Go.Proofs.Ytojiomkinhnodaa
