/- The law's Row: is a row the document's? -/
import Derived.Test.YtgldijohpfihaaaDoorCD11
import Derived.Deep.QuietTactic
import Derived.BigQuiet
namespace Go.Proofs.YtgldijohpfihaaaDoor
open Go.ChangeShapes Go.WideShapes Go.ChangeAt Go.RowKit
set_option linter.unusedVariables false
set_option linter.unusedSimpArgs false

theorem zc_at2 : ∀ (z : List (Int × Int)) (k : Nat), k < z.length → (zc z)[k * 2]? = some (.int .i64 (z.getD k (0, 0)).1) ∧ (zc z)[k * 2 + 1]? = some (.int .i64 (z.getD k (0, 0)).2)
  | [], k, h => by simp at h
  | a :: z, 0, _ => ⟨rfl, rfl⟩
  | a :: z, k + 1, h => by
    have := zc_at2 z k (by simpa using h)
    have e : zc (a :: z) = .int .i64 a.1 :: .int .i64 a.2 :: zc z := rfl
    rw [e, show (k + 1) * 2 = k * 2 + 1 + 1 by omega]
    simpa using this
theorem cells_at {x : Rw} (hx : Wf x) {k : Nat} (hk : k < 17) : x.cells[3 + k * 2]? = some (.int .i64 (x.z.getD k (0, 0)).1) ∧ x.cells[3 + k * 2 + 1]? = some (.int .i64 (x.z.getD k (0, 0)).2) := by
  have hl : x.z.length = 17 := hx
  have := zc_at2 x.z k (by omega)
  have e : x.cells = .int .i64 x.p :: .int .i64 x.r :: .int .i64 x.n :: zc x.z := rfl
  rw [e, show 3 + k * 2 = k * 2 + 1 + 1 + 1 by omega, show k * 2 + 1 + 1 + 1 + 1 = (k * 2 + 1) + 1 + 1 + 1 by omega]
  simpa using this
set_option maxRecDepth 10000 in
set_option maxHeartbeats 1000000 in
theorem lrow_any (x : Rw) (hx : Wf x) (w : World) :
    Calls Tryd.prog 16 #[.agg x.cells.toArray, .agg x.cells.toArray] w fun e w' => e = .returned (.bool true) ∧ Below w.heap.size w w' := by
  have hat : ∀ k : Nat, k < 17 → x.cells.toArray[3 + k * 2]? = some (.int .i64 (x.z.getD k (0, 0)).1) ∧ x.cells.toArray[3 + k * 2 + 1]? = some (.int .i64 (x.z.getD k (0, 0)).2) := fun k hk => by
    have := cells_at hx hk
    simpa using this
  have hp0 : x.cells.toArray[0]? = some (.int .i64 x.p) := by simp [Rw.cells]
  have hp1 : x.cells.toArray[1]? = some (.int .i64 x.r) := by simp [Rw.cells]
  have hp2 : x.cells.toArray[2]? = some (.int .i64 x.n) := by simp [Rw.cells]
  obtain ⟨C, hC⟩ : ∃ C, x.cells.toArray = C := ⟨_, rfl⟩
  simp only [hC] at hat hp0 hp1 hp2 ⊢
  clear hC
  obtain ⟨p, r, n, z⟩ := x
  dsimp only at hat hp0 hp1 hp2
  have N0 : Bk (w.alloc (.cells C 41)) w.heap.size 41 C := Bk.new w _ _
  have hs0 : (w.alloc (.cells C 41)).heap.size = w.heap.size + 1 := by simp
  have B0 : Below w.heap.size w (w.alloc (.cells C 41)) := (Below.refl _ _).alloc (Nat.le_refl _) _
  go_enter Tryd.func16, Tryd.ntmps16
  go_upto_region 1 with fail
  have NB : Bk ((w.alloc (.cells C 41)).alloc (.cells C 45)) (w.heap.size + 1) 45 C := by
    rw [← hs0]; exact Bk.new _ _ _
  have NA : Bk ((w.alloc (.cells C 41)).alloc (.cells C 45)) w.heap.size 41 C := N0.bel ((Below.refl _ _).alloc (Nat.le_refl _) _) (by omega)
  have B1 : Below w.heap.size w ((w.alloc (.cells C 41)).alloc (.cells C 45)) := B0.trans ((Below.refl _ _).alloc (by omega) _)
  have hlt1 := NB.lt
  generalize (w.alloc (.cells C 41)).alloc (.cells C 45) = W1 at *
  obtain ⟨bb, hbb⟩ : ∃ bb, w.heap.size + 1 = bb := ⟨_, rfl⟩
  obtain ⟨ba, hba⟩ : ∃ ba, w.heap.size = ba := ⟨_, rfl⟩
  have HA : Hid _ := ⟨NA⟩
  have HBk : Hid _ := ⟨NB⟩
  have HB1 : Hid _ := ⟨B1⟩
  have HAt : Hid _ := ⟨hat⟩
  have HP : Hid (C[0]? = some (.int .i64 p) ∧ C[1]? = some (.int .i64 r) ∧ C[2]? = some (.int .i64 n)) := ⟨hp0, hp1, hp2⟩
  clear NA NB B1 hat hp0 hp1 hp2 N0 B0 hs0 hlt1
  simp only [hbb] at HBk ⊢
  simp only [hba] at HA ⊢
  go_wp2
  go_loopw [5] (fun iv wr => ∃ k : Nat, k ≤ 17 ∧ iv = .int .i64 k ∧ Hid (Below W1.heap.size W1 wr)) (fun iv _ => 17 - (intOf iv).toNat)
  case atStart => exact ⟨0, by omega, rfl, ⟨Below.refl _ _⟩⟩
  case round =>
    obtain ⟨k, hk, rfl, HW⟩ := hrel
    have HAw : Hid _ := ⟨HA.out.bel HW.out HA.out.lt⟩
    have HBw : Hid _ := ⟨HBk.out.bel HW.out HBk.out.lt⟩
    by_cases hlt : k < 17
    · have i1 : (0 : Int) ≤ (k : Int) := by omega
      have i2 : (k : Int) < 17 := by omega
      obtain ⟨q1, q2⟩ := HAt.out k hlt
      have x0 := HAw.out.cell _ q1
      have x1 := HAw.out.cell _ q2
      have y0 := HBw.out.cell _ q1
      have y1 := HBw.out.cell _ q2
      clear q1 q2
      generalize (z.getD k (0, 0)).1 = z1 at *
      generalize (z.getD k (0, 0)).2 = z2 at *
      have e0 : (z1 != z1) = false := by simp
      have e1 : (z2 != z2) = false := by simp
      go_wp2
      go_quiet (fail)
      go_wp2
      go_roundw
      case rel => exact ⟨k + 1, hlt, by go_num, ⟨below_drewN HW.out _⟩⟩
      case measure => simp [intOf]; omega
    · obtain rfl : k = 17 := by omega
      have x0 := HAw.out.cell 0 HP.out.1
      have x1 := HAw.out.cell 1 HP.out.2.1
      have x2 := HAw.out.cell 2 HP.out.2.2
      have y0 := HBw.out.cell 0 HP.out.1
      have y1 := HBw.out.cell 1 HP.out.2.1
      have y2 := HBw.out.cell 2 HP.out.2.2
      have e0 : (p == p) = true := by simp
      have e1 : (r == r) = true := by simp
      have e2 : (n == n) = true := by simp
      go_wp2
      go_ret
      exact ⟨rfl, HB1.out.trans (HW.out.mono HB1.out.size)⟩
end Go.Proofs.YtgldijohpfihaaaDoor
