/- The document's memory: beside rip, and in fs. -/
import Derived.Test.YtdgejingoamfeaaDoorRefReg
namespace Go.Proofs.YtdgejingoamfeaaDoor
open Go.ChangeShapes Go.WideShapes Go.ChangeAt Go.RowKit
set_option linter.unusedVariables false
set_option linter.unusedSimpArgs false

theorem OA.out10 {w : World} {B : Nat} {k r b x s n m : Int} {rip fs : Bool} {nm : ByteArray} (h : OA w B ⟨k, r, b, x, s, rip, fs, n, nm, m⟩) : w.cell? ⟨B, 0, none⟩ = some (.int .i64 k) ∧ w.cell? ⟨B, 1, none⟩ = some (.int .i64 r) ∧ w.cell? ⟨B, 2, none⟩ = some (.int .i64 b) ∧ w.cell? ⟨B, 3, none⟩ = some (.int .i64 x) ∧ w.cell? ⟨B, 4, none⟩ = some (.int .i64 s) ∧ w.cell? ⟨B, 5, none⟩ = some (.bool rip) ∧ w.cell? ⟨B, 6, none⟩ = some (.bool fs) ∧ w.cell? ⟨B, 7, none⟩ = some (.int .i64 n) ∧ w.cell? ⟨B, 8, none⟩ = some (.string nm) ∧ w.cell? ⟨B, 9, none⟩ = some (.int .i64 m) :=
  ⟨h.c0, h.c1, h.c2, h.c3, h.c4, h.c5, h.c6, h.c7, h.c8, h.c9⟩

set_option maxHeartbeats 2000000 in
theorem refMem_none_rip (k r b x s n m : Int) (nm md sg it g1 g2 dg z : ByteArray) (hz : nm.size ≤ 255 ∧ md.size ≤ 9 ∧ sg.size ≤ 22 ∧ it.size ≤ 21 ∧ g1.size ≤ 4 ∧ g2.size ≤ 4 ∧ dg.size ≤ 21) (he : nm.toList.isEmpty = true) (h0 : (n != 0) = false) (HR : Hid (z = ⟨#[40, 37, 114, 105, 112, 41]⟩)) (w : World) :
    Calls Tryd.prog 53 #[.agg #[.int .i64 k, .int .i64 r, .int .i64 b, .int .i64 x, .int .i64 s, .bool true, .bool false, .int .i64 n, .string nm, .int .i64 m]] w fun e w' => e = .returned (.string z) ∧ Below w.heap.size w w' := by
  obtain ⟨y1, y2, y3, y4, y5, y6, y7⟩ := hz
  have k1 : (⟨#[]⟩ : ByteArray).size = 0 := rfl
  have k2 : (⟨#[40, 37, 114, 105, 112, 41]⟩ : ByteArray).size = 6 := rfl
  have S0 : ∀ v, (Op.stringOp .add ⟨#[]⟩ ⟨#[40, 37, 114, 105, 112, 41]⟩).run Tryd.prog v = .ok (.string ⟨#[40, 37, 114, 105, 112, 41]⟩) v := fun v => (run_string_add_sum v _ _ (by omega)).trans (by rw [show (⟨#[]⟩ : ByteArray) ++ ⟨#[40, 37, 114, 105, 112, 41]⟩ = ⟨#[40, 37, 114, 105, 112, 41]⟩ from ByteArray.empty_append])
  have A : Hid (OA (w.alloc (.cells #[.int .i64 k, .int .i64 r, .int .i64 b, .int .i64 x, .int .i64 s, .bool true, .bool false, .int .i64 n, .string nm, .int .i64 m] 23)) w.heap.size (⟨k, r, b, x, s, true, false, n, nm, m⟩ : O) ∧ Below w.heap.size w (w.alloc (.cells #[.int .i64 k, .int .i64 r, .int .i64 b, .int .i64 x, .int .i64 s, .bool true, .bool false, .int .i64 n, .string nm, .int .i64 m] 23))) := ⟨OA.new w (⟨k, r, b, x, s, true, false, n, nm, m⟩ : O) 23, bel_alloc (Below.refl _ _) _⟩
  clear y1 y2 y3 y4 y5 y6 y7
  clear k1 k2
  go_enter Tryd.func53, Tryd.ntmps53
  go_wp2
  go_ret
  exact ⟨ret_str HR.out.symm, A.out.2⟩

set_option maxHeartbeats 2000000 in
theorem refMem_num_rip (k r b x s n m : Int) (nm md sg it g1 g2 dg z : ByteArray) (hz : nm.size ≤ 255 ∧ md.size ≤ 9 ∧ sg.size ≤ 22 ∧ it.size ≤ 21 ∧ g1.size ≤ 4 ∧ g2.size ≤ 4 ∧ dg.size ≤ 21) (he : nm.toList.isEmpty = true) (h0 : (n != 0) = true) (HI : Hid (∀ v, Calls Tryd.prog 52 #[.int .i64 n] v fun e w' => e = .returned (.string it) ∧ Below v.heap.size v w')) (HR : Hid (z = (it ++ ⟨#[40, 37, 114, 105, 112, 41]⟩))) (w : World) :
    Calls Tryd.prog 53 #[.agg #[.int .i64 k, .int .i64 r, .int .i64 b, .int .i64 x, .int .i64 s, .bool true, .bool false, .int .i64 n, .string nm, .int .i64 m]] w fun e w' => e = .returned (.string z) ∧ Below w.heap.size w w' := by
  obtain ⟨y1, y2, y3, y4, y5, y6, y7⟩ := hz
  have k1 : (⟨#[]⟩ : ByteArray).size = 0 := rfl
  have k2 : (⟨#[40, 37, 114, 105, 112, 41]⟩ : ByteArray).size = 6 := rfl
  have S0 : ∀ v, (Op.stringOp .add ⟨#[]⟩ it).run Tryd.prog v = .ok (.string it) v := fun v => (run_string_add_sum v _ _ (by omega)).trans (by rw [show (⟨#[]⟩ : ByteArray) ++ it = it from ByteArray.empty_append])
  have S1 : ∀ v, (Op.stringOp .add it ⟨#[40, 37, 114, 105, 112, 41]⟩).run Tryd.prog v = .ok (.string (it ++ ⟨#[40, 37, 114, 105, 112, 41]⟩)) v := fun v => run_string_add_sum v _ _ (by (try simp only [ByteArray.size_append]); omega)
  have A : Hid (OA (w.alloc (.cells #[.int .i64 k, .int .i64 r, .int .i64 b, .int .i64 x, .int .i64 s, .bool true, .bool false, .int .i64 n, .string nm, .int .i64 m] 23)) w.heap.size (⟨k, r, b, x, s, true, false, n, nm, m⟩ : O) ∧ Below w.heap.size w (w.alloc (.cells #[.int .i64 k, .int .i64 r, .int .i64 b, .int .i64 x, .int .i64 s, .bool true, .bool false, .int .i64 n, .string nm, .int .i64 m] 23))) := ⟨OA.new w (⟨k, r, b, x, s, true, false, n, nm, m⟩ : O) 23, bel_alloc (Below.refl _ _) _⟩
  clear y1 y2 y3 y4 y5 y6 y7
  clear k1 k2
  go_enter Tryd.func53, Tryd.ntmps53
  go_wp2_with (first | (go_at_call 52; refine (HI.out _).mono ?_; rintro e u ⟨rfl, hb⟩; have A : Hid (OA u w.heap.size (⟨k, r, b, x, s, true, false, n, nm, m⟩ : O) ∧ Below w.heap.size w u) := ⟨A.out.1.bel hb, bel_trans A.out.2 hb⟩; clear hb; (try clear c0 c1 c2 c3 c4 c5 c6 c7 c8 c9); obtain ⟨c0, c1, c2, c3, c4, c5, c6, c7, c8, c9⟩ := OA.out10 A.out.1))
  go_ret
  exact ⟨ret_str HR.out.symm, A.out.2⟩

set_option maxHeartbeats 2000000 in
theorem refMem_name_rip (k r b x s n m : Int) (nm md sg it g1 g2 dg z : ByteArray) (hz : nm.size ≤ 255 ∧ md.size ≤ 9 ∧ sg.size ≤ 22 ∧ it.size ≤ 21 ∧ g1.size ≤ 4 ∧ g2.size ≤ 4 ∧ dg.size ≤ 21) (he : nm.toList.isEmpty = false) (h0 : (n != 0) = false) (HM : Hid (∀ v, Calls Tryd.prog 54 #[.int .i64 m] v fun e w' => e = .returned (.string md) ∧ Below v.heap.size v w')) (HR : Hid (z = ((nm ++ md) ++ ⟨#[40, 37, 114, 105, 112, 41]⟩))) (w : World) :
    Calls Tryd.prog 53 #[.agg #[.int .i64 k, .int .i64 r, .int .i64 b, .int .i64 x, .int .i64 s, .bool true, .bool false, .int .i64 n, .string nm, .int .i64 m]] w fun e w' => e = .returned (.string z) ∧ Below w.heap.size w w' := by
  obtain ⟨y1, y2, y3, y4, y5, y6, y7⟩ := hz
  have k1 : (⟨#[]⟩ : ByteArray).size = 0 := rfl
  have k2 : (⟨#[40, 37, 114, 105, 112, 41]⟩ : ByteArray).size = 6 := rfl
  have S0 : ∀ v, (Op.stringOp .add ⟨#[]⟩ nm).run Tryd.prog v = .ok (.string nm) v := fun v => (run_string_add_sum v _ _ (by omega)).trans (by rw [show (⟨#[]⟩ : ByteArray) ++ nm = nm from ByteArray.empty_append])
  have S1 : ∀ v, (Op.stringOp .add nm md).run Tryd.prog v = .ok (.string (nm ++ md)) v := fun v => run_string_add_sum v _ _ (by (try simp only [ByteArray.size_append]); omega)
  have S2 : ∀ v, (Op.stringOp .add (nm ++ md) ⟨#[40, 37, 114, 105, 112, 41]⟩).run Tryd.prog v = .ok (.string ((nm ++ md) ++ ⟨#[40, 37, 114, 105, 112, 41]⟩)) v := fun v => run_string_add_sum v _ _ (by (try simp only [ByteArray.size_append]); omega)
  have A : Hid (OA (w.alloc (.cells #[.int .i64 k, .int .i64 r, .int .i64 b, .int .i64 x, .int .i64 s, .bool true, .bool false, .int .i64 n, .string nm, .int .i64 m] 23)) w.heap.size (⟨k, r, b, x, s, true, false, n, nm, m⟩ : O) ∧ Below w.heap.size w (w.alloc (.cells #[.int .i64 k, .int .i64 r, .int .i64 b, .int .i64 x, .int .i64 s, .bool true, .bool false, .int .i64 n, .string nm, .int .i64 m] 23))) := ⟨OA.new w (⟨k, r, b, x, s, true, false, n, nm, m⟩ : O) 23, bel_alloc (Below.refl _ _) _⟩
  clear y1 y2 y3 y4 y5 y6 y7
  clear k1 k2
  go_enter Tryd.func53, Tryd.ntmps53
  go_wp2
  generalize (w.alloc (.cells #[.int .i64 k, .int .i64 r, .int .i64 b, .int .i64 x, .int .i64 s, .bool true, .bool false, .int .i64 n, .string nm, .int .i64 m] 23)) = v at *
  have hA0 : OA v.drew w.heap.size (⟨k, r, b, x, s, true, false, n, nm, m⟩ : O) ∧ Below w.heap.size w v.drew := ⟨A.out.1.bel (bel_drew _), A.out.2.drew⟩
  have K : v.drew.cell? ⟨w.heap.size, 8, none⟩ = some (.string nm) ∧ v.drew.cell? ⟨w.heap.size, 9, none⟩ = some (.int .i64 m) ∧ Hid (OA v.drew w.heap.size (⟨k, r, b, x, s, true, false, n, nm, m⟩ : O) ∧ Below w.heap.size w v.drew) := ⟨(hA0).1.c8, (hA0).1.c9, ⟨hA0⟩⟩
  have HK : Hid (∀ v u : World, (v.cell? ⟨w.heap.size, 8, none⟩ = some (.string nm) ∧ v.cell? ⟨w.heap.size, 9, none⟩ = some (.int .i64 m) ∧ Hid (OA v w.heap.size (⟨k, r, b, x, s, true, false, n, nm, m⟩ : O) ∧ Below w.heap.size w v)) → Below v.heap.size v u → (u.cell? ⟨w.heap.size, 8, none⟩ = some (.string nm) ∧ u.cell? ⟨w.heap.size, 9, none⟩ = some (.int .i64 m) ∧ Hid (OA u w.heap.size (⟨k, r, b, x, s, true, false, n, nm, m⟩ : O) ∧ Below w.heap.size w u))) := ⟨fun v u h hb => by
    have g := h.2.2.out
    have a : OA u w.heap.size (⟨k, r, b, x, s, true, false, n, nm, m⟩ : O) ∧ Below w.heap.size w u := ⟨g.1.bel hb, bel_trans g.2 hb⟩
    exact ⟨(a).1.c8, (a).1.c9, ⟨a⟩⟩⟩
  have HL : Hid (∀ v : World, (v.cell? ⟨w.heap.size, 8, none⟩ = some (.string nm) ∧ v.cell? ⟨w.heap.size, 9, none⟩ = some (.int .i64 m) ∧ Hid (OA v w.heap.size (⟨k, r, b, x, s, true, false, n, nm, m⟩ : O) ∧ Below w.heap.size w v)) → OA v w.heap.size (⟨k, r, b, x, s, true, false, n, nm, m⟩ : O) ∧ Below w.heap.size w v) := ⟨fun v h => h.2.2.out⟩
  clear A hA0
  go_region_held3 (fun v => v.cell? ⟨w.heap.size, 8, none⟩ = some (.string nm) ∧ v.cell? ⟨w.heap.size, 9, none⟩ = some (.int .i64 m) ∧ Hid (OA v w.heap.size (⟨k, r, b, x, s, true, false, n, nm, m⟩ : O) ∧ Below w.heap.size w v))
    (first | (with_reducible assumption) | exact HK.out _ _ (by with_reducible assumption) hb)
    (first | (go_at_call 54; refine (HM.out _).mono ?_; rintro e wp ⟨rfl, hb⟩))
  have A := hid (HL.out _ (by with_reducible assumption))
  clear HL HK
  obtain ⟨c0, c1, c2, c3, c4, c5, c6, c7, c8, c9⟩ := OA.out10 A.out.1
  go_wp2
  go_ret
  exact ⟨ret_str HR.out.symm, A.out.2⟩

set_option maxHeartbeats 2000000 in
theorem refMem_both_rip (k r b x s n m : Int) (nm md sg it g1 g2 dg z : ByteArray) (hz : nm.size ≤ 255 ∧ md.size ≤ 9 ∧ sg.size ≤ 22 ∧ it.size ≤ 21 ∧ g1.size ≤ 4 ∧ g2.size ≤ 4 ∧ dg.size ≤ 21) (he : nm.toList.isEmpty = false) (h0 : (n != 0) = true) (HM : Hid (∀ v, Calls Tryd.prog 54 #[.int .i64 m] v fun e w' => e = .returned (.string md) ∧ Below v.heap.size v w')) (HS : Hid (∀ v, Calls Tryd.prog 55 #[.int .i64 n] v fun e w' => e = .returned (.string sg) ∧ Below v.heap.size v w')) (HR : Hid (z = (((nm ++ md) ++ sg) ++ ⟨#[40, 37, 114, 105, 112, 41]⟩))) (w : World) :
    Calls Tryd.prog 53 #[.agg #[.int .i64 k, .int .i64 r, .int .i64 b, .int .i64 x, .int .i64 s, .bool true, .bool false, .int .i64 n, .string nm, .int .i64 m]] w fun e w' => e = .returned (.string z) ∧ Below w.heap.size w w' := by
  obtain ⟨y1, y2, y3, y4, y5, y6, y7⟩ := hz
  have k1 : (⟨#[]⟩ : ByteArray).size = 0 := rfl
  have k2 : (⟨#[40, 37, 114, 105, 112, 41]⟩ : ByteArray).size = 6 := rfl
  have S0 : ∀ v, (Op.stringOp .add ⟨#[]⟩ nm).run Tryd.prog v = .ok (.string nm) v := fun v => (run_string_add_sum v _ _ (by omega)).trans (by rw [show (⟨#[]⟩ : ByteArray) ++ nm = nm from ByteArray.empty_append])
  have S1 : ∀ v, (Op.stringOp .add nm md).run Tryd.prog v = .ok (.string (nm ++ md)) v := fun v => run_string_add_sum v _ _ (by (try simp only [ByteArray.size_append]); omega)
  have S2 : ∀ v, (Op.stringOp .add (nm ++ md) sg).run Tryd.prog v = .ok (.string ((nm ++ md) ++ sg)) v := fun v => run_string_add_sum v _ _ (by (try simp only [ByteArray.size_append]); omega)
  have S3 : ∀ v, (Op.stringOp .add ((nm ++ md) ++ sg) ⟨#[40, 37, 114, 105, 112, 41]⟩).run Tryd.prog v = .ok (.string (((nm ++ md) ++ sg) ++ ⟨#[40, 37, 114, 105, 112, 41]⟩)) v := fun v => run_string_add_sum v _ _ (by (try simp only [ByteArray.size_append]); omega)
  have A : Hid (OA (w.alloc (.cells #[.int .i64 k, .int .i64 r, .int .i64 b, .int .i64 x, .int .i64 s, .bool true, .bool false, .int .i64 n, .string nm, .int .i64 m] 23)) w.heap.size (⟨k, r, b, x, s, true, false, n, nm, m⟩ : O) ∧ Below w.heap.size w (w.alloc (.cells #[.int .i64 k, .int .i64 r, .int .i64 b, .int .i64 x, .int .i64 s, .bool true, .bool false, .int .i64 n, .string nm, .int .i64 m] 23))) := ⟨OA.new w (⟨k, r, b, x, s, true, false, n, nm, m⟩ : O) 23, bel_alloc (Below.refl _ _) _⟩
  clear y1 y2 y3 y4 y5 y6 y7
  clear k1 k2
  go_enter Tryd.func53, Tryd.ntmps53
  go_wp2
  generalize (w.alloc (.cells #[.int .i64 k, .int .i64 r, .int .i64 b, .int .i64 x, .int .i64 s, .bool true, .bool false, .int .i64 n, .string nm, .int .i64 m] 23)) = v at *
  have hA0 : OA v.drew w.heap.size (⟨k, r, b, x, s, true, false, n, nm, m⟩ : O) ∧ Below w.heap.size w v.drew := ⟨A.out.1.bel (bel_drew _), A.out.2.drew⟩
  have K : v.drew.cell? ⟨w.heap.size, 8, none⟩ = some (.string nm) ∧ v.drew.cell? ⟨w.heap.size, 9, none⟩ = some (.int .i64 m) ∧ Hid (OA v.drew w.heap.size (⟨k, r, b, x, s, true, false, n, nm, m⟩ : O) ∧ Below w.heap.size w v.drew) := ⟨(hA0).1.c8, (hA0).1.c9, ⟨hA0⟩⟩
  have HK : Hid (∀ v u : World, (v.cell? ⟨w.heap.size, 8, none⟩ = some (.string nm) ∧ v.cell? ⟨w.heap.size, 9, none⟩ = some (.int .i64 m) ∧ Hid (OA v w.heap.size (⟨k, r, b, x, s, true, false, n, nm, m⟩ : O) ∧ Below w.heap.size w v)) → Below v.heap.size v u → (u.cell? ⟨w.heap.size, 8, none⟩ = some (.string nm) ∧ u.cell? ⟨w.heap.size, 9, none⟩ = some (.int .i64 m) ∧ Hid (OA u w.heap.size (⟨k, r, b, x, s, true, false, n, nm, m⟩ : O) ∧ Below w.heap.size w u))) := ⟨fun v u h hb => by
    have g := h.2.2.out
    have a : OA u w.heap.size (⟨k, r, b, x, s, true, false, n, nm, m⟩ : O) ∧ Below w.heap.size w u := ⟨g.1.bel hb, bel_trans g.2 hb⟩
    exact ⟨(a).1.c8, (a).1.c9, ⟨a⟩⟩⟩
  have HL : Hid (∀ v : World, (v.cell? ⟨w.heap.size, 8, none⟩ = some (.string nm) ∧ v.cell? ⟨w.heap.size, 9, none⟩ = some (.int .i64 m) ∧ Hid (OA v w.heap.size (⟨k, r, b, x, s, true, false, n, nm, m⟩ : O) ∧ Below w.heap.size w v)) → OA v w.heap.size (⟨k, r, b, x, s, true, false, n, nm, m⟩ : O) ∧ Below w.heap.size w v) := ⟨fun v h => h.2.2.out⟩
  clear A hA0
  go_region_held3 (fun v => v.cell? ⟨w.heap.size, 8, none⟩ = some (.string nm) ∧ v.cell? ⟨w.heap.size, 9, none⟩ = some (.int .i64 m) ∧ Hid (OA v w.heap.size (⟨k, r, b, x, s, true, false, n, nm, m⟩ : O) ∧ Below w.heap.size w v))
    (first | (with_reducible assumption) | exact HK.out _ _ (by with_reducible assumption) hb)
    (first | (go_at_call 54; refine (HM.out _).mono ?_; rintro e wp ⟨rfl, hb⟩))
  have A := hid (HL.out _ (by with_reducible assumption))
  clear HL HK
  obtain ⟨c0, c1, c2, c3, c4, c5, c6, c7, c8, c9⟩ := OA.out10 A.out.1
  go_wp2_with (first | (go_at_call 55; refine (HS.out _).mono ?_; rintro e u ⟨rfl, hb⟩; have A : Hid (OA u w.heap.size (⟨k, r, b, x, s, true, false, n, nm, m⟩ : O) ∧ Below w.heap.size w u) := ⟨A.out.1.bel hb, bel_trans A.out.2 hb⟩; clear hb; (try clear c0 c1 c2 c3 c4 c5 c6 c7 c8 c9); obtain ⟨c0, c1, c2, c3, c4, c5, c6, c7, c8, c9⟩ := OA.out10 A.out.1))
  go_ret
  exact ⟨ret_str HR.out.symm, A.out.2⟩

set_option maxHeartbeats 2000000 in
theorem refMem_num_none_fs (k r b x s n m : Int) (nm md sg it g1 g2 dg z : ByteArray) (q : Bool) (hz : nm.size ≤ 255 ∧ md.size ≤ 9 ∧ sg.size ≤ 22 ∧ it.size ≤ 21 ∧ g1.size ≤ 4 ∧ g2.size ≤ 4 ∧ dg.size ≤ 21) (he : nm.toList.isEmpty = true) (h0 : (n != 0) = q) (hb0 : b < 0) (HI : Hid (∀ v, Calls Tryd.prog 52 #[.int .i64 n] v fun e w' => e = .returned (.string it) ∧ Below v.heap.size v w')) (HR : Hid (z = (⟨#[37, 102, 115, 58]⟩ ++ it))) (w : World) :
    Calls Tryd.prog 53 #[.agg #[.int .i64 k, .int .i64 r, .int .i64 b, .int .i64 x, .int .i64 s, .bool false, .bool true, .int .i64 n, .string nm, .int .i64 m]] w fun e w' => e = .returned (.string z) ∧ Below w.heap.size w w' := by
  obtain ⟨y1, y2, y3, y4, y5, y6, y7⟩ := hz
  have k1 : (⟨#[37, 102, 115, 58]⟩ : ByteArray).size = 4 := rfl
  have S0 : ∀ v, (Op.stringOp .add ⟨#[37, 102, 115, 58]⟩ it).run Tryd.prog v = .ok (.string (⟨#[37, 102, 115, 58]⟩ ++ it)) v := fun v => run_string_add_sum v _ _ (by (try simp only [ByteArray.size_append]); omega)
  have A : Hid (OA (w.alloc (.cells #[.int .i64 k, .int .i64 r, .int .i64 b, .int .i64 x, .int .i64 s, .bool false, .bool true, .int .i64 n, .string nm, .int .i64 m] 23)) w.heap.size (⟨k, r, b, x, s, false, true, n, nm, m⟩ : O) ∧ Below w.heap.size w (w.alloc (.cells #[.int .i64 k, .int .i64 r, .int .i64 b, .int .i64 x, .int .i64 s, .bool false, .bool true, .int .i64 n, .string nm, .int .i64 m] 23))) := ⟨OA.new w (⟨k, r, b, x, s, false, true, n, nm, m⟩ : O) 23, bel_alloc (Below.refl _ _) _⟩
  clear y1 y2 y3 y4 y5 y6 y7
  clear k1
  rcases q with _ | _
  all_goals
    go_enter Tryd.func53, Tryd.ntmps53
    go_wp2_with (first | (go_at_call 52; refine (HI.out _).mono ?_; rintro e u ⟨rfl, hb⟩; have A : Hid (OA u w.heap.size (⟨k, r, b, x, s, false, true, n, nm, m⟩ : O) ∧ Below w.heap.size w u) := ⟨A.out.1.bel hb, bel_trans A.out.2 hb⟩; clear hb; (try clear c0 c1 c2 c3 c4 c5 c6 c7 c8 c9); obtain ⟨c0, c1, c2, c3, c4, c5, c6, c7, c8, c9⟩ := OA.out10 A.out.1))
    go_ret
    exact ⟨ret_str HR.out.symm, A.out.2⟩

set_option maxHeartbeats 2000000 in
theorem refMem_name_none_fs (k r b x s n m : Int) (nm md sg it g1 g2 dg z : ByteArray) (hz : nm.size ≤ 255 ∧ md.size ≤ 9 ∧ sg.size ≤ 22 ∧ it.size ≤ 21 ∧ g1.size ≤ 4 ∧ g2.size ≤ 4 ∧ dg.size ≤ 21) (he : nm.toList.isEmpty = false) (h0 : (n != 0) = false) (hb0 : b < 0) (HM : Hid (∀ v, Calls Tryd.prog 54 #[.int .i64 m] v fun e w' => e = .returned (.string md) ∧ Below v.heap.size v w')) (HR : Hid (z = ((⟨#[37, 102, 115, 58]⟩ ++ nm) ++ md))) (w : World) :
    Calls Tryd.prog 53 #[.agg #[.int .i64 k, .int .i64 r, .int .i64 b, .int .i64 x, .int .i64 s, .bool false, .bool true, .int .i64 n, .string nm, .int .i64 m]] w fun e w' => e = .returned (.string z) ∧ Below w.heap.size w w' := by
  obtain ⟨y1, y2, y3, y4, y5, y6, y7⟩ := hz
  have k1 : (⟨#[37, 102, 115, 58]⟩ : ByteArray).size = 4 := rfl
  have S0 : ∀ v, (Op.stringOp .add ⟨#[37, 102, 115, 58]⟩ nm).run Tryd.prog v = .ok (.string (⟨#[37, 102, 115, 58]⟩ ++ nm)) v := fun v => run_string_add_sum v _ _ (by (try simp only [ByteArray.size_append]); omega)
  have S1 : ∀ v, (Op.stringOp .add (⟨#[37, 102, 115, 58]⟩ ++ nm) md).run Tryd.prog v = .ok (.string ((⟨#[37, 102, 115, 58]⟩ ++ nm) ++ md)) v := fun v => run_string_add_sum v _ _ (by (try simp only [ByteArray.size_append]); omega)
  have A : Hid (OA (w.alloc (.cells #[.int .i64 k, .int .i64 r, .int .i64 b, .int .i64 x, .int .i64 s, .bool false, .bool true, .int .i64 n, .string nm, .int .i64 m] 23)) w.heap.size (⟨k, r, b, x, s, false, true, n, nm, m⟩ : O) ∧ Below w.heap.size w (w.alloc (.cells #[.int .i64 k, .int .i64 r, .int .i64 b, .int .i64 x, .int .i64 s, .bool false, .bool true, .int .i64 n, .string nm, .int .i64 m] 23))) := ⟨OA.new w (⟨k, r, b, x, s, false, true, n, nm, m⟩ : O) 23, bel_alloc (Below.refl _ _) _⟩
  clear y1 y2 y3 y4 y5 y6 y7
  clear k1
  go_enter Tryd.func53, Tryd.ntmps53
  go_wp2
  generalize (w.alloc (.cells #[.int .i64 k, .int .i64 r, .int .i64 b, .int .i64 x, .int .i64 s, .bool false, .bool true, .int .i64 n, .string nm, .int .i64 m] 23)) = v at *
  have hA0 : OA v.drew w.heap.size (⟨k, r, b, x, s, false, true, n, nm, m⟩ : O) ∧ Below w.heap.size w v.drew := ⟨A.out.1.bel (bel_drew _), A.out.2.drew⟩
  have K : v.drew.cell? ⟨w.heap.size, 8, none⟩ = some (.string nm) ∧ v.drew.cell? ⟨w.heap.size, 9, none⟩ = some (.int .i64 m) ∧ Hid (OA v.drew w.heap.size (⟨k, r, b, x, s, false, true, n, nm, m⟩ : O) ∧ Below w.heap.size w v.drew) := ⟨(hA0).1.c8, (hA0).1.c9, ⟨hA0⟩⟩
  have HK : Hid (∀ v u : World, (v.cell? ⟨w.heap.size, 8, none⟩ = some (.string nm) ∧ v.cell? ⟨w.heap.size, 9, none⟩ = some (.int .i64 m) ∧ Hid (OA v w.heap.size (⟨k, r, b, x, s, false, true, n, nm, m⟩ : O) ∧ Below w.heap.size w v)) → Below v.heap.size v u → (u.cell? ⟨w.heap.size, 8, none⟩ = some (.string nm) ∧ u.cell? ⟨w.heap.size, 9, none⟩ = some (.int .i64 m) ∧ Hid (OA u w.heap.size (⟨k, r, b, x, s, false, true, n, nm, m⟩ : O) ∧ Below w.heap.size w u))) := ⟨fun v u h hb => by
    have g := h.2.2.out
    have a : OA u w.heap.size (⟨k, r, b, x, s, false, true, n, nm, m⟩ : O) ∧ Below w.heap.size w u := ⟨g.1.bel hb, bel_trans g.2 hb⟩
    exact ⟨(a).1.c8, (a).1.c9, ⟨a⟩⟩⟩
  have HL : Hid (∀ v : World, (v.cell? ⟨w.heap.size, 8, none⟩ = some (.string nm) ∧ v.cell? ⟨w.heap.size, 9, none⟩ = some (.int .i64 m) ∧ Hid (OA v w.heap.size (⟨k, r, b, x, s, false, true, n, nm, m⟩ : O) ∧ Below w.heap.size w v)) → OA v w.heap.size (⟨k, r, b, x, s, false, true, n, nm, m⟩ : O) ∧ Below w.heap.size w v) := ⟨fun v h => h.2.2.out⟩
  clear A hA0
  go_region_held3 (fun v => v.cell? ⟨w.heap.size, 8, none⟩ = some (.string nm) ∧ v.cell? ⟨w.heap.size, 9, none⟩ = some (.int .i64 m) ∧ Hid (OA v w.heap.size (⟨k, r, b, x, s, false, true, n, nm, m⟩ : O) ∧ Below w.heap.size w v))
    (first | (with_reducible assumption) | exact HK.out _ _ (by with_reducible assumption) hb)
    (first | (go_at_call 54; refine (HM.out _).mono ?_; rintro e wp ⟨rfl, hb⟩))
  have A := hid (HL.out _ (by with_reducible assumption))
  clear HL HK
  obtain ⟨c0, c1, c2, c3, c4, c5, c6, c7, c8, c9⟩ := OA.out10 A.out.1
  go_wp2
  go_ret
  exact ⟨ret_str HR.out.symm, A.out.2⟩

set_option maxHeartbeats 2000000 in
theorem refMem_both_none_fs (k r b x s n m : Int) (nm md sg it g1 g2 dg z : ByteArray) (hz : nm.size ≤ 255 ∧ md.size ≤ 9 ∧ sg.size ≤ 22 ∧ it.size ≤ 21 ∧ g1.size ≤ 4 ∧ g2.size ≤ 4 ∧ dg.size ≤ 21) (he : nm.toList.isEmpty = false) (h0 : (n != 0) = true) (hb0 : b < 0) (HM : Hid (∀ v, Calls Tryd.prog 54 #[.int .i64 m] v fun e w' => e = .returned (.string md) ∧ Below v.heap.size v w')) (HS : Hid (∀ v, Calls Tryd.prog 55 #[.int .i64 n] v fun e w' => e = .returned (.string sg) ∧ Below v.heap.size v w')) (HR : Hid (z = (((⟨#[37, 102, 115, 58]⟩ ++ nm) ++ md) ++ sg))) (w : World) :
    Calls Tryd.prog 53 #[.agg #[.int .i64 k, .int .i64 r, .int .i64 b, .int .i64 x, .int .i64 s, .bool false, .bool true, .int .i64 n, .string nm, .int .i64 m]] w fun e w' => e = .returned (.string z) ∧ Below w.heap.size w w' := by
  obtain ⟨y1, y2, y3, y4, y5, y6, y7⟩ := hz
  have k1 : (⟨#[37, 102, 115, 58]⟩ : ByteArray).size = 4 := rfl
  have S0 : ∀ v, (Op.stringOp .add ⟨#[37, 102, 115, 58]⟩ nm).run Tryd.prog v = .ok (.string (⟨#[37, 102, 115, 58]⟩ ++ nm)) v := fun v => run_string_add_sum v _ _ (by (try simp only [ByteArray.size_append]); omega)
  have S1 : ∀ v, (Op.stringOp .add (⟨#[37, 102, 115, 58]⟩ ++ nm) md).run Tryd.prog v = .ok (.string ((⟨#[37, 102, 115, 58]⟩ ++ nm) ++ md)) v := fun v => run_string_add_sum v _ _ (by (try simp only [ByteArray.size_append]); omega)
  have S2 : ∀ v, (Op.stringOp .add ((⟨#[37, 102, 115, 58]⟩ ++ nm) ++ md) sg).run Tryd.prog v = .ok (.string (((⟨#[37, 102, 115, 58]⟩ ++ nm) ++ md) ++ sg)) v := fun v => run_string_add_sum v _ _ (by (try simp only [ByteArray.size_append]); omega)
  have A : Hid (OA (w.alloc (.cells #[.int .i64 k, .int .i64 r, .int .i64 b, .int .i64 x, .int .i64 s, .bool false, .bool true, .int .i64 n, .string nm, .int .i64 m] 23)) w.heap.size (⟨k, r, b, x, s, false, true, n, nm, m⟩ : O) ∧ Below w.heap.size w (w.alloc (.cells #[.int .i64 k, .int .i64 r, .int .i64 b, .int .i64 x, .int .i64 s, .bool false, .bool true, .int .i64 n, .string nm, .int .i64 m] 23))) := ⟨OA.new w (⟨k, r, b, x, s, false, true, n, nm, m⟩ : O) 23, bel_alloc (Below.refl _ _) _⟩
  clear y1 y2 y3 y4 y5 y6 y7
  clear k1
  go_enter Tryd.func53, Tryd.ntmps53
  go_wp2
  generalize (w.alloc (.cells #[.int .i64 k, .int .i64 r, .int .i64 b, .int .i64 x, .int .i64 s, .bool false, .bool true, .int .i64 n, .string nm, .int .i64 m] 23)) = v at *
  have hA0 : OA v.drew w.heap.size (⟨k, r, b, x, s, false, true, n, nm, m⟩ : O) ∧ Below w.heap.size w v.drew := ⟨A.out.1.bel (bel_drew _), A.out.2.drew⟩
  have K : v.drew.cell? ⟨w.heap.size, 8, none⟩ = some (.string nm) ∧ v.drew.cell? ⟨w.heap.size, 9, none⟩ = some (.int .i64 m) ∧ Hid (OA v.drew w.heap.size (⟨k, r, b, x, s, false, true, n, nm, m⟩ : O) ∧ Below w.heap.size w v.drew) := ⟨(hA0).1.c8, (hA0).1.c9, ⟨hA0⟩⟩
  have HK : Hid (∀ v u : World, (v.cell? ⟨w.heap.size, 8, none⟩ = some (.string nm) ∧ v.cell? ⟨w.heap.size, 9, none⟩ = some (.int .i64 m) ∧ Hid (OA v w.heap.size (⟨k, r, b, x, s, false, true, n, nm, m⟩ : O) ∧ Below w.heap.size w v)) → Below v.heap.size v u → (u.cell? ⟨w.heap.size, 8, none⟩ = some (.string nm) ∧ u.cell? ⟨w.heap.size, 9, none⟩ = some (.int .i64 m) ∧ Hid (OA u w.heap.size (⟨k, r, b, x, s, false, true, n, nm, m⟩ : O) ∧ Below w.heap.size w u))) := ⟨fun v u h hb => by
    have g := h.2.2.out
    have a : OA u w.heap.size (⟨k, r, b, x, s, false, true, n, nm, m⟩ : O) ∧ Below w.heap.size w u := ⟨g.1.bel hb, bel_trans g.2 hb⟩
    exact ⟨(a).1.c8, (a).1.c9, ⟨a⟩⟩⟩
  have HL : Hid (∀ v : World, (v.cell? ⟨w.heap.size, 8, none⟩ = some (.string nm) ∧ v.cell? ⟨w.heap.size, 9, none⟩ = some (.int .i64 m) ∧ Hid (OA v w.heap.size (⟨k, r, b, x, s, false, true, n, nm, m⟩ : O) ∧ Below w.heap.size w v)) → OA v w.heap.size (⟨k, r, b, x, s, false, true, n, nm, m⟩ : O) ∧ Below w.heap.size w v) := ⟨fun v h => h.2.2.out⟩
  clear A hA0
  go_region_held3 (fun v => v.cell? ⟨w.heap.size, 8, none⟩ = some (.string nm) ∧ v.cell? ⟨w.heap.size, 9, none⟩ = some (.int .i64 m) ∧ Hid (OA v w.heap.size (⟨k, r, b, x, s, false, true, n, nm, m⟩ : O) ∧ Below w.heap.size w v))
    (first | (with_reducible assumption) | exact HK.out _ _ (by with_reducible assumption) hb)
    (first | (go_at_call 54; refine (HM.out _).mono ?_; rintro e wp ⟨rfl, hb⟩))
  have A := hid (HL.out _ (by with_reducible assumption))
  clear HL HK
  obtain ⟨c0, c1, c2, c3, c4, c5, c6, c7, c8, c9⟩ := OA.out10 A.out.1
  go_wp2_with (first | (go_at_call 55; refine (HS.out _).mono ?_; rintro e u ⟨rfl, hb⟩; have A : Hid (OA u w.heap.size (⟨k, r, b, x, s, false, true, n, nm, m⟩ : O) ∧ Below w.heap.size w u) := ⟨A.out.1.bel hb, bel_trans A.out.2 hb⟩; clear hb; (try clear c0 c1 c2 c3 c4 c5 c6 c7 c8 c9); obtain ⟨c0, c1, c2, c3, c4, c5, c6, c7, c8, c9⟩ := OA.out10 A.out.1))
  go_ret
  exact ⟨ret_str HR.out.symm, A.out.2⟩

end Go.Proofs.YtdgejingoamfeaaDoor
