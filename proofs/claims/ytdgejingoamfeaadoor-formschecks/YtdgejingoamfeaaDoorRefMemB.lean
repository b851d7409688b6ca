/- The document's memory: of a register. -/
import Derived.Test.YtdgejingoamfeaaDoorRefMemA
namespace Go.Proofs.YtdgejingoamfeaaDoor
open Go.ChangeShapes Go.WideShapes Go.ChangeAt Go.RowKit
set_option linter.unusedVariables false
set_option linter.unusedSimpArgs false

set_option maxHeartbeats 2000000 in
theorem refMem_none_base (k r b x s n m : Int) (nm md sg it g1 g2 dg z : ByteArray) (hz : nm.size ≤ 255 ∧ md.size ≤ 9 ∧ sg.size ≤ 22 ∧ it.size ≤ 21 ∧ g1.size ≤ 4 ∧ g2.size ≤ 4 ∧ dg.size ≤ 21) (he : nm.toList.isEmpty = true) (h0 : (n != 0) = false) (hb0 : ¬ b < 0) (hx0 : x < 0) (HG : Hid (∀ v, Calls Tryd.prog 22 #[.int .i64 b, .int .i64 8] v fun e w' => e = .returned (.string g1) ∧ Below v.heap.size v w')) (HR : Hid (z = ((⟨#[40, 37]⟩ ++ g1) ++ ⟨#[41]⟩))) (w : World) :
    Calls Tryd.prog 53 #[.agg #[.int .i64 k, .int .i64 r, .int .i64 b, .int .i64 x, .int .i64 s, .bool false, .bool false, .int .i64 n, .string nm, .int .i64 m]] w fun e w' => e = .returned (.string z) ∧ Below w.heap.size w w' := by
  obtain ⟨y1, y2, y3, y4, y5, y6, y7⟩ := hz
  have k1 : (⟨#[]⟩ : ByteArray).size = 0 := rfl
  have k2 : (⟨#[40, 37]⟩ : ByteArray).size = 2 := rfl
  have k3 : (⟨#[41]⟩ : ByteArray).size = 1 := rfl
  have S0 : ∀ v, (Op.stringOp .add ⟨#[]⟩ ⟨#[40, 37]⟩).run Tryd.prog v = .ok (.string ⟨#[40, 37]⟩) v := fun v => (run_string_add_sum v _ _ (by omega)).trans (by rw [show (⟨#[]⟩ : ByteArray) ++ ⟨#[40, 37]⟩ = ⟨#[40, 37]⟩ from ByteArray.empty_append])
  have S1 : ∀ v, (Op.stringOp .add ⟨#[40, 37]⟩ g1).run Tryd.prog v = .ok (.string (⟨#[40, 37]⟩ ++ g1)) v := fun v => run_string_add_sum v _ _ (by (try simp only [ByteArray.size_append]); omega)
  have S2 : ∀ v, (Op.stringOp .add (⟨#[40, 37]⟩ ++ g1) ⟨#[41]⟩).run Tryd.prog v = .ok (.string ((⟨#[40, 37]⟩ ++ g1) ++ ⟨#[41]⟩)) v := fun v => run_string_add_sum v _ _ (by (try simp only [ByteArray.size_append]); omega)
  have A : Hid (OA (w.alloc (.cells #[.int .i64 k, .int .i64 r, .int .i64 b, .int .i64 x, .int .i64 s, .bool false, .bool false, .int .i64 n, .string nm, .int .i64 m] 23)) w.heap.size (⟨k, r, b, x, s, false, false, n, nm, m⟩ : O) ∧ Below w.heap.size w (w.alloc (.cells #[.int .i64 k, .int .i64 r, .int .i64 b, .int .i64 x, .int .i64 s, .bool false, .bool false, .int .i64 n, .string nm, .int .i64 m] 23))) := ⟨OA.new w (⟨k, r, b, x, s, false, false, n, nm, m⟩ : O) 23, bel_alloc (Below.refl _ _) _⟩
  clear y1 y2 y3 y4 y5 y6 y7
  clear k1 k2 k3
  go_enter Tryd.func53, Tryd.ntmps53
  go_wp2_with (first | (go_at_call 22; refine (HG.out _).mono ?_; rintro e u ⟨rfl, hb⟩; have A : Hid (OA u w.heap.size (⟨k, r, b, x, s, false, false, n, nm, m⟩ : O) ∧ Below w.heap.size w u) := ⟨A.out.1.bel hb, bel_trans A.out.2 hb⟩; clear hb; (try clear c0 c1 c2 c3 c4 c5 c6 c7 c8 c9); obtain ⟨c0, c1, c2, c3, c4, c5, c6, c7, c8, c9⟩ := OA.out10 A.out.1))
  go_ret
  exact ⟨ret_str HR.out.symm, A.out.2⟩

set_option maxHeartbeats 2000000 in
theorem refMem_num_base (k r b x s n m : Int) (nm md sg it g1 g2 dg z : ByteArray) (hz : nm.size ≤ 255 ∧ md.size ≤ 9 ∧ sg.size ≤ 22 ∧ it.size ≤ 21 ∧ g1.size ≤ 4 ∧ g2.size ≤ 4 ∧ dg.size ≤ 21) (he : nm.toList.isEmpty = true) (h0 : (n != 0) = true) (hb0 : ¬ b < 0) (hx0 : x < 0) (HI : Hid (∀ v, Calls Tryd.prog 52 #[.int .i64 n] v fun e w' => e = .returned (.string it) ∧ Below v.heap.size v w')) (HG : Hid (∀ v, Calls Tryd.prog 22 #[.int .i64 b, .int .i64 8] v fun e w' => e = .returned (.string g1) ∧ Below v.heap.size v w')) (HR : Hid (z = (((it ++ ⟨#[40, 37]⟩) ++ g1) ++ ⟨#[41]⟩))) (w : World) :
    Calls Tryd.prog 53 #[.agg #[.int .i64 k, .int .i64 r, .int .i64 b, .int .i64 x, .int .i64 s, .bool false, .bool false, .int .i64 n, .string nm, .int .i64 m]] w fun e w' => e = .returned (.string z) ∧ Below w.heap.size w w' := by
  obtain ⟨y1, y2, y3, y4, y5, y6, y7⟩ := hz
  have k1 : (⟨#[]⟩ : ByteArray).size = 0 := rfl
  have k2 : (⟨#[40, 37]⟩ : ByteArray).size = 2 := rfl
  have k3 : (⟨#[41]⟩ : ByteArray).size = 1 := rfl
  have S0 : ∀ v, (Op.stringOp .add ⟨#[]⟩ it).run Tryd.prog v = .ok (.string it) v := fun v => (run_string_add_sum v _ _ (by omega)).trans (by rw [show (⟨#[]⟩ : ByteArray) ++ it = it from ByteArray.empty_append])
  have S1 : ∀ v, (Op.stringOp .add it ⟨#[40, 37]⟩).run Tryd.prog v = .ok (.string (it ++ ⟨#[40, 37]⟩)) v := fun v => run_string_add_sum v _ _ (by (try simp only [ByteArray.size_append]); omega)
  have S2 : ∀ v, (Op.stringOp .add (it ++ ⟨#[40, 37]⟩) g1).run Tryd.prog v = .ok (.string ((it ++ ⟨#[40, 37]⟩) ++ g1)) v := fun v => run_string_add_sum v _ _ (by (try simp only [ByteArray.size_append]); omega)
  have S3 : ∀ v, (Op.stringOp .add ((it ++ ⟨#[40, 37]⟩) ++ g1) ⟨#[41]⟩).run Tryd.prog v = .ok (.string (((it ++ ⟨#[40, 37]⟩) ++ g1) ++ ⟨#[41]⟩)) v := fun v => run_string_add_sum v _ _ (by (try simp only [ByteArray.size_append]); omega)
  have A : Hid (OA (w.alloc (.cells #[.int .i64 k, .int .i64 r, .int .i64 b, .int .i64 x, .int .i64 s, .bool false, .bool false, .int .i64 n, .string nm, .int .i64 m] 23)) w.heap.size (⟨k, r, b, x, s, false, false, n, nm, m⟩ : O) ∧ Below w.heap.size w (w.alloc (.cells #[.int .i64 k, .int .i64 r, .int .i64 b, .int .i64 x, .int .i64 s, .bool false, .bool false, .int .i64 n, .string nm, .int .i64 m] 23))) := ⟨OA.new w (⟨k, r, b, x, s, false, false, n, nm, m⟩ : O) 23, bel_alloc (Below.refl _ _) _⟩
  clear y1 y2 y3 y4 y5 y6 y7
  clear k1 k2 k3
  go_enter Tryd.func53, Tryd.ntmps53
  go_wp2_with (first | (go_at_call 52; refine (HI.out _).mono ?_; rintro e u ⟨rfl, hb⟩; have A : Hid (OA u w.heap.size (⟨k, r, b, x, s, false, false, n, nm, m⟩ : O) ∧ Below w.heap.size w u) := ⟨A.out.1.bel hb, bel_trans A.out.2 hb⟩; clear hb; (try clear c0 c1 c2 c3 c4 c5 c6 c7 c8 c9); obtain ⟨c0, c1, c2, c3, c4, c5, c6, c7, c8, c9⟩ := OA.out10 A.out.1) | (go_at_call 22; refine (HG.out _).mono ?_; rintro e u ⟨rfl, hb⟩; have A : Hid (OA u w.heap.size (⟨k, r, b, x, s, false, false, n, nm, m⟩ : O) ∧ Below w.heap.size w u) := ⟨A.out.1.bel hb, bel_trans A.out.2 hb⟩; clear hb; (try clear c0 c1 c2 c3 c4 c5 c6 c7 c8 c9); obtain ⟨c0, c1, c2, c3, c4, c5, c6, c7, c8, c9⟩ := OA.out10 A.out.1))
  go_ret
  exact ⟨ret_str HR.out.symm, A.out.2⟩

set_option maxHeartbeats 2000000 in
theorem refMem_name_base (k r b x s n m : Int) (nm md sg it g1 g2 dg z : ByteArray) (hz : nm.size ≤ 255 ∧ md.size ≤ 9 ∧ sg.size ≤ 22 ∧ it.size ≤ 21 ∧ g1.size ≤ 4 ∧ g2.size ≤ 4 ∧ dg.size ≤ 21) (he : nm.toList.isEmpty = false) (h0 : (n != 0) = false) (hb0 : ¬ b < 0) (hx0 : x < 0) (HM : Hid (∀ v, Calls Tryd.prog 54 #[.int .i64 m] v fun e w' => e = .returned (.string md) ∧ Below v.heap.size v w')) (HG : Hid (∀ v, Calls Tryd.prog 22 #[.int .i64 b, .int .i64 8] v fun e w' => e = .returned (.string g1) ∧ Below v.heap.size v w')) (HR : Hid (z = ((((nm ++ md) ++ ⟨#[40, 37]⟩) ++ g1) ++ ⟨#[41]⟩))) (w : World) :
    Calls Tryd.prog 53 #[.agg #[.int .i64 k, .int .i64 r, .int .i64 b, .int .i64 x, .int .i64 s, .bool false, .bool false, .int .i64 n, .string nm, .int .i64 m]] w fun e w' => e = .returned (.string z) ∧ Below w.heap.size w w' := by
  obtain ⟨y1, y2, y3, y4, y5, y6, y7⟩ := hz
  have k1 : (⟨#[]⟩ : ByteArray).size = 0 := rfl
  have k2 : (⟨#[40, 37]⟩ : ByteArray).size = 2 := rfl
  have k3 : (⟨#[41]⟩ : ByteArray).size = 1 := rfl
  have S0 : ∀ v, (Op.stringOp .add ⟨#[]⟩ nm).run Tryd.prog v = .ok (.string nm) v := fun v => (run_string_add_sum v _ _ (by omega)).trans (by rw [show (⟨#[]⟩ : ByteArray) ++ nm = nm from ByteArray.empty_append])
  have S1 : ∀ v, (Op.stringOp .add nm md).run Tryd.prog v = .ok (.string (nm ++ md)) v := fun v => run_string_add_sum v _ _ (by (try simp only [ByteArray.size_append]); omega)
  have S2 : ∀ v, (Op.stringOp .add (nm ++ md) ⟨#[40, 37]⟩).run Tryd.prog v = .ok (.string ((nm ++ md) ++ ⟨#[40, 37]⟩)) v := fun v => run_string_add_sum v _ _ (by (try simp only [ByteArray.size_append]); omega)
  have S3 : ∀ v, (Op.stringOp .add ((nm ++ md) ++ ⟨#[40, 37]⟩) g1).run Tryd.prog v = .ok (.string (((nm ++ md) ++ ⟨#[40, 37]⟩) ++ g1)) v := fun v => run_string_add_sum v _ _ (by (try simp only [ByteArray.size_append]); omega)
  have S4 : ∀ v, (Op.stringOp .add (((nm ++ md) ++ ⟨#[40, 37]⟩) ++ g1) ⟨#[41]⟩).run Tryd.prog v = .ok (.string ((((nm ++ md) ++ ⟨#[40, 37]⟩) ++ g1) ++ ⟨#[41]⟩)) v := fun v => run_string_add_sum v _ _ (by (try simp only [ByteArray.size_append]); omega)
  have A : Hid (OA (w.alloc (.cells #[.int .i64 k, .int .i64 r, .int .i64 b, .int .i64 x, .int .i64 s, .bool false, .bool false, .int .i64 n, .string nm, .int .i64 m] 23)) w.heap.size (⟨k, r, b, x, s, false, false, n, nm, m⟩ : O) ∧ Below w.heap.size w (w.alloc (.cells #[.int .i64 k, .int .i64 r, .int .i64 b, .int .i64 x, .int .i64 s, .bool false, .bool false, .int .i64 n, .string nm, .int .i64 m] 23))) := ⟨OA.new w (⟨k, r, b, x, s, false, false, n, nm, m⟩ : O) 23, bel_alloc (Below.refl _ _) _⟩
  clear y1 y2 y3 y4 y5 y6 y7
  clear k1 k2 k3
  go_enter Tryd.func53, Tryd.ntmps53
  go_wp2
  generalize (w.alloc (.cells #[.int .i64 k, .int .i64 r, .int .i64 b, .int .i64 x, .int .i64 s, .bool false, .bool false, .int .i64 n, .string nm, .int .i64 m] 23)) = v at *
  have hA0 : OA v.drew w.heap.size (⟨k, r, b, x, s, false, false, n, nm, m⟩ : O) ∧ Below w.heap.size w v.drew := ⟨A.out.1.bel (bel_drew _), A.out.2.drew⟩
  have K : v.drew.cell? ⟨w.heap.size, 8, none⟩ = some (.string nm) ∧ v.drew.cell? ⟨w.heap.size, 9, none⟩ = some (.int .i64 m) ∧ Hid (OA v.drew w.heap.size (⟨k, r, b, x, s, false, false, n, nm, m⟩ : O) ∧ Below w.heap.size w v.drew) := ⟨(hA0).1.c8, (hA0).1.c9, ⟨hA0⟩⟩
  have HK : Hid (∀ v u : World, (v.cell? ⟨w.heap.size, 8, none⟩ = some (.string nm) ∧ v.cell? ⟨w.heap.size, 9, none⟩ = some (.int .i64 m) ∧ Hid (OA v w.heap.size (⟨k, r, b, x, s, false, false, n, nm, m⟩ : O) ∧ Below w.heap.size w v)) → Below v.heap.size v u → (u.cell? ⟨w.heap.size, 8, none⟩ = some (.string nm) ∧ u.cell? ⟨w.heap.size, 9, none⟩ = some (.int .i64 m) ∧ Hid (OA u w.heap.size (⟨k, r, b, x, s, false, false, n, nm, m⟩ : O) ∧ Below w.heap.size w u))) := ⟨fun v u h hb => by
    have g := h.2.2.out
    have a : OA u w.heap.size (⟨k, r, b, x, s, false, false, n, nm, m⟩ : O) ∧ Below w.heap.size w u := ⟨g.1.bel hb, bel_trans g.2 hb⟩
    exact ⟨(a).1.c8, (a).1.c9, ⟨a⟩⟩⟩
  have HL : Hid (∀ v : World, (v.cell? ⟨w.heap.size, 8, none⟩ = some (.string nm) ∧ v.cell? ⟨w.heap.size, 9, none⟩ = some (.int .i64 m) ∧ Hid (OA v w.heap.size (⟨k, r, b, x, s, false, false, n, nm, m⟩ : O) ∧ Below w.heap.size w v)) → OA v w.heap.size (⟨k, r, b, x, s, false, false, n, nm, m⟩ : O) ∧ Below w.heap.size w v) := ⟨fun v h => h.2.2.out⟩
  clear A hA0
  go_region_held3 (fun v => v.cell? ⟨w.heap.size, 8, none⟩ = some (.string nm) ∧ v.cell? ⟨w.heap.size, 9, none⟩ = some (.int .i64 m) ∧ Hid (OA v w.heap.size (⟨k, r, b, x, s, false, false, n, nm, m⟩ : O) ∧ Below w.heap.size w v))
    (first | (with_reducible assumption) | exact HK.out _ _ (by with_reducible assumption) hb)
    (first | (go_at_call 54; refine (HM.out _).mono ?_; rintro e wp ⟨rfl, hb⟩))
  have A := hid (HL.out _ (by with_reducible assumption))
  clear HL HK
  obtain ⟨c0, c1, c2, c3, c4, c5, c6, c7, c8, c9⟩ := OA.out10 A.out.1
  go_wp2_with (first | (go_at_call 22; refine (HG.out _).mono ?_; rintro e u ⟨rfl, hb⟩; have A : Hid (OA u w.heap.size (⟨k, r, b, x, s, false, false, n, nm, m⟩ : O) ∧ Below w.heap.size w u) := ⟨A.out.1.bel hb, bel_trans A.out.2 hb⟩; clear hb; (try clear c0 c1 c2 c3 c4 c5 c6 c7 c8 c9); obtain ⟨c0, c1, c2, c3, c4, c5, c6, c7, c8, c9⟩ := OA.out10 A.out.1))
  go_ret
  exact ⟨ret_str HR.out.symm, A.out.2⟩

set_option maxHeartbeats 2000000 in
theorem refMem_both_base (k r b x s n m : Int) (nm md sg it g1 g2 dg z : ByteArray) (hz : nm.size ≤ 255 ∧ md.size ≤ 9 ∧ sg.size ≤ 22 ∧ it.size ≤ 21 ∧ g1.size ≤ 4 ∧ g2.size ≤ 4 ∧ dg.size ≤ 21) (he : nm.toList.isEmpty = false) (h0 : (n != 0) = true) (hb0 : ¬ b < 0) (hx0 : x < 0) (HM : Hid (∀ v, Calls Tryd.prog 54 #[.int .i64 m] v fun e w' => e = .returned (.string md) ∧ Below v.heap.size v w')) (HS : Hid (∀ v, Calls Tryd.prog 55 #[.int .i64 n] v fun e w' => e = .returned (.string sg) ∧ Below v.heap.size v w')) (HG : Hid (∀ v, Calls Tryd.prog 22 #[.int .i64 b, .int .i64 8] v fun e w' => e = .returned (.string g1) ∧ Below v.heap.size v w')) (HR : Hid (z = (((((nm ++ md) ++ sg) ++ ⟨#[40, 37]⟩) ++ g1) ++ ⟨#[41]⟩))) (w : World) :
    Calls Tryd.prog 53 #[.agg #[.int .i64 k, .int .i64 r, .int .i64 b, .int .i64 x, .int .i64 s, .bool false, .bool false, .int .i64 n, .string nm, .int .i64 m]] w fun e w' => e = .returned (.string z) ∧ Below w.heap.size w w' := by
  obtain ⟨y1, y2, y3, y4, y5, y6, y7⟩ := hz
  have k1 : (⟨#[]⟩ : ByteArray).size = 0 := rfl
  have k2 : (⟨#[40, 37]⟩ : ByteArray).size = 2 := rfl
  have k3 : (⟨#[41]⟩ : ByteArray).size = 1 := rfl
  have S0 : ∀ v, (Op.stringOp .add ⟨#[]⟩ nm).run Tryd.prog v = .ok (.string nm) v := fun v => (run_string_add_sum v _ _ (by omega)).trans (by rw [show (⟨#[]⟩ : ByteArray) ++ nm = nm from ByteArray.empty_append])
  have S1 : ∀ v, (Op.stringOp .add nm md).run Tryd.prog v = .ok (.string (nm ++ md)) v := fun v => run_string_add_sum v _ _ (by (try simp only [ByteArray.size_append]); omega)
  have S2 : ∀ v, (Op.stringOp .add (nm ++ md) sg).run Tryd.prog v = .ok (.string ((nm ++ md) ++ sg)) v := fun v => run_string_add_sum v _ _ (by (try simp only [ByteArray.size_append]); omega)
  have S3 : ∀ v, (Op.stringOp .add ((nm ++ md) ++ sg) ⟨#[40, 37]⟩).run Tryd.prog v = .ok (.string (((nm ++ md) ++ sg) ++ ⟨#[40, 37]⟩)) v := fun v => run_string_add_sum v _ _ (by (try simp only [ByteArray.size_append]); omega)
  have S4 : ∀ v, (Op.stringOp .add (((nm ++ md) ++ sg) ++ ⟨#[40, 37]⟩) g1).run Tryd.prog v = .ok (.string ((((nm ++ md) ++ sg) ++ ⟨#[40, 37]⟩) ++ g1)) v := fun v => run_string_add_sum v _ _ (by (try simp only [ByteArray.size_append]); omega)
  have S5 : ∀ v, (Op.stringOp .add ((((nm ++ md) ++ sg) ++ ⟨#[40, 37]⟩) ++ g1) ⟨#[41]⟩).run Tryd.prog v = .ok (.string (((((nm ++ md) ++ sg) ++ ⟨#[40, 37]⟩) ++ g1) ++ ⟨#[41]⟩)) v := fun v => run_string_add_sum v _ _ (by (try simp only [ByteArray.size_append]); omega)
  have A : Hid (OA (w.alloc (.cells #[.int .i64 k, .int .i64 r, .int .i64 b, .int .i64 x, .int .i64 s, .bool false, .bool false, .int .i64 n, .string nm, .int .i64 m] 23)) w.heap.size (⟨k, r, b, x, s, false, false, n, nm, m⟩ : O) ∧ Below w.heap.size w (w.alloc (.cells #[.int .i64 k, .int .i64 r, .int .i64 b, .int .i64 x, .int .i64 s, .bool false, .bool false, .int .i64 n, .string nm, .int .i64 m] 23))) := ⟨OA.new w (⟨k, r, b, x, s, false, false, n, nm, m⟩ : O) 23, bel_alloc (Below.refl _ _) _⟩
  clear y1 y2 y3 y4 y5 y6 y7
  clear k1 k2 k3
  go_enter Tryd.func53, Tryd.ntmps53
  go_wp2
  generalize (w.alloc (.cells #[.int .i64 k, .int .i64 r, .int .i64 b, .int .i64 x, .int .i64 s, .bool false, .bool false, .int .i64 n, .string nm, .int .i64 m] 23)) = v at *
  have hA0 : OA v.drew w.heap.size (⟨k, r, b, x, s, false, false, n, nm, m⟩ : O) ∧ Below w.heap.size w v.drew := ⟨A.out.1.bel (bel_drew _), A.out.2.drew⟩
  have K : v.drew.cell? ⟨w.heap.size, 8, none⟩ = some (.string nm) ∧ v.drew.cell? ⟨w.heap.size, 9, none⟩ = some (.int .i64 m) ∧ Hid (OA v.drew w.heap.size (⟨k, r, b, x, s, false, false, n, nm, m⟩ : O) ∧ Below w.heap.size w v.drew) := ⟨(hA0).1.c8, (hA0).1.c9, ⟨hA0⟩⟩
  have HK : Hid (∀ v u : World, (v.cell? ⟨w.heap.size, 8, none⟩ = some (.string nm) ∧ v.cell? ⟨w.heap.size, 9, none⟩ = some (.int .i64 m) ∧ Hid (OA v w.heap.size (⟨k, r, b, x, s, false, false, n, nm, m⟩ : O) ∧ Below w.heap.size w v)) → Below v.heap.size v u → (u.cell? ⟨w.heap.size, 8, none⟩ = some (.string nm) ∧ u.cell? ⟨w.heap.size, 9, none⟩ = some (.int .i64 m) ∧ Hid (OA u w.heap.size (⟨k, r, b, x, s, false, false, n, nm, m⟩ : O) ∧ Below w.heap.size w u))) := ⟨fun v u h hb => by
    have g := h.2.2.out
    have a : OA u w.heap.size (⟨k, r, b, x, s, false, false, n, nm, m⟩ : O) ∧ Below w.heap.size w u := ⟨g.1.bel hb, bel_trans g.2 hb⟩
    exact ⟨(a).1.c8, (a).1.c9, ⟨a⟩⟩⟩
  have HL : Hid (∀ v : World, (v.cell? ⟨w.heap.size, 8, none⟩ = some (.string nm) ∧ v.cell? ⟨w.heap.size, 9, none⟩ = some (.int .i64 m) ∧ Hid (OA v w.heap.size (⟨k, r, b, x, s, false, false, n, nm, m⟩ : O) ∧ Below w.heap.size w v)) → OA v w.heap.size (⟨k, r, b, x, s, false, false, n, nm, m⟩ : O) ∧ Below w.heap.size w v) := ⟨fun v h => h.2.2.out⟩
  clear A hA0
  go_region_held3 (fun v => v.cell? ⟨w.heap.size, 8, none⟩ = some (.string nm) ∧ v.cell? ⟨w.heap.size, 9, none⟩ = some (.int .i64 m) ∧ Hid (OA v w.heap.size (⟨k, r, b, x, s, false, false, n, nm, m⟩ : O) ∧ Below w.heap.size w v))
    (first | (with_reducible assumption) | exact HK.out _ _ (by with_reducible assumption) hb)
    (first | (go_at_call 54; refine (HM.out _).mono ?_; rintro e wp ⟨rfl, hb⟩))
  have A := hid (HL.out _ (by with_reducible assumption))
  clear HL HK
  obtain ⟨c0, c1, c2, c3, c4, c5, c6, c7, c8, c9⟩ := OA.out10 A.out.1
  go_wp2_with (first | (go_at_call 55; refine (HS.out _).mono ?_; rintro e u ⟨rfl, hb⟩; have A : Hid (OA u w.heap.size (⟨k, r, b, x, s, false, false, n, nm, m⟩ : O) ∧ Below w.heap.size w u) := ⟨A.out.1.bel hb, bel_trans A.out.2 hb⟩; clear hb; (try clear c0 c1 c2 c3 c4 c5 c6 c7 c8 c9); obtain ⟨c0, c1, c2, c3, c4, c5, c6, c7, c8, c9⟩ := OA.out10 A.out.1) | (go_at_call 22; refine (HG.out _).mono ?_; rintro e u ⟨rfl, hb⟩; have A : Hid (OA u w.heap.size (⟨k, r, b, x, s, false, false, n, nm, m⟩ : O) ∧ Below w.heap.size w u) := ⟨A.out.1.bel hb, bel_trans A.out.2 hb⟩; clear hb; (try clear c0 c1 c2 c3 c4 c5 c6 c7 c8 c9); obtain ⟨c0, c1, c2, c3, c4, c5, c6, c7, c8, c9⟩ := OA.out10 A.out.1))
  go_ret
  exact ⟨ret_str HR.out.symm, A.out.2⟩

end Go.Proofs.YtdgejingoamfeaaDoor
