/- The contracts of Uses and Sets, and of the law's knows. -/
import Derived.Test.YtdgejingoamfeaaDoorSets
namespace Go.Proofs.YtdgejingoamfeaaDoor
open Go.ChangeShapes Go.WideShapes Go.ChangeAt Go.RowKit
set_option linter.unusedVariables false

def usesV (i : I) : Int := if checkB i then usesR (rowL i.op) i else 0
def setsR (r : R) (i : I) : Int := if i.op == 31 then orV (if r.to != 2 then orV r.sets (regBitV i.to) else r.sets) (regBitV i.fr) else (if r.to != 2 then orV r.sets (regBitV i.to) else r.sets)
def setsV (i : I) : Int := if checkB i then setsR (rowL i.op) i else 0

theorem check_op {i : I} (h : checkB i = true) : 1 ≤ i.op ∧ i.op ≤ 35 := by
  unfold checkB at h
  split at h
  · assumption
  · cases h

set_option maxHeartbeats 2000000 in
theorem uses_no (i : I) (w : World) (hw : Gl w) (hc : checkB i = false) :
    Calls Tryd.prog 23 #[i.val] w fun e w' => e = .returned (.int .i64 0) ∧ Below w.heap.size w w' := by
  have C0 : Hid (∀ v, Below w.heap.size w v → Calls Tryd.prog 12 #[i.val] v fun e w' => e = .returned (.int .i64 30) ∧ Below v.heap.size v w') := ⟨fun v hv => by have := check_any i v (hw.bel hv); rw [hc] at this; exact this⟩
  have L0 : Hid (∀ v, IA v w.heap.size i → (loadVar 25 ⟨w.heap.size, 0, none⟩).run Tryd.prog v = .ok i.val v) := ⟨fun v h => h.whole⟩
  unfold I.val at *
  clear hw hc
  go_enter Tryd.func23, Tryd.ntmps23
  go_wp2_with (first
    | (refine wpList_load_of (t := 25) rfl (by kernel_rfl) (by kernel_rfl) (L0.out _ (IA.new w i 25)) ?_)
    | (go_at_call 12; refine (C0.out _ (bel_alloc (Below.refl _ _) _)).mono ?_; rintro e w1 ⟨rfl, hb1⟩; have B1 : Hid (Below w.heap.size w w1) := ⟨bel_trans (bel_alloc (Below.refl _ _) _) hb1⟩; clear hb1))
  go_ret
  exact ⟨rfl, B1.out⟩
set_option maxHeartbeats 2000000 in
theorem sets_no (i : I) (w : World) (hw : Gl w) (hc : checkB i = false) :
    Calls Tryd.prog 25 #[i.val] w fun e w' => e = .returned (.int .i64 0) ∧ Below w.heap.size w w' := by
  have C0 : Hid (∀ v, Below w.heap.size w v → Calls Tryd.prog 12 #[i.val] v fun e w' => e = .returned (.int .i64 30) ∧ Below v.heap.size v w') := ⟨fun v hv => by have := check_any i v (hw.bel hv); rw [hc] at this; exact this⟩
  have L0 : Hid (∀ v, IA v w.heap.size i → (loadVar 25 ⟨w.heap.size, 0, none⟩).run Tryd.prog v = .ok i.val v) := ⟨fun v h => h.whole⟩
  unfold I.val at *
  clear hw hc
  go_enter Tryd.func25, Tryd.ntmps25
  go_wp2_with (first
    | (refine wpList_load_of (t := 25) rfl (by kernel_rfl) (by kernel_rfl) (L0.out _ (IA.new w i 25)) ?_)
    | (go_at_call 12; refine (C0.out _ (bel_alloc (Below.refl _ _) _)).mono ?_; rintro e w1 ⟨rfl, hb1⟩; have B1 : Hid (Below w.heap.size w w1) := ⟨bel_trans (bel_alloc (Below.refl _ _) _) hb1⟩; clear hb1))
  go_ret
  exact ⟨rfl, B1.out⟩

theorem uses_any (i : I) (w : World) (hw : Gl w) :
    Calls Tryd.prog 23 #[i.val] w fun e w' => e = .returned (.int .i64 (usesV i)) ∧ Below w.heap.size w w' := by
  unfold usesV
  cases hc : checkB i
  · exact uses_no i w hw hc
  · have hm := check_may hc
    have ho := check_op hc
    exact uses_core i (rowL i.op) w (addrBitsV i.to) (addrBitsV i.fr) (regBitV i.to) (regBitV i.fr) ⟨fun v hv => by have := check_any i v (hw.bel hv); rw [hc] at this; exact this⟩ ⟨fun v => rowOf_yes i.op v ho.1 ho.2⟩
      ⟨fun v => addrBits_any i.to v (mem_in hm.1)⟩ ⟨fun v => addrBits_any i.fr v (mem_in hm.2)⟩ ⟨fun v => regBit_any i.fr v (reg_in hm.2)⟩ ⟨fun v => regBit_any i.to v (reg_in hm.1)⟩
theorem sets_any (i : I) (w : World) (hw : Gl w) :
    Calls Tryd.prog 25 #[i.val] w fun e w' => e = .returned (.int .i64 (setsV i)) ∧ Below w.heap.size w w' := by
  unfold setsV
  cases hc : checkB i
  · exact sets_no i w hw hc
  · have hm := check_may hc
    have ho := check_op hc
    exact sets_core i (rowL i.op) w (regBitV i.to) (regBitV i.fr) ⟨fun v hv => by have := check_any i v (hw.bel hv); rw [hc] at this; exact this⟩ ⟨fun v => rowOf_yes i.op v ho.1 ho.2⟩
      ⟨fun v => regBit_any i.fr v (reg_in hm.2)⟩ ⟨fun v => regBit_any i.to v (reg_in hm.1)⟩

/-- The move that the law knows. -/
def kI : I := ⟨1, 8, 0, ⟨1, 3, 0, 0, 0, false, false, 0, ⟨#[]⟩, 0⟩, ⟨3, 0, 5, -1, 0, false, false, 8, ⟨#[]⟩, 0⟩, false⟩
theorem k_check : checkB kI = true := by decide +kernel
theorem k_text : textV kI = ⟨#[109, 111, 118, 113, 32, 56, 40, 37, 114, 98, 112, 41, 44, 32, 37, 114, 98, 120]⟩ := by decide +kernel
theorem k_uses : usesV kI = 32 := by decide +kernel
theorem k_sets : setsV kI = 8 := by decide +kernel

set_option maxHeartbeats 2000000 in
set_option maxRecDepth 4000 in
theorem knows_any (w : World) (hw : Gp w) :
    Calls Tryd.prog 14 #[] w fun e w' => e = .returned (.bool true) ∧ Below w.heap.size w w' := by
  have C0 : Hid (∀ v, Below w.heap.size w v → Calls Tryd.prog 9 #[.agg #[.int .i64 1, .int .i64 8, .int .i64 0, .int .i64 1, .int .i64 3, .int .i64 0, .int .i64 0, .int .i64 0, .bool false, .bool false, .int .i64 0, .string ⟨#[]⟩, .int .i64 0, .int .i64 3, .int .i64 0, .int .i64 5, .int .i64 (-1), .int .i64 0, .bool false, .bool false, .int .i64 8, .string ⟨#[]⟩, .int .i64 0, .bool false]] v fun e w' => e = .returned (.tuple #[.string ⟨#[109, 111, 118, 113, 32, 56, 40, 37, 114, 98, 112, 41, 44, 32, 37, 114, 98, 120]⟩, .int .i64 0]) ∧ Below v.heap.size v w') := ⟨fun v hv => by
    have := text_any kI v (hw.bel hv) ⟨by unfold i64; decide, by unfold i64; decide, by unfold i64; decide, by unfold i64; decide⟩
    rw [k_check, k_text] at this
    exact this⟩
  have C1 : Hid (∀ v, Below w.heap.size w v → Calls Tryd.prog 23 #[.agg #[.int .i64 1, .int .i64 8, .int .i64 0, .int .i64 1, .int .i64 3, .int .i64 0, .int .i64 0, .int .i64 0, .bool false, .bool false, .int .i64 0, .string ⟨#[]⟩, .int .i64 0, .int .i64 3, .int .i64 0, .int .i64 5, .int .i64 (-1), .int .i64 0, .bool false, .bool false, .int .i64 8, .string ⟨#[]⟩, .int .i64 0, .bool false]] v fun e w' => e = .returned (.int .i64 32) ∧ Below v.heap.size v w') := ⟨fun v hv => by
    have := uses_any kI v (hw.g.bel hv)
    rw [k_uses] at this
    exact this⟩
  have C2 : Hid (∀ v, Below w.heap.size w v → Calls Tryd.prog 25 #[.agg #[.int .i64 1, .int .i64 8, .int .i64 0, .int .i64 1, .int .i64 3, .int .i64 0, .int .i64 0, .int .i64 0, .bool false, .bool false, .int .i64 0, .string ⟨#[]⟩, .int .i64 0, .int .i64 3, .int .i64 0, .int .i64 5, .int .i64 (-1), .int .i64 0, .bool false, .bool false, .int .i64 8, .string ⟨#[]⟩, .int .i64 0, .bool false]] v fun e w' => e = .returned (.int .i64 8) ∧ Below v.heap.size v w') := ⟨fun v hv => by
    have := sets_any kI v (hw.g.bel hv)
    rw [k_sets] at this
    exact this⟩
  have L0 : Hid (∀ v, IA v w.heap.size kI → (loadVar 25 ⟨w.heap.size, 0, none⟩).run Tryd.prog v = .ok (.agg #[.int .i64 1, .int .i64 8, .int .i64 0, .int .i64 1, .int .i64 3, .int .i64 0, .int .i64 0, .int .i64 0, .bool false, .bool false, .int .i64 0, .string ⟨#[]⟩, .int .i64 0, .int .i64 3, .int .i64 0, .int .i64 5, .int .i64 (-1), .int .i64 0, .bool false, .bool false, .int .i64 8, .string ⟨#[]⟩, .int .i64 0, .bool false]) v) := ⟨fun v h => h.whole⟩
  clear hw
  go_enter Tryd.func14, Tryd.ntmps14
  go_wp2_with (first
    | (refine wpList_store_row rfl 25 _ _ rfl w.heap.size #[.int .i64 1, .int .i64 8, .int .i64 0, .int .i64 1, .int .i64 3, .int .i64 0, .int .i64 0, .int .i64 0, .bool false, .bool false, .int .i64 0, .string ⟨#[]⟩, .int .i64 0, .int .i64 3, .int .i64 0, .int .i64 5, .int .i64 (-1), .int .i64 0, .bool false, .bool false, .int .i64 8, .string ⟨#[]⟩, .int .i64 0, .bool false] (by kernel_rfl) (by kernel_rfl) 25 _ (heap_alloc_last w _) (by kernel_rfl) (by kernel_rfl) (by kernel_rfl) ?_; rw [World.setRow_alloc_new]; have A0 : Hid (IA (w.alloc (.cells #[.int .i64 1, .int .i64 8, .int .i64 0, .int .i64 1, .int .i64 3, .int .i64 0, .int .i64 0, .int .i64 0, .bool false, .bool false, .int .i64 0, .string ⟨#[]⟩, .int .i64 0, .int .i64 3, .int .i64 0, .int .i64 5, .int .i64 (-1), .int .i64 0, .bool false, .bool false, .int .i64 8, .string ⟨#[]⟩, .int .i64 0, .bool false] 25)) w.heap.size kI) := ⟨IA.new w kI _⟩)
    | (refine wpList_load_of (t := 25) rfl (by kernel_rfl) (by kernel_rfl) (L0.out _ (by first | exact A2.out | exact A1.out | exact A0.out)) ?_)
    | (go_at_call 9; refine (C0.out _ (bel_alloc (Below.refl _ _) _)).mono ?_; rintro e w1 ⟨rfl, hb1⟩; have B1 : Hid (Below w.heap.size w w1) := ⟨bel_trans (bel_alloc (Below.refl _ _) _) hb1⟩; have A1 : Hid (IA w1 w.heap.size kI) := ⟨A0.out.bel hb1⟩; clear hb1)
    | (go_at_call 11; refine (num_any _ _).mono ?_; rintro e wn ⟨rfl, hwn⟩; subst wn)
    | (go_at_call 23; refine (C1.out _ B1.out).mono ?_; rintro e w2 ⟨rfl, hb2⟩; have B2 : Hid (Below w.heap.size w w2) := ⟨bel_trans B1.out hb2⟩; have A2 : Hid (IA w2 w.heap.size kI) := ⟨A1.out.bel hb2⟩; clear hb2)
    | (go_at_call 25; refine (C2.out _ B2.out).mono ?_; rintro e w3 ⟨rfl, hb3⟩; have B3 : Hid (Below w.heap.size w w3) := ⟨bel_trans B2.out hb3⟩; clear hb3))
  go_ret
  exact ⟨rfl, B3.out⟩
end Go.Proofs.YtdgejingoamfeaaDoor
