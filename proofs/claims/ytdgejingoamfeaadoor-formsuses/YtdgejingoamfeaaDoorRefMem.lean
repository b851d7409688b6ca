/- The document's mem. -/
import Derived.Test.YtdgejingoamfeaaDoorRefNamed
namespace Go.Proofs.YtdgejingoamfeaaDoor
open Go.ChangeShapes Go.WideShapes Go.ChangeAt Go.RowKit
set_option linter.unusedVariables false

/-- The operand without its name, number and mod. -/
def bareO (o : O) : O := ⟨o.k, o.r, o.b, o.x, o.s, o.rip, o.fs, 0, ⟨#[]⟩, 0⟩
def memRB (o : O) : Bool :=
  if o.rip then (bareO o).same ⟨3, 0, -1, -1, 0, true, false, 0, ⟨#[]⟩, 0⟩ && namedB o [0, 2, 3]
  else if o.fs then (bareO o).same ⟨3, 0, -1, -1, 0, false, true, 0, ⟨#[]⟩, 0⟩ && namedB o [4]
  else if isRegB o.b && namedB o [4, 5] then
    (if o.x = -1 then (bareO o).same ⟨3, 0, o.b, -1, 0, false, false, 0, ⟨#[]⟩, 0⟩
     else if isRegB o.x && (o.x != 4 && [1, 2, 4, 8].contains o.s) then (bareO o).same ⟨3, 0, o.b, o.x, o.s, false, false, 0, ⟨#[]⟩, 0⟩ else false)
  else false

theorem named_at (o : O) {d : Bool} {zs : List Int} (hs : o.nm.size ≤ 9223372036854775807) (hd : namedB o zs = d) (n : Nat) (hn : n = zs.length) (hb : n ≤ 100) : Hid (∀ (v : World) b, Ints v b zs → Calls Tryd.prog 89 #[.agg #[.int .i64 o.k, .int .i64 o.r, .int .i64 o.b, .int .i64 o.x, .int .i64 o.s, .bool o.rip, .bool o.fs, .int .i64 o.n, .string o.nm, .int .i64 o.m], .slice (some ⟨b, 0, none⟩) n n] v fun e w' => e = .returned (.bool d) ∧ Below v.heap.size v w') :=
  ⟨fun v b hi => hd ▸ refNamed_any o b n n zs v hs hn hb hi⟩

set_option maxHeartbeats 2000000 in
theorem refMem_rip (o : O) (w : World) (hs : o.nm.size ≤ 9223372036854775807) (hrip : o.rip = true) :
    Calls Tryd.prog 64 #[o.val] w fun e w' => e = .returned (.bool (memRB o)) ∧ Below w.heap.size w w' := by
  have FE : ∀ v, Sem.run Tryd.prog (binOp .eql 23 (bareO o).val (O.val ⟨3, 0, -1, -1, 0, true, false, 0, ⟨#[]⟩, 0⟩)) v = .ok (.bool ((bareO o).same ⟨3, 0, -1, -1, 0, true, false, 0, ⟨#[]⟩, 0⟩)) v := fun v => opd_eq _ _ v
  obtain ⟨c, hc⟩ : ∃ c, (bareO o).same ⟨3, 0, -1, -1, 0, true, false, 0, ⟨#[]⟩, 0⟩ = c := ⟨_, rfl⟩
  obtain ⟨d, hd⟩ : ∃ d, namedB o [0, 2, 3] = d := ⟨_, rfl⟩
  have HR : Hid (memRB o = (c && d)) := ⟨by simp only [memRB, hrip, if_true, hc, hd]⟩
  have HN := named_at o hs hd 3 rfl (by omega)
  rw [hc] at FE
  simp only [O.val, bareO] at FE
  rw [hrip] at FE HN
  unfold O.val
  rw [hrip]
  clear hc hd hrip hs
  rcases c with _ | _
  · go_enter Tryd.func64, Tryd.ntmps64
    go_wp2
    go_ret
    exact ⟨ret_bool (by rw [HR.out]; rfl), by repeat (first | (with_reducible exact Below.refl _ _) | (with_reducible refine bel_alloc ?_ _) | ((with_reducible refine Below.setCell ?_ ?_ _); rotate_left; (focus (dsimp only; omega))))⟩
  · go_enter Tryd.func64, Tryd.ntmps64
    go_wp2_with (go_at_call 89; refine (HN.out _ _ (ints3 (by simp [go_sem]) (by simp [go_sem]) (by simp [go_sem]))).mono ?_; rintro e w1 ⟨rfl, hb⟩)
    go_ret
    exact ⟨ret_bool (by rw [HR.out]; rfl), by refine bel_trans ?_ hb; repeat (first | (with_reducible exact Below.refl _ _) | (with_reducible refine bel_alloc ?_ _) | ((with_reducible refine Below.setCell ?_ ?_ _); rotate_left; (focus (dsimp only; omega))))⟩

set_option maxHeartbeats 2000000 in
theorem refMem_fs (o : O) (w : World) (hs : o.nm.size ≤ 9223372036854775807) (hrip : o.rip = false) (hfs : o.fs = true) :
    Calls Tryd.prog 64 #[o.val] w fun e w' => e = .returned (.bool (memRB o)) ∧ Below w.heap.size w w' := by
  have FE : ∀ v, Sem.run Tryd.prog (binOp .eql 23 (bareO o).val (O.val ⟨3, 0, -1, -1, 0, false, true, 0, ⟨#[]⟩, 0⟩)) v = .ok (.bool ((bareO o).same ⟨3, 0, -1, -1, 0, false, true, 0, ⟨#[]⟩, 0⟩)) v := fun v => opd_eq _ _ v
  obtain ⟨c, hc⟩ : ∃ c, (bareO o).same ⟨3, 0, -1, -1, 0, false, true, 0, ⟨#[]⟩, 0⟩ = c := ⟨_, rfl⟩
  obtain ⟨d, hd⟩ : ∃ d, namedB o [4] = d := ⟨_, rfl⟩
  have HR : Hid (memRB o = (c && d)) := ⟨by simp only [memRB, hrip, hfs, Bool.false_eq_true, if_false, if_true, hc, hd]⟩
  have HN := named_at o hs hd 1 rfl (by omega)
  rw [hc] at FE
  simp only [O.val, bareO] at FE
  rw [hrip, hfs] at FE HN
  unfold O.val
  rw [hrip, hfs]
  clear hc hd hrip hfs hs
  rcases c with _ | _
  · go_enter Tryd.func64, Tryd.ntmps64
    go_wp2
    go_ret
    exact ⟨ret_bool (by rw [HR.out]; rfl), by repeat (first | (with_reducible exact Below.refl _ _) | (with_reducible refine bel_alloc ?_ _) | ((with_reducible refine Below.setCell ?_ ?_ _); rotate_left; (focus (dsimp only; omega))))⟩
  · go_enter Tryd.func64, Tryd.ntmps64
    go_wp2_with (go_at_call 89; refine (HN.out _ _ (ints1 (by simp [go_sem]))).mono ?_; rintro e w1 ⟨rfl, hb⟩)
    go_ret
    exact ⟨ret_bool (by rw [HR.out]; rfl), by refine bel_trans ?_ hb; repeat (first | (with_reducible exact Below.refl _ _) | (with_reducible refine bel_alloc ?_ _) | ((with_reducible refine Below.setCell ?_ ?_ _); rotate_left; (focus (dsimp only; omega))))⟩
end Go.Proofs.YtdgejingoamfeaaDoor
