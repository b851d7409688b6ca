/- The contract of memoryText with an index. -/
import Derived.Test.YtdgejingoamfeaaDoorDisp3
namespace Go.Proofs.YtdgejingoamfeaaDoor
open Go.ChangeShapes Go.WideShapes Go.ChangeAt Go.RowKit
set_option linter.unusedVariables false

theorem keepM {w v u : World} {o : O} (h : v.cell? ⟨w.heap.size, 0, none⟩ = some (.int .i64 o.k) ∧ v.cell? ⟨w.heap.size, 1, none⟩ = some (.int .i64 o.r) ∧ v.cell? ⟨w.heap.size, 2, none⟩ = some (.int .i64 o.b) ∧ v.cell? ⟨w.heap.size, 3, none⟩ = some (.int .i64 o.x) ∧ v.cell? ⟨w.heap.size, 4, none⟩ = some (.int .i64 o.s) ∧ v.cell? ⟨w.heap.size, 5, none⟩ = some (.bool false) ∧ v.cell? ⟨w.heap.size, 6, none⟩ = some (.bool false) ∧ v.cell? ⟨w.heap.size, 7, none⟩ = some (.int .i64 o.n) ∧ v.cell? ⟨w.heap.size, 8, none⟩ = some (.string o.nm) ∧ v.cell? ⟨w.heap.size, 9, none⟩ = some (.int .i64 o.m) ∧ Hid (Gp v ∧ Below w.heap.size w v)) (hb : Below v.heap.size v u) : u.cell? ⟨w.heap.size, 0, none⟩ = some (.int .i64 o.k) ∧ u.cell? ⟨w.heap.size, 1, none⟩ = some (.int .i64 o.r) ∧ u.cell? ⟨w.heap.size, 2, none⟩ = some (.int .i64 o.b) ∧ u.cell? ⟨w.heap.size, 3, none⟩ = some (.int .i64 o.x) ∧ u.cell? ⟨w.heap.size, 4, none⟩ = some (.int .i64 o.s) ∧ u.cell? ⟨w.heap.size, 5, none⟩ = some (.bool false) ∧ u.cell? ⟨w.heap.size, 6, none⟩ = some (.bool false) ∧ u.cell? ⟨w.heap.size, 7, none⟩ = some (.int .i64 o.n) ∧ u.cell? ⟨w.heap.size, 8, none⟩ = some (.string o.nm) ∧ u.cell? ⟨w.heap.size, 9, none⟩ = some (.int .i64 o.m) ∧ Hid (Gp u ∧ Below w.heap.size w u) := ⟨to_bel hb h.1, to_bel hb h.2.1, to_bel hb h.2.2.1, to_bel hb h.2.2.2.1, to_bel hb h.2.2.2.2.1, to_bel hb h.2.2.2.2.2.1, to_bel hb h.2.2.2.2.2.2.1, to_bel hb h.2.2.2.2.2.2.2.1, to_bel hb h.2.2.2.2.2.2.2.2.1, to_bel hb h.2.2.2.2.2.2.2.2.2.1, ⟨h.2.2.2.2.2.2.2.2.2.2.out.1.bel hb, bel_trans h.2.2.2.2.2.2.2.2.2.2.out.2 hb⟩⟩
theorem lastM {w v : World} {o : O} (h : v.cell? ⟨w.heap.size, 0, none⟩ = some (.int .i64 o.k) ∧ v.cell? ⟨w.heap.size, 1, none⟩ = some (.int .i64 o.r) ∧ v.cell? ⟨w.heap.size, 2, none⟩ = some (.int .i64 o.b) ∧ v.cell? ⟨w.heap.size, 3, none⟩ = some (.int .i64 o.x) ∧ v.cell? ⟨w.heap.size, 4, none⟩ = some (.int .i64 o.s) ∧ v.cell? ⟨w.heap.size, 5, none⟩ = some (.bool false) ∧ v.cell? ⟨w.heap.size, 6, none⟩ = some (.bool false) ∧ v.cell? ⟨w.heap.size, 7, none⟩ = some (.int .i64 o.n) ∧ v.cell? ⟨w.heap.size, 8, none⟩ = some (.string o.nm) ∧ v.cell? ⟨w.heap.size, 9, none⟩ = some (.int .i64 o.m) ∧ Hid (Gp v ∧ Below w.heap.size w v)) : Gp v ∧ Below w.heap.size w v := (h.2.2.2.2.2.2.2.2.2.2.out)

set_option maxHeartbeats 4000000 in
theorem memText_long (o : O) (w : World) (hn : i64 o.n) (hi : i64 o.s) (hm : 0 ≤ o.m ∧ o.m ≤ 5) (hs : o.nm.size ≤ 255) (hw : Gp w) (hf : o.fs = false) (hr : o.rip = false) (hx : ¬ o.x < 0) :
    Calls Tryd.prog 70 #[o.val] w fun e w' => e = .returned (.string (memV o)) ∧ Below w.heap.size w w' := by
  have HD := disp_at o w hn hm hs hw
  have HB : Hid (∀ v, Gp v → Calls Tryd.prog 94 #[.agg #[.int .i64 o.k, .int .i64 o.r, .int .i64 o.b, .int .i64 o.x, .int .i64 o.s, .bool o.rip, .bool o.fs, .int .i64 o.n, .string o.nm, .int .i64 o.m]] v fun e w' => e = .returned (.string (baseV o)) ∧ Below v.heap.size v w') := ⟨fun v hv => baseText_any o v hv.g⟩
  have HG : Hid (∀ v, Gp v → Calls Tryd.prog 21 #[.int .i64 o.x, .int .i64 8] v fun e w' => e = .returned (.string (regV o.x 8)) ∧ Below v.heap.size v w') := ⟨fun v hv => register_any o.x 8 v hv.g⟩
  have HI : Hid (∀ v, Gp v → Calls Tryd.prog 69 #[.int .i64 o.s] v fun e w' => e = .returned (.string (itoaS o.s)) ∧ Below v.heap.size v w') := ⟨fun v hv => itoa_any o.s v hi.1 hi.2 hv⟩
  have h1 := dispV_size o hn hs
  have h2 := baseV_size o
  have h3 := regV_size o.x 8
  have h4 := itoa_size o.s hi
  have HR : Hid (memV o = ((((((dispV o ++ ⟨#[40]⟩) ++ baseV o) ++ ⟨#[44, 37]⟩) ++ regV o.x 8) ++ ⟨#[44]⟩) ++ itoaS o.s) ++ ⟨#[41]⟩) := ⟨by unfold memV; simp [hf, hr, hx]⟩
  generalize dispV o = d at *
  generalize baseV o = b at *
  generalize regV o.x 8 = g at *
  generalize itoaS o.s = t at *
  have k1 : (⟨#[40]⟩ : ByteArray).size = 1 := rfl
  have k2 : (⟨#[44, 37]⟩ : ByteArray).size = 2 := rfl
  have k3 : (⟨#[44]⟩ : ByteArray).size = 1 := rfl
  have k4 : (⟨#[41]⟩ : ByteArray).size = 1 := rfl
  have S1 : ∀ v, (Op.stringOp .add d ⟨#[40]⟩).run Tryd.prog v = .ok (.string (d ++ ⟨#[40]⟩)) v := fun v => run_string_add_sum v _ _ (by omega)
  have S2 : ∀ v, (Op.stringOp .add (d ++ ⟨#[40]⟩) b).run Tryd.prog v = .ok (.string (d ++ ⟨#[40]⟩ ++ b)) v := fun v => run_string_add_sum v _ _ (by simp only [ByteArray.size_append]; omega)
  have S3 : ∀ v, (Op.stringOp .add (d ++ ⟨#[40]⟩ ++ b) ⟨#[44, 37]⟩).run Tryd.prog v = .ok (.string (d ++ ⟨#[40]⟩ ++ b ++ ⟨#[44, 37]⟩)) v := fun v => run_string_add_sum v _ _ (by simp only [ByteArray.size_append]; omega)
  have S4 : ∀ v, (Op.stringOp .add (d ++ ⟨#[40]⟩ ++ b ++ ⟨#[44, 37]⟩) g).run Tryd.prog v = .ok (.string (d ++ ⟨#[40]⟩ ++ b ++ ⟨#[44, 37]⟩ ++ g)) v := fun v => run_string_add_sum v _ _ (by simp only [ByteArray.size_append]; omega)
  have S5 : ∀ v, (Op.stringOp .add (d ++ ⟨#[40]⟩ ++ b ++ ⟨#[44, 37]⟩ ++ g) ⟨#[44]⟩).run Tryd.prog v = .ok (.string (d ++ ⟨#[40]⟩ ++ b ++ ⟨#[44, 37]⟩ ++ g ++ ⟨#[44]⟩)) v := fun v => run_string_add_sum v _ _ (by simp only [ByteArray.size_append]; omega)
  have S6 : ∀ v, (Op.stringOp .add (d ++ ⟨#[40]⟩ ++ b ++ ⟨#[44, 37]⟩ ++ g ++ ⟨#[44]⟩) t).run Tryd.prog v = .ok (.string (d ++ ⟨#[40]⟩ ++ b ++ ⟨#[44, 37]⟩ ++ g ++ ⟨#[44]⟩ ++ t)) v := fun v => run_string_add_sum v _ _ (by simp only [ByteArray.size_append]; omega)
  have S7 : ∀ v, (Op.stringOp .add (d ++ ⟨#[40]⟩ ++ b ++ ⟨#[44, 37]⟩ ++ g ++ ⟨#[44]⟩ ++ t) ⟨#[41]⟩).run Tryd.prog v = .ok (.string (d ++ ⟨#[40]⟩ ++ b ++ ⟨#[44, 37]⟩ ++ g ++ ⟨#[44]⟩ ++ t ++ ⟨#[41]⟩)) v := fun v => run_string_add_sum v _ _ (by simp only [ByteArray.size_append]; omega)
  unfold O.val
  rw [hf, hr] at HD HB
  rw [hf, hr]
  have HW : Hid (Gp w) := ⟨hw⟩
  clear hn hi hm hw hf hr k1 k2 k3 k4 h1 h2 h3 h4 hs
  go_enter Tryd.func70, Tryd.ntmps70
  go_wp2_with (go_at_call 93; refine (HD.out _ (bel_alloc (Below.refl _ _) _)).mono ?_; rintro e v ⟨rfl, hb⟩; have B1 : Hid (Below w.heap.size w v) := ⟨bel_trans (bel_alloc (Below.refl _ _) _) hb⟩; obtain ⟨hcl, hfl⟩ := bcell hb; have hz1 : w.heap.size < v.heap.size := (by have := hb.size; simp at this; omega); clear hb)
  have K : v.drew.cell? ⟨w.heap.size, 0, none⟩ = some (.int .i64 o.k) ∧ v.drew.cell? ⟨w.heap.size, 1, none⟩ = some (.int .i64 o.r) ∧ v.drew.cell? ⟨w.heap.size, 2, none⟩ = some (.int .i64 o.b) ∧ v.drew.cell? ⟨w.heap.size, 3, none⟩ = some (.int .i64 o.x) ∧ v.drew.cell? ⟨w.heap.size, 4, none⟩ = some (.int .i64 o.s) ∧ v.drew.cell? ⟨w.heap.size, 5, none⟩ = some (.bool false) ∧ v.drew.cell? ⟨w.heap.size, 6, none⟩ = some (.bool false) ∧ v.drew.cell? ⟨w.heap.size, 7, none⟩ = some (.int .i64 o.n) ∧ v.drew.cell? ⟨w.heap.size, 8, none⟩ = some (.string o.nm) ∧ v.drew.cell? ⟨w.heap.size, 9, none⟩ = some (.int .i64 o.m) ∧ Hid (Gp v.drew ∧ Below w.heap.size w v.drew) := by
    have hb : Below w.heap.size w v.drew := B1.out.drew
    refine ⟨?_, ?_, ?_, ?_, ?_, ?_, ?_, ?_, ?_, ?_, ⟨HW.out.bel hb, hb⟩⟩
    all_goals refine up_drew ?_; rw [hcl _ _ (by simp)]; simp
  clear hcl hfl hz1 HW HD
  go_region_held3 (fun v => v.cell? ⟨w.heap.size, 0, none⟩ = some (.int .i64 o.k) ∧ v.cell? ⟨w.heap.size, 1, none⟩ = some (.int .i64 o.r) ∧ v.cell? ⟨w.heap.size, 2, none⟩ = some (.int .i64 o.b) ∧ v.cell? ⟨w.heap.size, 3, none⟩ = some (.int .i64 o.x) ∧ v.cell? ⟨w.heap.size, 4, none⟩ = some (.int .i64 o.s) ∧ v.cell? ⟨w.heap.size, 5, none⟩ = some (.bool false) ∧ v.cell? ⟨w.heap.size, 6, none⟩ = some (.bool false) ∧ v.cell? ⟨w.heap.size, 7, none⟩ = some (.int .i64 o.n) ∧ v.cell? ⟨w.heap.size, 8, none⟩ = some (.string o.nm) ∧ v.cell? ⟨w.heap.size, 9, none⟩ = some (.int .i64 o.m) ∧ Hid (Gp v ∧ Below w.heap.size w v))
    (first | (with_reducible assumption) | exact keepM (by with_reducible assumption) hb)
    (first
      | (go_at_call 94; refine (HB.out _ (lastM (by with_reducible assumption)).1).mono ?_; rintro e wp ⟨rfl, hb⟩)
      | (go_at_call 21; refine (HG.out _ (lastM (by with_reducible assumption)).1).mono ?_; rintro e wp ⟨rfl, hb⟩)
      | (go_at_call 69; refine (HI.out _ (lastM (by with_reducible assumption)).1).mono ?_; rintro e wp ⟨rfl, hb⟩))
  go_wp2
  go_ret
  exact ⟨ret_str HR.out.symm, (lastM (by with_reducible assumption)).2⟩
end Go.Proofs.YtdgejingoamfeaaDoor
