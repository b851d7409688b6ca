/- The contract of displacementText. -/
import Derived.Test.YtdgejingoamfeaaDoorDisp
import Derived.Deep.RegionHeld3
namespace Go.Proofs.YtdgejingoamfeaaDoor
open Go.ChangeShapes Go.WideShapes Go.ChangeAt Go.RowKit
set_option linter.unusedVariables false

theorem hid {p : Prop} (h : p) : Hid p := ⟨h⟩

/-- The displacement's text. -/
def dispV (o : O) : ByteArray :=
  if empB o.nm then (if o.n = 0 ∧ o.fs = false then ⟨#[]⟩ else itoaS o.n)
  else if o.n = 0 then o.nm ++ modV o.m else (o.nm ++ modV o.m) ++ signV o.n
theorem dispV_size (o : O) (hn : i64 o.n) (hs : o.nm.size ≤ 255) : (dispV o).size ≤ 300 := by
  have h1 := itoa_size o.n hn
  have h2 := signV_size o.n hn
  have h3 := modV_size o.m
  have h4 : (⟨#[]⟩ : ByteArray).size = 0 := rfl
  unfold dispV
  split
  · split <;> omega
  · split
    · rw [ByteArray.size_append]; omega
    · rw [ByteArray.size_append, ByteArray.size_append]; omega

theorem keepD {w v u : World} {m : Nat} {n mm : Int} {nm t : ByteArray} (h : v.cell? ⟨w.heap.size, 8, none⟩ = some (.string nm) ∧ v.cell? ⟨w.heap.size, 9, none⟩ = some (.int .i64 mm) ∧ v.cell? ⟨w.heap.size, 7, none⟩ = some (.int .i64 n) ∧ v.cell? ⟨3, m, none⟩ = some (.string t) ∧ Hid (Gp v ∧ Below w.heap.size w v))
    (hb : Below v.heap.size v u) : u.cell? ⟨w.heap.size, 8, none⟩ = some (.string nm) ∧ u.cell? ⟨w.heap.size, 9, none⟩ = some (.int .i64 mm) ∧ u.cell? ⟨w.heap.size, 7, none⟩ = some (.int .i64 n) ∧ u.cell? ⟨3, m, none⟩ = some (.string t) ∧ Hid (Gp u ∧ Below w.heap.size w u) :=
  ⟨to_bel hb h.1, to_bel hb h.2.1, to_bel hb h.2.2.1, to_bel hb h.2.2.2.1, ⟨h.2.2.2.2.out.1.bel hb, bel_trans h.2.2.2.2.out.2 hb⟩⟩
theorem bel_drew (v : World) : Below v.heap.size v v.drew := (Below.refl _ _).drew

set_option maxHeartbeats 2000000 in
theorem disp_both (o : O) (w : World) (hn : i64 o.n) (hm : 0 ≤ o.m ∧ o.m ≤ 5) (hs : o.nm.size ≤ 255) (hw : Gp w) (he : o.nm.toList.isEmpty = false) (h0 : ¬ o.n = 0) :
    Calls Tryd.prog 93 #[o.val] w fun e w' => e = .returned (.string ((o.nm ++ modV o.m) ++ signV o.n)) ∧ Below w.heap.size w w' := by
  unfold O.val
  have h0' : (o.n != 0) = true := by simpa using h0
  obtain ⟨m, hm'⟩ := Int.eq_ofNat_of_zero_le hm.1
  have hm2 := hm.2
  have HS : Hid (∀ v, Gp v → Calls Tryd.prog 95 #[.int .i64 o.n] v fun e w' => e = .returned (.string (signV o.n)) ∧ Below v.heap.size v w') := ⟨fun v hv => withSign_any o.n v hn hv⟩
  have hz := modV_size o.m
  have hy := signV_size o.n hn
  have HT : Hid (∀ v, Gp v → v.cell? ⟨3, m, none⟩ = some (.string (modV o.m))) := ⟨fun v hv => (hv.g.mods m (by omega)).trans (by rw [modV, hm']; rfl)⟩
  generalize modV o.m = t at *
  generalize signV o.n = s at *
  rw [hm'] at hm2 ⊢
  have HW : Hid (Gp w) := ⟨hw⟩
  have hm3 : (m : Int) < 6 := by omega
  have hm4 : (0 : Int) ≤ (m : Int) := by omega
  have S1 : ∀ v, (Op.stringOp .add o.nm t).run Tryd.prog v = .ok (.string (o.nm ++ t)) v := fun v => run_string_add_sum v _ _ (by omega)
  have S2 : ∀ v, (Op.stringOp .add (o.nm ++ t) s).run Tryd.prog v = .ok (.string (o.nm ++ t ++ s)) v := fun v => run_string_add_sum v _ _ (by rw [ByteArray.size_append]; omega)
  clear hw hn hm hm' h0
  go_enter Tryd.func93, Tryd.ntmps93
  go_wp2
  generalize hv : w.alloc (.cells #[.int .i64 o.k, .int .i64 o.r, .int .i64 o.b, .int .i64 o.x, .int .i64 o.s, .bool o.rip, .bool o.fs, .int .i64 o.n, .string o.nm, .int .i64 m] 23) = v
  have K : v.drew.cell? ⟨w.heap.size, 8, none⟩ = some (.string o.nm) ∧ v.drew.cell? ⟨w.heap.size, 9, none⟩ = some (.int .i64 m) ∧ v.drew.cell? ⟨w.heap.size, 7, none⟩ = some (.int .i64 o.n) ∧ v.drew.cell? ⟨3, m, none⟩ = some (.string t) ∧ Hid (Gp v.drew ∧ Below w.heap.size w v.drew) := by
    have hb : Below w.heap.size w v.drew := by rw [← hv]; exact (bel_alloc (Below.refl _ _) _).drew
    have hg := HW.out.bel hb
    refine ⟨?_, ?_, ?_, HT.out _ hg, ⟨hg, hb⟩⟩
    all_goals rw [← hv]; refine up_drew ?_; simp
  clear hv
  go_region_held3 (fun v => v.cell? ⟨w.heap.size, 8, none⟩ = some (.string o.nm) ∧ v.cell? ⟨w.heap.size, 9, none⟩ = some (.int .i64 m) ∧ v.cell? ⟨w.heap.size, 7, none⟩ = some (.int .i64 o.n) ∧ v.cell? ⟨3, m, none⟩ = some (.string t) ∧ Hid (Gp v ∧ Below w.heap.size w v))
    (first | (with_reducible assumption) | exact keepD (by with_reducible assumption) hb)
    (first | (go_at_call 95; refine (HS.out _ (And.right (And.right (And.right (And.right (by with_reducible assumption : _ ∧ _ ∧ _ ∧ _ ∧ Hid (Gp _ ∧ _)))))).out.1).mono ?_; rintro e wp ⟨rfl, hb⟩))
  go_wp2
  go_ret
  exact ⟨rfl, (And.right (And.right (And.right (And.right (by with_reducible assumption : _ ∧ _ ∧ _ ∧ _ ∧ Hid (Gp _ ∧ _)))))).out.2⟩
end Go.Proofs.YtdgejingoamfeaaDoor
