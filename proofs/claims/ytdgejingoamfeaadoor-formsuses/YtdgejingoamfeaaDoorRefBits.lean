/- The document's bit and inside. The document's Uses. The document's Sets. -/
import Derived.Test.YtdgejingoamfeaaDoorTextAny
import Derived.Test.YtdgejingoamfeaaDoorWhole
import Derived.Deep.RegionHeld3
import Derived.Deep.RegionWith
namespace Go.Proofs.YtdgejingoamfeaaDoor
open Go.ChangeShapes Go.WideShapes Go.ChangeAt Go.RowKit
set_option linter.unusedVariables false

theorem refBit_any (r : Int) (w : World) (h : 0 ≤ r ∧ r ≤ 15) :
    Calls Tryd.prog 49 #[.int .i64 r] w fun e w' => e = .returned (.int .i64 (bitV r)) ∧ w' = w := by
  obtain ⟨m, rfl⟩ := Int.eq_ofNat_of_zero_le h.1
  have h2 := h.2
  clear h
  go_enter Tryd.func49, Tryd.ntmps49
  go_wp2
  go_ret
  exact ⟨ret_int (wrap_pow m (by omega)), rfl⟩

def insV (o : O) (r : Bool) : Int :=
  if o.k = 1 then (if r then bitV o.r else 0) else if o.k = 3 then (if 0 ≤ o.x then orV (if 0 ≤ o.b then bitV o.b else 0) (bitV o.x) else (if 0 ≤ o.b then bitV o.b else 0)) else 0

set_option maxHeartbeats 2000000 in
theorem refInside_any (o : O) (r : Bool) (w : World) (h1 : o.k = 1 → 0 ≤ o.r ∧ o.r ≤ 15) (h3 : o.k = 3 → (-1 ≤ o.b ∧ o.b ≤ 15) ∧ (-1 ≤ o.x ∧ o.x ≤ 15)) :
    Calls Tryd.prog 48 #[o.val, .bool r] w fun e w' => e = .returned (.int .i64 (insV o r)) ∧ Below w.heap.size w w' := by
  by_cases hk : o.k = 1
  · have CB : Hid (∀ v, Calls Tryd.prog 49 #[.int .i64 o.r] v fun e w' => e = .returned (.int .i64 (bitV o.r)) ∧ w' = v) := ⟨fun v => refBit_any o.r v (h1 hk)⟩
    have HR : Hid (insV o r = if r then bitV o.r else 0) := ⟨by unfold insV; rw [if_pos hk]⟩
    have hk' : (o.k == 1) = true := by simp [hk]
    generalize insV o r = z at *
    unfold O.val
    clear h1 h3 hk
    rcases r with _ | _
    all_goals
      go_enter Tryd.func48, Tryd.ntmps48
      go_wp2_with (go_at_call 49; refine (CB.out _).mono ?_; rintro e w1 ⟨rfl, hw⟩; subst w1)
      go_ret
      exact ⟨ret_int (by rw [HR.out]; rfl), bel_alloc (Below.refl _ _) _⟩
  · have hk1 : (o.k == 1) = false := by simp [hk]
    by_cases hk3 : o.k = 3
    · obtain ⟨hb, hx⟩ := h3 hk3
      have HR : Hid (insV o r = if 0 ≤ o.x then orV (if 0 ≤ o.b then bitV o.b else 0) (bitV o.x) else (if 0 ≤ o.b then bitV o.b else 0)) := ⟨by unfold insV; rw [if_neg hk, if_pos hk3]⟩
      have hk' : (o.k == 3) = true := by simp [hk3]
      have CB : Hid (0 ≤ o.b → ∀ v, Calls Tryd.prog 49 #[.int .i64 o.b] v fun e w' => e = .returned (.int .i64 (bitV o.b)) ∧ w' = v) := ⟨fun e v => refBit_any o.b v ⟨e, hb.2⟩⟩
      have CX : Hid (0 ≤ o.x → ∀ v, Calls Tryd.prog 49 #[.int .i64 o.x] v fun e w' => e = .returned (.int .i64 (bitV o.x)) ∧ w' = v) := ⟨fun e v => refBit_any o.x v ⟨e, hx.2⟩⟩
      generalize insV o r = z at *
      unfold O.val
      clear h1 h3 hk hk3 hb hx
      by_cases g1 : 0 ≤ o.b <;> by_cases g2 : 0 ≤ o.x
      · have C1 : Hid _ := ⟨CB.out g1⟩
        have C2 : Hid _ := ⟨CX.out g2⟩
        have HZ : Hid (z = orV (bitV o.b) (bitV o.x)) := ⟨by rw [HR.out, if_pos g2, if_pos g1]⟩
        have tk : True := trivial
        clear HR CB CX
        go_enter Tryd.func48, Tryd.ntmps48
        go_wp2_with (first | (go_at_call 49; clear tk; refine (C1.out _).mono ?_; rintro e w1 ⟨rfl, hw⟩; subst w1) | (go_at_call 49; refine (C2.out _).mono ?_; rintro e w1 ⟨rfl, hw⟩; subst w1))
        go_ret
        exact ⟨ret_int (by rw [HZ.out]; rfl), bel_alloc (Below.refl _ _) _⟩
      · have C1 : Hid _ := ⟨CB.out g1⟩
        have HZ : Hid (z = bitV o.b) := ⟨by rw [HR.out, if_neg g2, if_pos g1]⟩
        clear HR CB CX
        go_enter Tryd.func48, Tryd.ntmps48
        go_wp2_with (go_at_call 49; refine (C1.out _).mono ?_; rintro e w1 ⟨rfl, hw⟩; subst w1)
        go_ret
        exact ⟨ret_int HZ.out.symm, bel_alloc (Below.refl _ _) _⟩
      · have C2 : Hid _ := ⟨CX.out g2⟩
        have HZ : Hid (z = orV 0 (bitV o.x)) := ⟨by rw [HR.out, if_pos g2, if_neg g1]⟩
        clear HR CB CX
        go_enter Tryd.func48, Tryd.ntmps48
        go_wp2_with (go_at_call 49; refine (C2.out _).mono ?_; rintro e w1 ⟨rfl, hw⟩; subst w1)
        go_ret
        exact ⟨ret_int (by rw [HZ.out]; rfl), bel_alloc (Below.refl _ _) _⟩
      · have HZ : Hid (z = 0) := ⟨by rw [HR.out, if_neg g2, if_neg g1]⟩
        clear HR CB CX
        go_enter Tryd.func48, Tryd.ntmps48
        go_wp2
        go_ret
        exact ⟨ret_int HZ.out.symm, bel_alloc (Below.refl _ _) _⟩
    · have HR : Hid (insV o r = 0) := ⟨by unfold insV; rw [if_neg hk, if_neg hk3]⟩
      have hk' : (o.k == 3) = false := by simp [hk3]
      unfold O.val
      clear h1 h3 hk hk3
      go_enter Tryd.func48, Tryd.ntmps48
      go_wp2
      go_ret
      exact ⟨ret_int HR.out.symm, bel_alloc (Below.refl _ _) _⟩

theorem mkR {w v : World} {i : I} (h : IA v w.heap.size i ∧ Below w.heap.size w v) : v.cell? ⟨w.heap.size, 3, none⟩ = some (.int .i64 i.to.k) ∧ v.cell? ⟨w.heap.size, 4, none⟩ = some (.int .i64 i.to.r) ∧ v.cell? ⟨w.heap.size, 5, none⟩ = some (.int .i64 i.to.b) ∧ v.cell? ⟨w.heap.size, 6, none⟩ = some (.int .i64 i.to.x) ∧ v.cell? ⟨w.heap.size, 7, none⟩ = some (.int .i64 i.to.s) ∧ v.cell? ⟨w.heap.size, 8, none⟩ = some (.bool i.to.rip) ∧ v.cell? ⟨w.heap.size, 9, none⟩ = some (.bool i.to.fs) ∧ v.cell? ⟨w.heap.size, 10, none⟩ = some (.int .i64 i.to.n) ∧ v.cell? ⟨w.heap.size, 11, none⟩ = some (.string i.to.nm) ∧ v.cell? ⟨w.heap.size, 12, none⟩ = some (.int .i64 i.to.m) ∧ v.cell? ⟨w.heap.size, 13, none⟩ = some (.int .i64 i.fr.k) ∧ v.cell? ⟨w.heap.size, 14, none⟩ = some (.int .i64 i.fr.r) ∧ v.cell? ⟨w.heap.size, 15, none⟩ = some (.int .i64 i.fr.b) ∧ v.cell? ⟨w.heap.size, 16, none⟩ = some (.int .i64 i.fr.x) ∧ v.cell? ⟨w.heap.size, 17, none⟩ = some (.int .i64 i.fr.s) ∧ v.cell? ⟨w.heap.size, 18, none⟩ = some (.bool i.fr.rip) ∧ v.cell? ⟨w.heap.size, 19, none⟩ = some (.bool i.fr.fs) ∧ v.cell? ⟨w.heap.size, 20, none⟩ = some (.int .i64 i.fr.n) ∧ v.cell? ⟨w.heap.size, 21, none⟩ = some (.string i.fr.nm) ∧ v.cell? ⟨w.heap.size, 22, none⟩ = some (.int .i64 i.fr.m) ∧ Hid (IA v w.heap.size i ∧ Below w.heap.size w v) := ⟨h.1.c3, h.1.c4, h.1.c5, h.1.c6, h.1.c7, h.1.c8, h.1.c9, h.1.c10, h.1.c11, h.1.c12, h.1.c13, h.1.c14, h.1.c15, h.1.c16, h.1.c17, h.1.c18, h.1.c19, h.1.c20, h.1.c21, h.1.c22, ⟨h⟩⟩
theorem lastR {w v : World} {i : I} (h : v.cell? ⟨w.heap.size, 3, none⟩ = some (.int .i64 i.to.k) ∧ v.cell? ⟨w.heap.size, 4, none⟩ = some (.int .i64 i.to.r) ∧ v.cell? ⟨w.heap.size, 5, none⟩ = some (.int .i64 i.to.b) ∧ v.cell? ⟨w.heap.size, 6, none⟩ = some (.int .i64 i.to.x) ∧ v.cell? ⟨w.heap.size, 7, none⟩ = some (.int .i64 i.to.s) ∧ v.cell? ⟨w.heap.size, 8, none⟩ = some (.bool i.to.rip) ∧ v.cell? ⟨w.heap.size, 9, none⟩ = some (.bool i.to.fs) ∧ v.cell? ⟨w.heap.size, 10, none⟩ = some (.int .i64 i.to.n) ∧ v.cell? ⟨w.heap.size, 11, none⟩ = some (.string i.to.nm) ∧ v.cell? ⟨w.heap.size, 12, none⟩ = some (.int .i64 i.to.m) ∧ v.cell? ⟨w.heap.size, 13, none⟩ = some (.int .i64 i.fr.k) ∧ v.cell? ⟨w.heap.size, 14, none⟩ = some (.int .i64 i.fr.r) ∧ v.cell? ⟨w.heap.size, 15, none⟩ = some (.int .i64 i.fr.b) ∧ v.cell? ⟨w.heap.size, 16, none⟩ = some (.int .i64 i.fr.x) ∧ v.cell? ⟨w.heap.size, 17, none⟩ = some (.int .i64 i.fr.s) ∧ v.cell? ⟨w.heap.size, 18, none⟩ = some (.bool i.fr.rip) ∧ v.cell? ⟨w.heap.size, 19, none⟩ = some (.bool i.fr.fs) ∧ v.cell? ⟨w.heap.size, 20, none⟩ = some (.int .i64 i.fr.n) ∧ v.cell? ⟨w.heap.size, 21, none⟩ = some (.string i.fr.nm) ∧ v.cell? ⟨w.heap.size, 22, none⟩ = some (.int .i64 i.fr.m) ∧ Hid (IA v w.heap.size i ∧ Below w.heap.size w v)) : IA v w.heap.size i ∧ Below w.heap.size w v := h.2.2.2.2.2.2.2.2.2.2.2.2.2.2.2.2.2.2.2.2.out
theorem keepR {w v u : World} {i : I} (h : v.cell? ⟨w.heap.size, 3, none⟩ = some (.int .i64 i.to.k) ∧ v.cell? ⟨w.heap.size, 4, none⟩ = some (.int .i64 i.to.r) ∧ v.cell? ⟨w.heap.size, 5, none⟩ = some (.int .i64 i.to.b) ∧ v.cell? ⟨w.heap.size, 6, none⟩ = some (.int .i64 i.to.x) ∧ v.cell? ⟨w.heap.size, 7, none⟩ = some (.int .i64 i.to.s) ∧ v.cell? ⟨w.heap.size, 8, none⟩ = some (.bool i.to.rip) ∧ v.cell? ⟨w.heap.size, 9, none⟩ = some (.bool i.to.fs) ∧ v.cell? ⟨w.heap.size, 10, none⟩ = some (.int .i64 i.to.n) ∧ v.cell? ⟨w.heap.size, 11, none⟩ = some (.string i.to.nm) ∧ v.cell? ⟨w.heap.size, 12, none⟩ = some (.int .i64 i.to.m) ∧ v.cell? ⟨w.heap.size, 13, none⟩ = some (.int .i64 i.fr.k) ∧ v.cell? ⟨w.heap.size, 14, none⟩ = some (.int .i64 i.fr.r) ∧ v.cell? ⟨w.heap.size, 15, none⟩ = some (.int .i64 i.fr.b) ∧ v.cell? ⟨w.heap.size, 16, none⟩ = some (.int .i64 i.fr.x) ∧ v.cell? ⟨w.heap.size, 17, none⟩ = some (.int .i64 i.fr.s) ∧ v.cell? ⟨w.heap.size, 18, none⟩ = some (.bool i.fr.rip) ∧ v.cell? ⟨w.heap.size, 19, none⟩ = some (.bool i.fr.fs) ∧ v.cell? ⟨w.heap.size, 20, none⟩ = some (.int .i64 i.fr.n) ∧ v.cell? ⟨w.heap.size, 21, none⟩ = some (.string i.fr.nm) ∧ v.cell? ⟨w.heap.size, 22, none⟩ = some (.int .i64 i.fr.m) ∧ Hid (IA v w.heap.size i ∧ Below w.heap.size w v)) (hb : Below v.heap.size v u) : u.cell? ⟨w.heap.size, 3, none⟩ = some (.int .i64 i.to.k) ∧ u.cell? ⟨w.heap.size, 4, none⟩ = some (.int .i64 i.to.r) ∧ u.cell? ⟨w.heap.size, 5, none⟩ = some (.int .i64 i.to.b) ∧ u.cell? ⟨w.heap.size, 6, none⟩ = some (.int .i64 i.to.x) ∧ u.cell? ⟨w.heap.size, 7, none⟩ = some (.int .i64 i.to.s) ∧ u.cell? ⟨w.heap.size, 8, none⟩ = some (.bool i.to.rip) ∧ u.cell? ⟨w.heap.size, 9, none⟩ = some (.bool i.to.fs) ∧ u.cell? ⟨w.heap.size, 10, none⟩ = some (.int .i64 i.to.n) ∧ u.cell? ⟨w.heap.size, 11, none⟩ = some (.string i.to.nm) ∧ u.cell? ⟨w.heap.size, 12, none⟩ = some (.int .i64 i.to.m) ∧ u.cell? ⟨w.heap.size, 13, none⟩ = some (.int .i64 i.fr.k) ∧ u.cell? ⟨w.heap.size, 14, none⟩ = some (.int .i64 i.fr.r) ∧ u.cell? ⟨w.heap.size, 15, none⟩ = some (.int .i64 i.fr.b) ∧ u.cell? ⟨w.heap.size, 16, none⟩ = some (.int .i64 i.fr.x) ∧ u.cell? ⟨w.heap.size, 17, none⟩ = some (.int .i64 i.fr.s) ∧ u.cell? ⟨w.heap.size, 18, none⟩ = some (.bool i.fr.rip) ∧ u.cell? ⟨w.heap.size, 19, none⟩ = some (.bool i.fr.fs) ∧ u.cell? ⟨w.heap.size, 20, none⟩ = some (.int .i64 i.fr.n) ∧ u.cell? ⟨w.heap.size, 21, none⟩ = some (.string i.fr.nm) ∧ u.cell? ⟨w.heap.size, 22, none⟩ = some (.int .i64 i.fr.m) ∧ Hid (IA u w.heap.size i ∧ Below w.heap.size w u) := mkR ⟨(lastR h).1.bel hb, bel_trans (lastR h).2 hb⟩

set_option maxHeartbeats 2000000 in
set_option maxRecDepth 4000 in
theorem refUses_1 (i : I) (w : World) (xf xt : Int) (e1 : (i.op == 1) = true) (e2 : (i.op == 2) = false) (e29 : (i.op == 29) = false) (e30 : (i.op == 30) = false) (e21 : (i.op == 21) = false) (e20 : (i.op == 20) = false) (e22 : (i.op == 22) = false) (e25 : (i.op == 25) = false) (e26 : (i.op == 26) = false) (e32 : (i.op == 32) = false) (e35 : (i.op == 35) = false)
    (C0 : Hid (∀ v, Calls Tryd.prog 13 #[.agg #[.int .i64 i.op, .int .i64 i.sz, .int .i64 i.cd, .int .i64 i.to.k, .int .i64 i.to.r, .int .i64 i.to.b, .int .i64 i.to.x, .int .i64 i.to.s, .bool i.to.rip, .bool i.to.fs, .int .i64 i.to.n, .string i.to.nm, .int .i64 i.to.m, .int .i64 i.fr.k, .int .i64 i.fr.r, .int .i64 i.fr.b, .int .i64 i.fr.x, .int .i64 i.fr.s, .bool i.fr.rip, .bool i.fr.fs, .int .i64 i.fr.n, .string i.fr.nm, .int .i64 i.fr.m, .bool i.sh]] v fun e w' => e = .returned (.int .i64 0) ∧ Below v.heap.size v w'))
    (C1 : Hid (∀ v, Calls Tryd.prog 48 #[.agg #[.int .i64 i.fr.k, .int .i64 i.fr.r, .int .i64 i.fr.b, .int .i64 i.fr.x, .int .i64 i.fr.s, .bool i.fr.rip, .bool i.fr.fs, .int .i64 i.fr.n, .string i.fr.nm, .int .i64 i.fr.m], .bool true] v fun e w' => e = .returned (.int .i64 xf) ∧ Below v.heap.size v w'))
    (C2 : Hid (∀ v, Calls Tryd.prog 48 #[.agg #[.int .i64 i.to.k, .int .i64 i.to.r, .int .i64 i.to.b, .int .i64 i.to.x, .int .i64 i.to.s, .bool i.to.rip, .bool i.to.fs, .int .i64 i.to.n, .string i.to.nm, .int .i64 i.to.m], .bool (i.sz == 1)] v fun e w' => e = .returned (.int .i64 xt) ∧ Below v.heap.size v w')) :
    Calls Tryd.prog 24 #[.agg #[.int .i64 i.op, .int .i64 i.sz, .int .i64 i.cd, .int .i64 i.to.k, .int .i64 i.to.r, .int .i64 i.to.b, .int .i64 i.to.x, .int .i64 i.to.s, .bool i.to.rip, .bool i.to.fs, .int .i64 i.to.n, .string i.to.nm, .int .i64 i.to.m, .int .i64 i.fr.k, .int .i64 i.fr.r, .int .i64 i.fr.b, .int .i64 i.fr.x, .int .i64 i.fr.s, .bool i.fr.rip, .bool i.fr.fs, .int .i64 i.fr.n, .string i.fr.nm, .int .i64 i.fr.m, .bool i.sh]] w fun e w' => e = .returned (.int .i64 (orV xf xt)) ∧ Below w.heap.size w w' := by
  have L0 : Hid (∀ v, IA v w.heap.size i → (loadVar 25 ⟨w.heap.size, 0, none⟩).run Tryd.prog v = .ok (.agg #[.int .i64 i.op, .int .i64 i.sz, .int .i64 i.cd, .int .i64 i.to.k, .int .i64 i.to.r, .int .i64 i.to.b, .int .i64 i.to.x, .int .i64 i.to.s, .bool i.to.rip, .bool i.to.fs, .int .i64 i.to.n, .string i.to.nm, .int .i64 i.to.m, .int .i64 i.fr.k, .int .i64 i.fr.r, .int .i64 i.fr.b, .int .i64 i.fr.x, .int .i64 i.fr.s, .bool i.fr.rip, .bool i.fr.fs, .int .i64 i.fr.n, .string i.fr.nm, .int .i64 i.fr.m, .bool i.sh]) v) := ⟨fun v h => h.whole⟩
  unfold orV
  have AX : True := trivial
  have tk : True := trivial
  go_enter Tryd.func24, Tryd.ntmps24
  go_wp2_with (first
    | (refine wpList_load_of (t := 25) rfl (by kernel_rfl) (by kernel_rfl) (L0.out _ (by first | exact AX.out.1 | exact IA.new w i 25)) ?_)
    | (go_at_call 13; refine (C0.out _).mono ?_; rintro e wx ⟨rfl, hbx⟩; (first | (have AY : Hid (IA wx w.heap.size i ∧ Below w.heap.size w wx) := ⟨AX.out.1.bel hbx, bel_trans AX.out.2 hbx⟩) | (have AY : Hid (IA wx w.heap.size i ∧ Below w.heap.size w wx) := ⟨(IA.new w i 25).bel hbx, bel_trans (bel_alloc (Below.refl _ _) _) hbx⟩)); clear hbx; (try clear p0 p1 p2 p3 p4 p5 p6 p7 p8 p9 p10 p11 p12 p13 p14 p15 p16 p17 p18 p19 p20 p21 p22 p23); (try clear AX); have AX := AY; clear AY; obtain ⟨p0, p1, p2, p3, p4, p5, p6, p7, p8, p9, p10, p11, p12, p13, p14, p15, p16, p17, p18, p19, p20, p21, p22, p23⟩ := AX.out.1))
  have K := mkR (w := w) (v := wx.drew) (i := i) ⟨AX.out.1.bel (bel_drew _), AX.out.2.drew⟩
  clear p0 p1 p2 p3 p4 p5 p6 p7 p8 p9 p10 p11 p12 p13 p14 p15 p16 p17 p18 p19 p20 p21 p22 p23
  go_region_held3 (fun v => v.cell? ⟨w.heap.size, 3, none⟩ = some (.int .i64 i.to.k) ∧ v.cell? ⟨w.heap.size, 4, none⟩ = some (.int .i64 i.to.r) ∧ v.cell? ⟨w.heap.size, 5, none⟩ = some (.int .i64 i.to.b) ∧ v.cell? ⟨w.heap.size, 6, none⟩ = some (.int .i64 i.to.x) ∧ v.cell? ⟨w.heap.size, 7, none⟩ = some (.int .i64 i.to.s) ∧ v.cell? ⟨w.heap.size, 8, none⟩ = some (.bool i.to.rip) ∧ v.cell? ⟨w.heap.size, 9, none⟩ = some (.bool i.to.fs) ∧ v.cell? ⟨w.heap.size, 10, none⟩ = some (.int .i64 i.to.n) ∧ v.cell? ⟨w.heap.size, 11, none⟩ = some (.string i.to.nm) ∧ v.cell? ⟨w.heap.size, 12, none⟩ = some (.int .i64 i.to.m) ∧ v.cell? ⟨w.heap.size, 13, none⟩ = some (.int .i64 i.fr.k) ∧ v.cell? ⟨w.heap.size, 14, none⟩ = some (.int .i64 i.fr.r) ∧ v.cell? ⟨w.heap.size, 15, none⟩ = some (.int .i64 i.fr.b) ∧ v.cell? ⟨w.heap.size, 16, none⟩ = some (.int .i64 i.fr.x) ∧ v.cell? ⟨w.heap.size, 17, none⟩ = some (.int .i64 i.fr.s) ∧ v.cell? ⟨w.heap.size, 18, none⟩ = some (.bool i.fr.rip) ∧ v.cell? ⟨w.heap.size, 19, none⟩ = some (.bool i.fr.fs) ∧ v.cell? ⟨w.heap.size, 20, none⟩ = some (.int .i64 i.fr.n) ∧ v.cell? ⟨w.heap.size, 21, none⟩ = some (.string i.fr.nm) ∧ v.cell? ⟨w.heap.size, 22, none⟩ = some (.int .i64 i.fr.m) ∧ Hid (IA v w.heap.size i ∧ Below w.heap.size w v))
    (first | (with_reducible assumption) | exact keepR (by with_reducible assumption) hb)
    (first
      | (go_at_call 48; clear tk; refine (C1.out _).mono ?_; rintro e wp ⟨rfl, hb⟩)
      | (go_at_call 48; refine (C2.out _).mono ?_; rintro e wp ⟨rfl, hb⟩))
  have HX := hid (lastR (by with_reducible assumption))
  obtain ⟨p0, p1, p2, p3, p4, p5, p6, p7, p8, p9, p10, p11, p12, p13, p14, p15, p16, p17, p18, p19, p20, p21, p22, p23⟩ := HX.out.1
  go_wp2
  go_ret
  exact ⟨rfl, HX.out.2⟩

set_option maxHeartbeats 2000000 in
set_option maxRecDepth 4000 in
theorem refUses_2 (i : I) (w : World) (xf xt : Int) (e1 : (i.op == 1) = false) (e2 : (i.op == 2) = true) (e29 : (i.op == 29) = false) (e30 : (i.op == 30) = false) (e21 : (i.op == 21) = false) (e20 : (i.op == 20) = false) (e22 : (i.op == 22) = false) (e25 : (i.op == 25) = false) (e26 : (i.op == 26) = false) (e32 : (i.op == 32) = false) (e35 : (i.op == 35) = false)
    (C0 : Hid (∀ v, Calls Tryd.prog 13 #[.agg #[.int .i64 i.op, .int .i64 i.sz, .int .i64 i.cd, .int .i64 i.to.k, .int .i64 i.to.r, .int .i64 i.to.b, .int .i64 i.to.x, .int .i64 i.to.s, .bool i.to.rip, .bool i.to.fs, .int .i64 i.to.n, .string i.to.nm, .int .i64 i.to.m, .int .i64 i.fr.k, .int .i64 i.fr.r, .int .i64 i.fr.b, .int .i64 i.fr.x, .int .i64 i.fr.s, .bool i.fr.rip, .bool i.fr.fs, .int .i64 i.fr.n, .string i.fr.nm, .int .i64 i.fr.m, .bool i.sh]] v fun e w' => e = .returned (.int .i64 0) ∧ Below v.heap.size v w'))
    (C1 : Hid (∀ v, Calls Tryd.prog 48 #[.agg #[.int .i64 i.fr.k, .int .i64 i.fr.r, .int .i64 i.fr.b, .int .i64 i.fr.x, .int .i64 i.fr.s, .bool i.fr.rip, .bool i.fr.fs, .int .i64 i.fr.n, .string i.fr.nm, .int .i64 i.fr.m], .bool true] v fun e w' => e = .returned (.int .i64 xf) ∧ Below v.heap.size v w'))
    (C2 : Hid (∀ v, Calls Tryd.prog 48 #[.agg #[.int .i64 i.to.k, .int .i64 i.to.r, .int .i64 i.to.b, .int .i64 i.to.x, .int .i64 i.to.s, .bool i.to.rip, .bool i.to.fs, .int .i64 i.to.n, .string i.to.nm, .int .i64 i.to.m], .bool false] v fun e w' => e = .returned (.int .i64 xt) ∧ Below v.heap.size v w')) :
    Calls Tryd.prog 24 #[.agg #[.int .i64 i.op, .int .i64 i.sz, .int .i64 i.cd, .int .i64 i.to.k, .int .i64 i.to.r, .int .i64 i.to.b, .int .i64 i.to.x, .int .i64 i.to.s, .bool i.to.rip, .bool i.to.fs, .int .i64 i.to.n, .string i.to.nm, .int .i64 i.to.m, .int .i64 i.fr.k, .int .i64 i.fr.r, .int .i64 i.fr.b, .int .i64 i.fr.x, .int .i64 i.fr.s, .bool i.fr.rip, .bool i.fr.fs, .int .i64 i.fr.n, .string i.fr.nm, .int .i64 i.fr.m, .bool i.sh]] w fun e w' => e = .returned (.int .i64 (orV xf xt)) ∧ Below w.heap.size w w' := by
  have L0 : Hid (∀ v, IA v w.heap.size i → (loadVar 25 ⟨w.heap.size, 0, none⟩).run Tryd.prog v = .ok (.agg #[.int .i64 i.op, .int .i64 i.sz, .int .i64 i.cd, .int .i64 i.to.k, .int .i64 i.to.r, .int .i64 i.to.b, .int .i64 i.to.x, .int .i64 i.to.s, .bool i.to.rip, .bool i.to.fs, .int .i64 i.to.n, .string i.to.nm, .int .i64 i.to.m, .int .i64 i.fr.k, .int .i64 i.fr.r, .int .i64 i.fr.b, .int .i64 i.fr.x, .int .i64 i.fr.s, .bool i.fr.rip, .bool i.fr.fs, .int .i64 i.fr.n, .string i.fr.nm, .int .i64 i.fr.m, .bool i.sh]) v) := ⟨fun v h => h.whole⟩
  unfold orV
  have AX : True := trivial
  have tk : True := trivial
  go_enter Tryd.func24, Tryd.ntmps24
  go_wp2_with (first
    | (refine wpList_load_of (t := 25) rfl (by kernel_rfl) (by kernel_rfl) (L0.out _ (by first | exact AX.out.1 | exact IA.new w i 25)) ?_)
    | (go_at_call 13; refine (C0.out _).mono ?_; rintro e wx ⟨rfl, hbx⟩; (first | (have AY : Hid (IA wx w.heap.size i ∧ Below w.heap.size w wx) := ⟨AX.out.1.bel hbx, bel_trans AX.out.2 hbx⟩) | (have AY : Hid (IA wx w.heap.size i ∧ Below w.heap.size w wx) := ⟨(IA.new w i 25).bel hbx, bel_trans (bel_alloc (Below.refl _ _) _) hbx⟩)); clear hbx; (try clear p0 p1 p2 p3 p4 p5 p6 p7 p8 p9 p10 p11 p12 p13 p14 p15 p16 p17 p18 p19 p20 p21 p22 p23); (try clear AX); have AX := AY; clear AY; obtain ⟨p0, p1, p2, p3, p4, p5, p6, p7, p8, p9, p10, p11, p12, p13, p14, p15, p16, p17, p18, p19, p20, p21, p22, p23⟩ := AX.out.1))
  have K := mkR (w := w) (v := wx.drew) (i := i) ⟨AX.out.1.bel (bel_drew _), AX.out.2.drew⟩
  clear p0 p1 p2 p3 p4 p5 p6 p7 p8 p9 p10 p11 p12 p13 p14 p15 p16 p17 p18 p19 p20 p21 p22 p23
  go_region_held3 (fun v => v.cell? ⟨w.heap.size, 3, none⟩ = some (.int .i64 i.to.k) ∧ v.cell? ⟨w.heap.size, 4, none⟩ = some (.int .i64 i.to.r) ∧ v.cell? ⟨w.heap.size, 5, none⟩ = some (.int .i64 i.to.b) ∧ v.cell? ⟨w.heap.size, 6, none⟩ = some (.int .i64 i.to.x) ∧ v.cell? ⟨w.heap.size, 7, none⟩ = some (.int .i64 i.to.s) ∧ v.cell? ⟨w.heap.size, 8, none⟩ = some (.bool i.to.rip) ∧ v.cell? ⟨w.heap.size, 9, none⟩ = some (.bool i.to.fs) ∧ v.cell? ⟨w.heap.size, 10, none⟩ = some (.int .i64 i.to.n) ∧ v.cell? ⟨w.heap.size, 11, none⟩ = some (.string i.to.nm) ∧ v.cell? ⟨w.heap.size, 12, none⟩ = some (.int .i64 i.to.m) ∧ v.cell? ⟨w.heap.size, 13, none⟩ = some (.int .i64 i.fr.k) ∧ v.cell? ⟨w.heap.size, 14, none⟩ = some (.int .i64 i.fr.r) ∧ v.cell? ⟨w.heap.size, 15, none⟩ = some (.int .i64 i.fr.b) ∧ v.cell? ⟨w.heap.size, 16, none⟩ = some (.int .i64 i.fr.x) ∧ v.cell? ⟨w.heap.size, 17, none⟩ = some (.int .i64 i.fr.s) ∧ v.cell? ⟨w.heap.size, 18, none⟩ = some (.bool i.fr.rip) ∧ v.cell? ⟨w.heap.size, 19, none⟩ = some (.bool i.fr.fs) ∧ v.cell? ⟨w.heap.size, 20, none⟩ = some (.int .i64 i.fr.n) ∧ v.cell? ⟨w.heap.size, 21, none⟩ = some (.string i.fr.nm) ∧ v.cell? ⟨w.heap.size, 22, none⟩ = some (.int .i64 i.fr.m) ∧ Hid (IA v w.heap.size i ∧ Below w.heap.size w v))
    (first | (with_reducible assumption) | exact keepR (by with_reducible assumption) hb)
    (first
      | (go_at_call 48; clear tk; refine (C1.out _).mono ?_; rintro e wp ⟨rfl, hb⟩)
      | (go_at_call 48; refine (C2.out _).mono ?_; rintro e wp ⟨rfl, hb⟩))
  have HX := hid (lastR (by with_reducible assumption))
  obtain ⟨p0, p1, p2, p3, p4, p5, p6, p7, p8, p9, p10, p11, p12, p13, p14, p15, p16, p17, p18, p19, p20, p21, p22, p23⟩ := HX.out.1
  go_wp2
  go_ret
  exact ⟨rfl, HX.out.2⟩

set_option maxHeartbeats 2000000 in
set_option maxRecDepth 4000 in
theorem refUses_29 (i : I) (w : World) (xf xt : Int) (e1 : (i.op == 1) = false) (e2 : (i.op == 2) = false) (e29 : (i.op == 29) = true) (e30 : (i.op == 30) = false) (e21 : (i.op == 21) = false) (e20 : (i.op == 20) = false) (e22 : (i.op == 22) = false) (e25 : (i.op == 25) = false) (e26 : (i.op == 26) = false) (e32 : (i.op == 32) = false) (e35 : (i.op == 35) = false)
    (C0 : Hid (∀ v, Calls Tryd.prog 13 #[.agg #[.int .i64 i.op, .int .i64 i.sz, .int .i64 i.cd, .int .i64 i.to.k, .int .i64 i.to.r, .int .i64 i.to.b, .int .i64 i.to.x, .int .i64 i.to.s, .bool i.to.rip, .bool i.to.fs, .int .i64 i.to.n, .string i.to.nm, .int .i64 i.to.m, .int .i64 i.fr.k, .int .i64 i.fr.r, .int .i64 i.fr.b, .int .i64 i.fr.x, .int .i64 i.fr.s, .bool i.fr.rip, .bool i.fr.fs, .int .i64 i.fr.n, .string i.fr.nm, .int .i64 i.fr.m, .bool i.sh]] v fun e w' => e = .returned (.int .i64 0) ∧ Below v.heap.size v w'))
    (C1 : Hid (∀ v, Calls Tryd.prog 48 #[.agg #[.int .i64 i.fr.k, .int .i64 i.fr.r, .int .i64 i.fr.b, .int .i64 i.fr.x, .int .i64 i.fr.s, .bool i.fr.rip, .bool i.fr.fs, .int .i64 i.fr.n, .string i.fr.nm, .int .i64 i.fr.m], .bool true] v fun e w' => e = .returned (.int .i64 xf) ∧ Below v.heap.size v w'))
    (C2 : Hid (∀ v, Calls Tryd.prog 48 #[.agg #[.int .i64 i.to.k, .int .i64 i.to.r, .int .i64 i.to.b, .int .i64 i.to.x, .int .i64 i.to.s, .bool i.to.rip, .bool i.to.fs, .int .i64 i.to.n, .string i.to.nm, .int .i64 i.to.m], .bool false] v fun e w' => e = .returned (.int .i64 xt) ∧ Below v.heap.size v w')) :
    Calls Tryd.prog 24 #[.agg #[.int .i64 i.op, .int .i64 i.sz, .int .i64 i.cd, .int .i64 i.to.k, .int .i64 i.to.r, .int .i64 i.to.b, .int .i64 i.to.x, .int .i64 i.to.s, .bool i.to.rip, .bool i.to.fs, .int .i64 i.to.n, .string i.to.nm, .int .i64 i.to.m, .int .i64 i.fr.k, .int .i64 i.fr.r, .int .i64 i.fr.b, .int .i64 i.fr.x, .int .i64 i.fr.s, .bool i.fr.rip, .bool i.fr.fs, .int .i64 i.fr.n, .string i.fr.nm, .int .i64 i.fr.m, .bool i.sh]] w fun e w' => e = .returned (.int .i64 (orV xf xt)) ∧ Below w.heap.size w w' := by
  have L0 : Hid (∀ v, IA v w.heap.size i → (loadVar 25 ⟨w.heap.size, 0, none⟩).run Tryd.prog v = .ok (.agg #[.int .i64 i.op, .int .i64 i.sz, .int .i64 i.cd, .int .i64 i.to.k, .int .i64 i.to.r, .int .i64 i.to.b, .int .i64 i.to.x, .int .i64 i.to.s, .bool i.to.rip, .bool i.to.fs, .int .i64 i.to.n, .string i.to.nm, .int .i64 i.to.m, .int .i64 i.fr.k, .int .i64 i.fr.r, .int .i64 i.fr.b, .int .i64 i.fr.x, .int .i64 i.fr.s, .bool i.fr.rip, .bool i.fr.fs, .int .i64 i.fr.n, .string i.fr.nm, .int .i64 i.fr.m, .bool i.sh]) v) := ⟨fun v h => h.whole⟩
  unfold orV
  have AX : True := trivial
  have tk : True := trivial
  go_enter Tryd.func24, Tryd.ntmps24
  go_wp2_with (first
    | (refine wpList_load_of (t := 25) rfl (by kernel_rfl) (by kernel_rfl) (L0.out _ (by first | exact AX.out.1 | exact IA.new w i 25)) ?_)
    | (go_at_call 13; refine (C0.out _).mono ?_; rintro e wx ⟨rfl, hbx⟩; (first | (have AY : Hid (IA wx w.heap.size i ∧ Below w.heap.size w wx) := ⟨AX.out.1.bel hbx, bel_trans AX.out.2 hbx⟩) | (have AY : Hid (IA wx w.heap.size i ∧ Below w.heap.size w wx) := ⟨(IA.new w i 25).bel hbx, bel_trans (bel_alloc (Below.refl _ _) _) hbx⟩)); clear hbx; (try clear p0 p1 p2 p3 p4 p5 p6 p7 p8 p9 p10 p11 p12 p13 p14 p15 p16 p17 p18 p19 p20 p21 p22 p23); (try clear AX); have AX := AY; clear AY; obtain ⟨p0, p1, p2, p3, p4, p5, p6, p7, p8, p9, p10, p11, p12, p13, p14, p15, p16, p17, p18, p19, p20, p21, p22, p23⟩ := AX.out.1))
  have K := mkR (w := w) (v := wx.drew) (i := i) ⟨AX.out.1.bel (bel_drew _), AX.out.2.drew⟩
  clear p0 p1 p2 p3 p4 p5 p6 p7 p8 p9 p10 p11 p12 p13 p14 p15 p16 p17 p18 p19 p20 p21 p22 p23
  go_region_held3 (fun v => v.cell? ⟨w.heap.size, 3, none⟩ = some (.int .i64 i.to.k) ∧ v.cell? ⟨w.heap.size, 4, none⟩ = some (.int .i64 i.to.r) ∧ v.cell? ⟨w.heap.size, 5, none⟩ = some (.int .i64 i.to.b) ∧ v.cell? ⟨w.heap.size, 6, none⟩ = some (.int .i64 i.to.x) ∧ v.cell? ⟨w.heap.size, 7, none⟩ = some (.int .i64 i.to.s) ∧ v.cell? ⟨w.heap.size, 8, none⟩ = some (.bool i.to.rip) ∧ v.cell? ⟨w.heap.size, 9, none⟩ = some (.bool i.to.fs) ∧ v.cell? ⟨w.heap.size, 10, none⟩ = some (.int .i64 i.to.n) ∧ v.cell? ⟨w.heap.size, 11, none⟩ = some (.string i.to.nm) ∧ v.cell? ⟨w.heap.size, 12, none⟩ = some (.int .i64 i.to.m) ∧ v.cell? ⟨w.heap.size, 13, none⟩ = some (.int .i64 i.fr.k) ∧ v.cell? ⟨w.heap.size, 14, none⟩ = some (.int .i64 i.fr.r) ∧ v.cell? ⟨w.heap.size, 15, none⟩ = some (.int .i64 i.fr.b) ∧ v.cell? ⟨w.heap.size, 16, none⟩ = some (.int .i64 i.fr.x) ∧ v.cell? ⟨w.heap.size, 17, none⟩ = some (.int .i64 i.fr.s) ∧ v.cell? ⟨w.heap.size, 18, none⟩ = some (.bool i.fr.rip) ∧ v.cell? ⟨w.heap.size, 19, none⟩ = some (.bool i.fr.fs) ∧ v.cell? ⟨w.heap.size, 20, none⟩ = some (.int .i64 i.fr.n) ∧ v.cell? ⟨w.heap.size, 21, none⟩ = some (.string i.fr.nm) ∧ v.cell? ⟨w.heap.size, 22, none⟩ = some (.int .i64 i.fr.m) ∧ Hid (IA v w.heap.size i ∧ Below w.heap.size w v))
    (first | (with_reducible assumption) | exact keepR (by with_reducible assumption) hb)
    (first
      | (go_at_call 48; clear tk; refine (C1.out _).mono ?_; rintro e wp ⟨rfl, hb⟩)
      | (go_at_call 48; refine (C2.out _).mono ?_; rintro e wp ⟨rfl, hb⟩))
  have HX := hid (lastR (by with_reducible assumption))
  obtain ⟨p0, p1, p2, p3, p4, p5, p6, p7, p8, p9, p10, p11, p12, p13, p14, p15, p16, p17, p18, p19, p20, p21, p22, p23⟩ := HX.out.1
  go_wp2
  go_ret
  exact ⟨rfl, HX.out.2⟩

set_option maxHeartbeats 2000000 in
set_option maxRecDepth 4000 in
theorem refUses_30 (i : I) (w : World) (xf xt : Int) (e1 : (i.op == 1) = false) (e2 : (i.op == 2) = false) (e29 : (i.op == 29) = false) (e30 : (i.op == 30) = true) (e21 : (i.op == 21) = false) (e20 : (i.op == 20) = false) (e22 : (i.op == 22) = false) (e25 : (i.op == 25) = false) (e26 : (i.op == 26) = false) (e32 : (i.op == 32) = false) (e35 : (i.op == 35) = false)
    (C0 : Hid (∀ v, Calls Tryd.prog 13 #[.agg #[.int .i64 i.op, .int .i64 i.sz, .int .i64 i.cd, .int .i64 i.to.k, .int .i64 i.to.r, .int .i64 i.to.b, .int .i64 i.to.x, .int .i64 i.to.s, .bool i.to.rip, .bool i.to.fs, .int .i64 i.to.n, .string i.to.nm, .int .i64 i.to.m, .int .i64 i.fr.k, .int .i64 i.fr.r, .int .i64 i.fr.b, .int .i64 i.fr.x, .int .i64 i.fr.s, .bool i.fr.rip, .bool i.fr.fs, .int .i64 i.fr.n, .string i.fr.nm, .int .i64 i.fr.m, .bool i.sh]] v fun e w' => e = .returned (.int .i64 0) ∧ Below v.heap.size v w'))
    (C1 : Hid (∀ v, Calls Tryd.prog 48 #[.agg #[.int .i64 i.fr.k, .int .i64 i.fr.r, .int .i64 i.fr.b, .int .i64 i.fr.x, .int .i64 i.fr.s, .bool i.fr.rip, .bool i.fr.fs, .int .i64 i.fr.n, .string i.fr.nm, .int .i64 i.fr.m], .bool true] v fun e w' => e = .returned (.int .i64 xf) ∧ Below v.heap.size v w'))
    (C2 : Hid (∀ v, Calls Tryd.prog 48 #[.agg #[.int .i64 i.to.k, .int .i64 i.to.r, .int .i64 i.to.b, .int .i64 i.to.x, .int .i64 i.to.s, .bool i.to.rip, .bool i.to.fs, .int .i64 i.to.n, .string i.to.nm, .int .i64 i.to.m], .bool false] v fun e w' => e = .returned (.int .i64 xt) ∧ Below v.heap.size v w')) :
    Calls Tryd.prog 24 #[.agg #[.int .i64 i.op, .int .i64 i.sz, .int .i64 i.cd, .int .i64 i.to.k, .int .i64 i.to.r, .int .i64 i.to.b, .int .i64 i.to.x, .int .i64 i.to.s, .bool i.to.rip, .bool i.to.fs, .int .i64 i.to.n, .string i.to.nm, .int .i64 i.to.m, .int .i64 i.fr.k, .int .i64 i.fr.r, .int .i64 i.fr.b, .int .i64 i.fr.x, .int .i64 i.fr.s, .bool i.fr.rip, .bool i.fr.fs, .int .i64 i.fr.n, .string i.fr.nm, .int .i64 i.fr.m, .bool i.sh]] w fun e w' => e = .returned (.int .i64 (orV xf xt)) ∧ Below w.heap.size w w' := by
  have L0 : Hid (∀ v, IA v w.heap.size i → (loadVar 25 ⟨w.heap.size, 0, none⟩).run Tryd.prog v = .ok (.agg #[.int .i64 i.op, .int .i64 i.sz, .int .i64 i.cd, .int .i64 i.to.k, .int .i64 i.to.r, .int .i64 i.to.b, .int .i64 i.to.x, .int .i64 i.to.s, .bool i.to.rip, .bool i.to.fs, .int .i64 i.to.n, .string i.to.nm, .int .i64 i.to.m, .int .i64 i.fr.k, .int .i64 i.fr.r, .int .i64 i.fr.b, .int .i64 i.fr.x, .int .i64 i.fr.s, .bool i.fr.rip, .bool i.fr.fs, .int .i64 i.fr.n, .string i.fr.nm, .int .i64 i.fr.m, .bool i.sh]) v) := ⟨fun v h => h.whole⟩
  unfold orV
  have AX : True := trivial
  have tk : True := trivial
  go_enter Tryd.func24, Tryd.ntmps24
  go_wp2_with (first
    | (refine wpList_load_of (t := 25) rfl (by kernel_rfl) (by kernel_rfl) (L0.out _ (by first | exact AX.out.1 | exact IA.new w i 25)) ?_)
    | (go_at_call 13; refine (C0.out _).mono ?_; rintro e wx ⟨rfl, hbx⟩; (first | (have AY : Hid (IA wx w.heap.size i ∧ Below w.heap.size w wx) := ⟨AX.out.1.bel hbx, bel_trans AX.out.2 hbx⟩) | (have AY : Hid (IA wx w.heap.size i ∧ Below w.heap.size w wx) := ⟨(IA.new w i 25).bel hbx, bel_trans (bel_alloc (Below.refl _ _) _) hbx⟩)); clear hbx; (try clear p0 p1 p2 p3 p4 p5 p6 p7 p8 p9 p10 p11 p12 p13 p14 p15 p16 p17 p18 p19 p20 p21 p22 p23); (try clear AX); have AX := AY; clear AY; obtain ⟨p0, p1, p2, p3, p4, p5, p6, p7, p8, p9, p10, p11, p12, p13, p14, p15, p16, p17, p18, p19, p20, p21, p22, p23⟩ := AX.out.1))
  have K := mkR (w := w) (v := wx.drew) (i := i) ⟨AX.out.1.bel (bel_drew _), AX.out.2.drew⟩
  clear p0 p1 p2 p3 p4 p5 p6 p7 p8 p9 p10 p11 p12 p13 p14 p15 p16 p17 p18 p19 p20 p21 p22 p23
  go_region_held3 (fun v => v.cell? ⟨w.heap.size, 3, none⟩ = some (.int .i64 i.to.k) ∧ v.cell? ⟨w.heap.size, 4, none⟩ = some (.int .i64 i.to.r) ∧ v.cell? ⟨w.heap.size, 5, none⟩ = some (.int .i64 i.to.b) ∧ v.cell? ⟨w.heap.size, 6, none⟩ = some (.int .i64 i.to.x) ∧ v.cell? ⟨w.heap.size, 7, none⟩ = some (.int .i64 i.to.s) ∧ v.cell? ⟨w.heap.size, 8, none⟩ = some (.bool i.to.rip) ∧ v.cell? ⟨w.heap.size, 9, none⟩ = some (.bool i.to.fs) ∧ v.cell? ⟨w.heap.size, 10, none⟩ = some (.int .i64 i.to.n) ∧ v.cell? ⟨w.heap.size, 11, none⟩ = some (.string i.to.nm) ∧ v.cell? ⟨w.heap.size, 12, none⟩ = some (.int .i64 i.to.m) ∧ v.cell? ⟨w.heap.size, 13, none⟩ = some (.int .i64 i.fr.k) ∧ v.cell? ⟨w.heap.size, 14, none⟩ = some (.int .i64 i.fr.r) ∧ v.cell? ⟨w.heap.size, 15, none⟩ = some (.int .i64 i.fr.b) ∧ v.cell? ⟨w.heap.size, 16, none⟩ = some (.int .i64 i.fr.x) ∧ v.cell? ⟨w.heap.size, 17, none⟩ = some (.int .i64 i.fr.s) ∧ v.cell? ⟨w.heap.size, 18, none⟩ = some (.bool i.fr.rip) ∧ v.cell? ⟨w.heap.size, 19, none⟩ = some (.bool i.fr.fs) ∧ v.cell? ⟨w.heap.size, 20, none⟩ = some (.int .i64 i.fr.n) ∧ v.cell? ⟨w.heap.size, 21, none⟩ = some (.string i.fr.nm) ∧ v.cell? ⟨w.heap.size, 22, none⟩ = some (.int .i64 i.fr.m) ∧ Hid (IA v w.heap.size i ∧ Below w.heap.size w v))
    (first | (with_reducible assumption) | exact keepR (by with_reducible assumption) hb)
    (first
      | (go_at_call 48; clear tk; refine (C1.out _).mono ?_; rintro e wp ⟨rfl, hb⟩)
      | (go_at_call 48; refine (C2.out _).mono ?_; rintro e wp ⟨rfl, hb⟩))
  have HX := hid (lastR (by with_reducible assumption))
  obtain ⟨p0, p1, p2, p3, p4, p5, p6, p7, p8, p9, p10, p11, p12, p13, p14, p15, p16, p17, p18, p19, p20, p21, p22, p23⟩ := HX.out.1
  go_wp2
  go_ret
  exact ⟨rfl, HX.out.2⟩

set_option maxHeartbeats 2000000 in
set_option maxRecDepth 4000 in
theorem refUses_21 (i : I) (w : World) (xf xt : Int) (e1 : (i.op == 1) = false) (e2 : (i.op == 2) = false) (e29 : (i.op == 29) = false) (e30 : (i.op == 30) = false) (e21 : (i.op == 21) = true) (e20 : (i.op == 20) = false) (e22 : (i.op == 22) = false) (e25 : (i.op == 25) = false) (e26 : (i.op == 26) = false) (e32 : (i.op == 32) = false) (e35 : (i.op == 35) = false)
    (C0 : Hid (∀ v, Calls Tryd.prog 13 #[.agg #[.int .i64 i.op, .int .i64 i.sz, .int .i64 i.cd, .int .i64 i.to.k, .int .i64 i.to.r, .int .i64 i.to.b, .int .i64 i.to.x, .int .i64 i.to.s, .bool i.to.rip, .bool i.to.fs, .int .i64 i.to.n, .string i.to.nm, .int .i64 i.to.m, .int .i64 i.fr.k, .int .i64 i.fr.r, .int .i64 i.fr.b, .int .i64 i.fr.x, .int .i64 i.fr.s, .bool i.fr.rip, .bool i.fr.fs, .int .i64 i.fr.n, .string i.fr.nm, .int .i64 i.fr.m, .bool i.sh]] v fun e w' => e = .returned (.int .i64 0) ∧ Below v.heap.size v w'))
    (C1 : Hid (∀ v, Calls Tryd.prog 48 #[.agg #[.int .i64 i.fr.k, .int .i64 i.fr.r, .int .i64 i.fr.b, .int .i64 i.fr.x, .int .i64 i.fr.s, .bool i.fr.rip, .bool i.fr.fs, .int .i64 i.fr.n, .string i.fr.nm, .int .i64 i.fr.m], .bool true] v fun e w' => e = .returned (.int .i64 xf) ∧ Below v.heap.size v w'))
    (C2 : Hid (∀ v, Calls Tryd.prog 48 #[.agg #[.int .i64 i.to.k, .int .i64 i.to.r, .int .i64 i.to.b, .int .i64 i.to.x, .int .i64 i.to.s, .bool i.to.rip, .bool i.to.fs, .int .i64 i.to.n, .string i.to.nm, .int .i64 i.to.m], .bool false] v fun e w' => e = .returned (.int .i64 xt) ∧ Below v.heap.size v w')) :
    Calls Tryd.prog 24 #[.agg #[.int .i64 i.op, .int .i64 i.sz, .int .i64 i.cd, .int .i64 i.to.k, .int .i64 i.to.r, .int .i64 i.to.b, .int .i64 i.to.x, .int .i64 i.to.s, .bool i.to.rip, .bool i.to.fs, .int .i64 i.to.n, .string i.to.nm, .int .i64 i.to.m, .int .i64 i.fr.k, .int .i64 i.fr.r, .int .i64 i.fr.b, .int .i64 i.fr.x, .int .i64 i.fr.s, .bool i.fr.rip, .bool i.fr.fs, .int .i64 i.fr.n, .string i.fr.nm, .int .i64 i.fr.m, .bool i.sh]] w fun e w' => e = .returned (.int .i64 (orV (orV xf xt) 16)) ∧ Below w.heap.size w w' := by
  have L0 : Hid (∀ v, IA v w.heap.size i → (loadVar 25 ⟨w.heap.size, 0, none⟩).run Tryd.prog v = .ok (.agg #[.int .i64 i.op, .int .i64 i.sz, .int .i64 i.cd, .int .i64 i.to.k, .int .i64 i.to.r, .int .i64 i.to.b, .int .i64 i.to.x, .int .i64 i.to.s, .bool i.to.rip, .bool i.to.fs, .int .i64 i.to.n, .string i.to.nm, .int .i64 i.to.m, .int .i64 i.fr.k, .int .i64 i.fr.r, .int .i64 i.fr.b, .int .i64 i.fr.x, .int .i64 i.fr.s, .bool i.fr.rip, .bool i.fr.fs, .int .i64 i.fr.n, .string i.fr.nm, .int .i64 i.fr.m, .bool i.sh]) v) := ⟨fun v h => h.whole⟩
  have D4 : Hid (∀ v, Calls Tryd.prog 49 #[.int .i64 4] v fun e w' => e = .returned (.int .i64 16) ∧ w' = v) := ⟨fun v => refBit_any 4 v (by decide)⟩
  unfold orV
  have AX : True := trivial
  have tk : True := trivial
  go_enter Tryd.func24, Tryd.ntmps24
  go_wp2_with (first
    | (refine wpList_load_of (t := 25) rfl (by kernel_rfl) (by kernel_rfl) (L0.out _ (by first | exact AX.out.1 | exact IA.new w i 25)) ?_)
    | (go_at_call 13; refine (C0.out _).mono ?_; rintro e wx ⟨rfl, hbx⟩; (first | (have AY : Hid (IA wx w.heap.size i ∧ Below w.heap.size w wx) := ⟨AX.out.1.bel hbx, bel_trans AX.out.2 hbx⟩) | (have AY : Hid (IA wx w.heap.size i ∧ Below w.heap.size w wx) := ⟨(IA.new w i 25).bel hbx, bel_trans (bel_alloc (Below.refl _ _) _) hbx⟩)); clear hbx; (try clear p0 p1 p2 p3 p4 p5 p6 p7 p8 p9 p10 p11 p12 p13 p14 p15 p16 p17 p18 p19 p20 p21 p22 p23); (try clear AX); have AX := AY; clear AY; obtain ⟨p0, p1, p2, p3, p4, p5, p6, p7, p8, p9, p10, p11, p12, p13, p14, p15, p16, p17, p18, p19, p20, p21, p22, p23⟩ := AX.out.1))
  have K := mkR (w := w) (v := wx.drew) (i := i) ⟨AX.out.1.bel (bel_drew _), AX.out.2.drew⟩
  clear p0 p1 p2 p3 p4 p5 p6 p7 p8 p9 p10 p11 p12 p13 p14 p15 p16 p17 p18 p19 p20 p21 p22 p23
  go_region_held3 (fun v => v.cell? ⟨w.heap.size, 3, none⟩ = some (.int .i64 i.to.k) ∧ v.cell? ⟨w.heap.size, 4, none⟩ = some (.int .i64 i.to.r) ∧ v.cell? ⟨w.heap.size, 5, none⟩ = some (.int .i64 i.to.b) ∧ v.cell? ⟨w.heap.size, 6, none⟩ = some (.int .i64 i.to.x) ∧ v.cell? ⟨w.heap.size, 7, none⟩ = some (.int .i64 i.to.s) ∧ v.cell? ⟨w.heap.size, 8, none⟩ = some (.bool i.to.rip) ∧ v.cell? ⟨w.heap.size, 9, none⟩ = some (.bool i.to.fs) ∧ v.cell? ⟨w.heap.size, 10, none⟩ = some (.int .i64 i.to.n) ∧ v.cell? ⟨w.heap.size, 11, none⟩ = some (.string i.to.nm) ∧ v.cell? ⟨w.heap.size, 12, none⟩ = some (.int .i64 i.to.m) ∧ v.cell? ⟨w.heap.size, 13, none⟩ = some (.int .i64 i.fr.k) ∧ v.cell? ⟨w.heap.size, 14, none⟩ = some (.int .i64 i.fr.r) ∧ v.cell? ⟨w.heap.size, 15, none⟩ = some (.int .i64 i.fr.b) ∧ v.cell? ⟨w.heap.size, 16, none⟩ = some (.int .i64 i.fr.x) ∧ v.cell? ⟨w.heap.size, 17, none⟩ = some (.int .i64 i.fr.s) ∧ v.cell? ⟨w.heap.size, 18, none⟩ = some (.bool i.fr.rip) ∧ v.cell? ⟨w.heap.size, 19, none⟩ = some (.bool i.fr.fs) ∧ v.cell? ⟨w.heap.size, 20, none⟩ = some (.int .i64 i.fr.n) ∧ v.cell? ⟨w.heap.size, 21, none⟩ = some (.string i.fr.nm) ∧ v.cell? ⟨w.heap.size, 22, none⟩ = some (.int .i64 i.fr.m) ∧ Hid (IA v w.heap.size i ∧ Below w.heap.size w v))
    (first | (with_reducible assumption) | exact keepR (by with_reducible assumption) hb)
    (first
      | (go_at_call 48; clear tk; refine (C1.out _).mono ?_; rintro e wp ⟨rfl, hb⟩)
      | (go_at_call 48; refine (C2.out _).mono ?_; rintro e wp ⟨rfl, hb⟩))
  have HX := hid (lastR (by with_reducible assumption))
  obtain ⟨p0, p1, p2, p3, p4, p5, p6, p7, p8, p9, p10, p11, p12, p13, p14, p15, p16, p17, p18, p19, p20, p21, p22, p23⟩ := HX.out.1
  go_wp2_with (first
    | (go_at_call_of 49 (Value.int IntKind.i64 4); refine (D4.out _).mono ?_; rintro e wy ⟨rfl, hwy⟩; subst wy))
  go_ret
  exact ⟨rfl, HX.out.2⟩

set_option maxHeartbeats 2000000 in
set_option maxRecDepth 4000 in
theorem refUses_20 (i : I) (w : World) (xf xt : Int) (e1 : (i.op == 1) = false) (e2 : (i.op == 2) = false) (e29 : (i.op == 29) = false) (e30 : (i.op == 30) = false) (e21 : (i.op == 21) = false) (e20 : (i.op == 20) = true) (e22 : (i.op == 22) = false) (e25 : (i.op == 25) = false) (e26 : (i.op == 26) = false) (e32 : (i.op == 32) = false) (e35 : (i.op == 35) = false)
    (C0 : Hid (∀ v, Calls Tryd.prog 13 #[.agg #[.int .i64 i.op, .int .i64 i.sz, .int .i64 i.cd, .int .i64 i.to.k, .int .i64 i.to.r, .int .i64 i.to.b, .int .i64 i.to.x, .int .i64 i.to.s, .bool i.to.rip, .bool i.to.fs, .int .i64 i.to.n, .string i.to.nm, .int .i64 i.to.m, .int .i64 i.fr.k, .int .i64 i.fr.r, .int .i64 i.fr.b, .int .i64 i.fr.x, .int .i64 i.fr.s, .bool i.fr.rip, .bool i.fr.fs, .int .i64 i.fr.n, .string i.fr.nm, .int .i64 i.fr.m, .bool i.sh]] v fun e w' => e = .returned (.int .i64 0) ∧ Below v.heap.size v w'))
    (C1 : Hid (∀ v, Calls Tryd.prog 48 #[.agg #[.int .i64 i.fr.k, .int .i64 i.fr.r, .int .i64 i.fr.b, .int .i64 i.fr.x, .int .i64 i.fr.s, .bool i.fr.rip, .bool i.fr.fs, .int .i64 i.fr.n, .string i.fr.nm, .int .i64 i.fr.m], .bool true] v fun e w' => e = .returned (.int .i64 xf) ∧ Below v.heap.size v w'))
    (C2 : Hid (∀ v, Calls Tryd.prog 48 #[.agg #[.int .i64 i.to.k, .int .i64 i.to.r, .int .i64 i.to.b, .int .i64 i.to.x, .int .i64 i.to.s, .bool i.to.rip, .bool i.to.fs, .int .i64 i.to.n, .string i.to.nm, .int .i64 i.to.m], .bool true] v fun e w' => e = .returned (.int .i64 xt) ∧ Below v.heap.size v w')) :
    Calls Tryd.prog 24 #[.agg #[.int .i64 i.op, .int .i64 i.sz, .int .i64 i.cd, .int .i64 i.to.k, .int .i64 i.to.r, .int .i64 i.to.b, .int .i64 i.to.x, .int .i64 i.to.s, .bool i.to.rip, .bool i.to.fs, .int .i64 i.to.n, .string i.to.nm, .int .i64 i.to.m, .int .i64 i.fr.k, .int .i64 i.fr.r, .int .i64 i.fr.b, .int .i64 i.fr.x, .int .i64 i.fr.s, .bool i.fr.rip, .bool i.fr.fs, .int .i64 i.fr.n, .string i.fr.nm, .int .i64 i.fr.m, .bool i.sh]] w fun e w' => e = .returned (.int .i64 (orV (orV xf xt) 16)) ∧ Below w.heap.size w w' := by
  have L0 : Hid (∀ v, IA v w.heap.size i → (loadVar 25 ⟨w.heap.size, 0, none⟩).run Tryd.prog v = .ok (.agg #[.int .i64 i.op, .int .i64 i.sz, .int .i64 i.cd, .int .i64 i.to.k, .int .i64 i.to.r, .int .i64 i.to.b, .int .i64 i.to.x, .int .i64 i.to.s, .bool i.to.rip, .bool i.to.fs, .int .i64 i.to.n, .string i.to.nm, .int .i64 i.to.m, .int .i64 i.fr.k, .int .i64 i.fr.r, .int .i64 i.fr.b, .int .i64 i.fr.x, .int .i64 i.fr.s, .bool i.fr.rip, .bool i.fr.fs, .int .i64 i.fr.n, .string i.fr.nm, .int .i64 i.fr.m, .bool i.sh]) v) := ⟨fun v h => h.whole⟩
  have D4 : Hid (∀ v, Calls Tryd.prog 49 #[.int .i64 4] v fun e w' => e = .returned (.int .i64 16) ∧ w' = v) := ⟨fun v => refBit_any 4 v (by decide)⟩
  unfold orV
  have AX : True := trivial
  have tk : True := trivial
  go_enter Tryd.func24, Tryd.ntmps24
  go_wp2_with (first
    | (refine wpList_load_of (t := 25) rfl (by kernel_rfl) (by kernel_rfl) (L0.out _ (by first | exact AX.out.1 | exact IA.new w i 25)) ?_)
    | (go_at_call 13; refine (C0.out _).mono ?_; rintro e wx ⟨rfl, hbx⟩; (first | (have AY : Hid (IA wx w.heap.size i ∧ Below w.heap.size w wx) := ⟨AX.out.1.bel hbx, bel_trans AX.out.2 hbx⟩) | (have AY : Hid (IA wx w.heap.size i ∧ Below w.heap.size w wx) := ⟨(IA.new w i 25).bel hbx, bel_trans (bel_alloc (Below.refl _ _) _) hbx⟩)); clear hbx; (try clear p0 p1 p2 p3 p4 p5 p6 p7 p8 p9 p10 p11 p12 p13 p14 p15 p16 p17 p18 p19 p20 p21 p22 p23); (try clear AX); have AX := AY; clear AY; obtain ⟨p0, p1, p2, p3, p4, p5, p6, p7, p8, p9, p10, p11, p12, p13, p14, p15, p16, p17, p18, p19, p20, p21, p22, p23⟩ := AX.out.1))
  have K := mkR (w := w) (v := wx.drew) (i := i) ⟨AX.out.1.bel (bel_drew _), AX.out.2.drew⟩
  clear p0 p1 p2 p3 p4 p5 p6 p7 p8 p9 p10 p11 p12 p13 p14 p15 p16 p17 p18 p19 p20 p21 p22 p23
  go_region_held3 (fun v => v.cell? ⟨w.heap.size, 3, none⟩ = some (.int .i64 i.to.k) ∧ v.cell? ⟨w.heap.size, 4, none⟩ = some (.int .i64 i.to.r) ∧ v.cell? ⟨w.heap.size, 5, none⟩ = some (.int .i64 i.to.b) ∧ v.cell? ⟨w.heap.size, 6, none⟩ = some (.int .i64 i.to.x) ∧ v.cell? ⟨w.heap.size, 7, none⟩ = some (.int .i64 i.to.s) ∧ v.cell? ⟨w.heap.size, 8, none⟩ = some (.bool i.to.rip) ∧ v.cell? ⟨w.heap.size, 9, none⟩ = some (.bool i.to.fs) ∧ v.cell? ⟨w.heap.size, 10, none⟩ = some (.int .i64 i.to.n) ∧ v.cell? ⟨w.heap.size, 11, none⟩ = some (.string i.to.nm) ∧ v.cell? ⟨w.heap.size, 12, none⟩ = some (.int .i64 i.to.m) ∧ v.cell? ⟨w.heap.size, 13, none⟩ = some (.int .i64 i.fr.k) ∧ v.cell? ⟨w.heap.size, 14, none⟩ = some (.int .i64 i.fr.r) ∧ v.cell? ⟨w.heap.size, 15, none⟩ = some (.int .i64 i.fr.b) ∧ v.cell? ⟨w.heap.size, 16, none⟩ = some (.int .i64 i.fr.x) ∧ v.cell? ⟨w.heap.size, 17, none⟩ = some (.int .i64 i.fr.s) ∧ v.cell? ⟨w.heap.size, 18, none⟩ = some (.bool i.fr.rip) ∧ v.cell? ⟨w.heap.size, 19, none⟩ = some (.bool i.fr.fs) ∧ v.cell? ⟨w.heap.size, 20, none⟩ = some (.int .i64 i.fr.n) ∧ v.cell? ⟨w.heap.size, 21, none⟩ = some (.string i.fr.nm) ∧ v.cell? ⟨w.heap.size, 22, none⟩ = some (.int .i64 i.fr.m) ∧ Hid (IA v w.heap.size i ∧ Below w.heap.size w v))
    (first | (with_reducible assumption) | exact keepR (by with_reducible assumption) hb)
    (first
      | (go_at_call 48; clear tk; refine (C1.out _).mono ?_; rintro e wp ⟨rfl, hb⟩)
      | (go_at_call 48; refine (C2.out _).mono ?_; rintro e wp ⟨rfl, hb⟩))
  have HX := hid (lastR (by with_reducible assumption))
  obtain ⟨p0, p1, p2, p3, p4, p5, p6, p7, p8, p9, p10, p11, p12, p13, p14, p15, p16, p17, p18, p19, p20, p21, p22, p23⟩ := HX.out.1
  go_wp2_with (first
    | (go_at_call_of 49 (Value.int IntKind.i64 4); refine (D4.out _).mono ?_; rintro e wy ⟨rfl, hwy⟩; subst wy))
  go_ret
  exact ⟨rfl, HX.out.2⟩

set_option maxHeartbeats 2000000 in
set_option maxRecDepth 4000 in
theorem refUses_22 (i : I) (w : World) (xf xt : Int) (e1 : (i.op == 1) = false) (e2 : (i.op == 2) = false) (e29 : (i.op == 29) = false) (e30 : (i.op == 30) = false) (e21 : (i.op == 21) = false) (e20 : (i.op == 20) = false) (e22 : (i.op == 22) = true) (e25 : (i.op == 25) = false) (e26 : (i.op == 26) = false) (e32 : (i.op == 32) = false) (e35 : (i.op == 35) = false)
    (C0 : Hid (∀ v, Calls Tryd.prog 13 #[.agg #[.int .i64 i.op, .int .i64 i.sz, .int .i64 i.cd, .int .i64 i.to.k, .int .i64 i.to.r, .int .i64 i.to.b, .int .i64 i.to.x, .int .i64 i.to.s, .bool i.to.rip, .bool i.to.fs, .int .i64 i.to.n, .string i.to.nm, .int .i64 i.to.m, .int .i64 i.fr.k, .int .i64 i.fr.r, .int .i64 i.fr.b, .int .i64 i.fr.x, .int .i64 i.fr.s, .bool i.fr.rip, .bool i.fr.fs, .int .i64 i.fr.n, .string i.fr.nm, .int .i64 i.fr.m, .bool i.sh]] v fun e w' => e = .returned (.int .i64 0) ∧ Below v.heap.size v w'))
    (C1 : Hid (∀ v, Calls Tryd.prog 48 #[.agg #[.int .i64 i.fr.k, .int .i64 i.fr.r, .int .i64 i.fr.b, .int .i64 i.fr.x, .int .i64 i.fr.s, .bool i.fr.rip, .bool i.fr.fs, .int .i64 i.fr.n, .string i.fr.nm, .int .i64 i.fr.m], .bool true] v fun e w' => e = .returned (.int .i64 xf) ∧ Below v.heap.size v w'))
    (C2 : Hid (∀ v, Calls Tryd.prog 48 #[.agg #[.int .i64 i.to.k, .int .i64 i.to.r, .int .i64 i.to.b, .int .i64 i.to.x, .int .i64 i.to.s, .bool i.to.rip, .bool i.to.fs, .int .i64 i.to.n, .string i.to.nm, .int .i64 i.to.m], .bool true] v fun e w' => e = .returned (.int .i64 xt) ∧ Below v.heap.size v w')) :
    Calls Tryd.prog 24 #[.agg #[.int .i64 i.op, .int .i64 i.sz, .int .i64 i.cd, .int .i64 i.to.k, .int .i64 i.to.r, .int .i64 i.to.b, .int .i64 i.to.x, .int .i64 i.to.s, .bool i.to.rip, .bool i.to.fs, .int .i64 i.to.n, .string i.to.nm, .int .i64 i.to.m, .int .i64 i.fr.k, .int .i64 i.fr.r, .int .i64 i.fr.b, .int .i64 i.fr.x, .int .i64 i.fr.s, .bool i.fr.rip, .bool i.fr.fs, .int .i64 i.fr.n, .string i.fr.nm, .int .i64 i.fr.m, .bool i.sh]] w fun e w' => e = .returned (.int .i64 (orV (orV xf xt) 16)) ∧ Below w.heap.size w w' := by
  have L0 : Hid (∀ v, IA v w.heap.size i → (loadVar 25 ⟨w.heap.size, 0, none⟩).run Tryd.prog v = .ok (.agg #[.int .i64 i.op, .int .i64 i.sz, .int .i64 i.cd, .int .i64 i.to.k, .int .i64 i.to.r, .int .i64 i.to.b, .int .i64 i.to.x, .int .i64 i.to.s, .bool i.to.rip, .bool i.to.fs, .int .i64 i.to.n, .string i.to.nm, .int .i64 i.to.m, .int .i64 i.fr.k, .int .i64 i.fr.r, .int .i64 i.fr.b, .int .i64 i.fr.x, .int .i64 i.fr.s, .bool i.fr.rip, .bool i.fr.fs, .int .i64 i.fr.n, .string i.fr.nm, .int .i64 i.fr.m, .bool i.sh]) v) := ⟨fun v h => h.whole⟩
  have D4 : Hid (∀ v, Calls Tryd.prog 49 #[.int .i64 4] v fun e w' => e = .returned (.int .i64 16) ∧ w' = v) := ⟨fun v => refBit_any 4 v (by decide)⟩
  unfold orV
  have AX : True := trivial
  have tk : True := trivial
  go_enter Tryd.func24, Tryd.ntmps24
  go_wp2_with (first
    | (refine wpList_load_of (t := 25) rfl (by kernel_rfl) (by kernel_rfl) (L0.out _ (by first | exact AX.out.1 | exact IA.new w i 25)) ?_)
    | (go_at_call 13; refine (C0.out _).mono ?_; rintro e wx ⟨rfl, hbx⟩; (first | (have AY : Hid (IA wx w.heap.size i ∧ Below w.heap.size w wx) := ⟨AX.out.1.bel hbx, bel_trans AX.out.2 hbx⟩) | (have AY : Hid (IA wx w.heap.size i ∧ Below w.heap.size w wx) := ⟨(IA.new w i 25).bel hbx, bel_trans (bel_alloc (Below.refl _ _) _) hbx⟩)); clear hbx; (try clear p0 p1 p2 p3 p4 p5 p6 p7 p8 p9 p10 p11 p12 p13 p14 p15 p16 p17 p18 p19 p20 p21 p22 p23); (try clear AX); have AX := AY; clear AY; obtain ⟨p0, p1, p2, p3, p4, p5, p6, p7, p8, p9, p10, p11, p12, p13, p14, p15, p16, p17, p18, p19, p20, p21, p22, p23⟩ := AX.out.1))
  have K := mkR (w := w) (v := wx.drew) (i := i) ⟨AX.out.1.bel (bel_drew _), AX.out.2.drew⟩
  clear p0 p1 p2 p3 p4 p5 p6 p7 p8 p9 p10 p11 p12 p13 p14 p15 p16 p17 p18 p19 p20 p21 p22 p23
  go_region_held3 (fun v => v.cell? ⟨w.heap.size, 3, none⟩ = some (.int .i64 i.to.k) ∧ v.cell? ⟨w.heap.size, 4, none⟩ = some (.int .i64 i.to.r) ∧ v.cell? ⟨w.heap.size, 5, none⟩ = some (.int .i64 i.to.b) ∧ v.cell? ⟨w.heap.size, 6, none⟩ = some (.int .i64 i.to.x) ∧ v.cell? ⟨w.heap.size, 7, none⟩ = some (.int .i64 i.to.s) ∧ v.cell? ⟨w.heap.size, 8, none⟩ = some (.bool i.to.rip) ∧ v.cell? ⟨w.heap.size, 9, none⟩ = some (.bool i.to.fs) ∧ v.cell? ⟨w.heap.size, 10, none⟩ = some (.int .i64 i.to.n) ∧ v.cell? ⟨w.heap.size, 11, none⟩ = some (.string i.to.nm) ∧ v.cell? ⟨w.heap.size, 12, none⟩ = some (.int .i64 i.to.m) ∧ v.cell? ⟨w.heap.size, 13, none⟩ = some (.int .i64 i.fr.k) ∧ v.cell? ⟨w.heap.size, 14, none⟩ = some (.int .i64 i.fr.r) ∧ v.cell? ⟨w.heap.size, 15, none⟩ = some (.int .i64 i.fr.b) ∧ v.cell? ⟨w.heap.size, 16, none⟩ = some (.int .i64 i.fr.x) ∧ v.cell? ⟨w.heap.size, 17, none⟩ = some (.int .i64 i.fr.s) ∧ v.cell? ⟨w.heap.size, 18, none⟩ = some (.bool i.fr.rip) ∧ v.cell? ⟨w.heap.size, 19, none⟩ = some (.bool i.fr.fs) ∧ v.cell? ⟨w.heap.size, 20, none⟩ = some (.int .i64 i.fr.n) ∧ v.cell? ⟨w.heap.size, 21, none⟩ = some (.string i.fr.nm) ∧ v.cell? ⟨w.heap.size, 22, none⟩ = some (.int .i64 i.fr.m) ∧ Hid (IA v w.heap.size i ∧ Below w.heap.size w v))
    (first | (with_reducible assumption) | exact keepR (by with_reducible assumption) hb)
    (first
      | (go_at_call 48; clear tk; refine (C1.out _).mono ?_; rintro e wp ⟨rfl, hb⟩)
      | (go_at_call 48; refine (C2.out _).mono ?_; rintro e wp ⟨rfl, hb⟩))
  have HX := hid (lastR (by with_reducible assumption))
  obtain ⟨p0, p1, p2, p3, p4, p5, p6, p7, p8, p9, p10, p11, p12, p13, p14, p15, p16, p17, p18, p19, p20, p21, p22, p23⟩ := HX.out.1
  go_wp2_with (first
    | (go_at_call_of 49 (Value.int IntKind.i64 4); refine (D4.out _).mono ?_; rintro e wy ⟨rfl, hwy⟩; subst wy))
  go_ret
  exact ⟨rfl, HX.out.2⟩

set_option maxHeartbeats 2000000 in
set_option maxRecDepth 4000 in
theorem refUses_25 (i : I) (w : World) (xf xt : Int) (e1 : (i.op == 1) = false) (e2 : (i.op == 2) = false) (e29 : (i.op == 29) = false) (e30 : (i.op == 30) = false) (e21 : (i.op == 21) = false) (e20 : (i.op == 20) = false) (e22 : (i.op == 22) = false) (e25 : (i.op == 25) = true) (e26 : (i.op == 26) = false) (e32 : (i.op == 32) = false) (e35 : (i.op == 35) = false)
    (C0 : Hid (∀ v, Calls Tryd.prog 13 #[.agg #[.int .i64 i.op, .int .i64 i.sz, .int .i64 i.cd, .int .i64 i.to.k, .int .i64 i.to.r, .int .i64 i.to.b, .int .i64 i.to.x, .int .i64 i.to.s, .bool i.to.rip, .bool i.to.fs, .int .i64 i.to.n, .string i.to.nm, .int .i64 i.to.m, .int .i64 i.fr.k, .int .i64 i.fr.r, .int .i64 i.fr.b, .int .i64 i.fr.x, .int .i64 i.fr.s, .bool i.fr.rip, .bool i.fr.fs, .int .i64 i.fr.n, .string i.fr.nm, .int .i64 i.fr.m, .bool i.sh]] v fun e w' => e = .returned (.int .i64 0) ∧ Below v.heap.size v w'))
    (C1 : Hid (∀ v, Calls Tryd.prog 48 #[.agg #[.int .i64 i.fr.k, .int .i64 i.fr.r, .int .i64 i.fr.b, .int .i64 i.fr.x, .int .i64 i.fr.s, .bool i.fr.rip, .bool i.fr.fs, .int .i64 i.fr.n, .string i.fr.nm, .int .i64 i.fr.m], .bool true] v fun e w' => e = .returned (.int .i64 xf) ∧ Below v.heap.size v w'))
    (C2 : Hid (∀ v, Calls Tryd.prog 48 #[.agg #[.int .i64 i.to.k, .int .i64 i.to.r, .int .i64 i.to.b, .int .i64 i.to.x, .int .i64 i.to.s, .bool i.to.rip, .bool i.to.fs, .int .i64 i.to.n, .string i.to.nm, .int .i64 i.to.m], .bool true] v fun e w' => e = .returned (.int .i64 xt) ∧ Below v.heap.size v w')) :
    Calls Tryd.prog 24 #[.agg #[.int .i64 i.op, .int .i64 i.sz, .int .i64 i.cd, .int .i64 i.to.k, .int .i64 i.to.r, .int .i64 i.to.b, .int .i64 i.to.x, .int .i64 i.to.s, .bool i.to.rip, .bool i.to.fs, .int .i64 i.to.n, .string i.to.nm, .int .i64 i.to.m, .int .i64 i.fr.k, .int .i64 i.fr.r, .int .i64 i.fr.b, .int .i64 i.fr.x, .int .i64 i.fr.s, .bool i.fr.rip, .bool i.fr.fs, .int .i64 i.fr.n, .string i.fr.nm, .int .i64 i.fr.m, .bool i.sh]] w fun e w' => e = .returned (.int .i64 (orV (orV xf xt) 16)) ∧ Below w.heap.size w w' := by
  have L0 : Hid (∀ v, IA v w.heap.size i → (loadVar 25 ⟨w.heap.size, 0, none⟩).run Tryd.prog v = .ok (.agg #[.int .i64 i.op, .int .i64 i.sz, .int .i64 i.cd, .int .i64 i.to.k, .int .i64 i.to.r, .int .i64 i.to.b, .int .i64 i.to.x, .int .i64 i.to.s, .bool i.to.rip, .bool i.to.fs, .int .i64 i.to.n, .string i.to.nm, .int .i64 i.to.m, .int .i64 i.fr.k, .int .i64 i.fr.r, .int .i64 i.fr.b, .int .i64 i.fr.x, .int .i64 i.fr.s, .bool i.fr.rip, .bool i.fr.fs, .int .i64 i.fr.n, .string i.fr.nm, .int .i64 i.fr.m, .bool i.sh]) v) := ⟨fun v h => h.whole⟩
  have D4 : Hid (∀ v, Calls Tryd.prog 49 #[.int .i64 4] v fun e w' => e = .returned (.int .i64 16) ∧ w' = v) := ⟨fun v => refBit_any 4 v (by decide)⟩
  unfold orV
  have AX : True := trivial
  have tk : True := trivial
  go_enter Tryd.func24, Tryd.ntmps24
  go_wp2_with (first
    | (refine wpList_load_of (t := 25) rfl (by kernel_rfl) (by kernel_rfl) (L0.out _ (by first | exact AX.out.1 | exact IA.new w i 25)) ?_)
    | (go_at_call 13; refine (C0.out _).mono ?_; rintro e wx ⟨rfl, hbx⟩; (first | (have AY : Hid (IA wx w.heap.size i ∧ Below w.heap.size w wx) := ⟨AX.out.1.bel hbx, bel_trans AX.out.2 hbx⟩) | (have AY : Hid (IA wx w.heap.size i ∧ Below w.heap.size w wx) := ⟨(IA.new w i 25).bel hbx, bel_trans (bel_alloc (Below.refl _ _) _) hbx⟩)); clear hbx; (try clear p0 p1 p2 p3 p4 p5 p6 p7 p8 p9 p10 p11 p12 p13 p14 p15 p16 p17 p18 p19 p20 p21 p22 p23); (try clear AX); have AX := AY; clear AY; obtain ⟨p0, p1, p2, p3, p4, p5, p6, p7, p8, p9, p10, p11, p12, p13, p14, p15, p16, p17, p18, p19, p20, p21, p22, p23⟩ := AX.out.1))
  have K := mkR (w := w) (v := wx.drew) (i := i) ⟨AX.out.1.bel (bel_drew _), AX.out.2.drew⟩
  clear p0 p1 p2 p3 p4 p5 p6 p7 p8 p9 p10 p11 p12 p13 p14 p15 p16 p17 p18 p19 p20 p21 p22 p23
  go_region_held3 (fun v => v.cell? ⟨w.heap.size, 3, none⟩ = some (.int .i64 i.to.k) ∧ v.cell? ⟨w.heap.size, 4, none⟩ = some (.int .i64 i.to.r) ∧ v.cell? ⟨w.heap.size, 5, none⟩ = some (.int .i64 i.to.b) ∧ v.cell? ⟨w.heap.size, 6, none⟩ = some (.int .i64 i.to.x) ∧ v.cell? ⟨w.heap.size, 7, none⟩ = some (.int .i64 i.to.s) ∧ v.cell? ⟨w.heap.size, 8, none⟩ = some (.bool i.to.rip) ∧ v.cell? ⟨w.heap.size, 9, none⟩ = some (.bool i.to.fs) ∧ v.cell? ⟨w.heap.size, 10, none⟩ = some (.int .i64 i.to.n) ∧ v.cell? ⟨w.heap.size, 11, none⟩ = some (.string i.to.nm) ∧ v.cell? ⟨w.heap.size, 12, none⟩ = some (.int .i64 i.to.m) ∧ v.cell? ⟨w.heap.size, 13, none⟩ = some (.int .i64 i.fr.k) ∧ v.cell? ⟨w.heap.size, 14, none⟩ = some (.int .i64 i.fr.r) ∧ v.cell? ⟨w.heap.size, 15, none⟩ = some (.int .i64 i.fr.b) ∧ v.cell? ⟨w.heap.size, 16, none⟩ = some (.int .i64 i.fr.x) ∧ v.cell? ⟨w.heap.size, 17, none⟩ = some (.int .i64 i.fr.s) ∧ v.cell? ⟨w.heap.size, 18, none⟩ = some (.bool i.fr.rip) ∧ v.cell? ⟨w.heap.size, 19, none⟩ = some (.bool i.fr.fs) ∧ v.cell? ⟨w.heap.size, 20, none⟩ = some (.int .i64 i.fr.n) ∧ v.cell? ⟨w.heap.size, 21, none⟩ = some (.string i.fr.nm) ∧ v.cell? ⟨w.heap.size, 22, none⟩ = some (.int .i64 i.fr.m) ∧ Hid (IA v w.heap.size i ∧ Below w.heap.size w v))
    (first | (with_reducible assumption) | exact keepR (by with_reducible assumption) hb)
    (first
      | (go_at_call 48; clear tk; refine (C1.out _).mono ?_; rintro e wp ⟨rfl, hb⟩)
      | (go_at_call 48; refine (C2.out _).mono ?_; rintro e wp ⟨rfl, hb⟩))
  have HX := hid (lastR (by with_reducible assumption))
  obtain ⟨p0, p1, p2, p3, p4, p5, p6, p7, p8, p9, p10, p11, p12, p13, p14, p15, p16, p17, p18, p19, p20, p21, p22, p23⟩ := HX.out.1
  go_wp2_with (first
    | (go_at_call_of 49 (Value.int IntKind.i64 4); refine (D4.out _).mono ?_; rintro e wy ⟨rfl, hwy⟩; subst wy))
  go_ret
  exact ⟨rfl, HX.out.2⟩

set_option maxHeartbeats 2000000 in
set_option maxRecDepth 4000 in
theorem refUses_26 (i : I) (w : World) (xf xt : Int) (e1 : (i.op == 1) = false) (e2 : (i.op == 2) = false) (e29 : (i.op == 29) = false) (e30 : (i.op == 30) = false) (e21 : (i.op == 21) = false) (e20 : (i.op == 20) = false) (e22 : (i.op == 22) = false) (e25 : (i.op == 25) = false) (e26 : (i.op == 26) = true) (e32 : (i.op == 32) = false) (e35 : (i.op == 35) = false)
    (C0 : Hid (∀ v, Calls Tryd.prog 13 #[.agg #[.int .i64 i.op, .int .i64 i.sz, .int .i64 i.cd, .int .i64 i.to.k, .int .i64 i.to.r, .int .i64 i.to.b, .int .i64 i.to.x, .int .i64 i.to.s, .bool i.to.rip, .bool i.to.fs, .int .i64 i.to.n, .string i.to.nm, .int .i64 i.to.m, .int .i64 i.fr.k, .int .i64 i.fr.r, .int .i64 i.fr.b, .int .i64 i.fr.x, .int .i64 i.fr.s, .bool i.fr.rip, .bool i.fr.fs, .int .i64 i.fr.n, .string i.fr.nm, .int .i64 i.fr.m, .bool i.sh]] v fun e w' => e = .returned (.int .i64 0) ∧ Below v.heap.size v w'))
    (C1 : Hid (∀ v, Calls Tryd.prog 48 #[.agg #[.int .i64 i.fr.k, .int .i64 i.fr.r, .int .i64 i.fr.b, .int .i64 i.fr.x, .int .i64 i.fr.s, .bool i.fr.rip, .bool i.fr.fs, .int .i64 i.fr.n, .string i.fr.nm, .int .i64 i.fr.m], .bool true] v fun e w' => e = .returned (.int .i64 xf) ∧ Below v.heap.size v w'))
    (C2 : Hid (∀ v, Calls Tryd.prog 48 #[.agg #[.int .i64 i.to.k, .int .i64 i.to.r, .int .i64 i.to.b, .int .i64 i.to.x, .int .i64 i.to.s, .bool i.to.rip, .bool i.to.fs, .int .i64 i.to.n, .string i.to.nm, .int .i64 i.to.m], .bool true] v fun e w' => e = .returned (.int .i64 xt) ∧ Below v.heap.size v w')) :
    Calls Tryd.prog 24 #[.agg #[.int .i64 i.op, .int .i64 i.sz, .int .i64 i.cd, .int .i64 i.to.k, .int .i64 i.to.r, .int .i64 i.to.b, .int .i64 i.to.x, .int .i64 i.to.s, .bool i.to.rip, .bool i.to.fs, .int .i64 i.to.n, .string i.to.nm, .int .i64 i.to.m, .int .i64 i.fr.k, .int .i64 i.fr.r, .int .i64 i.fr.b, .int .i64 i.fr.x, .int .i64 i.fr.s, .bool i.fr.rip, .bool i.fr.fs, .int .i64 i.fr.n, .string i.fr.nm, .int .i64 i.fr.m, .bool i.sh]] w fun e w' => e = .returned (.int .i64 (orV (orV xf xt) 32)) ∧ Below w.heap.size w w' := by
  have L0 : Hid (∀ v, IA v w.heap.size i → (loadVar 25 ⟨w.heap.size, 0, none⟩).run Tryd.prog v = .ok (.agg #[.int .i64 i.op, .int .i64 i.sz, .int .i64 i.cd, .int .i64 i.to.k, .int .i64 i.to.r, .int .i64 i.to.b, .int .i64 i.to.x, .int .i64 i.to.s, .bool i.to.rip, .bool i.to.fs, .int .i64 i.to.n, .string i.to.nm, .int .i64 i.to.m, .int .i64 i.fr.k, .int .i64 i.fr.r, .int .i64 i.fr.b, .int .i64 i.fr.x, .int .i64 i.fr.s, .bool i.fr.rip, .bool i.fr.fs, .int .i64 i.fr.n, .string i.fr.nm, .int .i64 i.fr.m, .bool i.sh]) v) := ⟨fun v h => h.whole⟩
  have D5 : Hid (∀ v, Calls Tryd.prog 49 #[.int .i64 5] v fun e w' => e = .returned (.int .i64 32) ∧ w' = v) := ⟨fun v => refBit_any 5 v (by decide)⟩
  unfold orV
  have AX : True := trivial
  have tk : True := trivial
  go_enter Tryd.func24, Tryd.ntmps24
  go_wp2_with (first
    | (refine wpList_load_of (t := 25) rfl (by kernel_rfl) (by kernel_rfl) (L0.out _ (by first | exact AX.out.1 | exact IA.new w i 25)) ?_)
    | (go_at_call 13; refine (C0.out _).mono ?_; rintro e wx ⟨rfl, hbx⟩; (first | (have AY : Hid (IA wx w.heap.size i ∧ Below w.heap.size w wx) := ⟨AX.out.1.bel hbx, bel_trans AX.out.2 hbx⟩) | (have AY : Hid (IA wx w.heap.size i ∧ Below w.heap.size w wx) := ⟨(IA.new w i 25).bel hbx, bel_trans (bel_alloc (Below.refl _ _) _) hbx⟩)); clear hbx; (try clear p0 p1 p2 p3 p4 p5 p6 p7 p8 p9 p10 p11 p12 p13 p14 p15 p16 p17 p18 p19 p20 p21 p22 p23); (try clear AX); have AX := AY; clear AY; obtain ⟨p0, p1, p2, p3, p4, p5, p6, p7, p8, p9, p10, p11, p12, p13, p14, p15, p16, p17, p18, p19, p20, p21, p22, p23⟩ := AX.out.1))
  have K := mkR (w := w) (v := wx.drew) (i := i) ⟨AX.out.1.bel (bel_drew _), AX.out.2.drew⟩
  clear p0 p1 p2 p3 p4 p5 p6 p7 p8 p9 p10 p11 p12 p13 p14 p15 p16 p17 p18 p19 p20 p21 p22 p23
  go_region_held3 (fun v => v.cell? ⟨w.heap.size, 3, none⟩ = some (.int .i64 i.to.k) ∧ v.cell? ⟨w.heap.size, 4, none⟩ = some (.int .i64 i.to.r) ∧ v.cell? ⟨w.heap.size, 5, none⟩ = some (.int .i64 i.to.b) ∧ v.cell? ⟨w.heap.size, 6, none⟩ = some (.int .i64 i.to.x) ∧ v.cell? ⟨w.heap.size, 7, none⟩ = some (.int .i64 i.to.s) ∧ v.cell? ⟨w.heap.size, 8, none⟩ = some (.bool i.to.rip) ∧ v.cell? ⟨w.heap.size, 9, none⟩ = some (.bool i.to.fs) ∧ v.cell? ⟨w.heap.size, 10, none⟩ = some (.int .i64 i.to.n) ∧ v.cell? ⟨w.heap.size, 11, none⟩ = some (.string i.to.nm) ∧ v.cell? ⟨w.heap.size, 12, none⟩ = some (.int .i64 i.to.m) ∧ v.cell? ⟨w.heap.size, 13, none⟩ = some (.int .i64 i.fr.k) ∧ v.cell? ⟨w.heap.size, 14, none⟩ = some (.int .i64 i.fr.r) ∧ v.cell? ⟨w.heap.size, 15, none⟩ = some (.int .i64 i.fr.b) ∧ v.cell? ⟨w.heap.size, 16, none⟩ = some (.int .i64 i.fr.x) ∧ v.cell? ⟨w.heap.size, 17, none⟩ = some (.int .i64 i.fr.s) ∧ v.cell? ⟨w.heap.size, 18, none⟩ = some (.bool i.fr.rip) ∧ v.cell? ⟨w.heap.size, 19, none⟩ = some (.bool i.fr.fs) ∧ v.cell? ⟨w.heap.size, 20, none⟩ = some (.int .i64 i.fr.n) ∧ v.cell? ⟨w.heap.size, 21, none⟩ = some (.string i.fr.nm) ∧ v.cell? ⟨w.heap.size, 22, none⟩ = some (.int .i64 i.fr.m) ∧ Hid (IA v w.heap.size i ∧ Below w.heap.size w v))
    (first | (with_reducible assumption) | exact keepR (by with_reducible assumption) hb)
    (first
      | (go_at_call 48; clear tk; refine (C1.out _).mono ?_; rintro e wp ⟨rfl, hb⟩)
      | (go_at_call 48; refine (C2.out _).mono ?_; rintro e wp ⟨rfl, hb⟩))
  have HX := hid (lastR (by with_reducible assumption))
  obtain ⟨p0, p1, p2, p3, p4, p5, p6, p7, p8, p9, p10, p11, p12, p13, p14, p15, p16, p17, p18, p19, p20, p21, p22, p23⟩ := HX.out.1
  go_wp2_with (first
    | (go_at_call_of 49 (Value.int IntKind.i64 5); refine (D5.out _).mono ?_; rintro e wy ⟨rfl, hwy⟩; subst wy))
  go_ret
  exact ⟨rfl, HX.out.2⟩

set_option maxHeartbeats 2000000 in
set_option maxRecDepth 4000 in
theorem refUses_32 (i : I) (w : World) (xf xt : Int) (e1 : (i.op == 1) = false) (e2 : (i.op == 2) = false) (e29 : (i.op == 29) = false) (e30 : (i.op == 30) = false) (e21 : (i.op == 21) = false) (e20 : (i.op == 20) = false) (e22 : (i.op == 22) = false) (e25 : (i.op == 25) = false) (e26 : (i.op == 26) = false) (e32 : (i.op == 32) = true) (e35 : (i.op == 35) = false)
    (C0 : Hid (∀ v, Calls Tryd.prog 13 #[.agg #[.int .i64 i.op, .int .i64 i.sz, .int .i64 i.cd, .int .i64 i.to.k, .int .i64 i.to.r, .int .i64 i.to.b, .int .i64 i.to.x, .int .i64 i.to.s, .bool i.to.rip, .bool i.to.fs, .int .i64 i.to.n, .string i.to.nm, .int .i64 i.to.m, .int .i64 i.fr.k, .int .i64 i.fr.r, .int .i64 i.fr.b, .int .i64 i.fr.x, .int .i64 i.fr.s, .bool i.fr.rip, .bool i.fr.fs, .int .i64 i.fr.n, .string i.fr.nm, .int .i64 i.fr.m, .bool i.sh]] v fun e w' => e = .returned (.int .i64 0) ∧ Below v.heap.size v w'))
    (C1 : Hid (∀ v, Calls Tryd.prog 48 #[.agg #[.int .i64 i.fr.k, .int .i64 i.fr.r, .int .i64 i.fr.b, .int .i64 i.fr.x, .int .i64 i.fr.s, .bool i.fr.rip, .bool i.fr.fs, .int .i64 i.fr.n, .string i.fr.nm, .int .i64 i.fr.m], .bool true] v fun e w' => e = .returned (.int .i64 xf) ∧ Below v.heap.size v w'))
    (C2 : Hid (∀ v, Calls Tryd.prog 48 #[.agg #[.int .i64 i.to.k, .int .i64 i.to.r, .int .i64 i.to.b, .int .i64 i.to.x, .int .i64 i.to.s, .bool i.to.rip, .bool i.to.fs, .int .i64 i.to.n, .string i.to.nm, .int .i64 i.to.m], .bool true] v fun e w' => e = .returned (.int .i64 xt) ∧ Below v.heap.size v w')) :
    Calls Tryd.prog 24 #[.agg #[.int .i64 i.op, .int .i64 i.sz, .int .i64 i.cd, .int .i64 i.to.k, .int .i64 i.to.r, .int .i64 i.to.b, .int .i64 i.to.x, .int .i64 i.to.s, .bool i.to.rip, .bool i.to.fs, .int .i64 i.to.n, .string i.to.nm, .int .i64 i.to.m, .int .i64 i.fr.k, .int .i64 i.fr.r, .int .i64 i.fr.b, .int .i64 i.fr.x, .int .i64 i.fr.s, .bool i.fr.rip, .bool i.fr.fs, .int .i64 i.fr.n, .string i.fr.nm, .int .i64 i.fr.m, .bool i.sh]] w fun e w' => e = .returned (.int .i64 (orV (orV xf xt) 1)) ∧ Below w.heap.size w w' := by
  have L0 : Hid (∀ v, IA v w.heap.size i → (loadVar 25 ⟨w.heap.size, 0, none⟩).run Tryd.prog v = .ok (.agg #[.int .i64 i.op, .int .i64 i.sz, .int .i64 i.cd, .int .i64 i.to.k, .int .i64 i.to.r, .int .i64 i.to.b, .int .i64 i.to.x, .int .i64 i.to.s, .bool i.to.rip, .bool i.to.fs, .int .i64 i.to.n, .string i.to.nm, .int .i64 i.to.m, .int .i64 i.fr.k, .int .i64 i.fr.r, .int .i64 i.fr.b, .int .i64 i.fr.x, .int .i64 i.fr.s, .bool i.fr.rip, .bool i.fr.fs, .int .i64 i.fr.n, .string i.fr.nm, .int .i64 i.fr.m, .bool i.sh]) v) := ⟨fun v h => h.whole⟩
  have D0 : Hid (∀ v, Calls Tryd.prog 49 #[.int .i64 0] v fun e w' => e = .returned (.int .i64 1) ∧ w' = v) := ⟨fun v => refBit_any 0 v (by decide)⟩
  unfold orV
  have AX : True := trivial
  have tk : True := trivial
  go_enter Tryd.func24, Tryd.ntmps24
  go_wp2_with (first
    | (refine wpList_load_of (t := 25) rfl (by kernel_rfl) (by kernel_rfl) (L0.out _ (by first | exact AX.out.1 | exact IA.new w i 25)) ?_)
    | (go_at_call 13; refine (C0.out _).mono ?_; rintro e wx ⟨rfl, hbx⟩; (first | (have AY : Hid (IA wx w.heap.size i ∧ Below w.heap.size w wx) := ⟨AX.out.1.bel hbx, bel_trans AX.out.2 hbx⟩) | (have AY : Hid (IA wx w.heap.size i ∧ Below w.heap.size w wx) := ⟨(IA.new w i 25).bel hbx, bel_trans (bel_alloc (Below.refl _ _) _) hbx⟩)); clear hbx; (try clear p0 p1 p2 p3 p4 p5 p6 p7 p8 p9 p10 p11 p12 p13 p14 p15 p16 p17 p18 p19 p20 p21 p22 p23); (try clear AX); have AX := AY; clear AY; obtain ⟨p0, p1, p2, p3, p4, p5, p6, p7, p8, p9, p10, p11, p12, p13, p14, p15, p16, p17, p18, p19, p20, p21, p22, p23⟩ := AX.out.1))
  have K := mkR (w := w) (v := wx.drew) (i := i) ⟨AX.out.1.bel (bel_drew _), AX.out.2.drew⟩
  clear p0 p1 p2 p3 p4 p5 p6 p7 p8 p9 p10 p11 p12 p13 p14 p15 p16 p17 p18 p19 p20 p21 p22 p23
  go_region_held3 (fun v => v.cell? ⟨w.heap.size, 3, none⟩ = some (.int .i64 i.to.k) ∧ v.cell? ⟨w.heap.size, 4, none⟩ = some (.int .i64 i.to.r) ∧ v.cell? ⟨w.heap.size, 5, none⟩ = some (.int .i64 i.to.b) ∧ v.cell? ⟨w.heap.size, 6, none⟩ = some (.int .i64 i.to.x) ∧ v.cell? ⟨w.heap.size, 7, none⟩ = some (.int .i64 i.to.s) ∧ v.cell? ⟨w.heap.size, 8, none⟩ = some (.bool i.to.rip) ∧ v.cell? ⟨w.heap.size, 9, none⟩ = some (.bool i.to.fs) ∧ v.cell? ⟨w.heap.size, 10, none⟩ = some (.int .i64 i.to.n) ∧ v.cell? ⟨w.heap.size, 11, none⟩ = some (.string i.to.nm) ∧ v.cell? ⟨w.heap.size, 12, none⟩ = some (.int .i64 i.to.m) ∧ v.cell? ⟨w.heap.size, 13, none⟩ = some (.int .i64 i.fr.k) ∧ v.cell? ⟨w.heap.size, 14, none⟩ = some (.int .i64 i.fr.r) ∧ v.cell? ⟨w.heap.size, 15, none⟩ = some (.int .i64 i.fr.b) ∧ v.cell? ⟨w.heap.size, 16, none⟩ = some (.int .i64 i.fr.x) ∧ v.cell? ⟨w.heap.size, 17, none⟩ = some (.int .i64 i.fr.s) ∧ v.cell? ⟨w.heap.size, 18, none⟩ = some (.bool i.fr.rip) ∧ v.cell? ⟨w.heap.size, 19, none⟩ = some (.bool i.fr.fs) ∧ v.cell? ⟨w.heap.size, 20, none⟩ = some (.int .i64 i.fr.n) ∧ v.cell? ⟨w.heap.size, 21, none⟩ = some (.string i.fr.nm) ∧ v.cell? ⟨w.heap.size, 22, none⟩ = some (.int .i64 i.fr.m) ∧ Hid (IA v w.heap.size i ∧ Below w.heap.size w v))
    (first | (with_reducible assumption) | exact keepR (by with_reducible assumption) hb)
    (first
      | (go_at_call 48; clear tk; refine (C1.out _).mono ?_; rintro e wp ⟨rfl, hb⟩)
      | (go_at_call 48; refine (C2.out _).mono ?_; rintro e wp ⟨rfl, hb⟩))
  have HX := hid (lastR (by with_reducible assumption))
  obtain ⟨p0, p1, p2, p3, p4, p5, p6, p7, p8, p9, p10, p11, p12, p13, p14, p15, p16, p17, p18, p19, p20, p21, p22, p23⟩ := HX.out.1
  go_wp2_with (first
    | (go_at_call_of 49 (Value.int IntKind.i64 0); refine (D0.out _).mono ?_; rintro e wy ⟨rfl, hwy⟩; subst wy))
  go_ret
  exact ⟨rfl, HX.out.2⟩

set_option maxHeartbeats 2000000 in
set_option maxRecDepth 4000 in
theorem refUses_35 (i : I) (w : World) (xf xt : Int) (e1 : (i.op == 1) = false) (e2 : (i.op == 2) = false) (e29 : (i.op == 29) = false) (e30 : (i.op == 30) = false) (e21 : (i.op == 21) = false) (e20 : (i.op == 20) = false) (e22 : (i.op == 22) = false) (e25 : (i.op == 25) = false) (e26 : (i.op == 26) = false) (e32 : (i.op == 32) = false) (e35 : (i.op == 35) = true)
    (C0 : Hid (∀ v, Calls Tryd.prog 13 #[.agg #[.int .i64 i.op, .int .i64 i.sz, .int .i64 i.cd, .int .i64 i.to.k, .int .i64 i.to.r, .int .i64 i.to.b, .int .i64 i.to.x, .int .i64 i.to.s, .bool i.to.rip, .bool i.to.fs, .int .i64 i.to.n, .string i.to.nm, .int .i64 i.to.m, .int .i64 i.fr.k, .int .i64 i.fr.r, .int .i64 i.fr.b, .int .i64 i.fr.x, .int .i64 i.fr.s, .bool i.fr.rip, .bool i.fr.fs, .int .i64 i.fr.n, .string i.fr.nm, .int .i64 i.fr.m, .bool i.sh]] v fun e w' => e = .returned (.int .i64 0) ∧ Below v.heap.size v w'))
    (C1 : Hid (∀ v, Calls Tryd.prog 48 #[.agg #[.int .i64 i.fr.k, .int .i64 i.fr.r, .int .i64 i.fr.b, .int .i64 i.fr.x, .int .i64 i.fr.s, .bool i.fr.rip, .bool i.fr.fs, .int .i64 i.fr.n, .string i.fr.nm, .int .i64 i.fr.m], .bool true] v fun e w' => e = .returned (.int .i64 xf) ∧ Below v.heap.size v w'))
    (C2 : Hid (∀ v, Calls Tryd.prog 48 #[.agg #[.int .i64 i.to.k, .int .i64 i.to.r, .int .i64 i.to.b, .int .i64 i.to.x, .int .i64 i.to.s, .bool i.to.rip, .bool i.to.fs, .int .i64 i.to.n, .string i.to.nm, .int .i64 i.to.m], .bool true] v fun e w' => e = .returned (.int .i64 xt) ∧ Below v.heap.size v w')) :
    Calls Tryd.prog 24 #[.agg #[.int .i64 i.op, .int .i64 i.sz, .int .i64 i.cd, .int .i64 i.to.k, .int .i64 i.to.r, .int .i64 i.to.b, .int .i64 i.to.x, .int .i64 i.to.s, .bool i.to.rip, .bool i.to.fs, .int .i64 i.to.n, .string i.to.nm, .int .i64 i.to.m, .int .i64 i.fr.k, .int .i64 i.fr.r, .int .i64 i.fr.b, .int .i64 i.fr.x, .int .i64 i.fr.s, .bool i.fr.rip, .bool i.fr.fs, .int .i64 i.fr.n, .string i.fr.nm, .int .i64 i.fr.m, .bool i.sh]] w fun e w' => e = .returned (.int .i64 (orV (orV (orV (orV (orV xf xt) 1) 128) 64) 4)) ∧ Below w.heap.size w w' := by
  have L0 : Hid (∀ v, IA v w.heap.size i → (loadVar 25 ⟨w.heap.size, 0, none⟩).run Tryd.prog v = .ok (.agg #[.int .i64 i.op, .int .i64 i.sz, .int .i64 i.cd, .int .i64 i.to.k, .int .i64 i.to.r, .int .i64 i.to.b, .int .i64 i.to.x, .int .i64 i.to.s, .bool i.to.rip, .bool i.to.fs, .int .i64 i.to.n, .string i.to.nm, .int .i64 i.to.m, .int .i64 i.fr.k, .int .i64 i.fr.r, .int .i64 i.fr.b, .int .i64 i.fr.x, .int .i64 i.fr.s, .bool i.fr.rip, .bool i.fr.fs, .int .i64 i.fr.n, .string i.fr.nm, .int .i64 i.fr.m, .bool i.sh]) v) := ⟨fun v h => h.whole⟩
  have D0 : Hid (∀ v, Calls Tryd.prog 49 #[.int .i64 0] v fun e w' => e = .returned (.int .i64 1) ∧ w' = v) := ⟨fun v => refBit_any 0 v (by decide)⟩
  have D2 : Hid (∀ v, Calls Tryd.prog 49 #[.int .i64 2] v fun e w' => e = .returned (.int .i64 4) ∧ w' = v) := ⟨fun v => refBit_any 2 v (by decide)⟩
  have D6 : Hid (∀ v, Calls Tryd.prog 49 #[.int .i64 6] v fun e w' => e = .returned (.int .i64 64) ∧ w' = v) := ⟨fun v => refBit_any 6 v (by decide)⟩
  have D7 : Hid (∀ v, Calls Tryd.prog 49 #[.int .i64 7] v fun e w' => e = .returned (.int .i64 128) ∧ w' = v) := ⟨fun v => refBit_any 7 v (by decide)⟩
  unfold orV
  have AX : True := trivial
  have tk : True := trivial
  go_enter Tryd.func24, Tryd.ntmps24
  go_wp2_with (first
    | (refine wpList_load_of (t := 25) rfl (by kernel_rfl) (by kernel_rfl) (L0.out _ (by first | exact AX.out.1 | exact IA.new w i 25)) ?_)
    | (go_at_call 13; refine (C0.out _).mono ?_; rintro e wx ⟨rfl, hbx⟩; (first | (have AY : Hid (IA wx w.heap.size i ∧ Below w.heap.size w wx) := ⟨AX.out.1.bel hbx, bel_trans AX.out.2 hbx⟩) | (have AY : Hid (IA wx w.heap.size i ∧ Below w.heap.size w wx) := ⟨(IA.new w i 25).bel hbx, bel_trans (bel_alloc (Below.refl _ _) _) hbx⟩)); clear hbx; (try clear p0 p1 p2 p3 p4 p5 p6 p7 p8 p9 p10 p11 p12 p13 p14 p15 p16 p17 p18 p19 p20 p21 p22 p23); (try clear AX); have AX := AY; clear AY; obtain ⟨p0, p1, p2, p3, p4, p5, p6, p7, p8, p9, p10, p11, p12, p13, p14, p15, p16, p17, p18, p19, p20, p21, p22, p23⟩ := AX.out.1))
  have K := mkR (w := w) (v := wx.drew) (i := i) ⟨AX.out.1.bel (bel_drew _), AX.out.2.drew⟩
  clear p0 p1 p2 p3 p4 p5 p6 p7 p8 p9 p10 p11 p12 p13 p14 p15 p16 p17 p18 p19 p20 p21 p22 p23
  go_region_held3 (fun v => v.cell? ⟨w.heap.size, 3, none⟩ = some (.int .i64 i.to.k) ∧ v.cell? ⟨w.heap.size, 4, none⟩ = some (.int .i64 i.to.r) ∧ v.cell? ⟨w.heap.size, 5, none⟩ = some (.int .i64 i.to.b) ∧ v.cell? ⟨w.heap.size, 6, none⟩ = some (.int .i64 i.to.x) ∧ v.cell? ⟨w.heap.size, 7, none⟩ = some (.int .i64 i.to.s) ∧ v.cell? ⟨w.heap.size, 8, none⟩ = some (.bool i.to.rip) ∧ v.cell? ⟨w.heap.size, 9, none⟩ = some (.bool i.to.fs) ∧ v.cell? ⟨w.heap.size, 10, none⟩ = some (.int .i64 i.to.n) ∧ v.cell? ⟨w.heap.size, 11, none⟩ = some (.string i.to.nm) ∧ v.cell? ⟨w.heap.size, 12, none⟩ = some (.int .i64 i.to.m) ∧ v.cell? ⟨w.heap.size, 13, none⟩ = some (.int .i64 i.fr.k) ∧ v.cell? ⟨w.heap.size, 14, none⟩ = some (.int .i64 i.fr.r) ∧ v.cell? ⟨w.heap.size, 15, none⟩ = some (.int .i64 i.fr.b) ∧ v.cell? ⟨w.heap.size, 16, none⟩ = some (.int .i64 i.fr.x) ∧ v.cell? ⟨w.heap.size, 17, none⟩ = some (.int .i64 i.fr.s) ∧ v.cell? ⟨w.heap.size, 18, none⟩ = some (.bool i.fr.rip) ∧ v.cell? ⟨w.heap.size, 19, none⟩ = some (.bool i.fr.fs) ∧ v.cell? ⟨w.heap.size, 20, none⟩ = some (.int .i64 i.fr.n) ∧ v.cell? ⟨w.heap.size, 21, none⟩ = some (.string i.fr.nm) ∧ v.cell? ⟨w.heap.size, 22, none⟩ = some (.int .i64 i.fr.m) ∧ Hid (IA v w.heap.size i ∧ Below w.heap.size w v))
    (first | (with_reducible assumption) | exact keepR (by with_reducible assumption) hb)
    (first
      | (go_at_call 48; clear tk; refine (C1.out _).mono ?_; rintro e wp ⟨rfl, hb⟩)
      | (go_at_call 48; refine (C2.out _).mono ?_; rintro e wp ⟨rfl, hb⟩))
  have HX := hid (lastR (by with_reducible assumption))
  obtain ⟨p0, p1, p2, p3, p4, p5, p6, p7, p8, p9, p10, p11, p12, p13, p14, p15, p16, p17, p18, p19, p20, p21, p22, p23⟩ := HX.out.1
  go_wp2_with (first
    | (go_at_call_of 49 (Value.int IntKind.i64 0); refine (D0.out _).mono ?_; rintro e wy ⟨rfl, hwy⟩; subst wy)
    | (go_at_call_of 49 (Value.int IntKind.i64 2); refine (D2.out _).mono ?_; rintro e wy ⟨rfl, hwy⟩; subst wy)
    | (go_at_call_of 49 (Value.int IntKind.i64 6); refine (D6.out _).mono ?_; rintro e wy ⟨rfl, hwy⟩; subst wy)
    | (go_at_call_of 49 (Value.int IntKind.i64 7); refine (D7.out _).mono ?_; rintro e wy ⟨rfl, hwy⟩; subst wy))
  go_ret
  exact ⟨rfl, HX.out.2⟩

set_option maxHeartbeats 2000000 in
set_option maxRecDepth 4000 in
theorem refUses_o (i : I) (w : World) (xf xt : Int) (e1 : (i.op == 1) = false) (e2 : (i.op == 2) = false) (e29 : (i.op == 29) = false) (e30 : (i.op == 30) = false) (e21 : (i.op == 21) = false) (e20 : (i.op == 20) = false) (e22 : (i.op == 22) = false) (e25 : (i.op == 25) = false) (e26 : (i.op == 26) = false) (e32 : (i.op == 32) = false) (e35 : (i.op == 35) = false)
    (C0 : Hid (∀ v, Calls Tryd.prog 13 #[.agg #[.int .i64 i.op, .int .i64 i.sz, .int .i64 i.cd, .int .i64 i.to.k, .int .i64 i.to.r, .int .i64 i.to.b, .int .i64 i.to.x, .int .i64 i.to.s, .bool i.to.rip, .bool i.to.fs, .int .i64 i.to.n, .string i.to.nm, .int .i64 i.to.m, .int .i64 i.fr.k, .int .i64 i.fr.r, .int .i64 i.fr.b, .int .i64 i.fr.x, .int .i64 i.fr.s, .bool i.fr.rip, .bool i.fr.fs, .int .i64 i.fr.n, .string i.fr.nm, .int .i64 i.fr.m, .bool i.sh]] v fun e w' => e = .returned (.int .i64 0) ∧ Below v.heap.size v w'))
    (C1 : Hid (∀ v, Calls Tryd.prog 48 #[.agg #[.int .i64 i.fr.k, .int .i64 i.fr.r, .int .i64 i.fr.b, .int .i64 i.fr.x, .int .i64 i.fr.s, .bool i.fr.rip, .bool i.fr.fs, .int .i64 i.fr.n, .string i.fr.nm, .int .i64 i.fr.m], .bool true] v fun e w' => e = .returned (.int .i64 xf) ∧ Below v.heap.size v w'))
    (C2 : Hid (∀ v, Calls Tryd.prog 48 #[.agg #[.int .i64 i.to.k, .int .i64 i.to.r, .int .i64 i.to.b, .int .i64 i.to.x, .int .i64 i.to.s, .bool i.to.rip, .bool i.to.fs, .int .i64 i.to.n, .string i.to.nm, .int .i64 i.to.m], .bool true] v fun e w' => e = .returned (.int .i64 xt) ∧ Below v.heap.size v w')) :
    Calls Tryd.prog 24 #[.agg #[.int .i64 i.op, .int .i64 i.sz, .int .i64 i.cd, .int .i64 i.to.k, .int .i64 i.to.r, .int .i64 i.to.b, .int .i64 i.to.x, .int .i64 i.to.s, .bool i.to.rip, .bool i.to.fs, .int .i64 i.to.n, .string i.to.nm, .int .i64 i.to.m, .int .i64 i.fr.k, .int .i64 i.fr.r, .int .i64 i.fr.b, .int .i64 i.fr.x, .int .i64 i.fr.s, .bool i.fr.rip, .bool i.fr.fs, .int .i64 i.fr.n, .string i.fr.nm, .int .i64 i.fr.m, .bool i.sh]] w fun e w' => e = .returned (.int .i64 (orV xf xt)) ∧ Below w.heap.size w w' := by
  have L0 : Hid (∀ v, IA v w.heap.size i → (loadVar 25 ⟨w.heap.size, 0, none⟩).run Tryd.prog v = .ok (.agg #[.int .i64 i.op, .int .i64 i.sz, .int .i64 i.cd, .int .i64 i.to.k, .int .i64 i.to.r, .int .i64 i.to.b, .int .i64 i.to.x, .int .i64 i.to.s, .bool i.to.rip, .bool i.to.fs, .int .i64 i.to.n, .string i.to.nm, .int .i64 i.to.m, .int .i64 i.fr.k, .int .i64 i.fr.r, .int .i64 i.fr.b, .int .i64 i.fr.x, .int .i64 i.fr.s, .bool i.fr.rip, .bool i.fr.fs, .int .i64 i.fr.n, .string i.fr.nm, .int .i64 i.fr.m, .bool i.sh]) v) := ⟨fun v h => h.whole⟩
  unfold orV
  have AX : True := trivial
  have tk : True := trivial
  go_enter Tryd.func24, Tryd.ntmps24
  go_wp2_with (first
    | (refine wpList_load_of (t := 25) rfl (by kernel_rfl) (by kernel_rfl) (L0.out _ (by first | exact AX.out.1 | exact IA.new w i 25)) ?_)
    | (go_at_call 13; refine (C0.out _).mono ?_; rintro e wx ⟨rfl, hbx⟩; (first | (have AY : Hid (IA wx w.heap.size i ∧ Below w.heap.size w wx) := ⟨AX.out.1.bel hbx, bel_trans AX.out.2 hbx⟩) | (have AY : Hid (IA wx w.heap.size i ∧ Below w.heap.size w wx) := ⟨(IA.new w i 25).bel hbx, bel_trans (bel_alloc (Below.refl _ _) _) hbx⟩)); clear hbx; (try clear p0 p1 p2 p3 p4 p5 p6 p7 p8 p9 p10 p11 p12 p13 p14 p15 p16 p17 p18 p19 p20 p21 p22 p23); (try clear AX); have AX := AY; clear AY; obtain ⟨p0, p1, p2, p3, p4, p5, p6, p7, p8, p9, p10, p11, p12, p13, p14, p15, p16, p17, p18, p19, p20, p21, p22, p23⟩ := AX.out.1))
  have K := mkR (w := w) (v := wx.drew) (i := i) ⟨AX.out.1.bel (bel_drew _), AX.out.2.drew⟩
  clear p0 p1 p2 p3 p4 p5 p6 p7 p8 p9 p10 p11 p12 p13 p14 p15 p16 p17 p18 p19 p20 p21 p22 p23
  go_region_held3 (fun v => v.cell? ⟨w.heap.size, 3, none⟩ = some (.int .i64 i.to.k) ∧ v.cell? ⟨w.heap.size, 4, none⟩ = some (.int .i64 i.to.r) ∧ v.cell? ⟨w.heap.size, 5, none⟩ = some (.int .i64 i.to.b) ∧ v.cell? ⟨w.heap.size, 6, none⟩ = some (.int .i64 i.to.x) ∧ v.cell? ⟨w.heap.size, 7, none⟩ = some (.int .i64 i.to.s) ∧ v.cell? ⟨w.heap.size, 8, none⟩ = some (.bool i.to.rip) ∧ v.cell? ⟨w.heap.size, 9, none⟩ = some (.bool i.to.fs) ∧ v.cell? ⟨w.heap.size, 10, none⟩ = some (.int .i64 i.to.n) ∧ v.cell? ⟨w.heap.size, 11, none⟩ = some (.string i.to.nm) ∧ v.cell? ⟨w.heap.size, 12, none⟩ = some (.int .i64 i.to.m) ∧ v.cell? ⟨w.heap.size, 13, none⟩ = some (.int .i64 i.fr.k) ∧ v.cell? ⟨w.heap.size, 14, none⟩ = some (.int .i64 i.fr.r) ∧ v.cell? ⟨w.heap.size, 15, none⟩ = some (.int .i64 i.fr.b) ∧ v.cell? ⟨w.heap.size, 16, none⟩ = some (.int .i64 i.fr.x) ∧ v.cell? ⟨w.heap.size, 17, none⟩ = some (.int .i64 i.fr.s) ∧ v.cell? ⟨w.heap.size, 18, none⟩ = some (.bool i.fr.rip) ∧ v.cell? ⟨w.heap.size, 19, none⟩ = some (.bool i.fr.fs) ∧ v.cell? ⟨w.heap.size, 20, none⟩ = some (.int .i64 i.fr.n) ∧ v.cell? ⟨w.heap.size, 21, none⟩ = some (.string i.fr.nm) ∧ v.cell? ⟨w.heap.size, 22, none⟩ = some (.int .i64 i.fr.m) ∧ Hid (IA v w.heap.size i ∧ Below w.heap.size w v))
    (first | (with_reducible assumption) | exact keepR (by with_reducible assumption) hb)
    (first
      | (go_at_call 48; clear tk; refine (C1.out _).mono ?_; rintro e wp ⟨rfl, hb⟩)
      | (go_at_call 48; refine (C2.out _).mono ?_; rintro e wp ⟨rfl, hb⟩))
  have HX := hid (lastR (by with_reducible assumption))
  obtain ⟨p0, p1, p2, p3, p4, p5, p6, p7, p8, p9, p10, p11, p12, p13, p14, p15, p16, p17, p18, p19, p20, p21, p22, p23⟩ := HX.out.1
  go_wp2
  go_ret
  exact ⟨rfl, HX.out.2⟩


set_option maxHeartbeats 2000000 in
set_option maxRecDepth 4000 in
theorem refSets_10 (i : I) (w : World) (rt : Int) (e10 : (i.op == 10) = true) (e11 : (i.op == 11) = false) (e23 : (i.op == 23) = false) (e22 : (i.op == 22) = false) (e20 : (i.op == 20) = false) (e21 : (i.op == 21) = false) (e25 : (i.op == 25) = false) (e26 : (i.op == 26) = false) (e32 : (i.op == 32) = false) (e31 : (i.op == 31) = false) (e35 : (i.op == 35) = false)
    (C0 : Hid (∀ v, Calls Tryd.prog 13 #[.agg #[.int .i64 i.op, .int .i64 i.sz, .int .i64 i.cd, .int .i64 i.to.k, .int .i64 i.to.r, .int .i64 i.to.b, .int .i64 i.to.x, .int .i64 i.to.s, .bool i.to.rip, .bool i.to.fs, .int .i64 i.to.n, .string i.to.nm, .int .i64 i.to.m, .int .i64 i.fr.k, .int .i64 i.fr.r, .int .i64 i.fr.b, .int .i64 i.fr.x, .int .i64 i.fr.s, .bool i.fr.rip, .bool i.fr.fs, .int .i64 i.fr.n, .string i.fr.nm, .int .i64 i.fr.m, .bool i.sh]] v fun e w' => e = .returned (.int .i64 0) ∧ Below v.heap.size v w'))
    (C3 : Hid (i.to.k = 1 → ∀ v, Calls Tryd.prog 49 #[.int .i64 i.to.r] v fun e w' => e = .returned (.int .i64 rt) ∧ w' = v)) :
    Calls Tryd.prog 26 #[.agg #[.int .i64 i.op, .int .i64 i.sz, .int .i64 i.cd, .int .i64 i.to.k, .int .i64 i.to.r, .int .i64 i.to.b, .int .i64 i.to.x, .int .i64 i.to.s, .bool i.to.rip, .bool i.to.fs, .int .i64 i.to.n, .string i.to.nm, .int .i64 i.to.m, .int .i64 i.fr.k, .int .i64 i.fr.r, .int .i64 i.fr.b, .int .i64 i.fr.x, .int .i64 i.fr.s, .bool i.fr.rip, .bool i.fr.fs, .int .i64 i.fr.n, .string i.fr.nm, .int .i64 i.fr.m, .bool i.sh]] w fun e w' => e = .returned (.int .i64 (0)) ∧ Below w.heap.size w w' := by
  have L0 : Hid (∀ v, IA v w.heap.size i → (loadVar 25 ⟨w.heap.size, 0, none⟩).run Tryd.prog v = .ok (.agg #[.int .i64 i.op, .int .i64 i.sz, .int .i64 i.cd, .int .i64 i.to.k, .int .i64 i.to.r, .int .i64 i.to.b, .int .i64 i.to.x, .int .i64 i.to.s, .bool i.to.rip, .bool i.to.fs, .int .i64 i.to.n, .string i.to.nm, .int .i64 i.to.m, .int .i64 i.fr.k, .int .i64 i.fr.r, .int .i64 i.fr.b, .int .i64 i.fr.x, .int .i64 i.fr.s, .bool i.fr.rip, .bool i.fr.fs, .int .i64 i.fr.n, .string i.fr.nm, .int .i64 i.fr.m, .bool i.sh]) v) := ⟨fun v h => h.whole⟩
  try unfold orV
  cases hk : (i.to.k == 1)
  · skip
    have AX : True := trivial
    go_enter Tryd.func26, Tryd.ntmps26
    go_wp2_with (first
      | (refine wpList_load_of (t := 25) rfl (by kernel_rfl) (by kernel_rfl) (L0.out _ (by first | exact AX.out.1 | exact IA.new w i 25)) ?_)
      | (go_at_call 13; refine (C0.out _).mono ?_; rintro e wx ⟨rfl, hbx⟩; (first | (have AY : Hid (IA wx w.heap.size i ∧ Below w.heap.size w wx) := ⟨AX.out.1.bel hbx, bel_trans AX.out.2 hbx⟩) | (have AY : Hid (IA wx w.heap.size i ∧ Below w.heap.size w wx) := ⟨(IA.new w i 25).bel hbx, bel_trans (bel_alloc (Below.refl _ _) _) hbx⟩)); clear hbx; (try clear p0 p1 p2 p3 p4 p5 p6 p7 p8 p9 p10 p11 p12 p13 p14 p15 p16 p17 p18 p19 p20 p21 p22 p23); (try clear AX); have AX := AY; clear AY; obtain ⟨p0, p1, p2, p3, p4, p5, p6, p7, p8, p9, p10, p11, p12, p13, p14, p15, p16, p17, p18, p19, p20, p21, p22, p23⟩ := AX.out.1))
    go_ret
    exact ⟨rfl, AX.out.2⟩
  · skip
    have C5 : Hid _ := ⟨C3.out (by simpa using hk)⟩
    have AX : True := trivial
    go_enter Tryd.func26, Tryd.ntmps26
    go_wp2_with (first
      | (refine wpList_load_of (t := 25) rfl (by kernel_rfl) (by kernel_rfl) (L0.out _ (by first | exact AX.out.1 | exact IA.new w i 25)) ?_)
      | (go_at_call 13; refine (C0.out _).mono ?_; rintro e wx ⟨rfl, hbx⟩; (first | (have AY : Hid (IA wx w.heap.size i ∧ Below w.heap.size w wx) := ⟨AX.out.1.bel hbx, bel_trans AX.out.2 hbx⟩) | (have AY : Hid (IA wx w.heap.size i ∧ Below w.heap.size w wx) := ⟨(IA.new w i 25).bel hbx, bel_trans (bel_alloc (Below.refl _ _) _) hbx⟩)); clear hbx; (try clear p0 p1 p2 p3 p4 p5 p6 p7 p8 p9 p10 p11 p12 p13 p14 p15 p16 p17 p18 p19 p20 p21 p22 p23); (try clear AX); have AX := AY; clear AY; obtain ⟨p0, p1, p2, p3, p4, p5, p6, p7, p8, p9, p10, p11, p12, p13, p14, p15, p16, p17, p18, p19, p20, p21, p22, p23⟩ := AX.out.1)
      | (go_at_call_of 49 (Value.int IntKind.i64 i.to.r); refine (C5.out _).mono ?_; rintro e wy ⟨rfl, hwy⟩; subst wy))
    go_ret
    exact ⟨rfl, AX.out.2⟩

set_option maxHeartbeats 2000000 in
set_option maxRecDepth 4000 in
theorem refSets_11 (i : I) (w : World) (rt : Int) (e10 : (i.op == 10) = false) (e11 : (i.op == 11) = true) (e23 : (i.op == 23) = false) (e22 : (i.op == 22) = false) (e20 : (i.op == 20) = false) (e21 : (i.op == 21) = false) (e25 : (i.op == 25) = false) (e26 : (i.op == 26) = false) (e32 : (i.op == 32) = false) (e31 : (i.op == 31) = false) (e35 : (i.op == 35) = false)
    (C0 : Hid (∀ v, Calls Tryd.prog 13 #[.agg #[.int .i64 i.op, .int .i64 i.sz, .int .i64 i.cd, .int .i64 i.to.k, .int .i64 i.to.r, .int .i64 i.to.b, .int .i64 i.to.x, .int .i64 i.to.s, .bool i.to.rip, .bool i.to.fs, .int .i64 i.to.n, .string i.to.nm, .int .i64 i.to.m, .int .i64 i.fr.k, .int .i64 i.fr.r, .int .i64 i.fr.b, .int .i64 i.fr.x, .int .i64 i.fr.s, .bool i.fr.rip, .bool i.fr.fs, .int .i64 i.fr.n, .string i.fr.nm, .int .i64 i.fr.m, .bool i.sh]] v fun e w' => e = .returned (.int .i64 0) ∧ Below v.heap.size v w'))
    (C3 : Hid (i.to.k = 1 → ∀ v, Calls Tryd.prog 49 #[.int .i64 i.to.r] v fun e w' => e = .returned (.int .i64 rt) ∧ w' = v)) :
    Calls Tryd.prog 26 #[.agg #[.int .i64 i.op, .int .i64 i.sz, .int .i64 i.cd, .int .i64 i.to.k, .int .i64 i.to.r, .int .i64 i.to.b, .int .i64 i.to.x, .int .i64 i.to.s, .bool i.to.rip, .bool i.to.fs, .int .i64 i.to.n, .string i.to.nm, .int .i64 i.to.m, .int .i64 i.fr.k, .int .i64 i.fr.r, .int .i64 i.fr.b, .int .i64 i.fr.x, .int .i64 i.fr.s, .bool i.fr.rip, .bool i.fr.fs, .int .i64 i.fr.n, .string i.fr.nm, .int .i64 i.fr.m, .bool i.sh]] w fun e w' => e = .returned (.int .i64 (0)) ∧ Below w.heap.size w w' := by
  have L0 : Hid (∀ v, IA v w.heap.size i → (loadVar 25 ⟨w.heap.size, 0, none⟩).run Tryd.prog v = .ok (.agg #[.int .i64 i.op, .int .i64 i.sz, .int .i64 i.cd, .int .i64 i.to.k, .int .i64 i.to.r, .int .i64 i.to.b, .int .i64 i.to.x, .int .i64 i.to.s, .bool i.to.rip, .bool i.to.fs, .int .i64 i.to.n, .string i.to.nm, .int .i64 i.to.m, .int .i64 i.fr.k, .int .i64 i.fr.r, .int .i64 i.fr.b, .int .i64 i.fr.x, .int .i64 i.fr.s, .bool i.fr.rip, .bool i.fr.fs, .int .i64 i.fr.n, .string i.fr.nm, .int .i64 i.fr.m, .bool i.sh]) v) := ⟨fun v h => h.whole⟩
  try unfold orV
  cases hk : (i.to.k == 1)
  · skip
    have AX : True := trivial
    go_enter Tryd.func26, Tryd.ntmps26
    go_wp2_with (first
      | (refine wpList_load_of (t := 25) rfl (by kernel_rfl) (by kernel_rfl) (L0.out _ (by first | exact AX.out.1 | exact IA.new w i 25)) ?_)
      | (go_at_call 13; refine (C0.out _).mono ?_; rintro e wx ⟨rfl, hbx⟩; (first | (have AY : Hid (IA wx w.heap.size i ∧ Below w.heap.size w wx) := ⟨AX.out.1.bel hbx, bel_trans AX.out.2 hbx⟩) | (have AY : Hid (IA wx w.heap.size i ∧ Below w.heap.size w wx) := ⟨(IA.new w i 25).bel hbx, bel_trans (bel_alloc (Below.refl _ _) _) hbx⟩)); clear hbx; (try clear p0 p1 p2 p3 p4 p5 p6 p7 p8 p9 p10 p11 p12 p13 p14 p15 p16 p17 p18 p19 p20 p21 p22 p23); (try clear AX); have AX := AY; clear AY; obtain ⟨p0, p1, p2, p3, p4, p5, p6, p7, p8, p9, p10, p11, p12, p13, p14, p15, p16, p17, p18, p19, p20, p21, p22, p23⟩ := AX.out.1))
    go_ret
    exact ⟨rfl, AX.out.2⟩
  · skip
    have C5 : Hid _ := ⟨C3.out (by simpa using hk)⟩
    have AX : True := trivial
    go_enter Tryd.func26, Tryd.ntmps26
    go_wp2_with (first
      | (refine wpList_load_of (t := 25) rfl (by kernel_rfl) (by kernel_rfl) (L0.out _ (by first | exact AX.out.1 | exact IA.new w i 25)) ?_)
      | (go_at_call 13; refine (C0.out _).mono ?_; rintro e wx ⟨rfl, hbx⟩; (first | (have AY : Hid (IA wx w.heap.size i ∧ Below w.heap.size w wx) := ⟨AX.out.1.bel hbx, bel_trans AX.out.2 hbx⟩) | (have AY : Hid (IA wx w.heap.size i ∧ Below w.heap.size w wx) := ⟨(IA.new w i 25).bel hbx, bel_trans (bel_alloc (Below.refl _ _) _) hbx⟩)); clear hbx; (try clear p0 p1 p2 p3 p4 p5 p6 p7 p8 p9 p10 p11 p12 p13 p14 p15 p16 p17 p18 p19 p20 p21 p22 p23); (try clear AX); have AX := AY; clear AY; obtain ⟨p0, p1, p2, p3, p4, p5, p6, p7, p8, p9, p10, p11, p12, p13, p14, p15, p16, p17, p18, p19, p20, p21, p22, p23⟩ := AX.out.1)
      | (go_at_call_of 49 (Value.int IntKind.i64 i.to.r); refine (C5.out _).mono ?_; rintro e wy ⟨rfl, hwy⟩; subst wy))
    go_ret
    exact ⟨rfl, AX.out.2⟩

set_option maxHeartbeats 2000000 in
set_option maxRecDepth 4000 in
theorem refSets_23 (i : I) (w : World) (rt : Int) (e10 : (i.op == 10) = false) (e11 : (i.op == 11) = false) (e23 : (i.op == 23) = true) (e22 : (i.op == 22) = false) (e20 : (i.op == 20) = false) (e21 : (i.op == 21) = false) (e25 : (i.op == 25) = false) (e26 : (i.op == 26) = false) (e32 : (i.op == 32) = false) (e31 : (i.op == 31) = false) (e35 : (i.op == 35) = false)
    (C0 : Hid (∀ v, Calls Tryd.prog 13 #[.agg #[.int .i64 i.op, .int .i64 i.sz, .int .i64 i.cd, .int .i64 i.to.k, .int .i64 i.to.r, .int .i64 i.to.b, .int .i64 i.to.x, .int .i64 i.to.s, .bool i.to.rip, .bool i.to.fs, .int .i64 i.to.n, .string i.to.nm, .int .i64 i.to.m, .int .i64 i.fr.k, .int .i64 i.fr.r, .int .i64 i.fr.b, .int .i64 i.fr.x, .int .i64 i.fr.s, .bool i.fr.rip, .bool i.fr.fs, .int .i64 i.fr.n, .string i.fr.nm, .int .i64 i.fr.m, .bool i.sh]] v fun e w' => e = .returned (.int .i64 0) ∧ Below v.heap.size v w'))
    (C3 : Hid (i.to.k = 1 → ∀ v, Calls Tryd.prog 49 #[.int .i64 i.to.r] v fun e w' => e = .returned (.int .i64 rt) ∧ w' = v)) :
    Calls Tryd.prog 26 #[.agg #[.int .i64 i.op, .int .i64 i.sz, .int .i64 i.cd, .int .i64 i.to.k, .int .i64 i.to.r, .int .i64 i.to.b, .int .i64 i.to.x, .int .i64 i.to.s, .bool i.to.rip, .bool i.to.fs, .int .i64 i.to.n, .string i.to.nm, .int .i64 i.to.m, .int .i64 i.fr.k, .int .i64 i.fr.r, .int .i64 i.fr.b, .int .i64 i.fr.x, .int .i64 i.fr.s, .bool i.fr.rip, .bool i.fr.fs, .int .i64 i.fr.n, .string i.fr.nm, .int .i64 i.fr.m, .bool i.sh]] w fun e w' => e = .returned (.int .i64 (0)) ∧ Below w.heap.size w w' := by
  have L0 : Hid (∀ v, IA v w.heap.size i → (loadVar 25 ⟨w.heap.size, 0, none⟩).run Tryd.prog v = .ok (.agg #[.int .i64 i.op, .int .i64 i.sz, .int .i64 i.cd, .int .i64 i.to.k, .int .i64 i.to.r, .int .i64 i.to.b, .int .i64 i.to.x, .int .i64 i.to.s, .bool i.to.rip, .bool i.to.fs, .int .i64 i.to.n, .string i.to.nm, .int .i64 i.to.m, .int .i64 i.fr.k, .int .i64 i.fr.r, .int .i64 i.fr.b, .int .i64 i.fr.x, .int .i64 i.fr.s, .bool i.fr.rip, .bool i.fr.fs, .int .i64 i.fr.n, .string i.fr.nm, .int .i64 i.fr.m, .bool i.sh]) v) := ⟨fun v h => h.whole⟩
  try unfold orV
  cases hk : (i.to.k == 1)
  · skip
    have AX : True := trivial
    go_enter Tryd.func26, Tryd.ntmps26
    go_wp2_with (first
      | (refine wpList_load_of (t := 25) rfl (by kernel_rfl) (by kernel_rfl) (L0.out _ (by first | exact AX.out.1 | exact IA.new w i 25)) ?_)
      | (go_at_call 13; refine (C0.out _).mono ?_; rintro e wx ⟨rfl, hbx⟩; (first | (have AY : Hid (IA wx w.heap.size i ∧ Below w.heap.size w wx) := ⟨AX.out.1.bel hbx, bel_trans AX.out.2 hbx⟩) | (have AY : Hid (IA wx w.heap.size i ∧ Below w.heap.size w wx) := ⟨(IA.new w i 25).bel hbx, bel_trans (bel_alloc (Below.refl _ _) _) hbx⟩)); clear hbx; (try clear p0 p1 p2 p3 p4 p5 p6 p7 p8 p9 p10 p11 p12 p13 p14 p15 p16 p17 p18 p19 p20 p21 p22 p23); (try clear AX); have AX := AY; clear AY; obtain ⟨p0, p1, p2, p3, p4, p5, p6, p7, p8, p9, p10, p11, p12, p13, p14, p15, p16, p17, p18, p19, p20, p21, p22, p23⟩ := AX.out.1))
    go_ret
    exact ⟨rfl, AX.out.2⟩
  · skip
    have C5 : Hid _ := ⟨C3.out (by simpa using hk)⟩
    have AX : True := trivial
    go_enter Tryd.func26, Tryd.ntmps26
    go_wp2_with (first
      | (refine wpList_load_of (t := 25) rfl (by kernel_rfl) (by kernel_rfl) (L0.out _ (by first | exact AX.out.1 | exact IA.new w i 25)) ?_)
      | (go_at_call 13; refine (C0.out _).mono ?_; rintro e wx ⟨rfl, hbx⟩; (first | (have AY : Hid (IA wx w.heap.size i ∧ Below w.heap.size w wx) := ⟨AX.out.1.bel hbx, bel_trans AX.out.2 hbx⟩) | (have AY : Hid (IA wx w.heap.size i ∧ Below w.heap.size w wx) := ⟨(IA.new w i 25).bel hbx, bel_trans (bel_alloc (Below.refl _ _) _) hbx⟩)); clear hbx; (try clear p0 p1 p2 p3 p4 p5 p6 p7 p8 p9 p10 p11 p12 p13 p14 p15 p16 p17 p18 p19 p20 p21 p22 p23); (try clear AX); have AX := AY; clear AY; obtain ⟨p0, p1, p2, p3, p4, p5, p6, p7, p8, p9, p10, p11, p12, p13, p14, p15, p16, p17, p18, p19, p20, p21, p22, p23⟩ := AX.out.1)
      | (go_at_call_of 49 (Value.int IntKind.i64 i.to.r); refine (C5.out _).mono ?_; rintro e wy ⟨rfl, hwy⟩; subst wy))
    go_ret
    exact ⟨rfl, AX.out.2⟩

set_option maxHeartbeats 2000000 in
set_option maxRecDepth 4000 in
theorem refSets_22 (i : I) (w : World) (rt : Int) (e10 : (i.op == 10) = false) (e11 : (i.op == 11) = false) (e23 : (i.op == 23) = false) (e22 : (i.op == 22) = true) (e20 : (i.op == 20) = false) (e21 : (i.op == 21) = false) (e25 : (i.op == 25) = false) (e26 : (i.op == 26) = false) (e32 : (i.op == 32) = false) (e31 : (i.op == 31) = false) (e35 : (i.op == 35) = false)
    (C0 : Hid (∀ v, Calls Tryd.prog 13 #[.agg #[.int .i64 i.op, .int .i64 i.sz, .int .i64 i.cd, .int .i64 i.to.k, .int .i64 i.to.r, .int .i64 i.to.b, .int .i64 i.to.x, .int .i64 i.to.s, .bool i.to.rip, .bool i.to.fs, .int .i64 i.to.n, .string i.to.nm, .int .i64 i.to.m, .int .i64 i.fr.k, .int .i64 i.fr.r, .int .i64 i.fr.b, .int .i64 i.fr.x, .int .i64 i.fr.s, .bool i.fr.rip, .bool i.fr.fs, .int .i64 i.fr.n, .string i.fr.nm, .int .i64 i.fr.m, .bool i.sh]] v fun e w' => e = .returned (.int .i64 0) ∧ Below v.heap.size v w'))
    (C3 : Hid (i.to.k = 1 → ∀ v, Calls Tryd.prog 49 #[.int .i64 i.to.r] v fun e w' => e = .returned (.int .i64 rt) ∧ w' = v)) :
    Calls Tryd.prog 26 #[.agg #[.int .i64 i.op, .int .i64 i.sz, .int .i64 i.cd, .int .i64 i.to.k, .int .i64 i.to.r, .int .i64 i.to.b, .int .i64 i.to.x, .int .i64 i.to.s, .bool i.to.rip, .bool i.to.fs, .int .i64 i.to.n, .string i.to.nm, .int .i64 i.to.m, .int .i64 i.fr.k, .int .i64 i.fr.r, .int .i64 i.fr.b, .int .i64 i.fr.x, .int .i64 i.fr.s, .bool i.fr.rip, .bool i.fr.fs, .int .i64 i.fr.n, .string i.fr.nm, .int .i64 i.fr.m, .bool i.sh]] w fun e w' => e = .returned (.int .i64 (16)) ∧ Below w.heap.size w w' := by
  have L0 : Hid (∀ v, IA v w.heap.size i → (loadVar 25 ⟨w.heap.size, 0, none⟩).run Tryd.prog v = .ok (.agg #[.int .i64 i.op, .int .i64 i.sz, .int .i64 i.cd, .int .i64 i.to.k, .int .i64 i.to.r, .int .i64 i.to.b, .int .i64 i.to.x, .int .i64 i.to.s, .bool i.to.rip, .bool i.to.fs, .int .i64 i.to.n, .string i.to.nm, .int .i64 i.to.m, .int .i64 i.fr.k, .int .i64 i.fr.r, .int .i64 i.fr.b, .int .i64 i.fr.x, .int .i64 i.fr.s, .bool i.fr.rip, .bool i.fr.fs, .int .i64 i.fr.n, .string i.fr.nm, .int .i64 i.fr.m, .bool i.sh]) v) := ⟨fun v h => h.whole⟩
  have D4 : Hid (∀ v, Calls Tryd.prog 49 #[.int .i64 4] v fun e w' => e = .returned (.int .i64 16) ∧ w' = v) := ⟨fun v => refBit_any 4 v (by decide)⟩
  try unfold orV
  cases hk : (i.to.k == 1)
  · skip
    have AX : True := trivial
    go_enter Tryd.func26, Tryd.ntmps26
    go_wp2_with (first
      | (refine wpList_load_of (t := 25) rfl (by kernel_rfl) (by kernel_rfl) (L0.out _ (by first | exact AX.out.1 | exact IA.new w i 25)) ?_)
      | (go_at_call 13; refine (C0.out _).mono ?_; rintro e wx ⟨rfl, hbx⟩; (first | (have AY : Hid (IA wx w.heap.size i ∧ Below w.heap.size w wx) := ⟨AX.out.1.bel hbx, bel_trans AX.out.2 hbx⟩) | (have AY : Hid (IA wx w.heap.size i ∧ Below w.heap.size w wx) := ⟨(IA.new w i 25).bel hbx, bel_trans (bel_alloc (Below.refl _ _) _) hbx⟩)); clear hbx; (try clear p0 p1 p2 p3 p4 p5 p6 p7 p8 p9 p10 p11 p12 p13 p14 p15 p16 p17 p18 p19 p20 p21 p22 p23); (try clear AX); have AX := AY; clear AY; obtain ⟨p0, p1, p2, p3, p4, p5, p6, p7, p8, p9, p10, p11, p12, p13, p14, p15, p16, p17, p18, p19, p20, p21, p22, p23⟩ := AX.out.1)
      | (go_at_call_of 49 (Value.int IntKind.i64 4); refine (D4.out _).mono ?_; rintro e wy ⟨rfl, hwy⟩; subst wy))
    go_ret
    exact ⟨rfl, AX.out.2⟩
  · skip
    have C5 : Hid _ := ⟨C3.out (by simpa using hk)⟩
    have AX : True := trivial
    go_enter Tryd.func26, Tryd.ntmps26
    go_wp2_with (first
      | (refine wpList_load_of (t := 25) rfl (by kernel_rfl) (by kernel_rfl) (L0.out _ (by first | exact AX.out.1 | exact IA.new w i 25)) ?_)
      | (go_at_call 13; refine (C0.out _).mono ?_; rintro e wx ⟨rfl, hbx⟩; (first | (have AY : Hid (IA wx w.heap.size i ∧ Below w.heap.size w wx) := ⟨AX.out.1.bel hbx, bel_trans AX.out.2 hbx⟩) | (have AY : Hid (IA wx w.heap.size i ∧ Below w.heap.size w wx) := ⟨(IA.new w i 25).bel hbx, bel_trans (bel_alloc (Below.refl _ _) _) hbx⟩)); clear hbx; (try clear p0 p1 p2 p3 p4 p5 p6 p7 p8 p9 p10 p11 p12 p13 p14 p15 p16 p17 p18 p19 p20 p21 p22 p23); (try clear AX); have AX := AY; clear AY; obtain ⟨p0, p1, p2, p3, p4, p5, p6, p7, p8, p9, p10, p11, p12, p13, p14, p15, p16, p17, p18, p19, p20, p21, p22, p23⟩ := AX.out.1)
      | (go_at_call_of 49 (Value.int IntKind.i64 i.to.r); refine (C5.out _).mono ?_; rintro e wy ⟨rfl, hwy⟩; subst wy)
      | (go_at_call_of 49 (Value.int IntKind.i64 4); refine (D4.out _).mono ?_; rintro e wy ⟨rfl, hwy⟩; subst wy))
    go_ret
    exact ⟨rfl, AX.out.2⟩

set_option maxHeartbeats 2000000 in
set_option maxRecDepth 4000 in
theorem refSets_20 (i : I) (w : World) (rt : Int) (e10 : (i.op == 10) = false) (e11 : (i.op == 11) = false) (e23 : (i.op == 23) = false) (e22 : (i.op == 22) = false) (e20 : (i.op == 20) = true) (e21 : (i.op == 21) = false) (e25 : (i.op == 25) = false) (e26 : (i.op == 26) = false) (e32 : (i.op == 32) = false) (e31 : (i.op == 31) = false) (e35 : (i.op == 35) = false)
    (C0 : Hid (∀ v, Calls Tryd.prog 13 #[.agg #[.int .i64 i.op, .int .i64 i.sz, .int .i64 i.cd, .int .i64 i.to.k, .int .i64 i.to.r, .int .i64 i.to.b, .int .i64 i.to.x, .int .i64 i.to.s, .bool i.to.rip, .bool i.to.fs, .int .i64 i.to.n, .string i.to.nm, .int .i64 i.to.m, .int .i64 i.fr.k, .int .i64 i.fr.r, .int .i64 i.fr.b, .int .i64 i.fr.x, .int .i64 i.fr.s, .bool i.fr.rip, .bool i.fr.fs, .int .i64 i.fr.n, .string i.fr.nm, .int .i64 i.fr.m, .bool i.sh]] v fun e w' => e = .returned (.int .i64 0) ∧ Below v.heap.size v w'))
    (C3 : Hid (i.to.k = 1 → ∀ v, Calls Tryd.prog 49 #[.int .i64 i.to.r] v fun e w' => e = .returned (.int .i64 rt) ∧ w' = v)) :
    Calls Tryd.prog 26 #[.agg #[.int .i64 i.op, .int .i64 i.sz, .int .i64 i.cd, .int .i64 i.to.k, .int .i64 i.to.r, .int .i64 i.to.b, .int .i64 i.to.x, .int .i64 i.to.s, .bool i.to.rip, .bool i.to.fs, .int .i64 i.to.n, .string i.to.nm, .int .i64 i.to.m, .int .i64 i.fr.k, .int .i64 i.fr.r, .int .i64 i.fr.b, .int .i64 i.fr.x, .int .i64 i.fr.s, .bool i.fr.rip, .bool i.fr.fs, .int .i64 i.fr.n, .string i.fr.nm, .int .i64 i.fr.m, .bool i.sh]] w fun e w' => e = .returned (.int .i64 (orV (if i.to.k == 1 then rt else 0) 16)) ∧ Below w.heap.size w w' := by
  have L0 : Hid (∀ v, IA v w.heap.size i → (loadVar 25 ⟨w.heap.size, 0, none⟩).run Tryd.prog v = .ok (.agg #[.int .i64 i.op, .int .i64 i.sz, .int .i64 i.cd, .int .i64 i.to.k, .int .i64 i.to.r, .int .i64 i.to.b, .int .i64 i.to.x, .int .i64 i.to.s, .bool i.to.rip, .bool i.to.fs, .int .i64 i.to.n, .string i.to.nm, .int .i64 i.to.m, .int .i64 i.fr.k, .int .i64 i.fr.r, .int .i64 i.fr.b, .int .i64 i.fr.x, .int .i64 i.fr.s, .bool i.fr.rip, .bool i.fr.fs, .int .i64 i.fr.n, .string i.fr.nm, .int .i64 i.fr.m, .bool i.sh]) v) := ⟨fun v h => h.whole⟩
  have D4 : Hid (∀ v, Calls Tryd.prog 49 #[.int .i64 4] v fun e w' => e = .returned (.int .i64 16) ∧ w' = v) := ⟨fun v => refBit_any 4 v (by decide)⟩
  try unfold orV
  cases hk : (i.to.k == 1)
  · rw [if_neg (by simp)]
    have AX : True := trivial
    go_enter Tryd.func26, Tryd.ntmps26
    go_wp2_with (first
      | (refine wpList_load_of (t := 25) rfl (by kernel_rfl) (by kernel_rfl) (L0.out _ (by first | exact AX.out.1 | exact IA.new w i 25)) ?_)
      | (go_at_call 13; refine (C0.out _).mono ?_; rintro e wx ⟨rfl, hbx⟩; (first | (have AY : Hid (IA wx w.heap.size i ∧ Below w.heap.size w wx) := ⟨AX.out.1.bel hbx, bel_trans AX.out.2 hbx⟩) | (have AY : Hid (IA wx w.heap.size i ∧ Below w.heap.size w wx) := ⟨(IA.new w i 25).bel hbx, bel_trans (bel_alloc (Below.refl _ _) _) hbx⟩)); clear hbx; (try clear p0 p1 p2 p3 p4 p5 p6 p7 p8 p9 p10 p11 p12 p13 p14 p15 p16 p17 p18 p19 p20 p21 p22 p23); (try clear AX); have AX := AY; clear AY; obtain ⟨p0, p1, p2, p3, p4, p5, p6, p7, p8, p9, p10, p11, p12, p13, p14, p15, p16, p17, p18, p19, p20, p21, p22, p23⟩ := AX.out.1)
      | (go_at_call_of 49 (Value.int IntKind.i64 4); refine (D4.out _).mono ?_; rintro e wy ⟨rfl, hwy⟩; subst wy))
    go_ret
    exact ⟨rfl, AX.out.2⟩
  · rw [if_pos rfl]
    have C5 : Hid _ := ⟨C3.out (by simpa using hk)⟩
    have AX : True := trivial
    go_enter Tryd.func26, Tryd.ntmps26
    go_wp2_with (first
      | (refine wpList_load_of (t := 25) rfl (by kernel_rfl) (by kernel_rfl) (L0.out _ (by first | exact AX.out.1 | exact IA.new w i 25)) ?_)
      | (go_at_call 13; refine (C0.out _).mono ?_; rintro e wx ⟨rfl, hbx⟩; (first | (have AY : Hid (IA wx w.heap.size i ∧ Below w.heap.size w wx) := ⟨AX.out.1.bel hbx, bel_trans AX.out.2 hbx⟩) | (have AY : Hid (IA wx w.heap.size i ∧ Below w.heap.size w wx) := ⟨(IA.new w i 25).bel hbx, bel_trans (bel_alloc (Below.refl _ _) _) hbx⟩)); clear hbx; (try clear p0 p1 p2 p3 p4 p5 p6 p7 p8 p9 p10 p11 p12 p13 p14 p15 p16 p17 p18 p19 p20 p21 p22 p23); (try clear AX); have AX := AY; clear AY; obtain ⟨p0, p1, p2, p3, p4, p5, p6, p7, p8, p9, p10, p11, p12, p13, p14, p15, p16, p17, p18, p19, p20, p21, p22, p23⟩ := AX.out.1)
      | (go_at_call_of 49 (Value.int IntKind.i64 i.to.r); refine (C5.out _).mono ?_; rintro e wy ⟨rfl, hwy⟩; subst wy)
      | (go_at_call_of 49 (Value.int IntKind.i64 4); refine (D4.out _).mono ?_; rintro e wy ⟨rfl, hwy⟩; subst wy))
    go_ret
    exact ⟨rfl, AX.out.2⟩

set_option maxHeartbeats 2000000 in
set_option maxRecDepth 4000 in
theorem refSets_21 (i : I) (w : World) (rt : Int) (e10 : (i.op == 10) = false) (e11 : (i.op == 11) = false) (e23 : (i.op == 23) = false) (e22 : (i.op == 22) = false) (e20 : (i.op == 20) = false) (e21 : (i.op == 21) = true) (e25 : (i.op == 25) = false) (e26 : (i.op == 26) = false) (e32 : (i.op == 32) = false) (e31 : (i.op == 31) = false) (e35 : (i.op == 35) = false)
    (C0 : Hid (∀ v, Calls Tryd.prog 13 #[.agg #[.int .i64 i.op, .int .i64 i.sz, .int .i64 i.cd, .int .i64 i.to.k, .int .i64 i.to.r, .int .i64 i.to.b, .int .i64 i.to.x, .int .i64 i.to.s, .bool i.to.rip, .bool i.to.fs, .int .i64 i.to.n, .string i.to.nm, .int .i64 i.to.m, .int .i64 i.fr.k, .int .i64 i.fr.r, .int .i64 i.fr.b, .int .i64 i.fr.x, .int .i64 i.fr.s, .bool i.fr.rip, .bool i.fr.fs, .int .i64 i.fr.n, .string i.fr.nm, .int .i64 i.fr.m, .bool i.sh]] v fun e w' => e = .returned (.int .i64 0) ∧ Below v.heap.size v w'))
    (C3 : Hid (i.to.k = 1 → ∀ v, Calls Tryd.prog 49 #[.int .i64 i.to.r] v fun e w' => e = .returned (.int .i64 rt) ∧ w' = v)) :
    Calls Tryd.prog 26 #[.agg #[.int .i64 i.op, .int .i64 i.sz, .int .i64 i.cd, .int .i64 i.to.k, .int .i64 i.to.r, .int .i64 i.to.b, .int .i64 i.to.x, .int .i64 i.to.s, .bool i.to.rip, .bool i.to.fs, .int .i64 i.to.n, .string i.to.nm, .int .i64 i.to.m, .int .i64 i.fr.k, .int .i64 i.fr.r, .int .i64 i.fr.b, .int .i64 i.fr.x, .int .i64 i.fr.s, .bool i.fr.rip, .bool i.fr.fs, .int .i64 i.fr.n, .string i.fr.nm, .int .i64 i.fr.m, .bool i.sh]] w fun e w' => e = .returned (.int .i64 (orV (if i.to.k == 1 then rt else 0) 16)) ∧ Below w.heap.size w w' := by
  have L0 : Hid (∀ v, IA v w.heap.size i → (loadVar 25 ⟨w.heap.size, 0, none⟩).run Tryd.prog v = .ok (.agg #[.int .i64 i.op, .int .i64 i.sz, .int .i64 i.cd, .int .i64 i.to.k, .int .i64 i.to.r, .int .i64 i.to.b, .int .i64 i.to.x, .int .i64 i.to.s, .bool i.to.rip, .bool i.to.fs, .int .i64 i.to.n, .string i.to.nm, .int .i64 i.to.m, .int .i64 i.fr.k, .int .i64 i.fr.r, .int .i64 i.fr.b, .int .i64 i.fr.x, .int .i64 i.fr.s, .bool i.fr.rip, .bool i.fr.fs, .int .i64 i.fr.n, .string i.fr.nm, .int .i64 i.fr.m, .bool i.sh]) v) := ⟨fun v h => h.whole⟩
  have D4 : Hid (∀ v, Calls Tryd.prog 49 #[.int .i64 4] v fun e w' => e = .returned (.int .i64 16) ∧ w' = v) := ⟨fun v => refBit_any 4 v (by decide)⟩
  try unfold orV
  cases hk : (i.to.k == 1)
  · rw [if_neg (by simp)]
    have AX : True := trivial
    go_enter Tryd.func26, Tryd.ntmps26
    go_wp2_with (first
      | (refine wpList_load_of (t := 25) rfl (by kernel_rfl) (by kernel_rfl) (L0.out _ (by first | exact AX.out.1 | exact IA.new w i 25)) ?_)
      | (go_at_call 13; refine (C0.out _).mono ?_; rintro e wx ⟨rfl, hbx⟩; (first | (have AY : Hid (IA wx w.heap.size i ∧ Below w.heap.size w wx) := ⟨AX.out.1.bel hbx, bel_trans AX.out.2 hbx⟩) | (have AY : Hid (IA wx w.heap.size i ∧ Below w.heap.size w wx) := ⟨(IA.new w i 25).bel hbx, bel_trans (bel_alloc (Below.refl _ _) _) hbx⟩)); clear hbx; (try clear p0 p1 p2 p3 p4 p5 p6 p7 p8 p9 p10 p11 p12 p13 p14 p15 p16 p17 p18 p19 p20 p21 p22 p23); (try clear AX); have AX := AY; clear AY; obtain ⟨p0, p1, p2, p3, p4, p5, p6, p7, p8, p9, p10, p11, p12, p13, p14, p15, p16, p17, p18, p19, p20, p21, p22, p23⟩ := AX.out.1)
      | (go_at_call_of 49 (Value.int IntKind.i64 4); refine (D4.out _).mono ?_; rintro e wy ⟨rfl, hwy⟩; subst wy))
    go_ret
    exact ⟨rfl, AX.out.2⟩
  · rw [if_pos rfl]
    have C5 : Hid _ := ⟨C3.out (by simpa using hk)⟩
    have AX : True := trivial
    go_enter Tryd.func26, Tryd.ntmps26
    go_wp2_with (first
      | (refine wpList_load_of (t := 25) rfl (by kernel_rfl) (by kernel_rfl) (L0.out _ (by first | exact AX.out.1 | exact IA.new w i 25)) ?_)
      | (go_at_call 13; refine (C0.out _).mono ?_; rintro e wx ⟨rfl, hbx⟩; (first | (have AY : Hid (IA wx w.heap.size i ∧ Below w.heap.size w wx) := ⟨AX.out.1.bel hbx, bel_trans AX.out.2 hbx⟩) | (have AY : Hid (IA wx w.heap.size i ∧ Below w.heap.size w wx) := ⟨(IA.new w i 25).bel hbx, bel_trans (bel_alloc (Below.refl _ _) _) hbx⟩)); clear hbx; (try clear p0 p1 p2 p3 p4 p5 p6 p7 p8 p9 p10 p11 p12 p13 p14 p15 p16 p17 p18 p19 p20 p21 p22 p23); (try clear AX); have AX := AY; clear AY; obtain ⟨p0, p1, p2, p3, p4, p5, p6, p7, p8, p9, p10, p11, p12, p13, p14, p15, p16, p17, p18, p19, p20, p21, p22, p23⟩ := AX.out.1)
      | (go_at_call_of 49 (Value.int IntKind.i64 i.to.r); refine (C5.out _).mono ?_; rintro e wy ⟨rfl, hwy⟩; subst wy)
      | (go_at_call_of 49 (Value.int IntKind.i64 4); refine (D4.out _).mono ?_; rintro e wy ⟨rfl, hwy⟩; subst wy))
    go_ret
    exact ⟨rfl, AX.out.2⟩

set_option maxHeartbeats 2000000 in
set_option maxRecDepth 4000 in
theorem refSets_25 (i : I) (w : World) (rt : Int) (e10 : (i.op == 10) = false) (e11 : (i.op == 11) = false) (e23 : (i.op == 23) = false) (e22 : (i.op == 22) = false) (e20 : (i.op == 20) = false) (e21 : (i.op == 21) = false) (e25 : (i.op == 25) = true) (e26 : (i.op == 26) = false) (e32 : (i.op == 32) = false) (e31 : (i.op == 31) = false) (e35 : (i.op == 35) = false)
    (C0 : Hid (∀ v, Calls Tryd.prog 13 #[.agg #[.int .i64 i.op, .int .i64 i.sz, .int .i64 i.cd, .int .i64 i.to.k, .int .i64 i.to.r, .int .i64 i.to.b, .int .i64 i.to.x, .int .i64 i.to.s, .bool i.to.rip, .bool i.to.fs, .int .i64 i.to.n, .string i.to.nm, .int .i64 i.to.m, .int .i64 i.fr.k, .int .i64 i.fr.r, .int .i64 i.fr.b, .int .i64 i.fr.x, .int .i64 i.fr.s, .bool i.fr.rip, .bool i.fr.fs, .int .i64 i.fr.n, .string i.fr.nm, .int .i64 i.fr.m, .bool i.sh]] v fun e w' => e = .returned (.int .i64 0) ∧ Below v.heap.size v w'))
    (C3 : Hid (i.to.k = 1 → ∀ v, Calls Tryd.prog 49 #[.int .i64 i.to.r] v fun e w' => e = .returned (.int .i64 rt) ∧ w' = v)) :
    Calls Tryd.prog 26 #[.agg #[.int .i64 i.op, .int .i64 i.sz, .int .i64 i.cd, .int .i64 i.to.k, .int .i64 i.to.r, .int .i64 i.to.b, .int .i64 i.to.x, .int .i64 i.to.s, .bool i.to.rip, .bool i.to.fs, .int .i64 i.to.n, .string i.to.nm, .int .i64 i.to.m, .int .i64 i.fr.k, .int .i64 i.fr.r, .int .i64 i.fr.b, .int .i64 i.fr.x, .int .i64 i.fr.s, .bool i.fr.rip, .bool i.fr.fs, .int .i64 i.fr.n, .string i.fr.nm, .int .i64 i.fr.m, .bool i.sh]] w fun e w' => e = .returned (.int .i64 (orV (if i.to.k == 1 then rt else 0) 16)) ∧ Below w.heap.size w w' := by
  have L0 : Hid (∀ v, IA v w.heap.size i → (loadVar 25 ⟨w.heap.size, 0, none⟩).run Tryd.prog v = .ok (.agg #[.int .i64 i.op, .int .i64 i.sz, .int .i64 i.cd, .int .i64 i.to.k, .int .i64 i.to.r, .int .i64 i.to.b, .int .i64 i.to.x, .int .i64 i.to.s, .bool i.to.rip, .bool i.to.fs, .int .i64 i.to.n, .string i.to.nm, .int .i64 i.to.m, .int .i64 i.fr.k, .int .i64 i.fr.r, .int .i64 i.fr.b, .int .i64 i.fr.x, .int .i64 i.fr.s, .bool i.fr.rip, .bool i.fr.fs, .int .i64 i.fr.n, .string i.fr.nm, .int .i64 i.fr.m, .bool i.sh]) v) := ⟨fun v h => h.whole⟩
  have D4 : Hid (∀ v, Calls Tryd.prog 49 #[.int .i64 4] v fun e w' => e = .returned (.int .i64 16) ∧ w' = v) := ⟨fun v => refBit_any 4 v (by decide)⟩
  try unfold orV
  cases hk : (i.to.k == 1)
  · rw [if_neg (by simp)]
    have AX : True := trivial
    go_enter Tryd.func26, Tryd.ntmps26
    go_wp2_with (first
      | (refine wpList_load_of (t := 25) rfl (by kernel_rfl) (by kernel_rfl) (L0.out _ (by first | exact AX.out.1 | exact IA.new w i 25)) ?_)
      | (go_at_call 13; refine (C0.out _).mono ?_; rintro e wx ⟨rfl, hbx⟩; (first | (have AY : Hid (IA wx w.heap.size i ∧ Below w.heap.size w wx) := ⟨AX.out.1.bel hbx, bel_trans AX.out.2 hbx⟩) | (have AY : Hid (IA wx w.heap.size i ∧ Below w.heap.size w wx) := ⟨(IA.new w i 25).bel hbx, bel_trans (bel_alloc (Below.refl _ _) _) hbx⟩)); clear hbx; (try clear p0 p1 p2 p3 p4 p5 p6 p7 p8 p9 p10 p11 p12 p13 p14 p15 p16 p17 p18 p19 p20 p21 p22 p23); (try clear AX); have AX := AY; clear AY; obtain ⟨p0, p1, p2, p3, p4, p5, p6, p7, p8, p9, p10, p11, p12, p13, p14, p15, p16, p17, p18, p19, p20, p21, p22, p23⟩ := AX.out.1)
      | (go_at_call_of 49 (Value.int IntKind.i64 4); refine (D4.out _).mono ?_; rintro e wy ⟨rfl, hwy⟩; subst wy))
    go_ret
    exact ⟨rfl, AX.out.2⟩
  · rw [if_pos rfl]
    have C5 : Hid _ := ⟨C3.out (by simpa using hk)⟩
    have AX : True := trivial
    go_enter Tryd.func26, Tryd.ntmps26
    go_wp2_with (first
      | (refine wpList_load_of (t := 25) rfl (by kernel_rfl) (by kernel_rfl) (L0.out _ (by first | exact AX.out.1 | exact IA.new w i 25)) ?_)
      | (go_at_call 13; refine (C0.out _).mono ?_; rintro e wx ⟨rfl, hbx⟩; (first | (have AY : Hid (IA wx w.heap.size i ∧ Below w.heap.size w wx) := ⟨AX.out.1.bel hbx, bel_trans AX.out.2 hbx⟩) | (have AY : Hid (IA wx w.heap.size i ∧ Below w.heap.size w wx) := ⟨(IA.new w i 25).bel hbx, bel_trans (bel_alloc (Below.refl _ _) _) hbx⟩)); clear hbx; (try clear p0 p1 p2 p3 p4 p5 p6 p7 p8 p9 p10 p11 p12 p13 p14 p15 p16 p17 p18 p19 p20 p21 p22 p23); (try clear AX); have AX := AY; clear AY; obtain ⟨p0, p1, p2, p3, p4, p5, p6, p7, p8, p9, p10, p11, p12, p13, p14, p15, p16, p17, p18, p19, p20, p21, p22, p23⟩ := AX.out.1)
      | (go_at_call_of 49 (Value.int IntKind.i64 i.to.r); refine (C5.out _).mono ?_; rintro e wy ⟨rfl, hwy⟩; subst wy)
      | (go_at_call_of 49 (Value.int IntKind.i64 4); refine (D4.out _).mono ?_; rintro e wy ⟨rfl, hwy⟩; subst wy))
    go_ret
    exact ⟨rfl, AX.out.2⟩

set_option maxHeartbeats 2000000 in
set_option maxRecDepth 4000 in
theorem refSets_26 (i : I) (w : World) (rt : Int) (e10 : (i.op == 10) = false) (e11 : (i.op == 11) = false) (e23 : (i.op == 23) = false) (e22 : (i.op == 22) = false) (e20 : (i.op == 20) = false) (e21 : (i.op == 21) = false) (e25 : (i.op == 25) = false) (e26 : (i.op == 26) = true) (e32 : (i.op == 32) = false) (e31 : (i.op == 31) = false) (e35 : (i.op == 35) = false)
    (C0 : Hid (∀ v, Calls Tryd.prog 13 #[.agg #[.int .i64 i.op, .int .i64 i.sz, .int .i64 i.cd, .int .i64 i.to.k, .int .i64 i.to.r, .int .i64 i.to.b, .int .i64 i.to.x, .int .i64 i.to.s, .bool i.to.rip, .bool i.to.fs, .int .i64 i.to.n, .string i.to.nm, .int .i64 i.to.m, .int .i64 i.fr.k, .int .i64 i.fr.r, .int .i64 i.fr.b, .int .i64 i.fr.x, .int .i64 i.fr.s, .bool i.fr.rip, .bool i.fr.fs, .int .i64 i.fr.n, .string i.fr.nm, .int .i64 i.fr.m, .bool i.sh]] v fun e w' => e = .returned (.int .i64 0) ∧ Below v.heap.size v w'))
    (C3 : Hid (i.to.k = 1 → ∀ v, Calls Tryd.prog 49 #[.int .i64 i.to.r] v fun e w' => e = .returned (.int .i64 rt) ∧ w' = v)) :
    Calls Tryd.prog 26 #[.agg #[.int .i64 i.op, .int .i64 i.sz, .int .i64 i.cd, .int .i64 i.to.k, .int .i64 i.to.r, .int .i64 i.to.b, .int .i64 i.to.x, .int .i64 i.to.s, .bool i.to.rip, .bool i.to.fs, .int .i64 i.to.n, .string i.to.nm, .int .i64 i.to.m, .int .i64 i.fr.k, .int .i64 i.fr.r, .int .i64 i.fr.b, .int .i64 i.fr.x, .int .i64 i.fr.s, .bool i.fr.rip, .bool i.fr.fs, .int .i64 i.fr.n, .string i.fr.nm, .int .i64 i.fr.m, .bool i.sh]] w fun e w' => e = .returned (.int .i64 (orV 16 32)) ∧ Below w.heap.size w w' := by
  have L0 : Hid (∀ v, IA v w.heap.size i → (loadVar 25 ⟨w.heap.size, 0, none⟩).run Tryd.prog v = .ok (.agg #[.int .i64 i.op, .int .i64 i.sz, .int .i64 i.cd, .int .i64 i.to.k, .int .i64 i.to.r, .int .i64 i.to.b, .int .i64 i.to.x, .int .i64 i.to.s, .bool i.to.rip, .bool i.to.fs, .int .i64 i.to.n, .string i.to.nm, .int .i64 i.to.m, .int .i64 i.fr.k, .int .i64 i.fr.r, .int .i64 i.fr.b, .int .i64 i.fr.x, .int .i64 i.fr.s, .bool i.fr.rip, .bool i.fr.fs, .int .i64 i.fr.n, .string i.fr.nm, .int .i64 i.fr.m, .bool i.sh]) v) := ⟨fun v h => h.whole⟩
  have D4 : Hid (∀ v, Calls Tryd.prog 49 #[.int .i64 4] v fun e w' => e = .returned (.int .i64 16) ∧ w' = v) := ⟨fun v => refBit_any 4 v (by decide)⟩
  have D5 : Hid (∀ v, Calls Tryd.prog 49 #[.int .i64 5] v fun e w' => e = .returned (.int .i64 32) ∧ w' = v) := ⟨fun v => refBit_any 5 v (by decide)⟩
  try unfold orV
  cases hk : (i.to.k == 1)
  · skip
    have AX : True := trivial
    go_enter Tryd.func26, Tryd.ntmps26
    go_wp2_with (first
      | (refine wpList_load_of (t := 25) rfl (by kernel_rfl) (by kernel_rfl) (L0.out _ (by first | exact AX.out.1 | exact IA.new w i 25)) ?_)
      | (go_at_call 13; refine (C0.out _).mono ?_; rintro e wx ⟨rfl, hbx⟩; (first | (have AY : Hid (IA wx w.heap.size i ∧ Below w.heap.size w wx) := ⟨AX.out.1.bel hbx, bel_trans AX.out.2 hbx⟩) | (have AY : Hid (IA wx w.heap.size i ∧ Below w.heap.size w wx) := ⟨(IA.new w i 25).bel hbx, bel_trans (bel_alloc (Below.refl _ _) _) hbx⟩)); clear hbx; (try clear p0 p1 p2 p3 p4 p5 p6 p7 p8 p9 p10 p11 p12 p13 p14 p15 p16 p17 p18 p19 p20 p21 p22 p23); (try clear AX); have AX := AY; clear AY; obtain ⟨p0, p1, p2, p3, p4, p5, p6, p7, p8, p9, p10, p11, p12, p13, p14, p15, p16, p17, p18, p19, p20, p21, p22, p23⟩ := AX.out.1)
      | (go_at_call_of 49 (Value.int IntKind.i64 4); refine (D4.out _).mono ?_; rintro e wy ⟨rfl, hwy⟩; subst wy)
      | (go_at_call_of 49 (Value.int IntKind.i64 5); refine (D5.out _).mono ?_; rintro e wy ⟨rfl, hwy⟩; subst wy))
    go_ret
    exact ⟨rfl, AX.out.2⟩
  · skip
    have C5 : Hid _ := ⟨C3.out (by simpa using hk)⟩
    have AX : True := trivial
    go_enter Tryd.func26, Tryd.ntmps26
    go_wp2_with (first
      | (refine wpList_load_of (t := 25) rfl (by kernel_rfl) (by kernel_rfl) (L0.out _ (by first | exact AX.out.1 | exact IA.new w i 25)) ?_)
      | (go_at_call 13; refine (C0.out _).mono ?_; rintro e wx ⟨rfl, hbx⟩; (first | (have AY : Hid (IA wx w.heap.size i ∧ Below w.heap.size w wx) := ⟨AX.out.1.bel hbx, bel_trans AX.out.2 hbx⟩) | (have AY : Hid (IA wx w.heap.size i ∧ Below w.heap.size w wx) := ⟨(IA.new w i 25).bel hbx, bel_trans (bel_alloc (Below.refl _ _) _) hbx⟩)); clear hbx; (try clear p0 p1 p2 p3 p4 p5 p6 p7 p8 p9 p10 p11 p12 p13 p14 p15 p16 p17 p18 p19 p20 p21 p22 p23); (try clear AX); have AX := AY; clear AY; obtain ⟨p0, p1, p2, p3, p4, p5, p6, p7, p8, p9, p10, p11, p12, p13, p14, p15, p16, p17, p18, p19, p20, p21, p22, p23⟩ := AX.out.1)
      | (go_at_call_of 49 (Value.int IntKind.i64 i.to.r); refine (C5.out _).mono ?_; rintro e wy ⟨rfl, hwy⟩; subst wy)
      | (go_at_call_of 49 (Value.int IntKind.i64 4); refine (D4.out _).mono ?_; rintro e wy ⟨rfl, hwy⟩; subst wy)
      | (go_at_call_of 49 (Value.int IntKind.i64 5); refine (D5.out _).mono ?_; rintro e wy ⟨rfl, hwy⟩; subst wy))
    go_ret
    exact ⟨rfl, AX.out.2⟩

set_option maxHeartbeats 2000000 in
set_option maxRecDepth 4000 in
theorem refSets_32 (i : I) (w : World) (rt : Int) (e10 : (i.op == 10) = false) (e11 : (i.op == 11) = false) (e23 : (i.op == 23) = false) (e22 : (i.op == 22) = false) (e20 : (i.op == 20) = false) (e21 : (i.op == 21) = false) (e25 : (i.op == 25) = false) (e26 : (i.op == 26) = false) (e32 : (i.op == 32) = true) (e31 : (i.op == 31) = false) (e35 : (i.op == 35) = false)
    (C0 : Hid (∀ v, Calls Tryd.prog 13 #[.agg #[.int .i64 i.op, .int .i64 i.sz, .int .i64 i.cd, .int .i64 i.to.k, .int .i64 i.to.r, .int .i64 i.to.b, .int .i64 i.to.x, .int .i64 i.to.s, .bool i.to.rip, .bool i.to.fs, .int .i64 i.to.n, .string i.to.nm, .int .i64 i.to.m, .int .i64 i.fr.k, .int .i64 i.fr.r, .int .i64 i.fr.b, .int .i64 i.fr.x, .int .i64 i.fr.s, .bool i.fr.rip, .bool i.fr.fs, .int .i64 i.fr.n, .string i.fr.nm, .int .i64 i.fr.m, .bool i.sh]] v fun e w' => e = .returned (.int .i64 0) ∧ Below v.heap.size v w'))
    (C3 : Hid (i.to.k = 1 → ∀ v, Calls Tryd.prog 49 #[.int .i64 i.to.r] v fun e w' => e = .returned (.int .i64 rt) ∧ w' = v)) :
    Calls Tryd.prog 26 #[.agg #[.int .i64 i.op, .int .i64 i.sz, .int .i64 i.cd, .int .i64 i.to.k, .int .i64 i.to.r, .int .i64 i.to.b, .int .i64 i.to.x, .int .i64 i.to.s, .bool i.to.rip, .bool i.to.fs, .int .i64 i.to.n, .string i.to.nm, .int .i64 i.to.m, .int .i64 i.fr.k, .int .i64 i.fr.r, .int .i64 i.fr.b, .int .i64 i.fr.x, .int .i64 i.fr.s, .bool i.fr.rip, .bool i.fr.fs, .int .i64 i.fr.n, .string i.fr.nm, .int .i64 i.fr.m, .bool i.sh]] w fun e w' => e = .returned (.int .i64 (4)) ∧ Below w.heap.size w w' := by
  have L0 : Hid (∀ v, IA v w.heap.size i → (loadVar 25 ⟨w.heap.size, 0, none⟩).run Tryd.prog v = .ok (.agg #[.int .i64 i.op, .int .i64 i.sz, .int .i64 i.cd, .int .i64 i.to.k, .int .i64 i.to.r, .int .i64 i.to.b, .int .i64 i.to.x, .int .i64 i.to.s, .bool i.to.rip, .bool i.to.fs, .int .i64 i.to.n, .string i.to.nm, .int .i64 i.to.m, .int .i64 i.fr.k, .int .i64 i.fr.r, .int .i64 i.fr.b, .int .i64 i.fr.x, .int .i64 i.fr.s, .bool i.fr.rip, .bool i.fr.fs, .int .i64 i.fr.n, .string i.fr.nm, .int .i64 i.fr.m, .bool i.sh]) v) := ⟨fun v h => h.whole⟩
  have D2 : Hid (∀ v, Calls Tryd.prog 49 #[.int .i64 2] v fun e w' => e = .returned (.int .i64 4) ∧ w' = v) := ⟨fun v => refBit_any 2 v (by decide)⟩
  try unfold orV
  cases hk : (i.to.k == 1)
  · skip
    have AX : True := trivial
    go_enter Tryd.func26, Tryd.ntmps26
    go_wp2_with (first
      | (refine wpList_load_of (t := 25) rfl (by kernel_rfl) (by kernel_rfl) (L0.out _ (by first | exact AX.out.1 | exact IA.new w i 25)) ?_)
      | (go_at_call 13; refine (C0.out _).mono ?_; rintro e wx ⟨rfl, hbx⟩; (first | (have AY : Hid (IA wx w.heap.size i ∧ Below w.heap.size w wx) := ⟨AX.out.1.bel hbx, bel_trans AX.out.2 hbx⟩) | (have AY : Hid (IA wx w.heap.size i ∧ Below w.heap.size w wx) := ⟨(IA.new w i 25).bel hbx, bel_trans (bel_alloc (Below.refl _ _) _) hbx⟩)); clear hbx; (try clear p0 p1 p2 p3 p4 p5 p6 p7 p8 p9 p10 p11 p12 p13 p14 p15 p16 p17 p18 p19 p20 p21 p22 p23); (try clear AX); have AX := AY; clear AY; obtain ⟨p0, p1, p2, p3, p4, p5, p6, p7, p8, p9, p10, p11, p12, p13, p14, p15, p16, p17, p18, p19, p20, p21, p22, p23⟩ := AX.out.1)
      | (go_at_call_of 49 (Value.int IntKind.i64 2); refine (D2.out _).mono ?_; rintro e wy ⟨rfl, hwy⟩; subst wy))
    go_ret
    exact ⟨rfl, AX.out.2⟩
  · skip
    have C5 : Hid _ := ⟨C3.out (by simpa using hk)⟩
    have AX : True := trivial
    go_enter Tryd.func26, Tryd.ntmps26
    go_wp2_with (first
      | (refine wpList_load_of (t := 25) rfl (by kernel_rfl) (by kernel_rfl) (L0.out _ (by first | exact AX.out.1 | exact IA.new w i 25)) ?_)
      | (go_at_call 13; refine (C0.out _).mono ?_; rintro e wx ⟨rfl, hbx⟩; (first | (have AY : Hid (IA wx w.heap.size i ∧ Below w.heap.size w wx) := ⟨AX.out.1.bel hbx, bel_trans AX.out.2 hbx⟩) | (have AY : Hid (IA wx w.heap.size i ∧ Below w.heap.size w wx) := ⟨(IA.new w i 25).bel hbx, bel_trans (bel_alloc (Below.refl _ _) _) hbx⟩)); clear hbx; (try clear p0 p1 p2 p3 p4 p5 p6 p7 p8 p9 p10 p11 p12 p13 p14 p15 p16 p17 p18 p19 p20 p21 p22 p23); (try clear AX); have AX := AY; clear AY; obtain ⟨p0, p1, p2, p3, p4, p5, p6, p7, p8, p9, p10, p11, p12, p13, p14, p15, p16, p17, p18, p19, p20, p21, p22, p23⟩ := AX.out.1)
      | (go_at_call_of 49 (Value.int IntKind.i64 i.to.r); refine (C5.out _).mono ?_; rintro e wy ⟨rfl, hwy⟩; subst wy)
      | (go_at_call_of 49 (Value.int IntKind.i64 2); refine (D2.out _).mono ?_; rintro e wy ⟨rfl, hwy⟩; subst wy))
    go_ret
    exact ⟨rfl, AX.out.2⟩

set_option maxHeartbeats 2000000 in
set_option maxRecDepth 4000 in
theorem refSets_31 (i : I) (w : World) (rt rf : Int) (e10 : (i.op == 10) = false) (e11 : (i.op == 11) = false) (e23 : (i.op == 23) = false) (e22 : (i.op == 22) = false) (e20 : (i.op == 20) = false) (e21 : (i.op == 21) = false) (e25 : (i.op == 25) = false) (e26 : (i.op == 26) = false) (e32 : (i.op == 32) = false) (e31 : (i.op == 31) = true) (e35 : (i.op == 35) = false)
    (C0 : Hid (∀ v, Calls Tryd.prog 13 #[.agg #[.int .i64 i.op, .int .i64 i.sz, .int .i64 i.cd, .int .i64 i.to.k, .int .i64 i.to.r, .int .i64 i.to.b, .int .i64 i.to.x, .int .i64 i.to.s, .bool i.to.rip, .bool i.to.fs, .int .i64 i.to.n, .string i.to.nm, .int .i64 i.to.m, .int .i64 i.fr.k, .int .i64 i.fr.r, .int .i64 i.fr.b, .int .i64 i.fr.x, .int .i64 i.fr.s, .bool i.fr.rip, .bool i.fr.fs, .int .i64 i.fr.n, .string i.fr.nm, .int .i64 i.fr.m, .bool i.sh]] v fun e w' => e = .returned (.int .i64 0) ∧ Below v.heap.size v w'))
    (C3 : Hid (i.to.k = 1 → ∀ v, Calls Tryd.prog 49 #[.int .i64 i.to.r] v fun e w' => e = .returned (.int .i64 rt) ∧ w' = v))
    (C4 : Hid (∀ v, Calls Tryd.prog 49 #[.int .i64 i.fr.r] v fun e w' => e = .returned (.int .i64 rf) ∧ w' = v)) :
    Calls Tryd.prog 26 #[.agg #[.int .i64 i.op, .int .i64 i.sz, .int .i64 i.cd, .int .i64 i.to.k, .int .i64 i.to.r, .int .i64 i.to.b, .int .i64 i.to.x, .int .i64 i.to.s, .bool i.to.rip, .bool i.to.fs, .int .i64 i.to.n, .string i.to.nm, .int .i64 i.to.m, .int .i64 i.fr.k, .int .i64 i.fr.r, .int .i64 i.fr.b, .int .i64 i.fr.x, .int .i64 i.fr.s, .bool i.fr.rip, .bool i.fr.fs, .int .i64 i.fr.n, .string i.fr.nm, .int .i64 i.fr.m, .bool i.sh]] w fun e w' => e = .returned (.int .i64 (orV (if i.to.k == 1 then rt else 0) rf)) ∧ Below w.heap.size w w' := by
  have L0 : Hid (∀ v, IA v w.heap.size i → (loadVar 25 ⟨w.heap.size, 0, none⟩).run Tryd.prog v = .ok (.agg #[.int .i64 i.op, .int .i64 i.sz, .int .i64 i.cd, .int .i64 i.to.k, .int .i64 i.to.r, .int .i64 i.to.b, .int .i64 i.to.x, .int .i64 i.to.s, .bool i.to.rip, .bool i.to.fs, .int .i64 i.to.n, .string i.to.nm, .int .i64 i.to.m, .int .i64 i.fr.k, .int .i64 i.fr.r, .int .i64 i.fr.b, .int .i64 i.fr.x, .int .i64 i.fr.s, .bool i.fr.rip, .bool i.fr.fs, .int .i64 i.fr.n, .string i.fr.nm, .int .i64 i.fr.m, .bool i.sh]) v) := ⟨fun v h => h.whole⟩
  try unfold orV
  cases hk : (i.to.k == 1)
  · rw [if_neg (by simp)]
    have AX : True := trivial
    go_enter Tryd.func26, Tryd.ntmps26
    go_wp2_with (first
      | (refine wpList_load_of (t := 25) rfl (by kernel_rfl) (by kernel_rfl) (L0.out _ (by first | exact AX.out.1 | exact IA.new w i 25)) ?_)
      | (go_at_call 13; refine (C0.out _).mono ?_; rintro e wx ⟨rfl, hbx⟩; (first | (have AY : Hid (IA wx w.heap.size i ∧ Below w.heap.size w wx) := ⟨AX.out.1.bel hbx, bel_trans AX.out.2 hbx⟩) | (have AY : Hid (IA wx w.heap.size i ∧ Below w.heap.size w wx) := ⟨(IA.new w i 25).bel hbx, bel_trans (bel_alloc (Below.refl _ _) _) hbx⟩)); clear hbx; (try clear p0 p1 p2 p3 p4 p5 p6 p7 p8 p9 p10 p11 p12 p13 p14 p15 p16 p17 p18 p19 p20 p21 p22 p23); (try clear AX); have AX := AY; clear AY; obtain ⟨p0, p1, p2, p3, p4, p5, p6, p7, p8, p9, p10, p11, p12, p13, p14, p15, p16, p17, p18, p19, p20, p21, p22, p23⟩ := AX.out.1)
      | (go_at_call_of 49 (Value.int IntKind.i64 i.fr.r); refine (C4.out _).mono ?_; rintro e wy ⟨rfl, hwy⟩; subst wy))
    go_ret
    exact ⟨rfl, AX.out.2⟩
  · rw [if_pos rfl]
    have C5 : Hid _ := ⟨C3.out (by simpa using hk)⟩
    have AX : True := trivial
    go_enter Tryd.func26, Tryd.ntmps26
    go_wp2_with (first
      | (refine wpList_load_of (t := 25) rfl (by kernel_rfl) (by kernel_rfl) (L0.out _ (by first | exact AX.out.1 | exact IA.new w i 25)) ?_)
      | (go_at_call 13; refine (C0.out _).mono ?_; rintro e wx ⟨rfl, hbx⟩; (first | (have AY : Hid (IA wx w.heap.size i ∧ Below w.heap.size w wx) := ⟨AX.out.1.bel hbx, bel_trans AX.out.2 hbx⟩) | (have AY : Hid (IA wx w.heap.size i ∧ Below w.heap.size w wx) := ⟨(IA.new w i 25).bel hbx, bel_trans (bel_alloc (Below.refl _ _) _) hbx⟩)); clear hbx; (try clear p0 p1 p2 p3 p4 p5 p6 p7 p8 p9 p10 p11 p12 p13 p14 p15 p16 p17 p18 p19 p20 p21 p22 p23); (try clear AX); have AX := AY; clear AY; obtain ⟨p0, p1, p2, p3, p4, p5, p6, p7, p8, p9, p10, p11, p12, p13, p14, p15, p16, p17, p18, p19, p20, p21, p22, p23⟩ := AX.out.1)
      | (go_at_call_of 49 (Value.int IntKind.i64 i.to.r); refine (C5.out _).mono ?_; rintro e wy ⟨rfl, hwy⟩; subst wy)
      | (go_at_call_of 49 (Value.int IntKind.i64 i.fr.r); refine (C4.out _).mono ?_; rintro e wy ⟨rfl, hwy⟩; subst wy))
    go_ret
    exact ⟨rfl, AX.out.2⟩

set_option maxHeartbeats 2000000 in
set_option maxRecDepth 4000 in
theorem refSets_35 (i : I) (w : World) (rt : Int) (e10 : (i.op == 10) = false) (e11 : (i.op == 11) = false) (e23 : (i.op == 23) = false) (e22 : (i.op == 22) = false) (e20 : (i.op == 20) = false) (e21 : (i.op == 21) = false) (e25 : (i.op == 25) = false) (e26 : (i.op == 26) = false) (e32 : (i.op == 32) = false) (e31 : (i.op == 31) = false) (e35 : (i.op == 35) = true)
    (C0 : Hid (∀ v, Calls Tryd.prog 13 #[.agg #[.int .i64 i.op, .int .i64 i.sz, .int .i64 i.cd, .int .i64 i.to.k, .int .i64 i.to.r, .int .i64 i.to.b, .int .i64 i.to.x, .int .i64 i.to.s, .bool i.to.rip, .bool i.to.fs, .int .i64 i.to.n, .string i.to.nm, .int .i64 i.to.m, .int .i64 i.fr.k, .int .i64 i.fr.r, .int .i64 i.fr.b, .int .i64 i.fr.x, .int .i64 i.fr.s, .bool i.fr.rip, .bool i.fr.fs, .int .i64 i.fr.n, .string i.fr.nm, .int .i64 i.fr.m, .bool i.sh]] v fun e w' => e = .returned (.int .i64 0) ∧ Below v.heap.size v w'))
    (C3 : Hid (i.to.k = 1 → ∀ v, Calls Tryd.prog 49 #[.int .i64 i.to.r] v fun e w' => e = .returned (.int .i64 rt) ∧ w' = v)) :
    Calls Tryd.prog 26 #[.agg #[.int .i64 i.op, .int .i64 i.sz, .int .i64 i.cd, .int .i64 i.to.k, .int .i64 i.to.r, .int .i64 i.to.b, .int .i64 i.to.x, .int .i64 i.to.s, .bool i.to.rip, .bool i.to.fs, .int .i64 i.to.n, .string i.to.nm, .int .i64 i.to.m, .int .i64 i.fr.k, .int .i64 i.fr.r, .int .i64 i.fr.b, .int .i64 i.fr.x, .int .i64 i.fr.s, .bool i.fr.rip, .bool i.fr.fs, .int .i64 i.fr.n, .string i.fr.nm, .int .i64 i.fr.m, .bool i.sh]] w fun e w' => e = .returned (.int .i64 (orV (orV 1 2) 2048)) ∧ Below w.heap.size w w' := by
  have L0 : Hid (∀ v, IA v w.heap.size i → (loadVar 25 ⟨w.heap.size, 0, none⟩).run Tryd.prog v = .ok (.agg #[.int .i64 i.op, .int .i64 i.sz, .int .i64 i.cd, .int .i64 i.to.k, .int .i64 i.to.r, .int .i64 i.to.b, .int .i64 i.to.x, .int .i64 i.to.s, .bool i.to.rip, .bool i.to.fs, .int .i64 i.to.n, .string i.to.nm, .int .i64 i.to.m, .int .i64 i.fr.k, .int .i64 i.fr.r, .int .i64 i.fr.b, .int .i64 i.fr.x, .int .i64 i.fr.s, .bool i.fr.rip, .bool i.fr.fs, .int .i64 i.fr.n, .string i.fr.nm, .int .i64 i.fr.m, .bool i.sh]) v) := ⟨fun v h => h.whole⟩
  have D0 : Hid (∀ v, Calls Tryd.prog 49 #[.int .i64 0] v fun e w' => e = .returned (.int .i64 1) ∧ w' = v) := ⟨fun v => refBit_any 0 v (by decide)⟩
  have D1 : Hid (∀ v, Calls Tryd.prog 49 #[.int .i64 1] v fun e w' => e = .returned (.int .i64 2) ∧ w' = v) := ⟨fun v => refBit_any 1 v (by decide)⟩
  have D11 : Hid (∀ v, Calls Tryd.prog 49 #[.int .i64 11] v fun e w' => e = .returned (.int .i64 2048) ∧ w' = v) := ⟨fun v => refBit_any 11 v (by decide)⟩
  try unfold orV
  cases hk : (i.to.k == 1)
  · skip
    have AX : True := trivial
    go_enter Tryd.func26, Tryd.ntmps26
    go_wp2_with (first
      | (refine wpList_load_of (t := 25) rfl (by kernel_rfl) (by kernel_rfl) (L0.out _ (by first | exact AX.out.1 | exact IA.new w i 25)) ?_)
      | (go_at_call 13; refine (C0.out _).mono ?_; rintro e wx ⟨rfl, hbx⟩; (first | (have AY : Hid (IA wx w.heap.size i ∧ Below w.heap.size w wx) := ⟨AX.out.1.bel hbx, bel_trans AX.out.2 hbx⟩) | (have AY : Hid (IA wx w.heap.size i ∧ Below w.heap.size w wx) := ⟨(IA.new w i 25).bel hbx, bel_trans (bel_alloc (Below.refl _ _) _) hbx⟩)); clear hbx; (try clear p0 p1 p2 p3 p4 p5 p6 p7 p8 p9 p10 p11 p12 p13 p14 p15 p16 p17 p18 p19 p20 p21 p22 p23); (try clear AX); have AX := AY; clear AY; obtain ⟨p0, p1, p2, p3, p4, p5, p6, p7, p8, p9, p10, p11, p12, p13, p14, p15, p16, p17, p18, p19, p20, p21, p22, p23⟩ := AX.out.1)
      | (go_at_call_of 49 (Value.int IntKind.i64 0); refine (D0.out _).mono ?_; rintro e wy ⟨rfl, hwy⟩; subst wy)
      | (go_at_call_of 49 (Value.int IntKind.i64 1); refine (D1.out _).mono ?_; rintro e wy ⟨rfl, hwy⟩; subst wy)
      | (go_at_call_of 49 (Value.int IntKind.i64 11); refine (D11.out _).mono ?_; rintro e wy ⟨rfl, hwy⟩; subst wy))
    go_ret
    exact ⟨rfl, AX.out.2⟩
  · skip
    have C5 : Hid _ := ⟨C3.out (by simpa using hk)⟩
    have AX : True := trivial
    go_enter Tryd.func26, Tryd.ntmps26
    go_wp2_with (first
      | (refine wpList_load_of (t := 25) rfl (by kernel_rfl) (by kernel_rfl) (L0.out _ (by first | exact AX.out.1 | exact IA.new w i 25)) ?_)
      | (go_at_call 13; refine (C0.out _).mono ?_; rintro e wx ⟨rfl, hbx⟩; (first | (have AY : Hid (IA wx w.heap.size i ∧ Below w.heap.size w wx) := ⟨AX.out.1.bel hbx, bel_trans AX.out.2 hbx⟩) | (have AY : Hid (IA wx w.heap.size i ∧ Below w.heap.size w wx) := ⟨(IA.new w i 25).bel hbx, bel_trans (bel_alloc (Below.refl _ _) _) hbx⟩)); clear hbx; (try clear p0 p1 p2 p3 p4 p5 p6 p7 p8 p9 p10 p11 p12 p13 p14 p15 p16 p17 p18 p19 p20 p21 p22 p23); (try clear AX); have AX := AY; clear AY; obtain ⟨p0, p1, p2, p3, p4, p5, p6, p7, p8, p9, p10, p11, p12, p13, p14, p15, p16, p17, p18, p19, p20, p21, p22, p23⟩ := AX.out.1)
      | (go_at_call_of 49 (Value.int IntKind.i64 i.to.r); refine (C5.out _).mono ?_; rintro e wy ⟨rfl, hwy⟩; subst wy)
      | (go_at_call_of 49 (Value.int IntKind.i64 0); refine (D0.out _).mono ?_; rintro e wy ⟨rfl, hwy⟩; subst wy)
      | (go_at_call_of 49 (Value.int IntKind.i64 1); refine (D1.out _).mono ?_; rintro e wy ⟨rfl, hwy⟩; subst wy)
      | (go_at_call_of 49 (Value.int IntKind.i64 11); refine (D11.out _).mono ?_; rintro e wy ⟨rfl, hwy⟩; subst wy))
    go_ret
    exact ⟨rfl, AX.out.2⟩

set_option maxHeartbeats 2000000 in
set_option maxRecDepth 4000 in
theorem refSets_o (i : I) (w : World) (rt : Int) (e10 : (i.op == 10) = false) (e11 : (i.op == 11) = false) (e23 : (i.op == 23) = false) (e22 : (i.op == 22) = false) (e20 : (i.op == 20) = false) (e21 : (i.op == 21) = false) (e25 : (i.op == 25) = false) (e26 : (i.op == 26) = false) (e32 : (i.op == 32) = false) (e31 : (i.op == 31) = false) (e35 : (i.op == 35) = false)
    (C0 : Hid (∀ v, Calls Tryd.prog 13 #[.agg #[.int .i64 i.op, .int .i64 i.sz, .int .i64 i.cd, .int .i64 i.to.k, .int .i64 i.to.r, .int .i64 i.to.b, .int .i64 i.to.x, .int .i64 i.to.s, .bool i.to.rip, .bool i.to.fs, .int .i64 i.to.n, .string i.to.nm, .int .i64 i.to.m, .int .i64 i.fr.k, .int .i64 i.fr.r, .int .i64 i.fr.b, .int .i64 i.fr.x, .int .i64 i.fr.s, .bool i.fr.rip, .bool i.fr.fs, .int .i64 i.fr.n, .string i.fr.nm, .int .i64 i.fr.m, .bool i.sh]] v fun e w' => e = .returned (.int .i64 0) ∧ Below v.heap.size v w'))
    (C3 : Hid (i.to.k = 1 → ∀ v, Calls Tryd.prog 49 #[.int .i64 i.to.r] v fun e w' => e = .returned (.int .i64 rt) ∧ w' = v)) :
    Calls Tryd.prog 26 #[.agg #[.int .i64 i.op, .int .i64 i.sz, .int .i64 i.cd, .int .i64 i.to.k, .int .i64 i.to.r, .int .i64 i.to.b, .int .i64 i.to.x, .int .i64 i.to.s, .bool i.to.rip, .bool i.to.fs, .int .i64 i.to.n, .string i.to.nm, .int .i64 i.to.m, .int .i64 i.fr.k, .int .i64 i.fr.r, .int .i64 i.fr.b, .int .i64 i.fr.x, .int .i64 i.fr.s, .bool i.fr.rip, .bool i.fr.fs, .int .i64 i.fr.n, .string i.fr.nm, .int .i64 i.fr.m, .bool i.sh]] w fun e w' => e = .returned (.int .i64 (if i.to.k == 1 then rt else 0)) ∧ Below w.heap.size w w' := by
  have L0 : Hid (∀ v, IA v w.heap.size i → (loadVar 25 ⟨w.heap.size, 0, none⟩).run Tryd.prog v = .ok (.agg #[.int .i64 i.op, .int .i64 i.sz, .int .i64 i.cd, .int .i64 i.to.k, .int .i64 i.to.r, .int .i64 i.to.b, .int .i64 i.to.x, .int .i64 i.to.s, .bool i.to.rip, .bool i.to.fs, .int .i64 i.to.n, .string i.to.nm, .int .i64 i.to.m, .int .i64 i.fr.k, .int .i64 i.fr.r, .int .i64 i.fr.b, .int .i64 i.fr.x, .int .i64 i.fr.s, .bool i.fr.rip, .bool i.fr.fs, .int .i64 i.fr.n, .string i.fr.nm, .int .i64 i.fr.m, .bool i.sh]) v) := ⟨fun v h => h.whole⟩
  try unfold orV
  cases hk : (i.to.k == 1)
  · rw [if_neg (by simp)]
    have AX : True := trivial
    go_enter Tryd.func26, Tryd.ntmps26
    go_wp2_with (first
      | (refine wpList_load_of (t := 25) rfl (by kernel_rfl) (by kernel_rfl) (L0.out _ (by first | exact AX.out.1 | exact IA.new w i 25)) ?_)
      | (go_at_call 13; refine (C0.out _).mono ?_; rintro e wx ⟨rfl, hbx⟩; (first | (have AY : Hid (IA wx w.heap.size i ∧ Below w.heap.size w wx) := ⟨AX.out.1.bel hbx, bel_trans AX.out.2 hbx⟩) | (have AY : Hid (IA wx w.heap.size i ∧ Below w.heap.size w wx) := ⟨(IA.new w i 25).bel hbx, bel_trans (bel_alloc (Below.refl _ _) _) hbx⟩)); clear hbx; (try clear p0 p1 p2 p3 p4 p5 p6 p7 p8 p9 p10 p11 p12 p13 p14 p15 p16 p17 p18 p19 p20 p21 p22 p23); (try clear AX); have AX := AY; clear AY; obtain ⟨p0, p1, p2, p3, p4, p5, p6, p7, p8, p9, p10, p11, p12, p13, p14, p15, p16, p17, p18, p19, p20, p21, p22, p23⟩ := AX.out.1))
    go_ret
    exact ⟨rfl, AX.out.2⟩
  · rw [if_pos rfl]
    have C5 : Hid _ := ⟨C3.out (by simpa using hk)⟩
    have AX : True := trivial
    go_enter Tryd.func26, Tryd.ntmps26
    go_wp2_with (first
      | (refine wpList_load_of (t := 25) rfl (by kernel_rfl) (by kernel_rfl) (L0.out _ (by first | exact AX.out.1 | exact IA.new w i 25)) ?_)
      | (go_at_call 13; refine (C0.out _).mono ?_; rintro e wx ⟨rfl, hbx⟩; (first | (have AY : Hid (IA wx w.heap.size i ∧ Below w.heap.size w wx) := ⟨AX.out.1.bel hbx, bel_trans AX.out.2 hbx⟩) | (have AY : Hid (IA wx w.heap.size i ∧ Below w.heap.size w wx) := ⟨(IA.new w i 25).bel hbx, bel_trans (bel_alloc (Below.refl _ _) _) hbx⟩)); clear hbx; (try clear p0 p1 p2 p3 p4 p5 p6 p7 p8 p9 p10 p11 p12 p13 p14 p15 p16 p17 p18 p19 p20 p21 p22 p23); (try clear AX); have AX := AY; clear AY; obtain ⟨p0, p1, p2, p3, p4, p5, p6, p7, p8, p9, p10, p11, p12, p13, p14, p15, p16, p17, p18, p19, p20, p21, p22, p23⟩ := AX.out.1)
      | (go_at_call_of 49 (Value.int IntKind.i64 i.to.r); refine (C5.out _).mono ?_; rintro e wy ⟨rfl, hwy⟩; subst wy))
    go_ret
    exact ⟨rfl, AX.out.2⟩

end Go.Proofs.YtdgejingoamfeaaDoor
