/- The program's reader: what lies in memory; its cursor's calls. -/
import Derived.Test.YtljmbgflcidokaaGreatDoorQxP
import Derived.Test.YtljmbgflcidokaaGreatDoorLxTokP
import Derived.Test.YtljmbgflcidokaaGreatDoorQxTurn
import Derived.Lib.Bytealg
import Derived.Lib.LaidTab
import Derived.Lib.AppendIntMem
namespace Go.Proofs.YtljmbgflcidokaaGreatDoor
open Go.ChangeShapes Go.WideShapes Go.ChangeAt Go.RowKit
set_option linter.unusedVariables false
set_option linter.unusedSimpArgs false

theorem gPow : Tryz.prog.globalNamed "internal/strconv.uint64pow10" = some 1 := by kernel_rfl
/-- The package's variables lie in memory: the two errors, and the powers of ten. -/
structure Er (w : World) : Prop where
  sz : 6 ≤ w.heap.size
  sx : ∃ te pe, w.cell? ⟨4, 0, none⟩ = some (.iface te pe)
  rg : ∃ te pe, w.cell? ⟨5, 0, none⟩ = some (.iface te pe)
  tb : Lib.TabIs Tryz.prog w "internal/strconv.uint64pow10" .u64 Lib.pow10Tab
theorem Er.turn {w w' : World} (h : Er w) {S : Nat → Prop} (ht : Turn S w w') (hS : ∀ k, S k → 6 ≤ k) : Er w' := by
  have hb : ∀ k, k < 6 → w'.heap[k]? = w.heap[k]? := fun k hk => ht.block k (Nat.lt_of_lt_of_le hk h.sz) (fun e => by have := hS k e; omega)
  refine ⟨Nat.le_trans h.sz ht.size, ?_, ?_, ?_⟩
  · obtain ⟨te, pe, e⟩ := h.sx
    exact ⟨te, pe, (World.cell?_of_block (hb 4 (by omega))).trans e⟩
  · obtain ⟨te, pe, e⟩ := h.rg
    exact ⟨te, pe, (World.cell?_of_block (hb 5 (by omega))).trans e⟩
  · have ht := h.tb
    unfold Lib.TabIs World.var? at ht ⊢
    rw [gPow] at ht ⊢
    simp only [Option.bind_some] at ht ⊢
    rw [hb 1 (by omega)]
    exact ht
theorem Er.below {w w' : World} (h : Er w) {B : Nat} (hb : Below B w w') (hB : 6 ≤ B) : Er w' := by
  refine h.turn (S := fun k => B ≤ k) ⟨hb.os, hb.tape, hb.output, hb.size, fun k hk hn => hb.block k (by omega)⟩ (fun k hk => by omega)
theorem Er.bel {w w' : World} (h : Er w) (hb : Below w.heap.size w w') : Er w' := h.below hb h.sz

/-- A reader lies in block rb: its text, its place, its line, its list. -/
structure RD (w : World) (rb : Nat) (s : ByteArray) (a : Nat) (ln : Int) (lv : Value) : Prop where
  c0 : w.cell? ⟨rb, 0, none⟩ = some (.string s)
  c1 : w.cell? ⟨rb, 1, none⟩ = some (.int .i64 a)
  ck : ∀ j, j < 256 → w.cell? ⟨rb, 2 + j, none⟩ = some (.int .u8 (kz j))
  c2 : w.cell? ⟨rb, 258, none⟩ = some (.int .i64 ln)
  c3 : w.cell? ⟨rb, 259, none⟩ = some lv
  fz : ∀ j, w.frozen? ⟨rb, j, none⟩ = false
  er : Er w
  hi : 6 ≤ rb
/-- Nothing but the reader has turned. -/
abbrev TR (rb : Nat) (w w' : World) : Prop := Turn (fun k => k = rb) w w'
theorem TR.set {rb : Nat} {w w' : World} (h : TR rb w w') (o : Nat) (u : Value) : TR rb w (w'.setCell ⟨rb, o, none⟩ u) := Turn.setCell (S := fun k => k = rb) h ⟨rb, o, none⟩ rfl u
theorem TR.self (rb : Nat) (w : World) : TR rb w w := Turn.refl _ _
theorem TR.draw {rb : Nat} {w w' : World} (h : TR rb w w') (n : Nat) : TR rb w (w'.drewN n) := Turn.drewN h n

section
variable {w w' : World} {rb : Nat} {s : ByteArray} {a : Nat} {ln : Int} {lv : Value}
theorem RD.lt (h : RD w rb s a ln lv) : rb < w.heap.size := World.block_lt_of_cell? w ⟨rb, 0, none⟩ h.c0
theorem RD.turn (h : RD w rb s a ln lv) {S : Nat → Prop} (ht : Turn S w w') (h1 : ¬ S rb) (h2 : ∀ k, S k → 6 ≤ k) : RD w' rb s a ln lv := by
  have e : ∀ o, w'.cell? ⟨rb, o, none⟩ = w.cell? ⟨rb, o, none⟩ := fun o => World.cell?_of_block (ht.block rb h.lt h1)
  have e2 : ∀ o, w'.frozen? ⟨rb, o, none⟩ = w.frozen? ⟨rb, o, none⟩ := fun o => World.frozen?_of_block (w := w) (ht.block rb h.lt h1)
  exact ⟨(e _).trans h.c0, (e _).trans h.c1, fun j hj => (e _).trans (h.ck j hj), (e _).trans h.c2, (e _).trans h.c3, fun j => (e2 j).trans (h.fz j), h.er.turn ht h2, h.hi⟩
theorem RD.below (h : RD w rb s a ln lv) (hb : Below w.heap.size w w') : RD w' rb s a ln lv := h.turn (Turn.of_below hb (fun _ => False)) (fun e => e) (fun _ e => e.elim)
theorem RD.drewN (h : RD w rb s a ln lv) (n : Nat) : RD (w.drewN n) rb s a ln lv := h.below (below_drewN (Below.refl _ _) n)
theorem RD.drew (h : RD w rb s a ln lv) : RD w.drew rb s a ln lv := h.below (Below.refl _ _).drew
theorem RD.alloc (h : RD w rb s a ln lv) (o : Obj) : RD (w.alloc o) rb s a ln lv := h.below ((Below.refl _ _).alloc (Nat.le_refl _) o)
theorem RD.setNew (h : RD w rb s a ln lv) (p : Addr) (hp : rb < p.block) (u : Value) : RD (w.setCell p u) rb s a ln lv :=
  h.turn (Turn.setCell (S := fun k => k = p.block) (Turn.refl _ w) p rfl u) (fun e => by omega) (fun k e => by have := h.hi; omega)
theorem RD.setAt (h : RD w rb s a ln lv) (v : Int) (a' : Nat) (hv : v = (a' : Int)) : RD (w.setCell ⟨rb, 1, none⟩ (.int .i64 v)) rb s a' ln lv := by
  have er := h.er
  have hi := h.hi
  obtain ⟨c0, c1, ck, c2, c3, fz, _, _⟩ := h
  subst hv
  refine ⟨?_, ?_, fun j hj => ?_, ?_, ?_, fun j => (World.frozen?_setCell _ _ _ _).trans (fz j), er.turn (Turn.setCell (S := fun k => k = rb) (Turn.refl _ w) ⟨rb, 1, none⟩ rfl _) (fun k e => by omega), hi⟩
  · simp [go_sem, c0]
  · simp [go_sem, c1]
  · have := ck j hj
    have h2 : ¬ (1 = 2 + j) := by omega
    simp [go_sem, this, h2]
  · simp [go_sem, c2]
  · simp [go_sem, c3]
theorem RD.setLine (h : RD w rb s a ln lv) (v : Int) : RD (w.setCell ⟨rb, 258, none⟩ (.int .i64 v)) rb s a v lv := by
  have er := h.er
  have hi := h.hi
  obtain ⟨c0, c1, ck, c2, c3, fz, _, _⟩ := h
  refine ⟨?_, ?_, fun j hj => ?_, ?_, ?_, fun j => (World.frozen?_setCell _ _ _ _).trans (fz j), er.turn (Turn.setCell (S := fun k => k = rb) (Turn.refl _ w) ⟨rb, 258, none⟩ rfl _) (fun k e => by omega), hi⟩
  · simp [go_sem, c0]
  · simp [go_sem, c1]
  · have := ck j hj
    have h2 : ¬ (258 = 2 + j) := by omega
    simp [go_sem, this, h2]
  · simp [go_sem, c2]
  · simp [go_sem, c3]
theorem RD.setList (h : RD w rb s a ln lv) (v : Value) : RD (w.setCell ⟨rb, 259, none⟩ v) rb s a ln v := by
  have er := h.er
  have hi := h.hi
  obtain ⟨c0, c1, ck, c2, c3, fz, _, _⟩ := h
  refine ⟨?_, ?_, fun j hj => ?_, ?_, ?_, fun j => (World.frozen?_setCell _ _ _ _).trans (fz j), er.turn (Turn.setCell (S := fun k => k = rb) (Turn.refl _ w) ⟨rb, 259, none⟩ rfl _) (fun k e => by omega), hi⟩
  · simp [go_sem, c0]
  · simp [go_sem, c1]
  · have := ck j hj
    have h2 : ¬ (259 = 2 + j) := by omega
    simp [go_sem, this, h2]
  · simp [go_sem, c2]
  · simp [go_sem, c3]

theorem more_any (h : RD w rb s a ln lv) : Calls Tryz.prog 53 #[.pointer (some ⟨rb, 0, none⟩)] w fun e w' => e = .returned (.bool (decide (a < s.size))) ∧ ∃ m, w' = w.drewN m := by
  have c0 := h.c0
  have c1 := h.c1
  clear h
  by_cases hlt : a < s.size
  · have hl : (a : Int) < (s.size : Int) := by omega
    rw [decide_eq_true hlt]
    go_enter Tryz.func53, Tryz.ntmps53
    go_wp2
    go_quiet (fail)
    go_wp2
    go_ret
    exact ⟨rfl, _, rfl⟩
  · have hl : ¬ (a : Int) < (s.size : Int) := by omega
    rw [decide_eq_false hlt]
    go_enter Tryz.func53, Tryz.ntmps53
    go_wp2
    go_quiet (fail)
    go_wp2
    go_ret
    exact ⟨rfl, _, rfl⟩

theorem peek_any (h : RD w rb s a ln lv) : Calls Tryz.prog 55 #[.pointer (some ⟨rb, 0, none⟩)] w fun e w' => e = .returned (.int .u8 (hdZ (Ln s a))) ∧ ∃ m, w' = w.drewN m := by
  have HM : Hid _ := ⟨more_any h⟩
  have c0 := h.c0
  have c1 := h.c1
  clear h
  by_cases hlt : a < s.size
  · have hl : (a : Int) < (s.size : Int) := by omega
    have h0 : (0 : Int) ≤ (a : Int) := by omega
    rw [decide_eq_true hlt] at HM
    rw [hd_at hlt]
    go_enter Tryz.func55, Tryz.ntmps55
    go_wp2_with (go_at_call 53; (with_reducible refine HM.out.mono ?_); rintro e w' ⟨rfl, m1, hw'⟩; subst hw')
    go_quiet (fail)
    go_wp2
    go_ret
    exact ⟨rfl, _, World.drewN_drewN _ _ _⟩
  · rw [decide_eq_false hlt] at HM
    rw [hd_end hlt]
    go_enter Tryz.func55, Tryz.ntmps55
    go_wp2_with (go_at_call 53; (with_reducible refine HM.out.mono ?_); rintro e w' ⟨rfl, m1, hw'⟩; subst hw')
    go_ret
    exact ⟨rfl, _, rfl⟩

theorem next_any (h : RD w rb s a ln lv) (ha : a ≤ 9007199254740992) : Calls Tryz.prog 97 #[.pointer (some ⟨rb, 0, none⟩)] w fun e w' => e = .returned (.int .u8 (hdZ (Ln s a))) ∧ RD w' rb s (a + 1) ln lv ∧ TR rb w w' := by
  have HP : Hid _ := ⟨peek_any h⟩
  have HR : Hid _ := ⟨h⟩
  have c1 := h.c1
  have z1 := h.fz 1
  have hw1 : IntKind.i64.wrap ((a : Int) + 1) = (a : Int) + 1 := by rw [IntKind.wrap_i64]; omega
  generalize hdZ (Ln s a) = z at *
  clear h
  go_enter Tryz.func97, Tryz.ntmps97
  go_wp2_with (go_at_call 55; (with_reducible refine HP.out.mono ?_); rintro e w' ⟨rfl, m1, hw'⟩; subst hw')
  go_ret
  exact ⟨rfl, (HR.out.drewN m1).setAt _ (a + 1) (by omega), ((TR.self rb w).draw m1).set 1 _⟩

theorem take_any (h : RD w rb s a ln lv) (ha : a ≤ 9007199254740992) (b : Int) : Calls Tryz.prog 57 #[.pointer (some ⟨rb, 0, none⟩), .int .u8 b] w fun e w' => e = .returned (.bool (hdZ (Ln s a) == b)) ∧ RD w' rb s (if (hdZ (Ln s a) == b) = true then a + 1 else a) ln lv ∧ TR rb w w' := by
  have HP : Hid _ := ⟨peek_any h⟩
  have HR : Hid _ := ⟨h⟩
  have c1 := h.c1
  have z1 := h.fz 1
  have hw1 : IntKind.i64.wrap ((a : Int) + 1) = (a : Int) + 1 := by rw [IntKind.wrap_i64]; omega
  generalize hdZ (Ln s a) = z at *
  clear h
  cases hz : (z == b)
  · have hn : (z != b) = true := by simp [bne, hz]
    go_enter Tryz.func57, Tryz.ntmps57
    go_wp2_with (go_at_call 55; (with_reducible refine HP.out.mono ?_); rintro e w' ⟨rfl, m1, hw'⟩; subst hw')
    go_ret
    exact ⟨rfl, HR.out.drewN m1, (TR.self rb w).draw m1⟩
  · have hn : (z != b) = false := by simp [bne, hz]
    go_enter Tryz.func57, Tryz.ntmps57
    go_wp2_with (go_at_call 55; (with_reducible refine HP.out.mono ?_); rintro e w' ⟨rfl, m1, hw'⟩; subst hw')
    go_ret
    exact ⟨rfl, (HR.out.drewN m1).setAt _ (a + 1) (by omega), ((TR.self rb w).draw m1).set 1 _⟩

theorem has_any (h : RD w rb s a ln lv) (K n : Nat) (hn : n < 256) : Calls Tryz.prog 93 #[.pointer (some ⟨rb, 2, none⟩), .int .u8 n, .int .u8 K] w fun e w' => e = .returned (.bool (kB K n)) ∧ w' = w := by
  have ck := h.ck n hn
  have HK : kB K n = (bits .and .u8 (kz n) (K : Int) != 0) := rfl
  have hni : (n : Int) < 256 := by omega
  have hn0 : (0 : Int) ≤ (n : Int) := by omega
  rw [HK]
  clear h HK
  generalize kz n = z at *
  go_enter Tryz.func93, Tryz.ntmps93
  go_wp2
  go_ret
  exact ⟨rfl, rfl⟩
end
end Go.Proofs.YtljmbgflcidokaaGreatDoor
