/- No Memory, and one that nobody made: what all calls answer. -/
import Derived.Test.YtpfmnopokfiheaaMLive
namespace Go.Proofs.Ytpfmnopokfiheaa
open Go.ChangeShapes Go.WideShapes Go.ChangeAt Go.RowKit Go.Maps
set_option linter.unusedVariables false
set_option linter.unusedSimpArgs false

theorem fetch_no (v : Value) (a : Nat) (n : Int) (w : World) (h : NM w v) :
    Calls Try.prog 22 #[v, .int .u64 a, .int .i64 n] w fun e w' => e = .returned (.tuple #[.slice none 0 0, .int .i64 1]) ∧ w' = w := by
  have HM := made_no v w h
  clear h
  go_enter Try.func22, Try.ntmps22
  go_wp2_with (go_at_call 40; with_reducible refine HM.mono ?_; rintro e w1 ⟨he, hw⟩; subst he; subst w1)
  go_ret2
  exact ⟨rfl, rfl⟩
theorem may_no (v : Value) (a : Nat) (w : World) (h : NM w v) :
    Calls Try.prog 24 #[v, .int .u64 a] w fun e w' => e = .returned (.tuple #[.int .i64 0, .bool false]) ∧ w' = w := by
  have HM := made_no v w h
  clear h
  go_enter Try.func24, Try.ntmps24
  go_wp2_with (go_at_call 40; with_reducible refine HM.mono ?_; rintro e w1 ⟨he, hw⟩; subst he; subst w1)
  go_ret2
  exact ⟨rfl, rfl⟩
theorem pages_no (v : Value) (w : World) (h : NM w v) :
    Calls Try.prog 19 #[v] w fun e w' => e = .returned (.slice none 0 0) ∧ w' = w := by
  have HM := made_no v w h
  clear h
  go_enter Try.func19, Try.ntmps19
  go_wp2_with (go_at_call 40; with_reducible refine HM.mono ?_; rintro e w1 ⟨he, hw⟩; subst he; subst w1)
  go_ret
  exact ⟨rfl, rfl⟩
theorem copy_no (v : Value) (w : World) (h : NM w v) :
    Calls Try.prog 15 #[v] w fun e w' => e = .returned (.pointer none) ∧ w' = w := by
  have HM := made_no v w h
  clear h
  go_enter Try.func15, Try.ntmps15
  go_wp2_with (go_at_call 40; with_reducible refine HM.mono ?_; rintro e w1 ⟨he, hw⟩; subst he; subst w1)
  go_ret
  exact ⟨rfl, rfl⟩
theorem same_nn (v u : Value) (w : World) (h : NM w v) (h2 : NM w u) :
    Calls Try.prog 11 #[v, u] w fun e w' => e = .returned (.bool true) ∧ w' = w := by
  have HM := made_no v w h
  have HU := made_no u w h2
  clear h h2
  go_enter Try.func11, Try.ntmps11
  go_wp2_with (first
    | (go_at_call 40; with_reducible refine HM.mono ?_; rintro e w1 ⟨he, hw⟩; subst he; subst w1)
    | (go_at_call 40; with_reducible refine HU.mono ?_; rintro e w1 ⟨he, hw⟩; subst he; subst w1))
  go_ret
  exact ⟨rfl, rfl⟩
theorem same_nm (v : Value) (mb gb : Nat) (w : World) (h : NM w v) (h2 : w.cell? ⟨mb, 0, none⟩ = some (.map (some gb))) :
    Calls Try.prog 11 #[v, .pointer (some ⟨mb, 0, none⟩)] w fun e w' => e = .returned (.bool false) ∧ w' = w := by
  have HM := made_no v w h
  have HU := made_ok mb gb w h2
  clear h h2
  go_enter Try.func11, Try.ntmps11
  go_wp2_with (first
    | (go_at_call 40; with_reducible refine HM.mono ?_; rintro e w1 ⟨he, hw⟩; subst he; subst w1)
    | (go_at_call 40; with_reducible refine HU.mono ?_; rintro e w1 ⟨he, hw⟩; subst he; subst w1))
  go_ret
  exact ⟨rfl, rfl⟩
theorem same_mn (v : Value) (mb gb : Nat) (w : World) (h : NM w v) (h2 : w.cell? ⟨mb, 0, none⟩ = some (.map (some gb))) :
    Calls Try.prog 11 #[.pointer (some ⟨mb, 0, none⟩), v] w fun e w' => e = .returned (.bool false) ∧ w' = w := by
  have HM := made_no v w h
  have HU := made_ok mb gb w h2
  clear h h2
  go_enter Try.func11, Try.ntmps11
  go_wp2_with (first
    | (go_at_call 40; with_reducible refine HM.mono ?_; rintro e w1 ⟨he, hw⟩; subst he; subst w1)
    | (go_at_call 40; with_reducible refine HU.mono ?_; rintro e w1 ⟨he, hw⟩; subst he; subst w1))
  go_ret
  exact ⟨rfl, rfl⟩
theorem two_set {W : World} {b : Nat} {u v x y : Value} (h0 : W.cell? ⟨b, 0, none⟩ = some x) (h1 : W.cell? ⟨b, 1, none⟩ = some y) :
    ((W.setCell ⟨b, 0, none⟩ u).setCell ⟨b, 1, none⟩ v).cell? ⟨b, 0, none⟩ = some u ∧ ((W.setCell ⟨b, 0, none⟩ u).setCell ⟨b, 1, none⟩ v).cell? ⟨b, 1, none⟩ = some v := by
  have e1 : (W.setCell ⟨b, 0, none⟩ u).cell? ⟨b, 1, none⟩ = some y := (World.cell?_setCell_other W ⟨b, 0, none⟩ ⟨b, 1, none⟩ u (by intro h; injection h with _ h; cases h)).trans h1
  refine ⟨?_, World.cell?_setCell_same _ _ _ e1⟩
  exact (World.cell?_setCell_other (W.setCell ⟨b, 0, none⟩ u) ⟨b, 1, none⟩ ⟨b, 0, none⟩ v (by intro h; injection h with _ h; cases h)).trans (World.cell?_setCell_same _ _ _ h0)
theorem span_keep {w w1 : World} (hb : Below (w.alloc (.cells #[.int .u64 0, .int .u64 0] 90)).heap.size (w.alloc (.cells #[.int .u64 0, .int .u64 0] 90)) w1) {o : Obj} :
    (w1.alloc o).cell? ⟨w.heap.size, 0, none⟩ = some (.int .u64 0) ∧ (w1.alloc o).cell? ⟨w.heap.size, 1, none⟩ = some (.int .u64 0) ∧ (w1.alloc o).frozen? ⟨w.heap.size, 0, none⟩ = false ∧ (w1.alloc o).frozen? ⟨w.heap.size, 1, none⟩ = false := by
  have e : (w1.alloc o).heap[w.heap.size]? = some (.cells #[.int .u64 0, .int .u64 0] 90) := by
    rw [Below.heap_alloc _ _ _ (by have := hb.size; simp at this; omega), hb.block _ (by simp)]
    exact heap_last w _
  simp [World.cell?, World.frozen?, e]
theorem there_no (v : Value) (a : Nat) (pages may : Int) (w : World) (h : NM w v) :
    Calls Try.prog 51 #[v, .int .u64 a, .int .i64 pages, .int .i64 may] w fun e w' => e = .returned (.tuple #[spV 0 0, .int .i64 1]) ∧ Below w.heap.size w w' := by
  have HN := named_no v a pages may (w.alloc (.cells #[.int .u64 0, .int .u64 0] 90)) (h.below ((Below.refl _ _).alloc (Nat.le_refl _) _))
  have HB : Hid (Below w.heap.size w (w.alloc (.cells #[.int .u64 0, .int .u64 0] 90))) := ⟨(Below.refl _ _).alloc (Nat.le_refl _) _⟩
  clear h
  unfold spV at *
  go_enter Try.func51, Try.ntmps51
  go_wp2_with (go_at_call 49; with_reducible refine HN.mono ?_; rintro e w1 ⟨he, hb⟩; subst he; have hX := span_keep hb (o := .cells #[.int .u64 0, .int .u64 0] 90); obtain ⟨x0, x1, x2, x3⟩ := hX)
  refine bodyPost_ret (res_span Try.results51 _ _ w.heap.size (.int .u64 0) (.int .u64 0) rfl (two_set x0 x1).1 (two_set x0 x1).2) rfl ?_
  have B1 := (HB.out.trans (hb.mono (by simp))).alloc (HB.out.trans (hb.mono (by simp))).size (.cells #[.int .u64 0, .int .u64 0] 90)
  exact ⟨rfl, (B1.setCell (p := ⟨w.heap.size, 0, none⟩) (Nat.le_refl _) _).setCell (p := ⟨w.heap.size, 1, none⟩) (Nat.le_refl _) _⟩

theorem unmap_no (v : Value) (a : Nat) (pages : Int) (w : World) (h : NM w v) :
    Calls Try.prog 26 #[v, .int .u64 a, .int .i64 pages] w fun e w' => e = .returned (.int .i64 1) ∧ Below w.heap.size w w' := by
  have HN := there_no v a pages 0 w h
  clear h
  unfold spV at HN
  go_enter Try.func26, Try.ntmps26
  go_wp2_with (go_at_call 51; with_reducible refine HN.mono ?_; rintro e w1 ⟨he, hb⟩; subst he)
  go_loopw [9] (fun nv wr => nv = .int .u64 0 ∧ wr = w1.alloc (.cells #[.int .u64 0, .int .u64 0] 90)) (fun _ _ => 0)
  case atStart => exact ⟨rfl, rfl⟩
  case round =>
    obtain ⟨rfl, rfl⟩ := hrel
    go_wp2
    go_ret
    exact ⟨rfl, hb.alloc hb.size _⟩
theorem protect_no (v : Value) (a : Nat) (pages may : Int) (w : World) (h : NM w v) :
    Calls Try.prog 27 #[v, .int .u64 a, .int .i64 pages, .int .i64 may] w fun e w' => e = .returned (.int .i64 1) ∧ Below w.heap.size w w' := by
  have HN := there_no v a pages may w h
  clear h
  unfold spV at HN
  go_enter Try.func27, Try.ntmps27
  go_wp2_with (go_at_call 51; with_reducible refine HN.mono ?_; rintro e w1 ⟨he, hb⟩; subst he)
  go_loopw [11] (fun nv wr => nv = .int .u64 0 ∧ wr = w1.alloc (.cells #[.int .u64 0, .int .u64 0] 90)) (fun _ _ => 0)
  case atStart => exact ⟨rfl, rfl⟩
  case round =>
    obtain ⟨rfl, rfl⟩ := hrel
    go_wp2
    go_ret
    exact ⟨rfl, hb.alloc hb.size _⟩
end Go.Proofs.Ytpfmnopokfiheaa
