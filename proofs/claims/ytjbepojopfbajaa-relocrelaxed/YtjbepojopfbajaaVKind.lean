/- kindOf and worked. -/
import Derived.Test.YtjbepojopfbajaaVPlain
import Derived.Deep.MidRow
namespace Go.Proofs.Ytjbepojopfbajaa
open Go.ChangeShapes Go.WideShapes Go.ChangeAt Go.RowKit
set_option linter.unusedVariables false
set_option linter.unusedSimpArgs false

theorem fn_one (n : Nat) : (fnV n).oneCell' = true := by unfold fnV; split <;> rfl
theorem kd_one (k : Kd) : (k.cells.toArray).all (·.oneCell') = true := by
  simp [Kd.cells, fn_one]
  exact ⟨rfl, rfl⟩
/-- A block's cells. -/
structure VB (w : World) (b t : Nat) (cs : Array Value) : Prop where
  hp : w.heap[b]? = some (.cells cs t (0, 0))
section
variable {w v : World} {b t : Nat} {cs : Array Value}
theorem VB.lt (h : VB w b t cs) : b < w.heap.size := (Array.getElem?_eq_some_iff.1 h.hp).1
theorem VB.new (w : World) (cs : Array Value) (t : Nat) : VB (w.alloc (.cells cs t)) w.heap.size t cs := ⟨heap_alloc_new w _⟩
theorem VB.of (h : VB w b t cs) (e : v.heap[b]? = w.heap[b]?) : VB v b t cs := ⟨e.trans h.hp⟩
theorem VB.bel (h : VB w b t cs) {B : Nat} (g : Below B w v) (hB : b < B) : VB v b t cs := h.of (g.block b hB)
theorem VB.alloc (h : VB w b t cs) (o : Obj) : VB (w.alloc o) b t cs := h.of (((Below.refl _ w).alloc (Nat.le_refl _) o).block b h.lt)
theorem VB.setO (h : VB w b t cs) {c : Nat} (hc : b ≠ c) (V : Array Value) : VB (w.setRow c V) b t cs := h.of (setRow_other _ _ _ _ hc)
theorem VB.setR (h : VB w b t cs) (V : Array Value) : VB (w.setRow b V) b t V := ⟨setRow_heap w b _ V _ _ h.hp⟩
theorem VB.cell (h : VB w b t cs) (j : Nat) {x : Value} (hj : cs[j]? = some x) : w.cell? ⟨b, j, none⟩ = some x := by
  simp only [World.cell?, h.hp]; simpa using hj
theorem VB.fro (h : VB w b t cs) (j : Nat) : w.frozen? ⟨b, j, none⟩ = false := by simp [World.frozen?, h.hp]
theorem VB.range (h : VB w b t cs) (o : Nat) (M : List Value) (hM : ∀ j v, M[j]? = some v → cs[o + j]? = some v) : w.rangeAt b o M := fun j v hv => h.cell (o + j) (hM j v hv)
theorem vb_setRow {B : Nat} {a : World} (h : Below B a w) {g : Nat} (hg : B ≤ g) (V : Array Value) : Below B a (w.setRow g V) :=
  h.trans ⟨rfl, rfl, rfl, by simp, fun k hk => setRow_other w g k V (by omega)⟩
end

set_option maxHeartbeats 8000000 in
theorem kindOf_any (t : Int) (w : World) :
    Calls Try.prog 32 #[.int .i64 t] w fun e w' => e = .returned (kdOf t).val ∧ Below w.heap.size w w' := by
  obtain ⟨x, hx⟩ : ∃ x, x = kdOf t := ⟨_, rfl⟩
  have HX : Hd (x = kdOf t) := ⟨hx⟩
  have HK : Hd (∀ W, _) := ⟨fun W => kinds_any W⟩
  rw [← hx]
  clear hx
  obtain ⟨T, hT⟩ : ∃ T, tabK = T := ⟨_, rfl⟩
  have HT : Hd (tabK = T) := ⟨hT⟩
  rw [hT] at HK
  clear hT
  obtain ⟨B, hB⟩ : ∃ B, w.heap.size = B := ⟨_, rfl⟩
  rw [hB]
  have hr0 : VB (w.alloc (.cells #[.string ⟨#[]⟩, .int .i64 0, .nilFunc, .nilFunc] 62)) B 62 #[.string ⟨#[]⟩, .int .i64 0, .nilFunc, .nilFunc] := by rw [← hB]; exact VB.new _ _ _
  have hb0 : Below B w (w.alloc (.cells #[.string ⟨#[]⟩, .int .i64 0, .nilFunc, .nilFunc] 62)) := by rw [← hB]; exact vb_alloc (Below.refl _ _) _
  go_enter Try.func32, Try.ntmps32
  go_upto_region 1 with (fail)
  have hl0 : B < (w.alloc (.cells #[.string ⟨#[]⟩, .int .i64 0, .nilFunc, .nilFunc] 62)).heap.size := hr0.lt
  generalize w.alloc (.cells #[.string ⟨#[]⟩, .int .i64 0, .nilFunc, .nilFunc] 62) = w0 at *
  iterate 3 go_step
  go_at_call 41
  refine (HK.out _).mono ?_
  rintro e w1 ⟨rfl, hb1⟩
  dsimp only
  iterate 4 go_step
  refine wpList_store_row rfl 80 (.tmp 3) (.tmp 4) rfl w1.heap.size T rfl rfl 80 Try.zeroCells80 (heap_alloc_last _ _) (by rw [← HT.out]; kernel_rfl) (by rw [← HT.out]; kernel_rfl) (by rw [← HT.out]; kernel_rfl) ?_
  refine wpList_nil ?_
  have hT2 : VB ((w1.alloc (.cells Try.zeroCells80 80)).setRow w1.heap.size T) w1.heap.size 80 T := (VB.new w1 _ _).setR T
  have hl1 : B < w1.heap.size := Nat.lt_of_lt_of_le hl0 hb1.size
  have hr2 : VB ((w1.alloc (.cells Try.zeroCells80 80)).setRow w1.heap.size T) B 62 #[.string ⟨#[]⟩, .int .i64 0, .nilFunc, .nilFunc] := ((hr0.bel hb1 hl0).alloc _).setO (by omega) T
  have hb2 : Below B w ((w1.alloc (.cells Try.zeroCells80 80)).setRow w1.heap.size T) := vb_setRow ((hb0.trans (hb1.mono (by omega))).alloc (by omega) _) (by omega) T
  clear hb0 hr0 hb1 HK
  obtain ⟨g, hg⟩ : ∃ g, w1.heap.size = g := ⟨_, rfl⟩
  rw [hg] at hT2 hr2 hb2 hl1 ⊢
  generalize (w1.alloc (.cells Try.zeroCells80 80)).setRow g T = W at *
  clear hg hl0
  by_cases h0 : t < 0 ∨ 38 ≤ t
  · obtain rfl : x = Kd.zero := HX.out.trans (if_pos h0)
    have h1 : (decide (t < 0) || decide (38 ≤ t)) = true := by simpa using h0
    have HE : Hd (∀ V, VB (W.setRow B V) B 62 V) := ⟨fun V => hr2.setR V⟩
    have HB : Hd (∀ V, Below B w (W.setRow B V)) := ⟨fun V => vb_setRow hb2 (Nat.le_refl _) V⟩
    have HR : Hd _ := ⟨hr2⟩
    clear hb2 hr2 hT2
    go_upto_region 3 with (fail)
    all_goals
      iterate 4 go_step
      refine wpList_store_row rfl 62 (.tmp 2) (.tmp 11) rfl B Kd.zero.cells.toArray rfl (by kernel_rfl) 62 _ HR.out.hp (by kernel_rfl) (by kernel_rfl) (by kernel_rfl) ?_
      refine wpList_nil ?_
      iterate 4 go_step
      refine bodyPost_ret (v := Kd.zero.val) (results_cell_row (p := 2) (ty := 62) Try.results32 _ _ B 62 Kd.zero.cells.toArray (0, 0) _ (by kernel_rfl) (HE.out _).hp Try.underlying62 rfl (by kernel_rfl)) (by kernel_rfl) ⟨rfl, HB.out _⟩
  · have h1 : decide (t < 0) = false := decide_eq_false (by omega)
    have h2 : decide (38 ≤ t) = false := decide_eq_false (by omega)
    obtain ⟨k, hk, rfl⟩ : ∃ k : Nat, k < 38 ∧ t = k := ⟨t.toNat, by omega, by omega⟩
    have hxk : x = kdsL.getD k Kd.zero := by rw [HX.out]; unfold kdOf; rw [if_neg h0]; simp
    have HM : Hd (W.rangeAt g (k * 4) x.cells) := ⟨hT2.range (k * 4) x.cells (fun j v hv => by
      have hj : j < 4 := by
        have := (List.getElem?_eq_some_iff.1 hv).1
        simpa [Kd.cells] using this
      rw [← HT.out, tabK_at k hk j hj, ← hxk]; exact hv)⟩
    have HE : Hd (∀ V, VB (W.setRow B V) B 62 V) := ⟨fun V => hr2.setR V⟩
    have HB : Hd (∀ V, Below B w (W.setRow B V)) := ⟨fun V => vb_setRow hb2 (Nat.le_refl _) V⟩
    have HR : Hd _ := ⟨hr2⟩
    clear hb2 hr2 hT2 hxk HT
    go_upto_region 4 with (fail)
    iterate 7 go_step
    refine wpList_load_mid rfl 62 (.tmp 13) rfl g (k * 4) rfl x.cells _ HM.out Try.underlying62 rfl (by kernel_rfl) ?_
    refine wpList_store_row rfl 62 (.tmp 2) (.tmp 14) rfl B x.cells.toArray rfl rfl 62 _ HR.out.hp (by kernel_rfl) (by kernel_rfl) (kd_one x) ?_
    refine wpList_nil ?_
    iterate 3 go_step
    refine bodyPost_ret (v := x.val) (results_cell_row (p := 2) (ty := 62) Try.results32 _ _ B 62 x.cells.toArray (0, 0) _ (by kernel_rfl) (HE.out _).hp Try.underlying62 rfl (by kernel_rfl)) rfl ⟨rfl, HB.out _⟩
end Go.Proofs.Ytjbepojopfbajaa
