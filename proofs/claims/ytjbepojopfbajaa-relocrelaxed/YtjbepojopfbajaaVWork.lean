/- worked, Size, Name. -/
import Derived.Test.YtjbepojopfbajaaVKind
namespace Go.Proofs.Ytjbepojopfbajaa
open Go.ChangeShapes Go.WideShapes Go.ChangeAt Go.RowKit
set_option linter.unusedVariables false
set_option linter.unusedSimpArgs false

theorem kd_both : ∀ t, (kdOf t).v = 0 ↔ (kdOf t).f = 0 := by
  apply kd_cases (fun _ k => k.v = 0 ↔ k.f = 0)
  · intro t _; exact Iff.rfl
  · intro t ht
    have : ∀ k, k < 38 → ((kdsL.getD k Kd.zero).v = 0 ↔ (kdsL.getD k Kd.zero).f = 0) := by decide +kernel
    exact this t ht
theorem kd_val0 (nm : ByteArray) (sz : Int) : (⟨nm, sz, 0, 0⟩ : Kd).val = .agg #[.string nm, .int .i64 sz, .nilFunc, .nilFunc] := rfl
theorem kd_valN (nm : ByteArray) (sz : Int) (v f : Nat) (hv : v ≠ 0) (hf : f ≠ 0) : (⟨nm, sz, v, f⟩ : Kd).val = .agg #[.string nm, .int .i64 sz, .func (.func v) #[] #[], .func (.func f) #[] #[]] := by
  simp [Kd.val, Kd.cells, fnV, hv, hf]
theorem kd_rowN (nm : ByteArray) (sz : Int) (v f : Nat) (hv : v ≠ 0) (hf : f ≠ 0) : (⟨nm, sz, v, f⟩ : Kd).cells.toArray = #[.string nm, .int .i64 sz, .func (.func v) #[] #[], .func (.func f) #[] #[]] := by
  simp [Kd.cells, fnV, hv, hf]
/-- What worked answers. -/
def wkM (t : Int) : Kd := if (kdOf t).v = 0 then Kd.zero else kdOf t
def wkE (t : Int) : Int := if (kdOf t).v = 0 then 200 else 0
theorem res_kd {fn : Func} {q u : Tmp} (h : fn.results = #[.cell q 62, .tmp u]) (tmps : Array Value) (w : World) (g : Nat) (k : Kd) (v : Value) (hp : tmps.getD q undef = .pointer (some ⟨g, 0, none⟩)) (hg : VB w g 62 k.cells.toArray) (hu : tmps.getD u undef = v) :
    (results fn tmps).run Try.prog w = .ok (.tuple #[k.val, v]) w := by
  rw [results_cell_tmp h, hp, hu]
  have hl := run_loadVar_row (P := Try.prog) w g 62 62 k.cells.toArray (0, 0) _ hg.hp Try.underlying62 rfl (by kernel_rfl)
  simp [asAddr, hl, Result.andThen]
  rfl
theorem res2 {w : World} {b : Nat} {k : Kd} (h : VB w b 62 k.cells.toArray) : (loadVar 62 ⟨b, 0, none⟩).run Try.prog w = .ok k.val w :=
  run_loadVar_row w b _ _ _ _ _ h.hp Try.underlying62 rfl (by kernel_rfl)

theorem fn_nil (W : World) : (binOp .eql 60 .nilFunc .nilFunc).run Try.prog W = .ok (.bool true) W := by kernel_rfl
theorem fn_some (v : Nat) (W : World) : (binOp .eql 60 (.func (.func v) #[] #[]) .nilFunc).run Try.prog W = .ok (.bool false) W := by kernel_rfl
def z4 : Array Value := #[.string ⟨#[]⟩, .int .i64 0, .nilFunc, .nilFunc]
/-- A kind that has just come into a block of its own. -/
theorem kd_new (w : World) (cs : Array Value) : VB ((w.alloc (.cells #[.string ⟨#[]⟩, .int .i64 0, .nilFunc, .nilFunc] 62)).setRow w.heap.size cs) w.heap.size 62 cs := (VB.new w _ _).setR cs

set_option maxHeartbeats 8000000 in
set_option maxRecDepth 20000 in
theorem worked_any (t : Int) (w : World) :
    Calls Try.prog 29 #[.int .i64 t] w fun e w' => e = .returned (.tuple #[(wkM t).val, .int .i64 (wkE t)]) ∧ Below w.heap.size w w' := by
  have HK : Hd (∀ W, _) := ⟨fun W => kindOf_any t W⟩
  have hb := kd_both t
  unfold wkM wkE
  obtain ⟨x, hx⟩ : ∃ x, kdOf t = x := ⟨_, rfl⟩
  rw [hx] at hb HK ⊢
  clear hx
  obtain ⟨nm, sz, v, f⟩ := x
  obtain ⟨B, hB⟩ : ∃ B, w.heap.size = B := ⟨_, rfl⟩
  rw [hB]
  have hr0 : VB (w.alloc (.cells #[.string ⟨#[]⟩, .int .i64 0, .nilFunc, .nilFunc] 62)) B 62 #[.string ⟨#[]⟩, .int .i64 0, .nilFunc, .nilFunc] := by rw [← hB]; exact VB.new _ _ _
  have hb0 : Below B w (w.alloc (.cells #[.string ⟨#[]⟩, .int .i64 0, .nilFunc, .nilFunc] 62)) := by rw [← hB]; exact vb_alloc (Below.refl _ _) _
  have HR0 : Hd _ := ⟨hr0⟩
  have HB0 : Hd _ := ⟨hb0⟩
  clear hr0 hb0
  by_cases h0 : v = 0
  · obtain rfl : f = 0 := hb.1 h0
    subst h0
    rw [if_pos rfl, if_pos rfl]
    rw [kd_val0] at HK
    rw [show Kd.zero.val = .agg #[.string ⟨#[]⟩, .int .i64 0, .nilFunc, .nilFunc] from rfl]
    go_enter Try.func29, Try.ntmps29
    go_upto_region 2 with (first
      | (go_at_call 32; refine (HK.out _).mono ?_; rintro e w1 ⟨rfl, hb1⟩; have HB1 : Hd _ := ⟨hb1⟩; clear hb1)
      | ((with_reducible refine wpList_store_row rfl 62 (.tmp 4) (.tmp 6) rfl w1.heap.size #[.string nm, .int .i64 sz, .nilFunc, .nilFunc] ?_ ?_ 62 _ (heap_alloc_last _ _) ?_ ?_ ?_ ?_); rfl; rfl; kernel_rfl; kernel_rfl; kernel_rfl))
    have hl1 : B < w1.heap.size := Nat.lt_of_lt_of_le HR0.out.lt HB1.out.size
    have hk := kd_new w1 #[.string nm, .int .i64 sz, .nilFunc, .nilFunc]
    have HR : Hd (VB ((w1.alloc (.cells #[.string ⟨#[]⟩, .int .i64 0, .nilFunc, .nilFunc] 62)).setRow w1.heap.size #[.string nm, .int .i64 sz, .nilFunc, .nilFunc]) B 62 _) := ⟨((HR0.out.bel HB1.out HR0.out.lt).alloc _).setO (by omega) _⟩
    have HB : Hd (Below B w ((w1.alloc (.cells #[.string ⟨#[]⟩, .int .i64 0, .nilFunc, .nilFunc] 62)).setRow w1.heap.size #[.string nm, .int .i64 sz, .nilFunc, .nilFunc])) := ⟨vb_setRow ((HB0.out.trans (HB1.out.mono (by have := HR0.out.lt; omega))).alloc (by omega) _) (by omega) _⟩
    obtain ⟨g, hg⟩ : ∃ g, w1.heap.size = g := ⟨_, rfl⟩
    rw [hg] at hk HR HB ⊢
    generalize (w1.alloc (.cells #[.string ⟨#[]⟩, .int .i64 0, .nilFunc, .nilFunc] 62)).setRow g #[.string nm, .int .i64 sz, .nilFunc, .nilFunc] = W at *
    clear HR0 HB0 HB1 hg HK hB
    have k2 : W.cell? ⟨g, 2, none⟩ = some .nilFunc := hk.cell 2 rfl
    clear hk
    have hfn := fn_nil W
    have HW : Hd (∀ V, VB (W.setRow B V) B 62 V) := ⟨fun V => HR.out.setR V⟩
    have HC : Hd (∀ V, Below B w (W.setRow B V)) := ⟨fun V => vb_setRow HB.out (Nat.le_refl _) V⟩
    go_wp2_with ((with_reducible refine wpList_store_row rfl 62 (.tmp 2) (.tmp 10) rfl B Kd.zero.cells.toArray ?_ ?_ 62 _ HR.out.hp ?_ ?_ ?_ ?_); rfl; kernel_rfl; kernel_rfl; kernel_rfl; kernel_rfl)
    exact bodyPost_ret (v := .tuple #[Kd.zero.val, .int .i64 200]) (res_kd (q := 2) (u := 3) (by kernel_rfl) _ _ B Kd.zero _ (by kernel_rfl) (HW.out _) (by kernel_rfl)) rfl ⟨rfl, HC.out _⟩
  · rw [if_neg h0, if_neg h0]
    have h9 : f ≠ 0 := fun e => h0 (hb.2 e)
    rw [kd_valN nm sz v f h0 h9] at HK ⊢
    go_enter Try.func29, Try.ntmps29
    go_upto_region 2 with (first
      | (go_at_call 32; refine (HK.out _).mono ?_; rintro e w1 ⟨rfl, hb1⟩; have HB1 : Hd _ := ⟨hb1⟩; clear hb1)
      | ((with_reducible refine wpList_store_row rfl 62 (.tmp 4) (.tmp 6) rfl w1.heap.size #[.string nm, .int .i64 sz, .func (.func v) #[] #[], .func (.func f) #[] #[]] ?_ ?_ 62 _ (heap_alloc_last _ _) ?_ ?_ ?_ ?_); rfl; rfl; kernel_rfl; kernel_rfl; kernel_rfl))
    have hl1 : B < w1.heap.size := Nat.lt_of_lt_of_le HR0.out.lt HB1.out.size
    have hk := kd_new w1 #[.string nm, .int .i64 sz, .func (.func v) #[] #[], .func (.func f) #[] #[]]
    have HR : Hd (VB ((w1.alloc (.cells #[.string ⟨#[]⟩, .int .i64 0, .nilFunc, .nilFunc] 62)).setRow w1.heap.size #[.string nm, .int .i64 sz, .func (.func v) #[] #[], .func (.func f) #[] #[]]) B 62 _) := ⟨((HR0.out.bel HB1.out HR0.out.lt).alloc _).setO (by omega) _⟩
    have HB : Hd (Below B w ((w1.alloc (.cells #[.string ⟨#[]⟩, .int .i64 0, .nilFunc, .nilFunc] 62)).setRow w1.heap.size #[.string nm, .int .i64 sz, .func (.func v) #[] #[], .func (.func f) #[] #[]])) := ⟨vb_setRow ((HB0.out.trans (HB1.out.mono (by have := HR0.out.lt; omega))).alloc (by omega) _) (by omega) _⟩
    obtain ⟨g, hg⟩ : ∃ g, w1.heap.size = g := ⟨_, rfl⟩
    rw [hg] at hk HR HB ⊢
    generalize (w1.alloc (.cells #[.string ⟨#[]⟩, .int .i64 0, .nilFunc, .nilFunc] 62)).setRow g #[.string nm, .int .i64 sz, .func (.func v) #[] #[], .func (.func f) #[] #[]] = W at *
    clear HR0 HB0 HB1 hg HK hB
    have k2 : W.cell? ⟨g, 2, none⟩ = some (.func (.func v) #[] #[]) := hk.cell 2 rfl
    have HK2 : Hd _ := ⟨hk⟩
    clear hk
    have hfn := fn_some v W
    have HW : Hd (∀ V, VB (W.setRow B V) B 62 V) := ⟨fun V => HR.out.setR V⟩
    have HC : Hd (∀ V, Below B w (W.setRow B V)) := ⟨fun V => vb_setRow HB.out (Nat.le_refl _) V⟩
    go_wp2_with (first
      | ((with_reducible refine wpList_load_row rfl 62 (.tmp 4) rfl g ?_ 62 #[.string nm, .int .i64 sz, .func (.func v) #[] #[], .func (.func f) #[] #[]] (0, 0) _ HK2.out.hp Try.underlying62 ?_ ?_ ?_); rfl; rfl; kernel_rfl)
      | ((with_reducible refine wpList_store_row rfl 62 (.tmp 2) (.tmp 11) rfl B #[.string nm, .int .i64 sz, .func (.func v) #[] #[], .func (.func f) #[] #[]] ?_ ?_ 62 _ HR.out.hp ?_ ?_ ?_ ?_); rfl; rfl; kernel_rfl; kernel_rfl; kernel_rfl))
    exact bodyPost_ret (v := .tuple #[(⟨nm, sz, v, f⟩ : Kd).val, .int .i64 0]) (res_kd (q := 2) (u := 3) (by kernel_rfl) _ _ B ⟨nm, sz, v, f⟩ _ (by kernel_rfl) (by rw [kd_rowN nm sz v f h0 h9]; exact HW.out _) (by kernel_rfl)) rfl ⟨by rw [kd_valN nm sz v f h0 h9], HC.out _⟩
end Go.Proofs.Ytjbepojopfbajaa
