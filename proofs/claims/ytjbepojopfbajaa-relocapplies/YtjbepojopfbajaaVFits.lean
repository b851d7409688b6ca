/- Fits. -/
import Derived.Test.YtjbepojopfbajaaVLeb
namespace Go.Proofs.Ytjbepojopfbajaa
open Go.ChangeShapes Go.WideShapes Go.ChangeAt Go.RowKit
set_option linter.unusedVariables false
set_option linter.unusedSimpArgs false

theorem signed_any (n : Int) (w : World) : Calls Try.prog 60 #[.int .i64 n] w fun e w' => e = .returned (.bool (fitsB n 32 true)) ∧ w' = w := by
  have HF : Hid (∀ W, _) := ⟨fun W => fits_any n 32 true W⟩
  go_enter Try.func60, Try.ntmps60
  go_wp2_with (go_at_call 42; refine (HF.out _).mono ?_; rintro e w1 ⟨rfl, rfl⟩)
  go_ret
  exact ⟨rfl, rfl⟩
theorem unsigned_any (n : Int) (w : World) : Calls Try.prog 62 #[.int .i64 n] w fun e w' => e = .returned (.bool (fitsB n 32 false)) ∧ w' = w := by
  have HF : Hid (∀ W, _) := ⟨fun W => fits_any n 32 false W⟩
  go_enter Try.func62, Try.ntmps62
  go_wp2_with (go_at_call 42; refine (HF.out _).mono ?_; rintro e w1 ⟨rfl, rfl⟩)
  go_ret
  exact ⟨rfl, rfl⟩
def fOf (f : Nat) (n : Int) : Bool := if f = 58 then true else if f = 62 then fitsB n 32 false else fitsB n 32 true
def fitM (t : Int) (n : Int) : Bool := if (kdOf t).v = 0 then false else fOf (kdOf t).f n
theorem kd_f : ∀ t, (kdOf t).v = 0 ∨ (kdOf t).f = 58 ∨ (kdOf t).f = 60 ∨ (kdOf t).f = 62 := by
  apply kd_cases (fun _ k => k.v = 0 ∨ k.f = 58 ∨ k.f = 60 ∨ k.f = 62)
  · intro t _; exact .inl rfl
  · intro t ht
    have : ∀ k, k < 38 → ((kdsL.getD k Kd.zero).v = 0 ∨ (kdsL.getD k Kd.zero).f = 58 ∨ (kdsL.getD k Kd.zero).f = 60 ∨ (kdsL.getD k Kd.zero).f = 62) := by decide +kernel
    exact this t ht
set_option maxHeartbeats 400000 in
set_option maxRecDepth 20000 in
theorem fits_always (t n : Int) (w : World) (hv : (kdOf t).v ≠ 0) (hf : (kdOf t).f = 58) :
    Calls Try.prog 13 #[.int .i64 t, .int .i64 n] w fun e w' => e = .returned (.tuple #[.bool (fOf (kdOf t).f n), .int .i64 0]) ∧ Below w.heap.size w w' := by
  have HK : Hid (∀ W, _) := ⟨fun W => worked_any t W⟩
  have HV : Hid (∀ W, _) := ⟨fun W => always_any n W⟩
  have e1 : wkE t = 0 := if_neg hv
  have e2 : wkM t = kdOf t := if_neg hv
  rw [e1, e2] at HK
  rw [hf]
  clear e1 e2
  obtain ⟨x, hx⟩ : ∃ x, kdOf t = x := ⟨_, rfl⟩
  rw [hx] at HK hv hf
  clear hx
  obtain ⟨nm, sz, v, f⟩ := x
  dsimp only at hv hf
  subst hf
  rw [kd_valN nm sz v _ hv (by decide)] at HK
  go_enter Try.func13, Try.ntmps13
  go_upto_region 2 with (first
    | (go_at_call 29; refine (HK.out _).mono ?_; rintro e w1 ⟨rfl, hb1⟩; have HB1 : Hid _ := ⟨hb1⟩; clear hb1)
    | ((with_reducible refine wpList_store_row rfl 62 (.tmp 6) (.tmp 11) rfl w1.heap.size #[.string nm, .int .i64 sz, .func (.func v) #[] #[], .func (.func 58) #[] #[]] ?_ ?_ 62 _ (heap_alloc_last _ _) ?_ ?_ ?_ ?_); rfl; rfl; kernel_rfl; kernel_rfl; kernel_rfl))
  have hk := kd_new w1 #[.string nm, .int .i64 sz, .func (.func v) #[] #[], .func (.func 58) #[] #[]]
  have HB : Hid (Below w.heap.size w ((w1.alloc (.cells #[.string ⟨#[]⟩, .int .i64 0, .nilFunc, .nilFunc] 62)).setRow w1.heap.size #[.string nm, .int .i64 sz, .func (.func v) #[] #[], .func (.func 58) #[] #[]])) := ⟨vb_setRow (HB1.out.alloc HB1.out.size _) HB1.out.size _⟩
  obtain ⟨g, hg⟩ : ∃ g, w1.heap.size = g := ⟨_, rfl⟩
  rw [hg] at hk HB ⊢
  generalize (w1.alloc (.cells #[.string ⟨#[]⟩, .int .i64 0, .nilFunc, .nilFunc] 62)).setRow g #[.string nm, .int .i64 sz, .func (.func v) #[] #[], .func (.func 58) #[] #[]] = W at *
  have g3 : W.cell? ⟨g, 3, none⟩ = some (.func (.func 58) #[] #[]) := hk.cell 3 rfl
  clear HB1 hg HK hk
  go_wp2_with (go_at_call 58; refine (HV.out _).mono ?_; rintro e w3 ⟨rfl, rfl⟩)
  go_ret2
  exact ⟨rfl, HB.out⟩
set_option maxHeartbeats 400000 in
set_option maxRecDepth 20000 in
theorem fits_signed (t n : Int) (w : World) (hv : (kdOf t).v ≠ 0) (hf : (kdOf t).f = 60) :
    Calls Try.prog 13 #[.int .i64 t, .int .i64 n] w fun e w' => e = .returned (.tuple #[.bool (fOf (kdOf t).f n), .int .i64 0]) ∧ Below w.heap.size w w' := by
  have HK : Hid (∀ W, _) := ⟨fun W => worked_any t W⟩
  have HV : Hid (∀ W, _) := ⟨fun W => signed_any n W⟩
  have e1 : wkE t = 0 := if_neg hv
  have e2 : wkM t = kdOf t := if_neg hv
  rw [e1, e2] at HK
  rw [hf]
  clear e1 e2
  obtain ⟨x, hx⟩ : ∃ x, kdOf t = x := ⟨_, rfl⟩
  rw [hx] at HK hv hf
  clear hx
  obtain ⟨nm, sz, v, f⟩ := x
  dsimp only at hv hf
  subst hf
  rw [kd_valN nm sz v _ hv (by decide)] at HK
  go_enter Try.func13, Try.ntmps13
  go_upto_region 2 with (first
    | (go_at_call 29; refine (HK.out _).mono ?_; rintro e w1 ⟨rfl, hb1⟩; have HB1 : Hid _ := ⟨hb1⟩; clear hb1)
    | ((with_reducible refine wpList_store_row rfl 62 (.tmp 6) (.tmp 11) rfl w1.heap.size #[.string nm, .int .i64 sz, .func (.func v) #[] #[], .func (.func 60) #[] #[]] ?_ ?_ 62 _ (heap_alloc_last _ _) ?_ ?_ ?_ ?_); rfl; rfl; kernel_rfl; kernel_rfl; kernel_rfl))
  have hk := kd_new w1 #[.string nm, .int .i64 sz, .func (.func v) #[] #[], .func (.func 60) #[] #[]]
  have HB : Hid (Below w.heap.size w ((w1.alloc (.cells #[.string ⟨#[]⟩, .int .i64 0, .nilFunc, .nilFunc] 62)).setRow w1.heap.size #[.string nm, .int .i64 sz, .func (.func v) #[] #[], .func (.func 60) #[] #[]])) := ⟨vb_setRow (HB1.out.alloc HB1.out.size _) HB1.out.size _⟩
  obtain ⟨g, hg⟩ : ∃ g, w1.heap.size = g := ⟨_, rfl⟩
  rw [hg] at hk HB ⊢
  generalize (w1.alloc (.cells #[.string ⟨#[]⟩, .int .i64 0, .nilFunc, .nilFunc] 62)).setRow g #[.string nm, .int .i64 sz, .func (.func v) #[] #[], .func (.func 60) #[] #[]] = W at *
  have g3 : W.cell? ⟨g, 3, none⟩ = some (.func (.func 60) #[] #[]) := hk.cell 3 rfl
  clear HB1 hg HK hk
  go_wp2_with (go_at_call 60; refine (HV.out _).mono ?_; rintro e w3 ⟨rfl, rfl⟩)
  go_ret2
  exact ⟨rfl, HB.out⟩
set_option maxHeartbeats 400000 in
set_option maxRecDepth 20000 in
theorem fits_unsigned (t n : Int) (w : World) (hv : (kdOf t).v ≠ 0) (hf : (kdOf t).f = 62) :
    Calls Try.prog 13 #[.int .i64 t, .int .i64 n] w fun e w' => e = .returned (.tuple #[.bool (fOf (kdOf t).f n), .int .i64 0]) ∧ Below w.heap.size w w' := by
  have HK : Hid (∀ W, _) := ⟨fun W => worked_any t W⟩
  have HV : Hid (∀ W, _) := ⟨fun W => unsigned_any n W⟩
  have e1 : wkE t = 0 := if_neg hv
  have e2 : wkM t = kdOf t := if_neg hv
  rw [e1, e2] at HK
  rw [hf]
  clear e1 e2
  obtain ⟨x, hx⟩ : ∃ x, kdOf t = x := ⟨_, rfl⟩
  rw [hx] at HK hv hf
  clear hx
  obtain ⟨nm, sz, v, f⟩ := x
  dsimp only at hv hf
  subst hf
  rw [kd_valN nm sz v _ hv (by decide)] at HK
  go_enter Try.func13, Try.ntmps13
  go_upto_region 2 with (first
    | (go_at_call 29; refine (HK.out _).mono ?_; rintro e w1 ⟨rfl, hb1⟩; have HB1 : Hid _ := ⟨hb1⟩; clear hb1)
    | ((with_reducible refine wpList_store_row rfl 62 (.tmp 6) (.tmp 11) rfl w1.heap.size #[.string nm, .int .i64 sz, .func (.func v) #[] #[], .func (.func 62) #[] #[]] ?_ ?_ 62 _ (heap_alloc_last _ _) ?_ ?_ ?_ ?_); rfl; rfl; kernel_rfl; kernel_rfl; kernel_rfl))
  have hk := kd_new w1 #[.string nm, .int .i64 sz, .func (.func v) #[] #[], .func (.func 62) #[] #[]]
  have HB : Hid (Below w.heap.size w ((w1.alloc (.cells #[.string ⟨#[]⟩, .int .i64 0, .nilFunc, .nilFunc] 62)).setRow w1.heap.size #[.string nm, .int .i64 sz, .func (.func v) #[] #[], .func (.func 62) #[] #[]])) := ⟨vb_setRow (HB1.out.alloc HB1.out.size _) HB1.out.size _⟩
  obtain ⟨g, hg⟩ : ∃ g, w1.heap.size = g := ⟨_, rfl⟩
  rw [hg] at hk HB ⊢
  generalize (w1.alloc (.cells #[.string ⟨#[]⟩, .int .i64 0, .nilFunc, .nilFunc] 62)).setRow g #[.string nm, .int .i64 sz, .func (.func v) #[] #[], .func (.func 62) #[] #[]] = W at *
  have g3 : W.cell? ⟨g, 3, none⟩ = some (.func (.func 62) #[] #[]) := hk.cell 3 rfl
  clear HB1 hg HK hk
  go_wp2_with (go_at_call 62; refine (HV.out _).mono ?_; rintro e w3 ⟨rfl, rfl⟩)
  go_ret2
  exact ⟨rfl, HB.out⟩
set_option maxHeartbeats 400000 in
set_option maxRecDepth 20000 in
theorem fits_none (t n : Int) (w : World) (hv : (kdOf t).v = 0) :
    Calls Try.prog 13 #[.int .i64 t, .int .i64 n] w fun e w' => e = .returned (.tuple #[.bool false, .int .i64 200]) ∧ Below w.heap.size w w' := by
  have HK : Hid (∀ W, _) := ⟨fun W => worked_any t W⟩
  have e1 : wkE t = 200 := if_pos hv
  have e2 : wkM t = Kd.zero := if_pos hv
  rw [e1, e2] at HK
  clear e1 e2 hv
  go_enter Try.func13, Try.ntmps13
  go_upto_region 2 with (first
    | (go_at_call 29; refine (HK.out _).mono ?_; rintro e w1 ⟨rfl, hb1⟩; have HB1 : Hid _ := ⟨hb1⟩; clear hb1)
    | ((with_reducible refine wpList_store_row rfl 62 (.tmp 6) (.tmp 11) rfl w1.heap.size Kd.zero.cells.toArray ?_ ?_ 62 _ (heap_alloc_last _ _) ?_ ?_ ?_ ?_); rfl; rfl; kernel_rfl; kernel_rfl; kernel_rfl))
  have HB : Hid (Below w.heap.size w ((w1.alloc (.cells #[.string ⟨#[]⟩, .int .i64 0, .nilFunc, .nilFunc] 62)).setRow w1.heap.size Kd.zero.cells.toArray)) := ⟨vb_setRow (HB1.out.alloc HB1.out.size _) HB1.out.size _⟩
  generalize (w1.alloc (.cells #[.string ⟨#[]⟩, .int .i64 0, .nilFunc, .nilFunc] 62)).setRow w1.heap.size Kd.zero.cells.toArray = W at *
  go_wp2
  go_ret2
  exact ⟨rfl, HB.out⟩
theorem rfits_prog (t n : Int) (w : World) :
    Calls Try.prog 13 #[.int .i64 t, .int .i64 n] w fun e w' => e = .returned (.tuple #[.bool (fitM t n), .int .i64 (wkE t)]) ∧ Below w.heap.size w w' := by
  unfold fitM wkE
  by_cases hv : (kdOf t).v = 0
  · rw [if_pos hv, if_pos hv]
    exact fits_none t n w hv
  · rw [if_neg hv, if_neg hv]
    rcases kd_f t with e | e | e | e
    · exact absurd e hv
    · exact fits_always t n w hv e
    · exact fits_signed t n w hv e
    · exact fits_unsigned t n w hv e
theorem fits_s32 (n : Int) : fitsB n 32 true = (decide (-2147483648 ≤ n) && decide (n < 2147483648)) := by
  unfold fitsB
  rw [show (32 : Int).toNat - 1 = 31 from rfl]
  simp
theorem fits_u32 (n : Int) : fitsB n 32 false = (decide (0 ≤ n) && decide (n < 4294967296)) := by
  unfold fitsB
  rw [show (32 : Int).toNat = 32 from rfl]
  simp
end Go.Proofs.Ytjbepojopfbajaa
