/- Value. -/
import Derived.Test.YtjbepojopfbajaaVSize
namespace Go.Proofs.Ytjbepojopfbajaa
open Go.ChangeShapes Go.WideShapes Go.ChangeAt Go.RowKit
set_option linter.unusedVariables false
set_option linter.unusedSimpArgs false

def vOf (v : Nat) (p : Pl) : Int :=
  if v = 57 then p.s + p.a else if v = 59 then p.s + p.a - p.p else if v = 61 then p.g + p.a - p.p else p.s + p.a - p.t
def valM (t : Int) (p : Pl) : Int := if (kdOf t).v = 0 then 0 else if p.okB = true then vOf (kdOf t).v p else 0
def valE (t : Int) (p : Pl) : Int := if (kdOf t).v = 0 then 200 else if p.okB = true then 0 else 11
theorem kd_v : ∀ t, (kdOf t).v = 0 ∨ (kdOf t).v = 57 ∨ (kdOf t).v = 59 ∨ (kdOf t).v = 61 ∨ (kdOf t).v = 63 := by
  apply kd_cases (fun _ k => k.v = 0 ∨ k.v = 57 ∨ k.v = 59 ∨ k.v = 61 ∨ k.v = 63)
  · intro t _; exact .inl rfl
  · intro t ht
    have : ∀ k, k < 38 → ((kdsL.getD k Kd.zero).v = 0 ∨ (kdsL.getD k Kd.zero).v = 57 ∨ (kdsL.getD k Kd.zero).v = 59 ∨ (kdsL.getD k Kd.zero).v = 61 ∨ (kdsL.getD k Kd.zero).v = 63) := by decide +kernel
    exact this t ht

set_option maxHeartbeats 8000000 in
set_option maxRecDepth 20000 in
theorem value_psum (t : Int) (p : Pl) (w : World) (hv : (kdOf t).v = 57) (ho : p.okB = true) :
    Calls Try.prog 10 #[.int .i64 t, p.val] w fun e w' => e = .returned (.tuple #[.int .i64 (valM t p), .int .i64 0]) ∧ Below w.heap.size w w' := by
  have HK : Hd (∀ W, _) := ⟨fun W => worked_any t W⟩
  have HR : Hd (∀ W, _) := ⟨fun W => right_any p W⟩
  have HV : Hd (∀ W, _) := ⟨fun W => psum_any p W ho⟩
  have e1 : wkE t = 0 := if_neg (by rw [hv]; decide)
  have e2 : wkM t = kdOf t := if_neg (by rw [hv]; decide)
  have e3 : valM t p = vOf (kdOf t).v p := by unfold valM; rw [if_neg (by rw [hv]; decide), if_pos ho]
  have hb : (kdOf t).f ≠ 0 := fun e => by have := (kd_both t).2 e; rw [hv] at this; cases this
  rw [e1, e2] at HK
  rw [e3, hv]
  clear e1 e2 e3
  obtain ⟨x, hx⟩ : ∃ x, kdOf t = x := ⟨_, rfl⟩
  rw [hx] at HK hv hb
  clear hx
  obtain ⟨nm, sz, v, f⟩ := x
  dsimp only at hv hb
  subst hv
  rw [kd_valN nm sz _ f (by decide) hb] at HK
  rw [ho] at HR
  obtain ⟨s, a, pp, gg, tt⟩ := p
  have HB0 : Hd (Below w.heap.size w (w.alloc (.cells #[.int .i64 s, .int .i64 a, .int .i64 pp, .int .i64 gg, .int .i64 tt] 23))) := ⟨vb_alloc (Below.refl _ _) _⟩
  have HP0 : Hd (VB (w.alloc (.cells #[.int .i64 s, .int .i64 a, .int .i64 pp, .int .i64 gg, .int .i64 tt] 23)) w.heap.size 23 #[.int .i64 s, .int .i64 a, .int .i64 pp, .int .i64 gg, .int .i64 tt]) := ⟨VB.new _ _ _⟩
  dsimp only [Pl.val] at *
  go_enter Try.func10, Try.ntmps10
  go_upto_region 2 with (first
    | (go_at_call 29; refine (HK.out _).mono ?_; rintro e w1 ⟨rfl, hb1⟩; have HB1 : Hd _ := ⟨hb1⟩; clear hb1)
    | ((with_reducible refine wpList_store_row rfl 62 (.tmp 6) (.tmp 11) rfl w1.heap.size #[.string nm, .int .i64 sz, .func (.func 57) #[] #[], .func (.func f) #[] #[]] ?_ ?_ 62 _ (heap_alloc_last _ _) ?_ ?_ ?_ ?_); rfl; rfl; kernel_rfl; kernel_rfl; kernel_rfl))
  have hk := kd_new w1 #[.string nm, .int .i64 sz, .func (.func 57) #[] #[], .func (.func f) #[] #[]]
  have hl1 : w.heap.size < w1.heap.size := Nat.lt_of_lt_of_le HP0.out.lt HB1.out.size
  have HP : Hd (VB ((w1.alloc (.cells #[.string ⟨#[]⟩, .int .i64 0, .nilFunc, .nilFunc] 62)).setRow w1.heap.size #[.string nm, .int .i64 sz, .func (.func 57) #[] #[], .func (.func f) #[] #[]]) w.heap.size 23 _) := ⟨((HP0.out.bel HB1.out HP0.out.lt).alloc _).setO (by omega) _⟩
  have HB : Hd (Below w.heap.size w ((w1.alloc (.cells #[.string ⟨#[]⟩, .int .i64 0, .nilFunc, .nilFunc] 62)).setRow w1.heap.size #[.string nm, .int .i64 sz, .func (.func 57) #[] #[], .func (.func f) #[] #[]])) := ⟨vb_setRow ((HB0.out.trans (HB1.out.mono (by have := HP0.out.lt; omega))).alloc (by omega) _) (by omega) _⟩
  obtain ⟨g, hg⟩ : ∃ g, w1.heap.size = g := ⟨_, rfl⟩
  rw [hg] at hk HP HB hl1 ⊢
  generalize (w1.alloc (.cells #[.string ⟨#[]⟩, .int .i64 0, .nilFunc, .nilFunc] 62)).setRow g #[.string nm, .int .i64 sz, .func (.func 57) #[] #[], .func (.func f) #[] #[]] = W at *
  clear HB0 HP0 HB1 hg HK
  have p0 := HP.out.cell 0 rfl
  have p1 := HP.out.cell 1 rfl
  have p2 := HP.out.cell 2 rfl
  have p3 := HP.out.cell 3 rfl
  have p4 := HP.out.cell 4 rfl
  have HG : Hd _ := ⟨hk⟩
  clear hk
  go_wp2_with (first
    | (go_at_call 30; refine (HR.out _).mono ?_; rintro e w2 ⟨rfl, hb2⟩; have HB2 : Hd _ := ⟨hb2⟩; have g2 : w2.cell? ⟨g, 2, none⟩ = some (.func (.func 57) #[] #[]) := (HG.out.bel HB2.out HG.out.lt).cell 2 rfl; have q0 := (HP.out.bel HB2.out HP.out.lt).cell 0 rfl; have q1 := (HP.out.bel HB2.out HP.out.lt).cell 1 rfl; have q2 := (HP.out.bel HB2.out HP.out.lt).cell 2 rfl; have q3 := (HP.out.bel HB2.out HP.out.lt).cell 3 rfl; have q4 := (HP.out.bel HB2.out HP.out.lt).cell 4 rfl; clear hb2)
    | (go_at_call 57; refine (HV.out _).mono ?_; rintro e w3 ⟨rfl, hb3⟩; have HB3 : Hd _ := ⟨hb3⟩; clear hb3))
  go_ret2
  exact ⟨rfl, (HB.out.trans (HB2.out.mono HB.out.size)).trans (HB3.out.mono (HB.out.trans (HB2.out.mono HB.out.size)).size)⟩
set_option maxHeartbeats 8000000 in
set_option maxRecDepth 20000 in
theorem value_pnear (t : Int) (p : Pl) (w : World) (hv : (kdOf t).v = 59) (ho : p.okB = true) :
    Calls Try.prog 10 #[.int .i64 t, p.val] w fun e w' => e = .returned (.tuple #[.int .i64 (valM t p), .int .i64 0]) ∧ Below w.heap.size w w' := by
  have HK : Hd (∀ W, _) := ⟨fun W => worked_any t W⟩
  have HR : Hd (∀ W, _) := ⟨fun W => right_any p W⟩
  have HV : Hd (∀ W, _) := ⟨fun W => pnear_any p W ho⟩
  have e1 : wkE t = 0 := if_neg (by rw [hv]; decide)
  have e2 : wkM t = kdOf t := if_neg (by rw [hv]; decide)
  have e3 : valM t p = vOf (kdOf t).v p := by unfold valM; rw [if_neg (by rw [hv]; decide), if_pos ho]
  have hb : (kdOf t).f ≠ 0 := fun e => by have := (kd_both t).2 e; rw [hv] at this; cases this
  rw [e1, e2] at HK
  rw [e3, hv]
  clear e1 e2 e3
  obtain ⟨x, hx⟩ : ∃ x, kdOf t = x := ⟨_, rfl⟩
  rw [hx] at HK hv hb
  clear hx
  obtain ⟨nm, sz, v, f⟩ := x
  dsimp only at hv hb
  subst hv
  rw [kd_valN nm sz _ f (by decide) hb] at HK
  rw [ho] at HR
  obtain ⟨s, a, pp, gg, tt⟩ := p
  have HB0 : Hd (Below w.heap.size w (w.alloc (.cells #[.int .i64 s, .int .i64 a, .int .i64 pp, .int .i64 gg, .int .i64 tt] 23))) := ⟨vb_alloc (Below.refl _ _) _⟩
  have HP0 : Hd (VB (w.alloc (.cells #[.int .i64 s, .int .i64 a, .int .i64 pp, .int .i64 gg, .int .i64 tt] 23)) w.heap.size 23 #[.int .i64 s, .int .i64 a, .int .i64 pp, .int .i64 gg, .int .i64 tt]) := ⟨VB.new _ _ _⟩
  dsimp only [Pl.val] at *
  go_enter Try.func10, Try.ntmps10
  go_upto_region 2 with (first
    | (go_at_call 29; refine (HK.out _).mono ?_; rintro e w1 ⟨rfl, hb1⟩; have HB1 : Hd _ := ⟨hb1⟩; clear hb1)
    | ((with_reducible refine wpList_store_row rfl 62 (.tmp 6) (.tmp 11) rfl w1.heap.size #[.string nm, .int .i64 sz, .func (.func 59) #[] #[], .func (.func f) #[] #[]] ?_ ?_ 62 _ (heap_alloc_last _ _) ?_ ?_ ?_ ?_); rfl; rfl; kernel_rfl; kernel_rfl; kernel_rfl))
  have hk := kd_new w1 #[.string nm, .int .i64 sz, .func (.func 59) #[] #[], .func (.func f) #[] #[]]
  have hl1 : w.heap.size < w1.heap.size := Nat.lt_of_lt_of_le HP0.out.lt HB1.out.size
  have HP : Hd (VB ((w1.alloc (.cells #[.string ⟨#[]⟩, .int .i64 0, .nilFunc, .nilFunc] 62)).setRow w1.heap.size #[.string nm, .int .i64 sz, .func (.func 59) #[] #[], .func (.func f) #[] #[]]) w.heap.size 23 _) := ⟨((HP0.out.bel HB1.out HP0.out.lt).alloc _).setO (by omega) _⟩
  have HB : Hd (Below w.heap.size w ((w1.alloc (.cells #[.string ⟨#[]⟩, .int .i64 0, .nilFunc, .nilFunc] 62)).setRow w1.heap.size #[.string nm, .int .i64 sz, .func (.func 59) #[] #[], .func (.func f) #[] #[]])) := ⟨vb_setRow ((HB0.out.trans (HB1.out.mono (by have := HP0.out.lt; omega))).alloc (by omega) _) (by omega) _⟩
  obtain ⟨g, hg⟩ : ∃ g, w1.heap.size = g := ⟨_, rfl⟩
  rw [hg] at hk HP HB hl1 ⊢
  generalize (w1.alloc (.cells #[.string ⟨#[]⟩, .int .i64 0, .nilFunc, .nilFunc] 62)).setRow g #[.string nm, .int .i64 sz, .func (.func 59) #[] #[], .func (.func f) #[] #[]] = W at *
  clear HB0 HP0 HB1 hg HK
  have p0 := HP.out.cell 0 rfl
  have p1 := HP.out.cell 1 rfl
  have p2 := HP.out.cell 2 rfl
  have p3 := HP.out.cell 3 rfl
  have p4 := HP.out.cell 4 rfl
  have HG : Hd _ := ⟨hk⟩
  clear hk
  go_wp2_with (first
    | (go_at_call 30; refine (HR.out _).mono ?_; rintro e w2 ⟨rfl, hb2⟩; have HB2 : Hd _ := ⟨hb2⟩; have g2 : w2.cell? ⟨g, 2, none⟩ = some (.func (.func 59) #[] #[]) := (HG.out.bel HB2.out HG.out.lt).cell 2 rfl; have q0 := (HP.out.bel HB2.out HP.out.lt).cell 0 rfl; have q1 := (HP.out.bel HB2.out HP.out.lt).cell 1 rfl; have q2 := (HP.out.bel HB2.out HP.out.lt).cell 2 rfl; have q3 := (HP.out.bel HB2.out HP.out.lt).cell 3 rfl; have q4 := (HP.out.bel HB2.out HP.out.lt).cell 4 rfl; clear hb2)
    | (go_at_call 59; refine (HV.out _).mono ?_; rintro e w3 ⟨rfl, hb3⟩; have HB3 : Hd _ := ⟨hb3⟩; clear hb3))
  go_ret2
  exact ⟨rfl, (HB.out.trans (HB2.out.mono HB.out.size)).trans (HB3.out.mono (HB.out.trans (HB2.out.mono HB.out.size)).size)⟩
set_option maxHeartbeats 8000000 in
set_option maxRecDepth 20000 in
theorem value_pslot (t : Int) (p : Pl) (w : World) (hv : (kdOf t).v = 61) (ho : p.okB = true) :
    Calls Try.prog 10 #[.int .i64 t, p.val] w fun e w' => e = .returned (.tuple #[.int .i64 (valM t p), .int .i64 0]) ∧ Below w.heap.size w w' := by
  have HK : Hd (∀ W, _) := ⟨fun W => worked_any t W⟩
  have HR : Hd (∀ W, _) := ⟨fun W => right_any p W⟩
  have HV : Hd (∀ W, _) := ⟨fun W => pslot_any p W ho⟩
  have e1 : wkE t = 0 := if_neg (by rw [hv]; decide)
  have e2 : wkM t = kdOf t := if_neg (by rw [hv]; decide)
  have e3 : valM t p = vOf (kdOf t).v p := by unfold valM; rw [if_neg (by rw [hv]; decide), if_pos ho]
  have hb : (kdOf t).f ≠ 0 := fun e => by have := (kd_both t).2 e; rw [hv] at this; cases this
  rw [e1, e2] at HK
  rw [e3, hv]
  clear e1 e2 e3
  obtain ⟨x, hx⟩ : ∃ x, kdOf t = x := ⟨_, rfl⟩
  rw [hx] at HK hv hb
  clear hx
  obtain ⟨nm, sz, v, f⟩ := x
  dsimp only at hv hb
  subst hv
  rw [kd_valN nm sz _ f (by decide) hb] at HK
  rw [ho] at HR
  obtain ⟨s, a, pp, gg, tt⟩ := p
  have HB0 : Hd (Below w.heap.size w (w.alloc (.cells #[.int .i64 s, .int .i64 a, .int .i64 pp, .int .i64 gg, .int .i64 tt] 23))) := ⟨vb_alloc (Below.refl _ _) _⟩
  have HP0 : Hd (VB (w.alloc (.cells #[.int .i64 s, .int .i64 a, .int .i64 pp, .int .i64 gg, .int .i64 tt] 23)) w.heap.size 23 #[.int .i64 s, .int .i64 a, .int .i64 pp, .int .i64 gg, .int .i64 tt]) := ⟨VB.new _ _ _⟩
  dsimp only [Pl.val] at *
  go_enter Try.func10, Try.ntmps10
  go_upto_region 2 with (first
    | (go_at_call 29; refine (HK.out _).mono ?_; rintro e w1 ⟨rfl, hb1⟩; have HB1 : Hd _ := ⟨hb1⟩; clear hb1)
    | ((with_reducible refine wpList_store_row rfl 62 (.tmp 6) (.tmp 11) rfl w1.heap.size #[.string nm, .int .i64 sz, .func (.func 61) #[] #[], .func (.func f) #[] #[]] ?_ ?_ 62 _ (heap_alloc_last _ _) ?_ ?_ ?_ ?_); rfl; rfl; kernel_rfl; kernel_rfl; kernel_rfl))
  have hk := kd_new w1 #[.string nm, .int .i64 sz, .func (.func 61) #[] #[], .func (.func f) #[] #[]]
  have hl1 : w.heap.size < w1.heap.size := Nat.lt_of_lt_of_le HP0.out.lt HB1.out.size
  have HP : Hd (VB ((w1.alloc (.cells #[.string ⟨#[]⟩, .int .i64 0, .nilFunc, .nilFunc] 62)).setRow w1.heap.size #[.string nm, .int .i64 sz, .func (.func 61) #[] #[], .func (.func f) #[] #[]]) w.heap.size 23 _) := ⟨((HP0.out.bel HB1.out HP0.out.lt).alloc _).setO (by omega) _⟩
  have HB : Hd (Below w.heap.size w ((w1.alloc (.cells #[.string ⟨#[]⟩, .int .i64 0, .nilFunc, .nilFunc] 62)).setRow w1.heap.size #[.string nm, .int .i64 sz, .func (.func 61) #[] #[], .func (.func f) #[] #[]])) := ⟨vb_setRow ((HB0.out.trans (HB1.out.mono (by have := HP0.out.lt; omega))).alloc (by omega) _) (by omega) _⟩
  obtain ⟨g, hg⟩ : ∃ g, w1.heap.size = g := ⟨_, rfl⟩
  rw [hg] at hk HP HB hl1 ⊢
  generalize (w1.alloc (.cells #[.string ⟨#[]⟩, .int .i64 0, .nilFunc, .nilFunc] 62)).setRow g #[.string nm, .int .i64 sz, .func (.func 61) #[] #[], .func (.func f) #[] #[]] = W at *
  clear HB0 HP0 HB1 hg HK
  have p0 := HP.out.cell 0 rfl
  have p1 := HP.out.cell 1 rfl
  have p2 := HP.out.cell 2 rfl
  have p3 := HP.out.cell 3 rfl
  have p4 := HP.out.cell 4 rfl
  have HG : Hd _ := ⟨hk⟩
  clear hk
  go_wp2_with (first
    | (go_at_call 30; refine (HR.out _).mono ?_; rintro e w2 ⟨rfl, hb2⟩; have HB2 : Hd _ := ⟨hb2⟩; have g2 : w2.cell? ⟨g, 2, none⟩ = some (.func (.func 61) #[] #[]) := (HG.out.bel HB2.out HG.out.lt).cell 2 rfl; have q0 := (HP.out.bel HB2.out HP.out.lt).cell 0 rfl; have q1 := (HP.out.bel HB2.out HP.out.lt).cell 1 rfl; have q2 := (HP.out.bel HB2.out HP.out.lt).cell 2 rfl; have q3 := (HP.out.bel HB2.out HP.out.lt).cell 3 rfl; have q4 := (HP.out.bel HB2.out HP.out.lt).cell 4 rfl; clear hb2)
    | (go_at_call 61; refine (HV.out _).mono ?_; rintro e w3 ⟨rfl, hb3⟩; have HB3 : Hd _ := ⟨hb3⟩; clear hb3))
  go_ret2
  exact ⟨rfl, (HB.out.trans (HB2.out.mono HB.out.size)).trans (HB3.out.mono (HB.out.trans (HB2.out.mono HB.out.size)).size)⟩
set_option maxHeartbeats 8000000 in
set_option maxRecDepth 20000 in
theorem value_poffset (t : Int) (p : Pl) (w : World) (hv : (kdOf t).v = 63) (ho : p.okB = true) :
    Calls Try.prog 10 #[.int .i64 t, p.val] w fun e w' => e = .returned (.tuple #[.int .i64 (valM t p), .int .i64 0]) ∧ Below w.heap.size w w' := by
  have HK : Hd (∀ W, _) := ⟨fun W => worked_any t W⟩
  have HR : Hd (∀ W, _) := ⟨fun W => right_any p W⟩
  have HV : Hd (∀ W, _) := ⟨fun W => poffset_any p W ho⟩
  have e1 : wkE t = 0 := if_neg (by rw [hv]; decide)
  have e2 : wkM t = kdOf t := if_neg (by rw [hv]; decide)
  have e3 : valM t p = vOf (kdOf t).v p := by unfold valM; rw [if_neg (by rw [hv]; decide), if_pos ho]
  have hb : (kdOf t).f ≠ 0 := fun e => by have := (kd_both t).2 e; rw [hv] at this; cases this
  rw [e1, e2] at HK
  rw [e3, hv]
  clear e1 e2 e3
  obtain ⟨x, hx⟩ : ∃ x, kdOf t = x := ⟨_, rfl⟩
  rw [hx] at HK hv hb
  clear hx
  obtain ⟨nm, sz, v, f⟩ := x
  dsimp only at hv hb
  subst hv
  rw [kd_valN nm sz _ f (by decide) hb] at HK
  rw [ho] at HR
  obtain ⟨s, a, pp, gg, tt⟩ := p
  have HB0 : Hd (Below w.heap.size w (w.alloc (.cells #[.int .i64 s, .int .i64 a, .int .i64 pp, .int .i64 gg, .int .i64 tt] 23))) := ⟨vb_alloc (Below.refl _ _) _⟩
  have HP0 : Hd (VB (w.alloc (.cells #[.int .i64 s, .int .i64 a, .int .i64 pp, .int .i64 gg, .int .i64 tt] 23)) w.heap.size 23 #[.int .i64 s, .int .i64 a, .int .i64 pp, .int .i64 gg, .int .i64 tt]) := ⟨VB.new _ _ _⟩
  dsimp only [Pl.val] at *
  go_enter Try.func10, Try.ntmps10
  go_upto_region 2 with (first
    | (go_at_call 29; refine (HK.out _).mono ?_; rintro e w1 ⟨rfl, hb1⟩; have HB1 : Hd _ := ⟨hb1⟩; clear hb1)
    | ((with_reducible refine wpList_store_row rfl 62 (.tmp 6) (.tmp 11) rfl w1.heap.size #[.string nm, .int .i64 sz, .func (.func 63) #[] #[], .func (.func f) #[] #[]] ?_ ?_ 62 _ (heap_alloc_last _ _) ?_ ?_ ?_ ?_); rfl; rfl; kernel_rfl; kernel_rfl; kernel_rfl))
  have hk := kd_new w1 #[.string nm, .int .i64 sz, .func (.func 63) #[] #[], .func (.func f) #[] #[]]
  have hl1 : w.heap.size < w1.heap.size := Nat.lt_of_lt_of_le HP0.out.lt HB1.out.size
  have HP : Hd (VB ((w1.alloc (.cells #[.string ⟨#[]⟩, .int .i64 0, .nilFunc, .nilFunc] 62)).setRow w1.heap.size #[.string nm, .int .i64 sz, .func (.func 63) #[] #[], .func (.func f) #[] #[]]) w.heap.size 23 _) := ⟨((HP0.out.bel HB1.out HP0.out.lt).alloc _).setO (by omega) _⟩
  have HB : Hd (Below w.heap.size w ((w1.alloc (.cells #[.string ⟨#[]⟩, .int .i64 0, .nilFunc, .nilFunc] 62)).setRow w1.heap.size #[.string nm, .int .i64 sz, .func (.func 63) #[] #[], .func (.func f) #[] #[]])) := ⟨vb_setRow ((HB0.out.trans (HB1.out.mono (by have := HP0.out.lt; omega))).alloc (by omega) _) (by omega) _⟩
  obtain ⟨g, hg⟩ : ∃ g, w1.heap.size = g := ⟨_, rfl⟩
  rw [hg] at hk HP HB hl1 ⊢
  generalize (w1.alloc (.cells #[.string ⟨#[]⟩, .int .i64 0, .nilFunc, .nilFunc] 62)).setRow g #[.string nm, .int .i64 sz, .func (.func 63) #[] #[], .func (.func f) #[] #[]] = W at *
  clear HB0 HP0 HB1 hg HK
  have p0 := HP.out.cell 0 rfl
  have p1 := HP.out.cell 1 rfl
  have p2 := HP.out.cell 2 rfl
  have p3 := HP.out.cell 3 rfl
  have p4 := HP.out.cell 4 rfl
  have HG : Hd _ := ⟨hk⟩
  clear hk
  go_wp2_with (first
    | (go_at_call 30; refine (HR.out _).mono ?_; rintro e w2 ⟨rfl, hb2⟩; have HB2 : Hd _ := ⟨hb2⟩; have g2 : w2.cell? ⟨g, 2, none⟩ = some (.func (.func 63) #[] #[]) := (HG.out.bel HB2.out HG.out.lt).cell 2 rfl; have q0 := (HP.out.bel HB2.out HP.out.lt).cell 0 rfl; have q1 := (HP.out.bel HB2.out HP.out.lt).cell 1 rfl; have q2 := (HP.out.bel HB2.out HP.out.lt).cell 2 rfl; have q3 := (HP.out.bel HB2.out HP.out.lt).cell 3 rfl; have q4 := (HP.out.bel HB2.out HP.out.lt).cell 4 rfl; clear hb2)
    | (go_at_call 63; refine (HV.out _).mono ?_; rintro e w3 ⟨rfl, hb3⟩; have HB3 : Hd _ := ⟨hb3⟩; clear hb3))
  go_ret2
  exact ⟨rfl, (HB.out.trans (HB2.out.mono HB.out.size)).trans (HB3.out.mono (HB.out.trans (HB2.out.mono HB.out.size)).size)⟩
set_option maxHeartbeats 8000000 in
set_option maxRecDepth 20000 in
theorem value_bad (t : Int) (p : Pl) (w : World) (h : (kdOf t).v = 0 ∨ p.okB = false) :
    Calls Try.prog 10 #[.int .i64 t, p.val] w fun e w' => e = .returned (.tuple #[.int .i64 0, .int .i64 (valE t p)]) ∧ Below w.heap.size w w' := by
  have HK : Hd (∀ W, _) := ⟨fun W => worked_any t W⟩
  have HR : Hd (∀ W, _) := ⟨fun W => right_any p W⟩
  have hE : (wkE t = 200 ∧ valE t p = 200) ∨ (wkE t = 0 ∧ valE t p = 11 ∧ p.okB = false) := by
    unfold wkE valE
    by_cases h0 : (kdOf t).v = 0
    · left; simp [h0]
    · right; rcases h with h | h
      · exact absurd h h0
      · simp [h0, h]
  generalize wkM t = x at *
  generalize wkE t = ee at *
  generalize valE t p = ve at *
  generalize p.okB = ok at *
  obtain ⟨s, a, pp, gg, tt⟩ := p
  have HB0 : Hd (Below w.heap.size w (w.alloc (.cells #[.int .i64 s, .int .i64 a, .int .i64 pp, .int .i64 gg, .int .i64 tt] 23))) := ⟨vb_alloc (Below.refl _ _) _⟩
  have HP0 : Hd (VB (w.alloc (.cells #[.int .i64 s, .int .i64 a, .int .i64 pp, .int .i64 gg, .int .i64 tt] 23)) w.heap.size 23 #[.int .i64 s, .int .i64 a, .int .i64 pp, .int .i64 gg, .int .i64 tt]) := ⟨VB.new _ _ _⟩
  dsimp only [Pl.val] at *
  go_enter Try.func10, Try.ntmps10
  go_upto_region 2 with (first
    | (go_at_call 29; refine (HK.out _).mono ?_; rintro e w1 ⟨rfl, hb1⟩; have HB1 : Hd _ := ⟨hb1⟩; clear hb1)
    | ((with_reducible refine wpList_store_row rfl 62 (.tmp 6) (.tmp 11) rfl w1.heap.size x.cells.toArray ?_ ?_ 62 _ (heap_alloc_last _ _) ?_ ?_ ?_ ?_); rfl; rfl; kernel_rfl; kernel_rfl; exact kd_one x))
  have hl1 : w.heap.size < w1.heap.size := Nat.lt_of_lt_of_le HP0.out.lt HB1.out.size
  have HP : Hd (VB ((w1.alloc (.cells #[.string ⟨#[]⟩, .int .i64 0, .nilFunc, .nilFunc] 62)).setRow w1.heap.size x.cells.toArray) w.heap.size 23 _) := ⟨((HP0.out.bel HB1.out HP0.out.lt).alloc _).setO (by omega) _⟩
  have HB : Hd (Below w.heap.size w ((w1.alloc (.cells #[.string ⟨#[]⟩, .int .i64 0, .nilFunc, .nilFunc] 62)).setRow w1.heap.size x.cells.toArray)) := ⟨vb_setRow ((HB0.out.trans (HB1.out.mono (by have := HP0.out.lt; omega))).alloc (by omega) _) (by omega) _⟩
  obtain ⟨g, hg⟩ : ∃ g, w1.heap.size = g := ⟨_, rfl⟩
  rw [hg] at HP HB hl1 ⊢
  generalize (w1.alloc (.cells #[.string ⟨#[]⟩, .int .i64 0, .nilFunc, .nilFunc] 62)).setRow g x.cells.toArray = W at *
  clear HB0 HP0 HB1 hg HK h
  have p0 := HP.out.cell 0 rfl
  have p1 := HP.out.cell 1 rfl
  have p2 := HP.out.cell 2 rfl
  have p3 := HP.out.cell 3 rfl
  have p4 := HP.out.cell 4 rfl
  rcases hE with ⟨rfl, rfl⟩ | ⟨rfl, rfl, rfl⟩
  · go_wp2
    go_ret2
    exact ⟨rfl, HB.out⟩
  · go_wp2_with (go_at_call 30; refine (HR.out _).mono ?_; rintro e w2 ⟨rfl, hb2⟩; have HB2 : Hd _ := ⟨hb2⟩; clear hb2)
    go_ret2
    exact ⟨rfl, HB.out.trans (HB2.out.mono HB.out.size)⟩
theorem value_any (t : Int) (p : Pl) (w : World) :
    Calls Try.prog 10 #[.int .i64 t, p.val] w fun e w' => e = .returned (.tuple #[.int .i64 (valM t p), .int .i64 (valE t p)]) ∧ Below w.heap.size w w' := by
  by_cases h : (kdOf t).v = 0 ∨ p.okB = false
  · have e1 : valM t p = 0 := by
      unfold valM
      rcases h with h | h
      · rw [if_pos h]
      · simp [h]
    rw [e1]
    exact value_bad t p w h
  · have h0 : (kdOf t).v ≠ 0 := fun e => h (.inl e)
    have h1 : p.okB = true := by simpa using fun e => h (.inr e)
    have e1 : valE t p = 0 := by unfold valE; simp [h0, h1]
    rw [e1]
    rcases kd_v t with e | e | e | e | e
    · exact absurd e h0
    · exact value_psum t p w e h1
    · exact value_pnear t p w e h1
    · exact value_pslot t p w e h1
    · exact value_poffset t p w e h1
theorem val_bad {t : Int} {p : Pl} (h : valE t p ≠ 0) : valM t p = 0 := by
  unfold valE at h
  unfold valM
  split at h
  · rename_i h0; rw [if_pos h0]
  · rename_i h0
    rw [if_neg h0]
    split at h
    · exact absurd rfl h
    · rename_i h1; rw [if_neg h1]
theorem val_ok {t : Int} {p : Pl} (h : valE t p = 0) : (kdOf t).v ≠ 0 ∧ p.okB = true ∧ valM t p = vOf (kdOf t).v p := by
  unfold valE at h
  unfold valM
  split at h
  · cases h
  · rename_i h0
    split at h
    · rename_i h1; exact ⟨h0, h1, by rw [if_neg h0, if_pos h1]⟩
    · cases h
theorem val_in {t : Int} {p : Pl} (h : valE t p = 0) : -3458764513820540928 ≤ valM t p ∧ valM t p ≤ 3458764513820540928 := by
  obtain ⟨h0, ho, e⟩ := val_ok h
  obtain ⟨f1, f2, f3, f4, f5⟩ := ok_in ho
  have b1 := far_in f1
  have b2 := far_in f2
  have b3 := far_in f3
  have b4 := far_in f4
  have b5 := far_in f5
  rw [e]
  unfold vOf
  split
  · omega
  · split
    · omega
    · split <;> omega
end Go.Proofs.Ytjbepojopfbajaa
