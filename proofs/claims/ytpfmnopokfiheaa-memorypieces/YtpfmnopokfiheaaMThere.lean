/- The contracts of namedThere and Unmap. -/
import Derived.Test.YtpfmnopokfiheaaMNil
namespace Go.Proofs.Ytpfmnopokfiheaa
open Go.ChangeShapes Go.WideShapes Go.ChangeAt Go.RowKit Go.Maps
set_option linter.unusedVariables false
set_option linter.unusedSimpArgs false

/-- The error of pages that are named and must be there. -/
def thrE (L : List Pz) (a : Nat) (pages may : Int) : Int := if namE a pages may ≠ 0 then namE a pages may else if inN L (a / 4096) (a / 4096 + pages.toNat) < pages.toNat then 60 else 0
def thrV (L : List Pz) (a : Nat) (pages may : Int) : Value :=
  if thrE L a pages may = 0 then .tuple #[spV ((a / 4096 : Nat) : Int) ((a / 4096 + pages.toNat : Nat) : Int), .int .i64 0] else .tuple #[spV 0 0, .int .i64 (thrE L a pages may)]
theorem thr_nam {L : List Pz} {a : Nat} {pages may : Int} (h : thrE L a pages may = 0) : namE a pages may = 0 := by
  unfold thrE at h
  by_cases e : namE a pages may = 0
  · exact e
  · rw [if_pos e] at h; exact h

theorem span_keep2 {w w1 : World} (hb : Below (w.alloc (.cells #[.int .u64 0, .int .u64 0] 90)).heap.size (w.alloc (.cells #[.int .u64 0, .int .u64 0] 90)) w1) :
    w1.cell? ⟨w.heap.size, 0, none⟩ = some (.int .u64 0) ∧ w1.cell? ⟨w.heap.size, 1, none⟩ = some (.int .u64 0) ∧ w1.frozen? ⟨w.heap.size, 0, none⟩ = false ∧ w1.frozen? ⟨w.heap.size, 1, none⟩ = false := by
  have e : w1.heap[w.heap.size]? = some (.cells #[.int .u64 0, .int .u64 0] 90) := by
    rw [hb.block _ (by simp)]
    exact heap_last w _
  simp [World.cell?, World.frozen?, e]

theorem there_named (mb gb a : Nat) (pl : Nat → Nat) (L : List Pz) (pages may : Int) (w : World) (h : MA w mb gb pl L) (ha : a < 18446744073709551616) (hp : -9223372036854775808 ≤ pages ∧ pages ≤ 9223372036854775807) (hE : namE a pages may ≠ 0) :
    Calls Try.prog 51 #[.pointer (some ⟨mb, 0, none⟩), .int .u64 a, .int .i64 pages, .int .i64 may] w fun e w' => e = .returned (thrV L a pages may) ∧ Below w.heap.size w w' := by
  have B0 : Below w.heap.size w (w.alloc (.cells #[.int .u64 0, .int .u64 0] 90)) := (Below.refl _ _).alloc (Nat.le_refl _) _
  have HN := named_ok mb gb a pages may _ (h.below B0).mcell ha hp
  have HT : thrE L a pages may = namE a pages may := by unfold thrE; rw [if_pos hE]
  have HV : Hid (thrV L a pages may = .tuple #[.agg #[.int .u64 0, .int .u64 0], .int .i64 (namE a pages may)]) := ⟨by unfold thrV; rw [HT, if_neg hE]; rfl⟩
  unfold namV at HN
  rw [if_neg hE] at HN
  generalize namE a pages may = q at *
  have hq : (q == 0) = false := by simpa using hE
  have HB : Hid _ := ⟨B0⟩
  clear B0 h hE HT
  unfold spV at HN
  go_enter Try.func51, Try.ntmps51
  go_wp2_with (go_at_call 49; with_reducible refine HN.mono ?_; rintro e w1 ⟨he, hb⟩; subst he; have hX := span_keep hb (o := .cells #[.int .u64 0, .int .u64 0] 90); obtain ⟨x0, x1, x2, x3⟩ := hX)
  refine bodyPost_ret (res_span Try.results51 _ _ w.heap.size (.int .u64 0) (.int .u64 0) rfl (two_set x0 x1).1 (two_set x0 x1).2) rfl ?_
  have B1 := (HB.out.trans (hb.mono (by simp))).alloc (HB.out.trans (hb.mono (by simp))).size (.cells #[.int .u64 0, .int .u64 0] 90)
  exact ⟨by rw [HV.out]; rfl, (B1.setCell (p := ⟨w.heap.size, 0, none⟩) (Nat.le_refl _) _).setCell (p := ⟨w.heap.size, 1, none⟩) (Nat.le_refl _) _⟩

theorem there_rest (mb gb a : Nat) (pl : Nat → Nat) (L : List Pz) (pages may : Int) (w : World) (h : MA w mb gb pl L) (ha : a < 18446744073709551616) (hp : -9223372036854775808 ≤ pages ∧ pages ≤ 9223372036854775807) (hLL : L.length ≤ 1048576) (hE : namE a pages may = 0) :
    Calls Try.prog 51 #[.pointer (some ⟨mb, 0, none⟩), .int .u64 a, .int .i64 pages, .int .i64 may] w fun e w' => e = .returned (thrV L a pages may) ∧ Below w.heap.size w w' := by
  have B0 : Below w.heap.size w (w.alloc (.cells #[.int .u64 0, .int .u64 0] 90)) := (Below.refl _ _).alloc (Nat.le_refl _) _
  have HN := named_ok mb gb a pages may _ (h.below B0).mcell ha hp
  obtain ⟨p1, p2, p3, p4, p5, p6⟩ := namE_ok hE
  unfold namV at HN
  rw [if_pos hE] at HN
  have e1 : ((a / 4096 : Nat) : Int) + pages = ((a / 4096 + pages.toNat : Nat) : Int) := by omega
  rw [e1] at HN
  have HTV : Hid (thrV L a pages may = if inN L (a / 4096) (a / 4096 + pages.toNat) < pages.toNat then .tuple #[.agg #[.int .u64 0, .int .u64 0], .int .i64 60] else .tuple #[.agg #[.int .u64 ((a / 4096 : Nat) : Int), .int .u64 ((a / 4096 + pages.toNat : Nat) : Int)], .int .i64 0]) := ⟨by
    have hT : thrE L a pages may = if inN L (a / 4096) (a / 4096 + pages.toNat) < pages.toNat then 60 else 0 := by unfold thrE; rw [if_neg (by simpa using hE)]
    unfold thrV
    rw [hT]
    by_cases hi : inN L (a / 4096) (a / 4096 + pages.toNat) < pages.toNat
    · rw [if_pos hi, if_neg (by decide), if_pos hi]; rfl
    · rw [if_neg hi, if_pos rfl, if_neg hi]; rfl⟩
  have hpn : pages = (pages.toNat : Int) := by omega
  generalize a / 4096 = f at *
  generalize f + pages.toNat = g at *
  generalize pages.toNat = n at *
  have HP : Hid (∀ W, Below w.heap.size w W → Calls Try.prog 50 #[.pointer (some ⟨mb, 0, none⟩), spV (f : Int) (g : Int)] W fun en w' => en = .returned (.int .i64 (inN L f g)) ∧ Below W.heap.size W w') := ⟨fun W hW => present_ok mb gb pl L f g W (h.below hW) hLL⟩
  generalize inN L f g = s at *
  have HB : Hid _ := ⟨B0⟩
  subst hpn
  clear B0 h hE e1 p1 p2 p3 p4 p5 p6 hp ha hLL
  unfold spV at HN HP
  by_cases hs : s < n
  · have q1 : ((s : Nat) : Int) < ((n : Nat) : Int) := by omega
    have HV : Hid (thrV L a (n : Int) may = .tuple #[.agg #[.int .u64 0, .int .u64 0], .int .i64 60]) := ⟨by rw [HTV.out, if_pos hs]⟩
    clear HTV
    go_enter Try.func51, Try.ntmps51
    go_wp2_with (first
      | (go_at_call 49; with_reducible refine HN.mono ?_; rintro e w1 ⟨he, hb⟩; subst he; have B1 := (HB.out.trans (hb.mono (by simp))).alloc (HB.out.trans (hb.mono (by simp))).size (.cells #[.int .u64 (f : Int), .int .u64 (g : Int)] 90); have B2 := hb.alloc hb.size (.cells #[.int .u64 (f : Int), .int .u64 (g : Int)] 90))
      | (go_at_call 50; with_reducible refine (HP.out _ B1).mono ?_; rintro e w2 ⟨he, hb2⟩; subst he; have B3 := B2.trans (hb2.mono (by have := hb.size; simp at this ⊢; omega)); have hX := span_keep2 B3; obtain ⟨x0, x1, x2, x3⟩ := hX))
    refine bodyPost_ret (res_span Try.results51 _ _ w.heap.size (.int .u64 0) (.int .u64 0) rfl (two_set x0 x1).1 (two_set x0 x1).2) rfl ?_
    have B4 := HB.out.trans (B3.mono (by simp))
    exact ⟨by rw [HV.out]; rfl, (B4.setCell (p := ⟨w.heap.size, 0, none⟩) (Nat.le_refl _) _).setCell (p := ⟨w.heap.size, 1, none⟩) (Nat.le_refl _) _⟩
  · have q1 : ¬ ((s : Nat) : Int) < ((n : Nat) : Int) := by omega
    have HV : Hid (thrV L a (n : Int) may = .tuple #[.agg #[.int .u64 (f : Int), .int .u64 (g : Int)], .int .i64 0]) := ⟨by rw [HTV.out, if_neg hs]⟩
    clear HTV
    go_enter Try.func51, Try.ntmps51
    go_wp2_with (first
      | (go_at_call 49; with_reducible refine HN.mono ?_; rintro e w1 ⟨he, hb⟩; subst he; have B1 := (HB.out.trans (hb.mono (by simp))).alloc (HB.out.trans (hb.mono (by simp))).size (.cells #[.int .u64 (f : Int), .int .u64 (g : Int)] 90); have B2 := hb.alloc hb.size (.cells #[.int .u64 (f : Int), .int .u64 (g : Int)] 90))
      | (go_at_call 50; with_reducible refine (HP.out _ B1).mono ?_; rintro e w2 ⟨he, hb2⟩; subst he; have B3 := B2.trans (hb2.mono (by have := hb.size; simp at this ⊢; omega)); have hX := span_keep2 B3; obtain ⟨x0, x1, x2, x3⟩ := hX; have y0 : w2.cell? ⟨w1.heap.size, 0, none⟩ = some (.int .u64 (f : Int)) := (hb2.cell (p := ⟨w1.heap.size, 0, none⟩) (by simp)).trans (by simp); have y1 : w2.cell? ⟨w1.heap.size, 1, none⟩ = some (.int .u64 (g : Int)) := (hb2.cell (p := ⟨w1.heap.size, 1, none⟩) (by simp)).trans (by simp)))
    refine bodyPost_ret (res_span Try.results51 _ _ w.heap.size (.int .u64 (f : Int)) (.int .u64 (g : Int)) rfl (two_set x0 x1).1 (two_set x0 x1).2) rfl ?_
    have B4 := HB.out.trans (B3.mono (by simp))
    exact ⟨by rw [HV.out]; rfl, (B4.setCell (p := ⟨w.heap.size, 0, none⟩) (Nat.le_refl _) _).setCell (p := ⟨w.heap.size, 1, none⟩) (Nat.le_refl _) _⟩

theorem there_ok (mb gb a : Nat) (pl : Nat → Nat) (L : List Pz) (pages may : Int) (w : World) (h : MA w mb gb pl L) (ha : a < 18446744073709551616) (hp : -9223372036854775808 ≤ pages ∧ pages ≤ 9223372036854775807) (hLL : L.length ≤ 1048576) :
    Calls Try.prog 51 #[.pointer (some ⟨mb, 0, none⟩), .int .u64 a, .int .i64 pages, .int .i64 may] w fun e w' => e = .returned (thrV L a pages may) ∧ Below w.heap.size w w' := by
  by_cases hE : namE a pages may = 0
  · exact there_rest mb gb a pl L pages may w h ha hp hLL hE
  · exact there_named mb gb a pl L pages may w h ha hp hE
end Go.Proofs.Ytpfmnopokfiheaa
