/- RelocValues: the law's walk. -/
import Derived.Test.YtjbepojopfbajaaVRefF
import Derived.Test.YtjbepojopfbajaaVLive
import Derived.Test.YtjbepojopfbajaaVOpen
namespace Go.Proofs.Ytjbepojopfbajaa
open Go.ChangeShapes Go.WideShapes Go.ChangeAt Go.RowKit
set_option linter.unusedVariables false
set_option linter.unusedSimpArgs false

set_option maxHeartbeats 400000 in
set_option maxRecDepth 20000 in
theorem relocValues_walk (t : Int) (p : Pl) (n : Int) (w : World) (wt : (Lit.int .i64 t).wf = true) (wp : PlW p) (wn : (Lit.int .i64 n).wf = true) : Calls Try.prog 3 #[.int .i64 t, p.val, .int .i64 n] w fun e w' => e = .returned (.bool true) ∧ Below w.heap.size w w' := by
  clear wt wp wn
  have H1 : Hid (∀ W, _) := ⟨fun W => size_any t W⟩
  have H2 : Hid (∀ W, _) := ⟨fun W => rsize_any t W⟩
  have H3 : Hid (∀ W, _) := ⟨fun W => value_any t p W⟩
  have H4 : Hid (∀ W, _) := ⟨fun W => placeV_any p W⟩
  have H5 : Hid (∀ W, _) := ⟨fun W => rvalue_any t p W⟩
  have H6 : Hid (∀ W, _) := ⟨fun W => rfits_prog t n W⟩
  have H7 : Hid (∀ W, _) := ⟨fun W => rfits_any t n W⟩
  have H8 : Hid (∀ W, _) := ⟨fun W => slot_any t W⟩
  have H9 : Hid (∀ W, _) := ⟨fun W => rslot_any t W⟩
  have HA : Hid (∀ W, _) := ⟨fun W => left_any t W⟩
  have HB : Hid (∀ W, _) := ⟨fun W => rleft_any t W⟩
  have HC : Hid (∀ W, _) := ⟨fun W => name_any t W⟩
  have HD : Hid (∀ W, _) := ⟨fun W => rname_any t W⟩
  have HL : Hid (∀ W, _) := ⟨fun W => liveV_any W⟩
  have HN : Hid (∀ n W, _) := ⟨fun n W => numV_any n W⟩
  generalize (wkM t).sz = sz at *
  generalize wkE t = ee at *
  generalize valM t p = v at *
  generalize valE t p = ve at *
  generalize fitM t n = fb at *
  generalize nameM t = nm at *
  obtain ⟨s, a, pp, g, tt⟩ := p
  dsimp only [Pl.val] at *
  obtain ⟨sl1, hs1⟩ : ∃ x, (t == 9) = x := ⟨_, rfl⟩
  obtain ⟨sl2, hs2⟩ : ∃ x, (t == 22) = x := ⟨_, rfl⟩
  obtain ⟨sl3, hs3⟩ : ∃ x, (t == 1) = x := ⟨_, rfl⟩
  rw [hs1, hs2] at H8 H9
  rw [hs3] at HA HB
  clear hs1 hs2 hs3
  have hnm : (nm.toList == nm.toList) = true := by simp
  obtain ⟨w0, hw0⟩ : ∃ w0, w.alloc (.cells #[.int .i64 s, .int .i64 a, .int .i64 pp, .int .i64 g, .int .i64 tt] 23) = w0 := ⟨_, rfl⟩
  have HB0 : Hid (Below w.heap.size w w0) := ⟨by rw [← hw0]; exact vb_alloc (Below.refl _ _) _⟩
  have HP0 : Hid (VB w0 w.heap.size 23 #[.int .i64 s, .int .i64 a, .int .i64 pp, .int .i64 g, .int .i64 tt]) := ⟨by rw [← hw0]; exact VB.new _ _ _⟩
  go_enter Try.func3, Try.ntmps3
  go_upto_region 3 with (first
    | (go_at_call 8; refine (H1.out _).mono ?_; rintro e w1 ⟨rfl, hb1⟩; have HB1 : Hid (Below w0.heap.size w0 w1) := ⟨hb1⟩; clear hb1)
    | (go_at_call 9; refine (H2.out _).mono ?_; rintro e wq ⟨rfl, hwq⟩; subst wq))
  have HB1' : Hid (Below w.heap.size w w1) := ⟨HB0.out.trans (HB1.out.mono HB0.out.size)⟩
  have HP1 : Hid _ := ⟨HP0.out.bel HB1.out HP0.out.lt⟩
  have q0 : w1.cell? ⟨w.heap.size, 0, none⟩ = some (.int .i64 s) := HP1.out.cell 0 rfl
  have q1 : w1.cell? ⟨w.heap.size, 1, none⟩ = some (.int .i64 a) := HP1.out.cell 1 rfl
  have q2 : w1.cell? ⟨w.heap.size, 2, none⟩ = some (.int .i64 pp) := HP1.out.cell 2 rfl
  have q3 : w1.cell? ⟨w.heap.size, 3, none⟩ = some (.int .i64 g) := HP1.out.cell 3 rfl
  have q4 : w1.cell? ⟨w.heap.size, 4, none⟩ = some (.int .i64 tt) := HP1.out.cell 4 rfl
  clear HB0 HP0 HB1 hw0
  go_upto_region 4 with (go_at_call 10; refine (H3.out _).mono ?_; rintro e w3 ⟨rfl, hb3⟩; have HB3 : Hid _ := ⟨hb3⟩; clear hb3)
  have HB3' : Hid (Below w.heap.size w w3) := ⟨HB1'.out.trans (HB3.out.mono HB1'.out.size)⟩
  have HP3 : Hid _ := ⟨HP1.out.bel HB3.out HP1.out.lt⟩
  clear q0 q1 q2 q3 q4 HB1' HP1 HB3
  have q0 : w3.cell? ⟨w.heap.size, 0, none⟩ = some (.int .i64 s) := HP3.out.cell 0 rfl
  have q1 : w3.cell? ⟨w.heap.size, 1, none⟩ = some (.int .i64 a) := HP3.out.cell 1 rfl
  have q2 : w3.cell? ⟨w.heap.size, 2, none⟩ = some (.int .i64 pp) := HP3.out.cell 2 rfl
  have q3 : w3.cell? ⟨w.heap.size, 3, none⟩ = some (.int .i64 g) := HP3.out.cell 3 rfl
  have q4 : w3.cell? ⟨w.heap.size, 4, none⟩ = some (.int .i64 tt) := HP3.out.cell 4 rfl
  clear HP3
  go_upto_region 9 with (first
    | (go_at_call 12; refine (H4.out _).mono ?_; rintro e w4 ⟨rfl, hb4⟩; have HB4 : Hid (Below w3.heap.size w3 w4) := ⟨hb4⟩; clear hb4)
    | (go_at_call 11; refine (H5.out _).mono ?_; rintro e w5 ⟨rfl, hb5⟩; have HB5 : Hid (Below w4.heap.size w4 w5) := ⟨hb5⟩; clear hb5)
    | (go_at_call 13; refine (H6.out _).mono ?_; rintro e w6 ⟨rfl, hb6⟩; have HB6 : Hid (Below w5.heap.size w5 w6) := ⟨hb6⟩; clear hb6)
    | (go_at_call 14; refine (H7.out _).mono ?_; rintro e wq ⟨rfl, hwq⟩; subst wq)
    | (go_at_call 15; refine (H8.out _).mono ?_; rintro e wq ⟨rfl, hwq⟩; subst wq)
    | (go_at_call 16; refine (H9.out _).mono ?_; rintro e wq ⟨rfl, hwq⟩; subst wq))
  have HB6' : Hid (Below w.heap.size w w6) := ⟨by
    have h4 := HB3'.out.trans (HB4.out.mono HB3'.out.size)
    have h5 := h4.trans (HB5.out.mono h4.size)
    exact h5.trans (HB6.out.mono h5.size)⟩
  clear HB3' HB4 HB5 HB6 q0 q1 q2 q3 q4
  have c1 : (sz == sz) = true := by simp
  have c2 : (v == v) = true := by simp
  have c3 : (ee == ee) = true := by simp
  have c4 : (ve == ve) = true := by simp
  have c5 : (fb == fb) = true := by simp
  have c6 : (sl1 == sl1) = true := by simp
  have c7 : (sl2 == sl2) = true := by simp
  have c8 : (sl3 == sl3) = true := by simp
  go_wp2_with (first
    | (go_at_call 17; refine (HN.out _ _).mono ?_; rintro e wq ⟨rfl, hwq⟩; subst wq)
    | (go_at_call 18; refine (HA.out _).mono ?_; rintro e wq ⟨rfl, hwq⟩; subst wq)
    | (go_at_call 19; refine (HB.out _).mono ?_; rintro e wq ⟨rfl, hwq⟩; subst wq)
    | (go_at_call 20; refine (HC.out _).mono ?_; rintro e w9 ⟨rfl, hb9⟩; have HB9 : Hid _ := ⟨hb9⟩; clear hb9)
    | (go_at_call 21; refine (HD.out _).mono ?_; rintro e wq ⟨rfl, hwq⟩; subst wq)
    | (go_at_call 22; refine (HL.out _).mono ?_; rintro e w10 ⟨rfl, hb10⟩; have HB10 : Hid _ := ⟨hb10⟩; clear hb10))
  go_ret
  have h9 := HB6'.out.trans (HB9.out.mono HB6'.out.size)
  exact ⟨rfl, h9.trans (HB10.out.mono h9.size)⟩
end Go.Proofs.Ytjbepojopfbajaa
