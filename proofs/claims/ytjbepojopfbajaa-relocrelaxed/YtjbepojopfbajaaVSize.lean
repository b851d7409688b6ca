/- Size, Name, Slot, Left; the functions of the kinds. -/
import Derived.Test.YtjbepojopfbajaaVWork
namespace Go.Proofs.Ytjbepojopfbajaa
open Go.ChangeShapes Go.WideShapes Go.ChangeAt Go.RowKit
set_option linter.unusedVariables false
set_option linter.unusedSimpArgs false

set_option maxHeartbeats 8000000 in
set_option maxRecDepth 20000 in
theorem size_any (t : Int) (w : World) :
    Calls Try.prog 8 #[.int .i64 t] w fun e w' => e = .returned (.tuple #[.int .i64 (wkM t).sz, .int .i64 (wkE t)]) ∧ Below w.heap.size w w' := by
  have HK : Hd (∀ W, _) := ⟨fun W => worked_any t W⟩
  generalize wkM t = x at *
  generalize wkE t = ee at *
  go_enter Try.func8, Try.ntmps8
  go_upto_region 2 with (first
    | (go_at_call 29; refine (HK.out _).mono ?_; rintro e w1 ⟨rfl, hb1⟩; have HB1 : Hd _ := ⟨hb1⟩; clear hb1)
    | ((with_reducible refine wpList_store_row rfl 62 (.tmp 4) (.tmp 9) rfl w1.heap.size x.cells.toArray ?_ ?_ 62 _ (heap_alloc_last _ _) ?_ ?_ ?_ ?_); rfl; rfl; kernel_rfl; kernel_rfl; exact kd_one x))
  have hk := kd_new w1 x.cells.toArray
  have HB : Hd (Below w.heap.size w ((w1.alloc (.cells #[.string ⟨#[]⟩, .int .i64 0, .nilFunc, .nilFunc] 62)).setRow w1.heap.size x.cells.toArray)) := ⟨vb_setRow (HB1.out.alloc HB1.out.size _) HB1.out.size _⟩
  obtain ⟨g, hg⟩ : ∃ g, w1.heap.size = g := ⟨_, rfl⟩
  rw [hg] at hk HB ⊢
  generalize (w1.alloc (.cells #[.string ⟨#[]⟩, .int .i64 0, .nilFunc, .nilFunc] 62)).setRow g x.cells.toArray = W at *
  clear HB1 hg HK
  have k1 : W.cell? ⟨g, 1, none⟩ = some (.int .i64 x.sz) := hk.cell 1 rfl
  clear hk
  go_wp2
  go_ret2
  exact ⟨rfl, HB.out⟩

def pre9 : ByteArray := ⟨#[82, 95, 88, 56, 54, 95, 54, 52, 95]⟩
/-- What Name answers. -/
def nameM (t : Int) : ByteArray := if (kdOf t).nm.toList.isEmpty then ⟨#[]⟩ else pre9 ++ (kdOf t).nm
set_option maxHeartbeats 8000000 in
set_option maxRecDepth 20000 in
theorem name_any (t : Int) (w : World) :
    Calls Try.prog 20 #[.int .i64 t] w fun e w' => e = .returned (.string (nameM t)) ∧ Below w.heap.size w w' := by
  have HK : Hd (∀ W, _) := ⟨fun W => kindOf_any t W⟩
  unfold nameM
  have hsz : ∀ t, (kdOf t).nm.size ≤ 9 := by
    apply kd_cases (fun _ k => k.nm.size ≤ 9)
    · intro t _; decide
    · intro t ht
      have : ∀ k, k < 38 → (kdsL.getD k Kd.zero).nm.size ≤ 9 := by decide +kernel
      exact this t ht
  have hz := hsz t
  clear hsz
  generalize kdOf t = x at *
  go_enter Try.func20, Try.ntmps20
  go_upto_region 2 with (first
    | (go_at_call 32; refine (HK.out _).mono ?_; rintro e w1 ⟨rfl, hb1⟩; have HB1 : Hd _ := ⟨hb1⟩; clear hb1)
    | ((with_reducible refine wpList_store_row rfl 62 (.tmp 3) (.tmp 5) rfl w1.heap.size x.cells.toArray ?_ ?_ 62 _ (heap_alloc_last _ _) ?_ ?_ ?_ ?_); rfl; rfl; kernel_rfl; kernel_rfl; exact kd_one x))
  have hk := kd_new w1 x.cells.toArray
  have HB : Hd (Below w.heap.size w ((w1.alloc (.cells #[.string ⟨#[]⟩, .int .i64 0, .nilFunc, .nilFunc] 62)).setRow w1.heap.size x.cells.toArray)) := ⟨vb_setRow (HB1.out.alloc HB1.out.size _) HB1.out.size _⟩
  obtain ⟨g, hg⟩ : ∃ g, w1.heap.size = g := ⟨_, rfl⟩
  rw [hg] at hk HB ⊢
  generalize (w1.alloc (.cells #[.string ⟨#[]⟩, .int .i64 0, .nilFunc, .nilFunc] 62)).setRow g x.cells.toArray = W at *
  clear HB1 hg HK
  have k0 : W.cell? ⟨g, 0, none⟩ = some (.string x.nm) := hk.cell 0 rfl
  clear hk
  obtain ⟨nm, sz, v, f⟩ := x
  dsimp only at *
  obtain ⟨q, hq⟩ : ∃ q, nm.toList.isEmpty = q := ⟨_, rfl⟩
  cases q
  all_goals
    go_wp2
    go_ret
    exact ⟨by first | (simp [hq, pre9]; done) | rfl, HB.out⟩

theorem slot_any (t : Int) (w : World) : Calls Try.prog 15 #[.int .i64 t] w fun e w' => e = .returned (.tuple #[.bool (t == 9), .bool (t == 22)]) ∧ w' = w := by
  go_enter Try.func15, Try.ntmps15
  go_wp2
  go_ret2
  exact ⟨rfl, rfl⟩
theorem left_any (t : Int) (w : World) : Calls Try.prog 18 #[.int .i64 t] w fun e w' => e = .returned (.bool (t == 1)) ∧ w' = w := by
  go_enter Try.func18, Try.ntmps18
  go_wp2
  go_ret
  exact ⟨rfl, rfl⟩
theorem always_any (n : Int) (w : World) : Calls Try.prog 58 #[.int .i64 n] w fun e w' => e = .returned (.bool true) ∧ w' = w := by
  go_enter Try.func58, Try.ntmps58
  go_wp2
  go_ret
  exact ⟨rfl, rfl⟩
theorem far_in {n : Int} (h : farB n = false) : -1152921504606846976 ≤ n ∧ n ≤ 1152921504606846976 := by
  unfold farB at h
  simp at h
  omega
theorem ok_in {p : Pl} (h : p.okB = true) : farB p.s = false ∧ farB p.a = false ∧ farB p.p = false ∧ farB p.g = false ∧ farB p.t = false := by
  unfold Pl.okB at h
  simpa [and_assoc] using h
theorem psum_any (x : Pl) (w : World) (h : x.okB = true) : Calls Try.prog 57 #[x.val] w fun e w' => e = .returned (.int .i64 (x.s + x.a)) ∧ Below w.heap.size w w' := by
  obtain ⟨h1, h2, h3, h4, h5⟩ := ok_in h
  have b1 := far_in h1
  have b2 := far_in h2
  clear h h1 h2 h3 h4 h5
  obtain ⟨s, a, p, g, t⟩ := x
  have HB : Hd (Below w.heap.size w (w.alloc (.cells #[.int .i64 s, .int .i64 a, .int .i64 p, .int .i64 g, .int .i64 t] 23))) := ⟨vb_alloc (Below.refl _ _) _⟩
  dsimp only [Pl.val] at *
  go_enter Try.func57, Try.ntmps57
  go_wp2
  go_ret
  exact ⟨by first | rfl | (congr 2; omega), HB.out⟩
theorem pnear_any (x : Pl) (w : World) (h : x.okB = true) : Calls Try.prog 59 #[x.val] w fun e w' => e = .returned (.int .i64 (x.s + x.a - x.p)) ∧ Below w.heap.size w w' := by
  obtain ⟨h1, h2, h3, h4, h5⟩ := ok_in h
  have b1 := far_in h1
  have b2 := far_in h2
  have b3 := far_in h3
  have b4 := far_in h4
  have b5 := far_in h5
  clear h h1 h2 h3 h4 h5
  obtain ⟨s, a, p, g, t⟩ := x
  have HB : Hd (Below w.heap.size w (w.alloc (.cells #[.int .i64 s, .int .i64 a, .int .i64 p, .int .i64 g, .int .i64 t] 23))) := ⟨vb_alloc (Below.refl _ _) _⟩
  dsimp only [Pl.val] at *
  go_enter Try.func59, Try.ntmps59
  go_wp2
  go_ret
  exact ⟨by first | rfl | (congr 2; omega), HB.out⟩
theorem pslot_any (x : Pl) (w : World) (h : x.okB = true) : Calls Try.prog 61 #[x.val] w fun e w' => e = .returned (.int .i64 (x.g + x.a - x.p)) ∧ Below w.heap.size w w' := by
  obtain ⟨h1, h2, h3, h4, h5⟩ := ok_in h
  have b1 := far_in h1
  have b2 := far_in h2
  have b3 := far_in h3
  have b4 := far_in h4
  have b5 := far_in h5
  clear h h1 h2 h3 h4 h5
  obtain ⟨s, a, p, g, t⟩ := x
  have HB : Hd (Below w.heap.size w (w.alloc (.cells #[.int .i64 s, .int .i64 a, .int .i64 p, .int .i64 g, .int .i64 t] 23))) := ⟨vb_alloc (Below.refl _ _) _⟩
  dsimp only [Pl.val] at *
  go_enter Try.func61, Try.ntmps61
  go_wp2
  go_ret
  exact ⟨by first | rfl | (congr 2; omega), HB.out⟩
theorem poffset_any (x : Pl) (w : World) (h : x.okB = true) : Calls Try.prog 63 #[x.val] w fun e w' => e = .returned (.int .i64 (x.s + x.a - x.t)) ∧ Below w.heap.size w w' := by
  obtain ⟨h1, h2, h3, h4, h5⟩ := ok_in h
  have b1 := far_in h1
  have b2 := far_in h2
  have b3 := far_in h3
  have b4 := far_in h4
  have b5 := far_in h5
  clear h h1 h2 h3 h4 h5
  obtain ⟨s, a, p, g, t⟩ := x
  have HB : Hd (Below w.heap.size w (w.alloc (.cells #[.int .i64 s, .int .i64 a, .int .i64 p, .int .i64 g, .int .i64 t] 23))) := ⟨vb_alloc (Below.refl _ _) _⟩
  dsimp only [Pl.val] at *
  go_enter Try.func63, Try.ntmps63
  go_wp2
  go_ret
  exact ⟨by first | rfl | (congr 2; omega), HB.out⟩
theorem ix5_0 (s a p g t : Int) (W : World) : (Instr.index 79 (.agg #[.int .i64 s, .int .i64 a, .int .i64 p, .int .i64 g, .int .i64 t]) (.int .i64 0)).run Try.prog W = .ok (.int .i64 s) W := by kernel_rfl
theorem ix5_1 (s a p g t : Int) (W : World) : (Instr.index 79 (.agg #[.int .i64 s, .int .i64 a, .int .i64 p, .int .i64 g, .int .i64 t]) (.int .i64 1)).run Try.prog W = .ok (.int .i64 a) W := by kernel_rfl
theorem ix5_2 (s a p g t : Int) (W : World) : (Instr.index 79 (.agg #[.int .i64 s, .int .i64 a, .int .i64 p, .int .i64 g, .int .i64 t]) (.int .i64 2)).run Try.prog W = .ok (.int .i64 p) W := by kernel_rfl
theorem ix5_3 (s a p g t : Int) (W : World) : (Instr.index 79 (.agg #[.int .i64 s, .int .i64 a, .int .i64 p, .int .i64 g, .int .i64 t]) (.int .i64 3)).run Try.prog W = .ok (.int .i64 g) W := by kernel_rfl
theorem ix5_4 (s a p g t : Int) (W : World) : (Instr.index 79 (.agg #[.int .i64 s, .int .i64 a, .int .i64 p, .int .i64 g, .int .i64 t]) (.int .i64 4)).run Try.prog W = .ok (.int .i64 t) W := by kernel_rfl
set_option maxHeartbeats 8000000 in
set_option maxRecDepth 20000 in
theorem right_any (x : Pl) (w : World) : Calls Try.prog 30 #[x.val] w fun e w' => e = .returned (.bool x.okB) ∧ Below w.heap.size w w' := by
  obtain ⟨s, a, p, g, t⟩ := x
  have HB : Hd (Below w.heap.size w (w.alloc (.cells #[.int .i64 s, .int .i64 a, .int .i64 p, .int .i64 g, .int .i64 t] 23))) := ⟨vb_alloc (Below.refl _ _) _⟩
  obtain ⟨q, hq⟩ : ∃ q, (Pl.okB ⟨s, a, p, g, t⟩) = q := ⟨_, rfl⟩
  have HQ : Hd ((!farB s && !farB a && !farB p && !farB g && !farB t) = q) := ⟨hq⟩
  rw [hq]
  clear hq
  dsimp only [Pl.val] at *
  go_enter Try.func30, Try.ntmps30
  go_upto_region 2 with (fail)
  generalize w.alloc (.cells #[.int .i64 s, .int .i64 a, .int .i64 p, .int .i64 g, .int .i64 t] 23) = W0 at *
  go_loopw [16] (fun i wr => ∃ k : Nat, k ≤ 5 ∧ i = .int .i64 k ∧ W0 = wr ∧ Hd ((0 < k → farB s = false) ∧ (1 < k → farB a = false) ∧ (2 < k → farB p = false) ∧ (3 < k → farB g = false) ∧ (4 < k → farB t = false))) (fun i _ => 5 - (intOf i).toNat)
  case atStart => exact ⟨0, by omega, rfl, rfl, ⟨by omega, by omega, by omega, by omega, by omega⟩⟩
  case round =>
    obtain ⟨k, hk, rfl, rfl, HF⟩ := hrel
    have hk5 : k = 0 ∨ k = 1 ∨ k = 2 ∨ k = 3 ∨ k = 4 ∨ k = 5 := by omega
    rcases hk5 with rfl | rfl | rfl | rfl | rfl | rfl
    · obtain ⟨b, hb⟩ : ∃ b, farB s = b := ⟨_, rfl⟩
      have HX : Hd (farB s = b) := ⟨hb⟩
      unfold farB at hb
      have hix := ix5_0 s a p g t W0
      cases b
      · have h1 : decide (s < -1152921504606846976) = false := by simp at hb ⊢; omega
        have h2 : decide (1152921504606846976 < s) = false := by simp at hb ⊢; omega
        clear hb
        go_wp2
        go_roundw
        case rel => exact ⟨0 + 1, by decide, by go_num, trivial, ⟨by have h := HF.out; have h3 := HX.out; simp at h ⊢; simp [h, h3]⟩⟩
        case measure => simp [intOf]
      · have hq : q = false := by rw [← HQ.out]; simp [HX.out]
        subst hq
        go_wp2
        all_goals
          go_ret
          exact ⟨rfl, HB.out⟩
    · obtain ⟨b, hb⟩ : ∃ b, farB a = b := ⟨_, rfl⟩
      have HX : Hd (farB a = b) := ⟨hb⟩
      unfold farB at hb
      have hix := ix5_1 s a p g t W0
      cases b
      · have h1 : decide (a < -1152921504606846976) = false := by simp at hb ⊢; omega
        have h2 : decide (1152921504606846976 < a) = false := by simp at hb ⊢; omega
        clear hb
        go_wp2
        go_roundw
        case rel => exact ⟨1 + 1, by decide, by go_num, trivial, ⟨by have h := HF.out; have h3 := HX.out; simp at h ⊢; simp [h, h3]⟩⟩
        case measure => simp [intOf]
      · have hq : q = false := by rw [← HQ.out]; simp [HX.out]
        subst hq
        go_wp2
        all_goals
          go_ret
          exact ⟨rfl, HB.out⟩
    · obtain ⟨b, hb⟩ : ∃ b, farB p = b := ⟨_, rfl⟩
      have HX : Hd (farB p = b) := ⟨hb⟩
      unfold farB at hb
      have hix := ix5_2 s a p g t W0
      cases b
      · have h1 : decide (p < -1152921504606846976) = false := by simp at hb ⊢; omega
        have h2 : decide (1152921504606846976 < p) = false := by simp at hb ⊢; omega
        clear hb
        go_wp2
        go_roundw
        case rel => exact ⟨2 + 1, by decide, by go_num, trivial, ⟨by have h := HF.out; have h3 := HX.out; simp at h ⊢; simp [h, h3]⟩⟩
        case measure => simp [intOf]
      · have hq : q = false := by rw [← HQ.out]; simp [HX.out]
        subst hq
        go_wp2
        all_goals
          go_ret
          exact ⟨rfl, HB.out⟩
    · obtain ⟨b, hb⟩ : ∃ b, farB g = b := ⟨_, rfl⟩
      have HX : Hd (farB g = b) := ⟨hb⟩
      unfold farB at hb
      have hix := ix5_3 s a p g t W0
      cases b
      · have h1 : decide (g < -1152921504606846976) = false := by simp at hb ⊢; omega
        have h2 : decide (1152921504606846976 < g) = false := by simp at hb ⊢; omega
        clear hb
        go_wp2
        go_roundw
        case rel => exact ⟨3 + 1, by decide, by go_num, trivial, ⟨by have h := HF.out; have h3 := HX.out; simp at h ⊢; simp [h, h3]⟩⟩
        case measure => simp [intOf]
      · have hq : q = false := by rw [← HQ.out]; simp [HX.out]
        subst hq
        go_wp2
        all_goals
          go_ret
          exact ⟨rfl, HB.out⟩
    · obtain ⟨b, hb⟩ : ∃ b, farB t = b := ⟨_, rfl⟩
      have HX : Hd (farB t = b) := ⟨hb⟩
      unfold farB at hb
      have hix := ix5_4 s a p g t W0
      cases b
      · have h1 : decide (t < -1152921504606846976) = false := by simp at hb ⊢; omega
        have h2 : decide (1152921504606846976 < t) = false := by simp at hb ⊢; omega
        clear hb
        go_wp2
        go_roundw
        case rel => exact ⟨4 + 1, by decide, by go_num, trivial, ⟨by have h := HF.out; have h3 := HX.out; simp at h ⊢; simp [h, h3]⟩⟩
        case measure => simp [intOf]
      · have hq : q = false := by rw [← HQ.out]; simp [HX.out]
        subst hq
        go_wp2
        all_goals
          go_ret
          exact ⟨rfl, HB.out⟩
    · have hq : q = true := by
        have := HF.out
        rw [← HQ.out]; simp at this ⊢; simp [this]
      subst hq
      go_wp2
      go_ret
      exact ⟨rfl, HB.out⟩
end Go.Proofs.Ytjbepojopfbajaa
