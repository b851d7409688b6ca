/- What is stored is loaded: live. -/
import Derived.Test.YtpfmnopokfiheaaMNum
namespace Go.Proofs.Ytpfmnopokfiheaa
open Go.ChangeShapes Go.WideShapes Go.ChangeAt Go.RowKit Go.Maps
set_option linter.unusedVariables false
set_option linter.unusedSimpArgs false

def lv1 : List Pz := mapL [] 4096 1 6
def lv2 : List Pz := givL lv1 2 61 4096 (btL 258 8)
section
set_option maxRecDepth 100000
theorem lv_a : mapE [] 4096 1 6 = 0 := by kernel_rfl
theorem lv_b : mapE lv1 4096 1 0 = 60 := by kernel_rfl
theorem lv_c : givE lv1 2 61 4096 8 = 0 := by kernel_rfl
theorem lv_d : reachB lv2 4 4097 1 = true := by kernel_rfl
theorem lv_e : ldN (rdB lv2 4 4097 1) 1 = 1 := by kernel_rfl
theorem lv_f : reachB lv2 4 8190 3 = false := by kernel_rfl
theorem lv_g : lv1.length = 1 := by kernel_rfl
end
theorem lv_h : mapL lv1 4096 1 0 = lv1 := by unfold mapL; rw [lv_b, if_neg (by decide)]

theorem live_any (w : World) : Calls Try.prog 13 #[] w fun e w' => e = .returned (.bool true) ∧ Below w.heap.size w w' := by
  have HN := new_any w
  have H1 : ∀ W, MA W (w.heap.size + 1) w.heap.size (fun _ => 0) [] → Calls Try.prog 25 #[.pointer (some ⟨w.heap.size + 1, 0, none⟩), .int .u64 4096, .int .i64 1, .int .i64 6] W fun e w' => e = .returned (.int .i64 0) ∧ Nx W w' (w.heap.size + 1) w.heap.size (fun _ => 0) [] lv1 := fun W h => by
    have := map_ok (w.heap.size + 1) w.heap.size 4096 (fun _ => 0) [] 1 6 W h (by omega) (by omega) (by simp)
    rw [lv_a] at this
    exact this
  have H2 : ∀ W pl, MA W (w.heap.size + 1) w.heap.size pl lv1 → Calls Try.prog 25 #[.pointer (some ⟨w.heap.size + 1, 0, none⟩), .int .u64 4096, .int .i64 1, .int .i64 0] W fun e w' => e = .returned (.int .i64 60) ∧ Nx W w' (w.heap.size + 1) w.heap.size pl lv1 lv1 := fun W pl h => by
    have := map_ok (w.heap.size + 1) w.heap.size 4096 pl lv1 1 0 W h (by omega) (by omega) (by rw [lv_g]; omega)
    rw [lv_b, lv_h] at this
    exact this
  have H3 : ∀ W pl, MA W (w.heap.size + 1) w.heap.size pl lv1 → Calls Try.prog 21 #[.pointer (some ⟨w.heap.size + 1, 0, none⟩), .int .u64 4096, .int .i64 8, .int .u64 258] W fun e w' => e = .returned (.int .i64 0) ∧ MA w' (w.heap.size + 1) w.heap.size pl lv2 ∧ Turn (MS (w.heap.size + 1) w.heap.size pl lv1) W w' := fun W pl h => by
    have := store_any (w.heap.size + 1) w.heap.size 4096 8 pl lv1 258 W h (by omega) rfl
    rw [lv_c] at this
    exact this
  have H4 : ∀ W pl, MA W (w.heap.size + 1) w.heap.size pl lv2 → Calls Try.prog 23 #[.pointer (some ⟨w.heap.size + 1, 0, none⟩), .int .u64 4097, .int .i64 1] W fun e w' => e = .returned (.tuple #[.int .u64 1, .int .i64 0]) ∧ Below W.heap.size W w' := fun W pl h => by
    have := load_any (w.heap.size + 1) w.heap.size 4097 1 pl lv2 W h (by omega) rfl
    rw [lv_d, lv_e, if_pos rfl] at this
    exact this
  have H5 : ∀ W pl, MA W (w.heap.size + 1) w.heap.size pl lv2 → Calls Try.prog 20 #[.pointer (some ⟨w.heap.size + 1, 0, none⟩), .int .u64 8190, .int .i64 3] W fun e w' => e = .returned (.tuple #[.slice none 0 0, .int .i64 61]) ∧ Below W.heap.size W w' := fun W pl h => by
    refine (read_any (w.heap.size + 1) w.heap.size 8190 3 pl lv2 W h (by omega) (by omega)).mono ?_
    rintro e w' ⟨⟨_, h2⟩, hb⟩
    exact ⟨h2 lv_f, hb⟩
  generalize lv1 = L1 at *
  generalize lv2 = L2 at *
  go_enter Try.func13, Try.ntmps13
  go_wp2_with (first
    | (go_at_call 18; with_reducible refine (num_any _ _).mono ?_; rintro e w' ⟨he, hw'⟩; subst he; subst w')
    | (go_at_call 8; with_reducible refine HN.mono ?_; rintro e w1 ⟨he, hm1, hb1, hs1⟩; subst he)
    | (go_at_call 25; have _ := hm2; (with_reducible refine (H2 _ _ hm2).mono ?_); rintro e w3 ⟨he, pl3, hm3, ht3, hg3⟩; subst he)
    | (go_at_call 25; (with_reducible refine (H1 _ hm1).mono ?_); rintro e w2 ⟨he, pl2, hm2, ht2, hg2⟩; subst he)
    | (go_at_call 21; (with_reducible refine (H3 _ _ hm3).mono ?_); rintro e w4 ⟨he, hm4, ht4⟩; subst he)
    | (go_at_call 23; (with_reducible refine (H4 _ _ hm4).mono ?_); rintro e w5 ⟨he, hb5⟩; subst he)
    | (go_at_call 20; (with_reducible refine (H5 _ _ (hm4.below hb5)).mono ?_); rintro e w6 ⟨he, hb6⟩; subst he))
  go_ret
  refine ⟨rfl, ?_⟩
  have g1 : ∀ b, MS (w.heap.size + 1) w.heap.size (fun _ => 0) [] b → w.heap.size ≤ b := fun b hb => by
    rcases hb with rfl | rfl | ⟨p, hp, _⟩
    · omega
    · omega
    · cases hp
  have g2 : ∀ b, MS (w.heap.size + 1) w.heap.size pl2 L1 b → w.heap.size ≤ b := fun b hb => by
    rcases hg2 b hb with hb | hb
    · exact g1 b hb
    · omega
  have g3 : ∀ b, MS (w.heap.size + 1) w.heap.size pl3 L1 b → w.heap.size ≤ b := fun b hb => by
    rcases hg3 b hb with hb | hb
    · exact g2 b hb
    · have := ht2.size; omega
  have e1 := hb1.size
  have e2 := ht2.size
  have e3 := ht3.size
  have e4 := ht4.size
  have e5 := hb5.size
  exact ((((hb1.trans (ht2.below e1 g1)).trans (ht3.below (by omega) g2)).trans (ht4.below (by omega) g3)).trans (hb5.mono (by omega))).trans (hb6.mono (by omega))
end Go.Proofs.Ytpfmnopokfiheaa
