/- The contracts of bytes.Clone and Fetch. -/
import Derived.Test.YtpfmnopokfiheaaMProt
namespace Go.Proofs.Ytpfmnopokfiheaa
open Go.ChangeShapes Go.WideShapes Go.ChangeAt Go.RowKit Go.Maps
set_option linter.unusedVariables false
set_option linter.unusedSimpArgs false

theorem slice_eq_nil (a : Addr) (l c : Nat) (W : World) : (binOp .eql 31 (.slice (some a) l c) (.slice none 0 0)).run Try.prog W = .ok (.bool false) W := by kernel_rfl
theorem clone_any (g o n cap : Nat) (bs : Nat → Int) (w : World) (hrow : Row w (some ⟨g, o, none⟩) n bs) (hn : n ≤ 1048576) :
    Calls Try.prog 48 #[.slice (some ⟨g, o, none⟩) n cap] w fun e w' => ∃ v, e = .returned v ∧ Own w' w.heap.size v (lst bs n) ∧ Below w.heap.size w w' := by
  have h0 := slice_eq_nil
  have HR : Hid _ := ⟨hrow⟩
  clear hrow
  go_enter Try.func48, Try.ntmps48
  go_wp2_with (at_builtin; refine append_row _ rfl _ _ rfl w.heap.size w.heap.size 0 0 [] rfl (Own.empty w _ (Nat.le_refl _)) (some ⟨g, o, none⟩) n cap bs rfl (HR.out.alloc _) (fun e => by cases e) n (by omega) (by simp; omega) (by simp) ?_; intro g' cap' w' hown h1 h2 hbel)
  go_ret
  exact ⟨_, rfl, by simpa using hown, ((Below.refl _ w).alloc (Nat.le_refl _) _).trans hbel⟩

theorem slice87 (b n : Nat) (hn : n ≤ 15) (W : World) :
    (Instr.sliceAt 87 (.pointer (some ⟨b, 0, none⟩)) none (some (.int .i64 (n : Int))) none).run Try.prog W = .ok (.slice (some ⟨b, 0, none⟩) n 15) W := by
  have hs := info5'
  cases hq : Try.prog.info? 5 with
  | none => rw [hq] at hs; cases hs
  | some i =>
    have hi1 : i.size = 1 := by rw [hq] at hs; simpa using hs
    have g1 : (0 : Int) ≤ (n : Int) ∧ (n : Int) ≤ 15 := by omega
    simp [Instr.sliceAt, run_underlying Try.underlying87, Instr.sureAddr, Instr.sliceBounds, Instr.sliceBound, asIntOf, g1, sizeOf, typeInfo, hq, hi1, addr_add, hn]

theorem fetch_bad (mb gb a : Nat) (n : Int) (w : World) (h : w.cell? ⟨mb, 0, none⟩ = some (.map (some gb))) (hn : n < 1 ∨ 15 < n) :
    Calls Try.prog 22 #[.pointer (some ⟨mb, 0, none⟩), .int .u64 a, .int .i64 n] w fun e w' => e = .returned (.tuple #[.slice none 0 0, .int .i64 1]) ∧ w' = w := by
  have HM := made_ok mb gb w h
  clear h
  by_cases h1 : n < 1
  · clear hn
    go_enter Try.func22, Try.ntmps22
    go_wp2_with (go_at_call 40; with_reducible refine HM.mono ?_; rintro e w1 ⟨he, hw⟩; subst he; subst w1)
    go_ret2
    exact ⟨rfl, rfl⟩
  · have h2 : 15 < n := by omega
    clear hn
    go_enter Try.func22, Try.ntmps22
    go_wp2_with (go_at_call 40; with_reducible refine HM.mono ?_; rintro e w1 ⟨he, hw⟩; subst he; subst w1)
    go_ret2
    exact ⟨rfl, rfl⟩

theorem fetch_any (mb gb a n : Nat) (pl : Nat → Nat) (L : List Pz) (w : World) (h : MA w mb gb pl L) (ha : a < 18446744073709551616) (hn : 1 ≤ n ∧ n ≤ 15) :
    Calls Try.prog 22 #[.pointer (some ⟨mb, 0, none⟩), .int .u64 a, .int .i64 n] w fun e w' =>
      ((rdB L 1 a n = [] → e = .returned (.tuple #[.slice none 0 0, .int .i64 61])) ∧ (rdB L 1 a n ≠ [] → ∃ v, e = .returned (.tuple #[v, .int .i64 0]) ∧ Own w' w.heap.size v (rdB L 1 a n))) ∧ Below w.heap.size w w' := by
  have HM := made_ok mb gb w h.mcell
  have hsl := slice87 w.heap.size n hn.2
  have B0 : Below w.heap.size w (w.alloc (.cells #[.int .u8 0, .int .u8 0, .int .u8 0, .int .u8 0, .int .u8 0, .int .u8 0, .int .u8 0, .int .u8 0, .int .u8 0, .int .u8 0, .int .u8 0, .int .u8 0, .int .u8 0, .int .u8 0, .int .u8 0] 87)) := (Below.refl _ _).alloc (Nat.le_refl _) _
  have HT := take_ok mb gb a n 15 w.heap.size 0 pl L 1 [.int .u8 0, .int .u8 0, .int .u8 0, .int .u8 0, .int .u8 0, .int .u8 0, .int .u8 0, .int .u8 0, .int .u8 0, .int .u8 0, .int .u8 0, .int .u8 0, .int .u8 0, .int .u8 0, .int .u8 0] 87 _ (h.below B0) ha (by omega) hn.2 (by omega) (heap_last w _) (by simp; omega) (fun hb => by have := h.slt hb; omega)
  have hlen := rdB_len h.mz 1 a n
  have hle : smQ (pcsA L 1 a n) ≤ n := pcs_sum _ _ _ _
  have efl : flQ (pcsA L 1 a n) = rdB L 1 a n := rfl
  rw [efl] at HT
  generalize smQ (pcsA L 1 a n) = s at *
  generalize rdB L 1 a n = l at *
  have HB : Hid _ := ⟨B0⟩
  have Hl : Hid _ := ⟨hlen⟩
  have q1 : ¬ ((n : Nat) : Int) < 1 := by omega
  have q2 : ¬ (15 : Int) < ((n : Nat) : Int) := by omega
  have Hn : Hid (n ≤ 15) := ⟨hn.2⟩
  have Hs : Hid (s ≤ n) := ⟨hle⟩
  have hsl2 : s ≤ 15 → ∀ W, _ := fun hs W => slice87 w.heap.size s hs W
  clear h B0 hlen efl hn
  by_cases hs : s = 0
  · have hq : (((s : Nat) : Int) == 0) = true := by simpa using hs
    clear hsl2 hs hle
    go_enter Try.func22, Try.ntmps22
    go_wp2_with (first
      | (go_at_call 40; with_reducible refine HM.mono ?_; rintro e w1 ⟨he, hw⟩; subst he; subst w1)
      | (go_at_call 46; with_reducible refine HT.mono ?_; rintro e w1 ⟨he, hw, ht⟩; subst he))
    go_ret2
    refine ⟨⟨fun _ => rfl, fun hne => ?_⟩, HB.out.trans (ht.below (by simp) (fun k e => by omega))⟩
    exact absurd (List.eq_nil_of_length_eq_zero (by have := Hl.out; simp at hq; omega)) hne
  · have hq : (((s : Nat) : Int) == 0) = false := by simpa using hs
    have hsl3 := hsl2 (by omega)
    have HNe : Hid (l ≠ []) := ⟨fun e => hs (by have := Hl.out; rw [e] at this; simpa using this.symm)⟩
    clear hsl2 hs hle
    go_enter Try.func22, Try.ntmps22
    go_wp2_with (first
      | (go_at_call 40; with_reducible refine HM.mono ?_; rintro e w1 ⟨he, hw⟩; subst he; subst w1)
      | (go_at_call 46; (with_reducible refine HT.mono ?_); rintro e w1 ⟨he, hw, ht⟩; subst he; have hrow : Row w1 (some ⟨w.heap.size, 0, none⟩) s (fun i => l.getD i 0) := .inr ⟨w.heap.size, 0, rfl, fun i hi => by simp only [World.cell?, hw, splice]; simp [List.getElem?_append, Hl.out, hi]⟩; have HRW : Hid _ := ⟨hrow⟩; clear hrow)
      | (go_at_call 48; (with_reducible refine (clone_any w.heap.size 0 s 15 (fun i => l.getD i 0) w1 HRW.out (by have := Hs.out; have := Hn.out; omega)).mono ?_); rintro e w2 ⟨v, he, hown, hb2⟩; subst he))
    go_ret2
    have hb1 := HB.out.trans (ht.below (by simp) (fun k e => by omega))
    refine ⟨⟨fun hne => absurd hne HNe.out, fun _ => ⟨v, rfl, ?_⟩⟩, hb1.trans (hb2.mono hb1.size)⟩
    have e : lst (fun i => l.getD i 0) s = l := by
      apply List.ext_getElem
      · rw [lst_len, Hl.out]
      · intro i h1 h2
        simp [lst, h2]
    rw [e] at hown
    exact ⟨hown.1, hown.2.imp id (fun ⟨g, cap, cur, h1, h2, h3⟩ => ⟨g, cap, cur, h1, Nat.le_trans hb1.size h2, h3⟩)⟩
end Go.Proofs.Ytpfmnopokfiheaa
