/- The program's All: the contract. -/
import Derived.Test.YthdkbjifjmhgoaaDoorQxA
import Derived.Test.YthdkbjifjmhgoaaDoorLxLaw
namespace Go.Proofs.YthdkbjifjmhgoaaDoor
open Go.ChangeShapes Go.WideShapes Go.ChangeAt Go.RowKit
set_option linter.unusedVariables false
set_option linter.unusedSimpArgs false

theorem OwnTP.lower {w : World} {base base' : Nat} {v : Value} {l : List TL} (h : OwnTP w base v l) (hb : base' ≤ base) : OwnTP w base' v l := by
  rcases h with ⟨h1, h2⟩
  refine ⟨h1, ?_⟩
  rcases h2 with h | ⟨g, cap, cur, h3, h4, h5⟩
  · exact .inl h
  · exact .inr ⟨g, cap, cur, h3, Nat.le_trans hb h4, h5⟩
theorem lo_last (s : ByteArray) (n : Nat) (h : s.size = n + 1) : (lo s).getLast? = some (s[n]'(by omega)) := by
  have e : (lo s).length - 1 = n := by rw [lo_len]; omega
  have : n < (lo s).length := by rw [lo_len]; omega
  rw [List.getLast?_eq_getElem?, e, List.getElem?_eq_getElem this]
  rfl

set_option maxHeartbeats 1000000 in
set_option maxRecDepth 10000 in
theorem countLines_any (s : ByteArray) (w : World) (hl : s.size ≤ 65536) : Calls Tryd.prog 20 #[.string s] w fun e w' => e = .returned (.int .i64 ((linesM (lo s)).length : Int)) ∧ w' = w := by
  have hc := lines_count (lo s) []
  have e0 : linesM (lo s) = linesF (lo s) [] := rfl
  rw [e0, hc]
  have hcl : (lo s).count 10 ≤ (lo s).length := List.count_le_length
  rw [lo_len] at hcl
  have HC : Hid _ := ⟨count_one s 10 w⟩
  clear hc e0
  by_cases h0 : s.size = 0
  · obtain ⟨t1, t2⟩ := isempty s h0
    have hlo : lo s = [] := List.eq_nil_of_length_eq_zero (by rw [lo_len]; exact h0)
    rw [hlo] at HC ⊢
    clear hlo h0 hcl
    go_enter Tryd.func20, Tryd.ntmps20
    go_wp2_with (go_at_call 28; (with_reducible refine HC.out.mono ?_); rintro e w' ⟨rfl, hw'⟩; subst w')
    go_ret
    exact ⟨rfl, rfl⟩
  · obtain ⟨t1, t2⟩ := nonempty s (by omega)
    obtain ⟨n, hn⟩ : ∃ n, s.size = n + 1 := ⟨s.size - 1, by omega⟩
    have hlast := lo_last s n hn
    have hne : ¬ lo s = [] := fun e => by have := lo_len s; rw [e] at this; simp at this; omega
    rw [if_neg hne, hlast]
    generalize (lo s).count 10 = cnt at *
    have hsz : ((s.size : Int) - 1) = (n : Int) := by omega
    have hw1 : IntKind.i64.wrap ((s.size : Int) - 1) = (n : Int) := by rw [IntKind.wrap_i64]; omega
    have i0 : (0 : Int) ≤ (n : Int) := by omega
    have i1 : (n : Int) < (s.size : Int) := by omega
    have hns : n < s.size := by omega
    have hw2 : IntKind.i64.wrap ((cnt : Int) + 1) = (cnt : Int) + 1 := by rw [IntKind.wrap_i64]; omega
    by_cases h10 : s[n]'hns = 10
    · have q : (((s[n]'hns).toNat : Int) != 10) = false := by rw [h10]; rfl
      rw [if_pos (by rw [h10])]
      clear hlast hne hn h0 h10
      go_enter Tryd.func20, Tryd.ntmps20
      go_wp2_with (go_at_call 28; (with_reducible refine HC.out.mono ?_); rintro e w' ⟨rfl, hw'⟩; subst w')
      go_ret
      exact ⟨rfl, rfl⟩
    · have q : (((s[n]'hns).toNat : Int) != 10) = true := by
        rw [bne_iff_ne]; intro e; exact h10 ((u8z (n := 10) (by omega)).1 e)
      rw [if_neg (by intro e; exact h10 (Option.some.inj e))]
      clear hlast hne hn h0 h10
      go_enter Tryd.func20, Tryd.ntmps20
      go_wp2_with (go_at_call 28; (with_reducible refine HC.out.mono ?_); rintro e w' ⟨rfl, hw'⟩; subst w')
      go_ret
      exact ⟨by go_num, rfl⟩

set_option maxHeartbeats 1000000 in
set_option maxRecDepth 10000 in
theorem pall : PAll := by
  intro s w hE
  obtain ⟨M, hM⟩ : ∃ M, allM (lo s) = M := ⟨_, rfl⟩
  rw [hM]
  unfold allM at hM
  rw [lo_len] at hM
  by_cases h1 : 65536 < s.size
  · rw [if_pos h1] at hM
    subst hM
    have h1i : (65536 : Int) < (s.size : Int) := by omega
    clear hE
    go_enter Tryd.func9, Tryd.ntmps9
    go_wp2
    go_ret3
    exact ⟨rfl, Below.refl _ _⟩
  · rw [if_neg h1] at hM
    have h1i : ¬ (65536 : Int) < (s.size : Int) := by omega
    have HC : Hid _ := ⟨countLines_any s w (by omega)⟩
    by_cases h2 : 4000 < (linesM (lo s)).length
    · rw [if_pos h2] at hM
      subst hM
      have h2i : (4000 : Int) < ((linesM (lo s)).length : Int) := by omega
      generalize (linesM (lo s)).length = nl at *
      clear hE
      go_enter Tryd.func9, Tryd.ntmps9
      go_wp2_with (go_at_call 20; (with_reducible refine HC.out.mono ?_); rintro e w' ⟨rfl, hw'⟩; subst w')
      go_ret3
      exact ⟨rfl, Below.refl _ _⟩
    · rw [if_neg h2] at hM
      have h2i : ¬ (4000 : Int) < ((linesM (lo s)).length : Int) := by omega
      have HN : Hid _ := ⟨newReader_any s w hE⟩
      have HCut : Hid (∀ W rb, RD W rb s 0 0 (.slice none 0 0) → Calls Tryd.prog 22 #[.pointer (some ⟨rb, 0, none⟩)] W fun e w' => CutE (cutF (linesM (lo s)) 1 []) rb (rb + 1) s W e w') := ⟨fun W rb hW => cut_any hW (by omega) (rb + 1) (by omega) hW.lt⟩
      generalize hC : cutF (linesM (lo s)) 1 [] = C at *
      generalize (linesM (lo s)).length = nl at *
      cases C with
      | error k =>
        have hM' : Except.error (k, 100) = M := hM
        subst hM'
        dsimp only [CutE] at HCut
        clear hM hE hC
        go_enter Tryd.func9, Tryd.ntmps9
        go_wp2_with (first
          | (go_at_call 20; (with_reducible refine HC.out.mono ?_); rintro e w' ⟨rfl, hw'⟩; subst w')
          | (go_at_call 21; (with_reducible refine HN.out.mono ?_); rintro e w1 ⟨rb, rfl, hrb, R1, B1⟩; have HR1 : Hid _ := ⟨R1⟩; clear R1)
          | (go_at_call 22; (with_reducible refine (HCut.out _ _ HR1.out).mono ?_); rintro e w2 ⟨rfl, a', lv', R2, T2⟩; have c2 := R2.c2; have B2 : Below w.heap.size w w2 := B1.trans (T2.below B1.size (fun k e => by omega)); clear R2 T2))
        go_quiet (fail)
        go_wp2
        go_ret3
        exact ⟨rfl, below_drewN B2 _⟩
      | ok ts =>
        have hM' : Except.ok ts = M := hM
        subst hM'
        dsimp only [CutE] at HCut
        clear hM hE hC
        go_enter Tryd.func9, Tryd.ntmps9
        go_wp2_with (first
          | (go_at_call 20; (with_reducible refine HC.out.mono ?_); rintro e w' ⟨rfl, hw'⟩; subst w')
          | (go_at_call 21; (with_reducible refine HN.out.mono ?_); rintro e w1 ⟨rb, rfl, hrb, R1, B1⟩; have HR1 : Hid _ := ⟨R1⟩; clear R1)
          | (go_at_call 22; (with_reducible refine (HCut.out _ _ HR1.out).mono ?_); rintro e w2 ⟨rfl, a', ln', lv', R2, O2, T2⟩; have c3 := R2.c3; have HO2 : Hid _ := ⟨O2⟩; have B2 : Below w.heap.size w w2 := B1.trans (T2.below B1.size (fun k e => by omega)); clear R2 T2 O2))
        go_ret3
        exact ⟨_, rfl, HO2.out.lower (by omega), B2⟩
end Go.Proofs.YthdkbjifjmhgoaaDoor
