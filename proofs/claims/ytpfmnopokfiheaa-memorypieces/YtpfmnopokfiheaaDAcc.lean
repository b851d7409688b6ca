/- The contracts of the document's Read, Write, Put. -/
import Derived.Test.YtpfmnopokfiheaaDPut
namespace Go.Proofs.Ytpfmnopokfiheaa
open Go.ChangeShapes Go.WideShapes Go.ChangeAt Go.RowKit Go.Maps
set_option linter.unusedVariables false
set_option linter.unusedSimpArgs false

theorem rread_neg (rb a : Nat) (n : Int) (w : World) (hn : n < 0) :
    Calls Try.prog 54 #[.pointer (some ⟨rb, 0, none⟩), .int .u64 a, .int .i64 n] w fun e w' => e = .returned (.tuple #[.slice none 0 0, .int .i64 1]) ∧ w' = w := by
  go_enter Try.func54, Try.ntmps54
  go_wp2
  go_ret2
  exact ⟨rfl, rfl⟩
theorem rread_big (rb a : Nat) (n : Int) (w : World) (hn : 1048576 < n) :
    Calls Try.prog 54 #[.pointer (some ⟨rb, 0, none⟩), .int .u64 a, .int .i64 n] w fun e w' => e = .returned (.tuple #[.slice none 0 0, .int .i64 6]) ∧ w' = w := by
  have q1 : ¬ n < 0 := by omega
  go_enter Try.func54, Try.ntmps54
  go_wp2
  go_ret2
  exact ⟨rfl, rfl⟩

theorem rread_any (rb a n : Nat) (lv : Value) (pb : Nat → Nat) (L : List Pz) (w : World) (h : RA w rb lv pb L) (ha : a < 18446744073709551616) (hL : L.length ≤ 1048576) (hn : n ≤ 1048576) :
    Calls Try.prog 54 #[.pointer (some ⟨rb, 0, none⟩), .int .u64 a, .int .i64 n] w fun e w' => ∃ v, e = .returned (.tuple #[v, .int .i64 (if reachB L 4 a n = true then 0 else 61)]) ∧ Own w' w.heap.size v (if reachB L 4 a n = true then rdB L 4 a n else []) ∧ Below w.heap.size w w' := by
  have HR := reach_any rb a n 4 lv pb L w h ha hL hn
  have n0 : ¬ (n : Int) < 0 := by omega
  have n1 : ¬ (1048576 : Int) < (n : Int) := by omega
  by_cases hr : reachB L 4 a n = true
  · have HB := bytes_any rb a n 4 lv pb L w h ha hL hn hr
    rw [hr] at HR
    simp only [hr, if_true]
    generalize rdB L 4 a n = R at *
    clear h hr ha hL hn
    go_enter Try.func54, Try.ntmps54
    go_wp2_with (first
      | (go_at_call 56; with_reducible refine HR.mono ?_; rintro e w1 ⟨he, hw⟩; subst he; subst hw)
      | (go_at_call 64; with_reducible refine HB.mono ?_; rintro e w1 ⟨v, he, hv, hb⟩; subst he))
    go_ret2
    exact ⟨v, rfl, hv, hb⟩
  · have hr' : reachB L 4 a n = false := by simpa using hr
    rw [hr'] at HR
    simp only [hr']
    clear h hr ha hL hn hr'
    go_enter Try.func54, Try.ntmps54
    go_wp2_with (go_at_call 56; with_reducible refine HR.mono ?_; rintro e w1 ⟨he, hw⟩; subst he; subst hw)
    go_ret2
    exact ⟨_, rfl, Own.nil _ _, Below.refl _ _⟩

theorem rwrite_any (rb a cap : Nat) (ao : Option Addr) (bl : List Int) (lv : Value) (pb : Nat → Nat) (L : List Pz) (w : World) (h : RA w rb lv pb L) (ha : a < 18446744073709551616) (hL : L.length ≤ 1048576) (hcap : bl.length ≤ 9223372036854775807) (hs : RSrc w rb lv pb L ao bl) :
    Calls Try.prog 36 #[.pointer (some ⟨rb, 0, none⟩), .int .u64 a, .slice ao bl.length cap] w fun e w' => e = .returned (.int .i64 (givE L 2 61 a bl.length)) ∧ RA w' rb lv pb (givL L 2 61 a bl) ∧ Turn (RS rb lv pb L) w w' := by
  by_cases hn : 1048576 < bl.length
  · have HE : Hid (givE L 2 61 a bl.length = 6) := ⟨by unfold givE; rw [if_pos hn]⟩
    have HL : Hid (givL L 2 61 a bl = L) := ⟨by unfold givL; rw [if_pos hn]⟩
    rw [HE.out, HL.out]
    have q1 : (1048576 : Int) < (bl.length : Int) := by omega
    have HM : Hid _ := ⟨h⟩
    clear h hs
    go_enter Try.func36, Try.ntmps36
    go_wp2
    go_ret
    exact ⟨rfl, HM.out, Turn.refl _ _⟩
  have HR := reach_any rb a bl.length 2 lv pb L w h ha hL (by omega)
  have q1 : ¬ (1048576 : Int) < (bl.length : Int) := by omega
  by_cases hr : reachB L 2 a bl.length = true
  · have HB := rput_any rb a cap 2 ao bl lv pb L w h ha hL (by omega) hr hs
    have HE : Hid (givE L 2 61 a bl.length = 0) := ⟨by unfold givE; rw [if_neg hn, if_pos hr]⟩
    have HL : Hid (givL L 2 61 a bl = putN L a bl) := ⟨by unfold givL; rw [if_neg hn, if_pos hr, put_is h.mz hr]⟩
    rw [HE.out, HL.out]
    rw [hr] at HR
    generalize putN L a bl = R at *
    clear h hr ha hL hs hn
    go_enter Try.func36, Try.ntmps36
    go_wp2_with (first
      | (go_at_call 56; with_reducible refine HR.mono ?_; rintro e w1 ⟨he, hw⟩; subst he; subst hw)
      | (go_at_call 57; with_reducible refine HB.mono ?_; rintro e w1 ⟨he, hv, hb⟩; subst he))
    go_ret
    exact ⟨rfl, hv, hb⟩
  · have hr' : reachB L 2 a bl.length = false := by simpa using hr
    have HE : Hid (givE L 2 61 a bl.length = 61) := ⟨by unfold givE; rw [if_neg hn, if_neg hr]⟩
    have HL : Hid (givL L 2 61 a bl = L) := ⟨by unfold givL; rw [if_neg hn, if_neg hr]⟩
    rw [HE.out, HL.out]
    rw [hr'] at HR
    have HM : Hid _ := ⟨h⟩
    clear h hr ha hL hs hn hr'
    go_enter Try.func36, Try.ntmps36
    go_wp2_with (go_at_call 56; with_reducible refine HR.mono ?_; rintro e w1 ⟨he, hw⟩; subst he; subst hw)
    go_ret
    exact ⟨rfl, HM.out, Turn.refl _ _⟩
theorem rputs_any (rb a cap : Nat) (ao : Option Addr) (bl : List Int) (lv : Value) (pb : Nat → Nat) (L : List Pz) (w : World) (h : RA w rb lv pb L) (ha : a < 18446744073709551616) (hL : L.length ≤ 1048576) (hcap : bl.length ≤ 9223372036854775807) (hs : RSrc w rb lv pb L ao bl) :
    Calls Try.prog 35 #[.pointer (some ⟨rb, 0, none⟩), .int .u64 a, .slice ao bl.length cap] w fun e w' => e = .returned (.int .i64 (givE L 0 60 a bl.length)) ∧ RA w' rb lv pb (givL L 0 60 a bl) ∧ Turn (RS rb lv pb L) w w' := by
  by_cases hn : 1048576 < bl.length
  · have HE : Hid (givE L 0 60 a bl.length = 6) := ⟨by unfold givE; rw [if_pos hn]⟩
    have HL : Hid (givL L 0 60 a bl = L) := ⟨by unfold givL; rw [if_pos hn]⟩
    rw [HE.out, HL.out]
    have q1 : (1048576 : Int) < (bl.length : Int) := by omega
    have HM : Hid _ := ⟨h⟩
    clear h hs
    go_enter Try.func35, Try.ntmps35
    go_wp2
    go_ret
    exact ⟨rfl, HM.out, Turn.refl _ _⟩
  have HR := reach_any rb a bl.length 0 lv pb L w h ha hL (by omega)
  have q1 : ¬ (1048576 : Int) < (bl.length : Int) := by omega
  by_cases hr : reachB L 0 a bl.length = true
  · have HB := rput_any rb a cap 0 ao bl lv pb L w h ha hL (by omega) hr hs
    have HE : Hid (givE L 0 60 a bl.length = 0) := ⟨by unfold givE; rw [if_neg hn, if_pos hr]⟩
    have HL : Hid (givL L 0 60 a bl = putN L a bl) := ⟨by unfold givL; rw [if_neg hn, if_pos hr, put_is h.mz hr]⟩
    rw [HE.out, HL.out]
    rw [hr] at HR
    generalize putN L a bl = R at *
    clear h hr ha hL hs hn
    go_enter Try.func35, Try.ntmps35
    go_wp2_with (first
      | (go_at_call 56; with_reducible refine HR.mono ?_; rintro e w1 ⟨he, hw⟩; subst he; subst hw)
      | (go_at_call 57; with_reducible refine HB.mono ?_; rintro e w1 ⟨he, hv, hb⟩; subst he))
    go_ret
    exact ⟨rfl, hv, hb⟩
  · have hr' : reachB L 0 a bl.length = false := by simpa using hr
    have HE : Hid (givE L 0 60 a bl.length = 60) := ⟨by unfold givE; rw [if_neg hn, if_neg hr]⟩
    have HL : Hid (givL L 0 60 a bl = L) := ⟨by unfold givL; rw [if_neg hn, if_neg hr]⟩
    rw [HE.out, HL.out]
    rw [hr'] at HR
    have HM : Hid _ := ⟨h⟩
    clear h hr ha hL hs hn hr'
    go_enter Try.func35, Try.ntmps35
    go_wp2_with (go_at_call 56; with_reducible refine HR.mono ?_; rintro e w1 ⟨he, hw⟩; subst he; subst hw)
    go_ret
    exact ⟨rfl, HM.out, Turn.refl _ _⟩
end Go.Proofs.Ytpfmnopokfiheaa
