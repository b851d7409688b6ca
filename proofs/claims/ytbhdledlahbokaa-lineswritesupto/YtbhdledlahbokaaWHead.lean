/- The document's low and head; equal numbers. -/
import Derived.Test.YtbhdledlahbokaaWSeq
namespace Go.Proofs.Ytbhdledlahbokaa
open Go.ChangeShapes Go.WideShapes Go.ChangeAt Go.RowKit Go.Conc
set_option linter.unusedVariables false
set_option linter.unusedSimpArgs false

theorem low4_any (n : Int) (h : 0 ≤ n ∧ n < 4294967296) (w : World) :
    Calls Try.prog 24 #[.int .i64 n, .int .i64 4] w fun e w' => ∃ v, e = .returned v ∧ Own w' w.heap.size v (pl n 4) ∧ Below w.heap.size w w' := by
  have HP : Hid _ := ⟨rput_4 n w (by omega)⟩
  clear h
  go_enter Try.func24, Try.ntmps24
  go_wp2_with (go_at_call 43; (with_reducible refine HP.out.mono ?_); rintro e w1 ⟨v1, he, ho, hb⟩; subst he; have H1 : Hid _ := ⟨And.intro ho hb⟩; clear ho hb)
  go_ret
  exact ⟨v1, rfl, H1.out.1, H1.out.2⟩
theorem low8_any (n : Int) (w : World) :
    Calls Try.prog 24 #[.int .i64 n, .int .i64 8] w fun e w' => ∃ v, e = .returned v ∧ Own w' w.heap.size v (pl n 8) ∧ Below w.heap.size w w' := by
  have HP : Hid _ := ⟨rput_8 n w trivial⟩
  go_enter Try.func24, Try.ntmps24
  go_wp2_with (go_at_call 43; (with_reducible refine HP.out.mono ?_); rintro e w1 ⟨v1, he, ho, hb⟩; subst he; have H1 : Hid _ := ⟨And.intro ho hb⟩; clear ho hb)
  go_ret
  exact ⟨v1, rfl, H1.out.1, H1.out.2⟩
theorem own_always (w : World) : Own (w.alloc (.cells alwaysC 5)) w.heap.size (.slice (some ⟨w.heap.size, 0, none⟩) 26 26) always :=
  ⟨rfl, .inr ⟨w.heap.size, 26, alwaysC, rfl, Nat.le_refl _, heap_alloc_new w _, Nat.le_refl _, by unfold maxLen; omega, rfl, rfl⟩⟩

set_option maxRecDepth 20000 in
set_option maxHeartbeats 2000000 in
theorem rhead_any (fa : Option Addr) (fc : Nat) (l : List ByteArray) (w : World) (hF : filesB l = true) (hS : Strs w fa l) :
    Calls Try.prog 23 #[.slice fa l.length fc] w fun e w' => ∃ v, e = .returned v ∧ Own w' w.heap.size v (behindR l) ∧ Below w.heap.size w w' := by
  unfold filesB at hF
  simp only [Bool.and_eq_true, decide_eq_true_eq] at hF
  obtain ⟨hl, hall⟩ := hF
  have hl' : (l.length : Int) ≤ 255 := by omega
  have HA : Hid _ := ⟨hall⟩
  have HS : Hid _ := ⟨hS⟩
  have HU : Hid (∀ W, Calls Try.prog 26 #[.int .i64 (l.length : Int)] W fun e w' => ∃ v, e = .returned v ∧ Own w' W.heap.size v (ulB (l.length : Int)) ∧ Below W.heap.size W w') := ⟨fun W => ruleb_any _ W⟩
  have HUl : Hid _ := ⟨ulB_len (l.length : Int)⟩
  have HBe : Hid (behindR l = always ++ (ulB (l.length : Int) ++ namesR l)) := ⟨rfl⟩
  generalize behindR l = BR at *
  have hal : always.length = 26 := rfl
  have HO0 : Hid _ := ⟨own_always w⟩
  have HB0 : Hid (Below w.heap.size w (w.alloc (.cells alwaysC 5))) := ⟨(Below.refl _ _).alloc (Nat.le_refl _) _⟩
  clear hall hS
  have e0 : alwaysC = #[.int .u8 1, .int .u8 1, .int .u8 1, .int .u8 251, .int .u8 14, .int .u8 13, .int .u8 0, .int .u8 1, .int .u8 1, .int .u8 1, .int .u8 1, .int .u8 0, .int .u8 0, .int .u8 0, .int .u8 1, .int .u8 0, .int .u8 0, .int .u8 1, .int .u8 1, .int .u8 1, .int .u8 8, .int .u8 1, .int .u8 0, .int .u8 1, .int .u8 1, .int .u8 8] := rfl
  go_enter Try.func23, Try.ntmps23
  go_upto_region 2 with (fail)
  rw [← e0]
  generalize w.alloc (.cells alwaysC 5) = V at *
  clear e0
  go_upto_region 3 with (first
    | (go_at_call 26; (with_reducible refine (HU.out _).mono ?_); rintro e w5 ⟨v5, he, ho5, hb5⟩; subst he; have H5 : Hid _ := ⟨ho5⟩; have HB5 : Hid _ := ⟨hb5⟩; clear ho5 hb5)
    | (at_builtin; refine append_bk w5 rfl _ _ rfl w.heap.size (.slice (some ⟨w.heap.size, 0, none⟩) 26 26) always rfl (HO0.out.bel HB5.out) _ (ulB (l.length : Int)) rfl H5.out.bt (by have := HUl.out; rw [hal]; omega) (Nat.le_trans HB0.out.size HB5.out.size) ?_; intro v6 w6 hA6; have H6 : Hid (Own w6 w.heap.size v6 (always ++ ulB (l.length : Int)) ∧ Below w.heap.size w w6) := ⟨hA6.own, (HB0.out.trans (HB5.out.mono HB0.out.size)).trans (hA6.bel (HO0.out.bel HB5.out) (Nat.le_trans HB0.out.size HB5.out.size))⟩; clear hA6))
  clear HU
  go_wp2
  go_loopw [4, 3] (fun iv s5 wr => ∃ k : Nat, k ≤ l.length ∧ iv = .int .i64 k ∧ Hid (Own wr w.heap.size s5 (always ++ (ulB (l.length : Int) ++ namesR (l.take k))) ∧ Below w.heap.size w wr)) (fun iv _ _ => l.length - (intOf iv).toNat)
  case atStart => exact ⟨0, by omega, rfl, ⟨by simpa [namesR] using H6.out.1, H6.out.2⟩⟩
  case round =>
    obtain ⟨k, hk, rfl, HW⟩ := hrel
    by_cases hlt : k < l.length
    · obtain ⟨b, off, rfl, hat⟩ : ∃ b off, fa = some ⟨b, off, none⟩ ∧ ∀ j, j < l.length → wr.cell? ⟨b, off + j, none⟩ = some (.string (l.getD j ByteArray.empty)) := by
        rcases HS.out.bel HW.out.2 with h | h
        · omega
        · exact h
      have q1 : (k : Int) < (l.length : Int) := by omega
      have q0 : (0 : Int) ≤ (k : Int) := by omega
      have c0 := hat k hlt
      clear hat
      have HN : Hid _ := ⟨namesR_at l k hlt⟩
      have HLn : Hid ((always ++ (ulB (l.length : Int) ++ namesR (l.take k))).length ≤ 80000) := ⟨by
        have h1 := namesR_len (all_take HA.out k)
        have h2 := HUl.out
        have h3 : (l.take k).length ≤ 255 := by simp; omega
        simp only [List.length_append, hal]; omega⟩
      have HF : Hid ((l.getD k ByteArray.empty).size ≤ 255) := ⟨by
        have := List.all_eq_true.1 HA.out (l.getD k ByteArray.empty) (by simp [hlt])
        unfold fileB at this
        simp only [Bool.and_eq_true] at this
        have := inB_of this.1; omega⟩
      generalize l.getD k ByteArray.empty = s at *
      have HE : Hid (always ++ (ulB (l.length : Int) ++ namesR (l.take k)) ++ bts s ++ [0] = always ++ (ulB (l.length : Int) ++ namesR (l.take (k + 1)))) := ⟨by rw [HN.out]; simp⟩
      generalize always ++ (ulB (l.length : Int) ++ namesR (l.take k)) = X at *
      have tk : True := trivial
      go_wp2_with (first
        | (at_builtin; have _t := tk; refine append_str wr rfl _ _ rfl w.heap.size u3 X rfl HW.out.1 s rfl (by have := HLn.out; have := HF.out; omega) HW.out.2.size ?_; intro v7 w7 hA7; clear tk _t; have H7 : Hid (AE w.heap.size wr u3 w7 v7 (X ++ bts s)) := ⟨hA7⟩; clear hA7)
        | (at_builtin; refine append_bk (w7.alloc (.cells #[.int .u8 0] 5)) rfl _ _ rfl w.heap.size v7 (X ++ bts s) rfl (H7.out.own.bel ((Below.refl _ _).alloc (Nat.le_refl _) _)) _ [0] rfl (bt_lit w7 0) (by have := HLn.out; have := HF.out; simp [bts_len]; omega) (by have := HW.out.2.size; have := H7.out.gr.size; simp; omega) ?_; intro v8 w8 hA8; have H8 : Hid (AE w.heap.size wr u3 w8 v8 (X ++ bts s ++ [0])) := ⟨H7.out.trans (AE.byte hA8)⟩; clear hA8))
      go_roundw
      case rel => exact ⟨k + 1, hlt, by go_num, ⟨by have := H8.out.own; rwa [HE.out] at this, HW.out.2.trans (H8.out.bel HW.out.1 HW.out.2.size)⟩⟩
      case measure => simp [intOf]; omega
    · obtain rfl : k = l.length := by omega
      rw [List.take_of_length_le (Nat.le_refl _)] at HW
      go_wp2
      go_ret
      exact ⟨_, rfl, by rw [HBe.out]; exact HW.out.1, HW.out.2⟩

/-- Numbers that lie in memory. -/
def IntsAt (w : World) (ao : Option Addr) (l : List Int) : Prop := l.length = 0 ∨ ∃ b, ao = some ⟨b, 0, none⟩ ∧ ∀ i, i < l.length → w.cell? ⟨b, i, none⟩ = some (.int .i64 (l.getD i 0))
theorem IntsAt.bel {w w' : World} {ao : Option Addr} {l : List Int} (h : IntsAt w ao l) (hb : Below w.heap.size w w') : IntsAt w' ao l := by
  rcases h with h | ⟨b, e, h⟩
  · exact .inl h
  · exact .inr ⟨b, e, fun i hi => up_belL (h i hi) hb⟩
theorem OwnI.ints {w : World} {base n c : Nat} {ao : Option Addr} {l : List Int} (h : OwnI w base (.slice ao n c) l) : IntsAt w ao l := by
  by_cases h0 : 1 ≤ l.length
  · obtain ⟨g, c', hv, hc⟩ := h.lies h0
    injection hv with e1 _ _
    exact .inr ⟨g, e1, fun i hi => (hc i hi).1⟩
  · exact .inl (by omega)
set_option maxRecDepth 10000 in
theorem sameInts_any (l : List Int) (hl : l.length ≤ 1048576) (ao bo : Option Addr) (c d : Nat) (w : World) (h1 : IntsAt w ao l) (h2 : IntsAt w bo l) :
    Calls Try.prog 10 #[.slice ao l.length c, .slice bo l.length d] w fun e w' => e = .returned (.bool true) ∧ Below w.heap.size w w' := by
  have H1 : Hid _ := ⟨h1⟩
  have H2 : Hid _ := ⟨h2⟩
  have hl' : (l.length : Int) ≤ 1048576 := by omega
  clear h1 h2
  go_enter Try.func10, Try.ntmps10
  go_wp2
  go_loopw [5] (fun iv wr => ∃ k : Nat, k ≤ l.length ∧ iv = .int .i64 k ∧ Hid (Below w.heap.size w wr)) (fun iv _ => l.length - (intOf iv).toNat)
  case atStart => exact ⟨0, by omega, rfl, ⟨Below.refl _ _⟩⟩
  case round =>
    obtain ⟨k, hk, rfl, HW⟩ := hrel
    by_cases hlt : k < l.length
    · obtain ⟨b1, rfl, hc1⟩ : ∃ b, ao = some ⟨b, 0, none⟩ ∧ ∀ i, i < l.length → wr.cell? ⟨b, i, none⟩ = some (.int .i64 (l.getD i 0)) := by
        rcases H1.out.bel HW.out with h | h
        · omega
        · exact h
      obtain ⟨b2, rfl, hc2⟩ : ∃ b, bo = some ⟨b, 0, none⟩ ∧ ∀ i, i < l.length → wr.cell? ⟨b, i, none⟩ = some (.int .i64 (l.getD i 0)) := by
        rcases H2.out.bel HW.out with h | h
        · omega
        · exact h
      have q1 : (k : Int) < (l.length : Int) := by omega
      have q0 : (0 : Int) ≤ (k : Int) := by omega
      have x0 := hc1 k hlt
      have y0 := hc2 k hlt
      clear hc1 hc2
      generalize l.getD k 0 = z at *
      go_wp2
      go_quiet (fail)
      go_wp2
      go_roundw
      case rel => exact ⟨k + 1, hlt, by go_num, ⟨below_drewN HW.out _⟩⟩
      case measure => simp [intOf]; omega
    · obtain rfl : k = l.length := by omega
      go_wp2
      go_ret
      exact ⟨rfl, HW.out⟩
end Go.Proofs.Ytbhdledlahbokaa
