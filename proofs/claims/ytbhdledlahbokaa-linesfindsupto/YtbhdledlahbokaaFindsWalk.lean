/- P1505: every Find. -/
import Derived.Test.YtbhdledlahbokaaLOpen
namespace Go.Proofs.Ytbhdledlahbokaa
open Go.ChangeShapes Go.WideShapes Go.ChangeAt Go.RowKit Go.Conc
set_option linter.unusedVariables false
set_option linter.unusedSimpArgs false

set_option maxRecDepth 20000 in
set_option maxHeartbeats 4000000 in
theorem linesFinds_go (ao : Option Addr) (c : Nat) (l : List Pg) (addr : Int) (w : World) (h : PgsH w ao l) (hl : l.length ≤ 1048576) (hf : FewL l) (hbd : ∀ p ∈ l, ∀ q ∈ p.seqs, BndQ q) (ha : -9223372036854775808 ≤ addr ∧ addr ≤ 9223372036854775807) :
    Calls Try.prog 4 #[.slice ao l.length c, .int .i64 addr] w fun e w' => e = .returned (.bool true) ∧ Below w.heap.size w w' := by
  have HP : Hid _ := ⟨h⟩
  have HFw : Hid _ := ⟨hf⟩
  have HA : Hid _ := ⟨ha⟩
  have hn : (l.length : Int) ≤ 1048576 := by omega
  obtain ⟨N, hN⟩ : ∃ N, nameOr (findM l addr) = N := ⟨_, rfl⟩
  obtain ⟨R, hR⟩ : ∃ R, rowOr ((findM l addr).map Prod.snd) = R := ⟨_, rfl⟩
  obtain ⟨B, hB⟩ : ∃ B, (findM l addr).isSome = B := ⟨_, rfl⟩
  have HF1 : Hid (∀ W ao c, Pgs W ao l → Calls Try.prog 16 #[.slice ao l.length c, .int .i64 addr] W fun e w' => e = .returned (.tuple #[.string N, .agg #[.int .i64 R.at', .int .i64 R.fi, .int .i64 R.li, .int .i64 R.co], .bool B]) ∧ Below W.heap.size W w') := ⟨fun W ao c h => by
    have := find_any l ao c addr W h (by omega) ha hbd
    rwa [hN, hR, hB] at this⟩
  have HF2 : Hid (∀ W, Below w.heap.size w W → Calls Try.prog 17 #[.slice ao l.length c, .int .i64 addr] W fun e w' => e = .returned (.tuple #[.string N, .agg #[.int .i64 R.at', .int .i64 R.fi, .int .i64 R.li, .int .i64 R.co], .bool B]) ∧ Below W.heap.size W w') := ⟨fun W hW => by
    have := rfind_any l ao c addr W (h.bel hW).pgs (by omega) ha hbd
    rwa [hN, hR, hB] at this⟩
  clear hN hR hB h hf ha hbd hl
  obtain ⟨ra, rf, rl, rco⟩ := R
  dsimp only at *
  have HRow : Hid (∀ W, Calls Try.prog 18 #[.agg #[.int .i64 ra, .int .i64 rf, .int .i64 rl, .int .i64 rco], .agg #[.int .i64 ra, .int .i64 rf, .int .i64 rl, .int .i64 rco]] W fun e w' => e = .returned (.bool true) ∧ Below W.heap.size W w') := ⟨fun W => row_same ⟨ra, rf, rl, rco⟩ W⟩
  go_enter Try.func4, Try.ntmps4
  go_wp2
  go_loopw [5, 6] (fun xv iv wr => ∃ k : Nat, k ≤ l.length ∧ iv = .int .i64 k ∧ Hid (TP wr w.heap.size xv (l.take k) ∧ Below w.heap.size w wr)) (fun xv iv _ => l.length - (intOf iv).toNat)
  case atStart => exact ⟨0, by omega, rfl, ⟨TP.nil _ _, Below.refl _ _⟩⟩
  case round =>
    obtain ⟨k, hk, rfl, HW⟩ := hrel
    obtain ⟨xa, xc, rfl⟩ := HW.out.1.sl
    by_cases hlt : k < l.length
    · obtain ⟨b, off, rfl, hat⟩ : ∃ b off, ao = some ⟨b, off, none⟩ ∧ ∀ j, j < l.length → PgHd wr b (off + j * 2) (l.getD j pg0) := by
        rcases HP.out.bel HW.out.2 with h | h
        · omega
        · exact h
      have q1 : (k : Int) < (l.length : Int) := by omega
      have q0 : (0 : Int) ≤ (k : Int) := by omega
      obtain ⟨fa, fc, sa, sc, c0, c1, hin, hnil⟩ := hat k hlt
      clear hat
      have HOw : Hid _ := ⟨own_mine (l.getD k pg0) fa sa fc sc wr hin hnil (HFw.out _ (by simp [hlt]))⟩
      have HT : Hid (l.take (k + 1) = l.take k ++ [l.getD k pg0]) := ⟨by rw [List.take_add_one]; simp [hlt]⟩
      have hLl : (l.take k).length ≤ 1000000000000 := by simp; omega
      clear hin hnil
      generalize l.getD k pg0 = p at *
      generalize l.take k = L at *
      obtain ⟨files, seqs⟩ := p
      dsimp only at *
      unfold Mine at HOw
      dsimp only at HOw
      go_wp2_with (first
        | (go_at_call 7; (with_reducible refine HOw.out.mono ?_); rintro e w5 ⟨na, nc, ta, tc, he, hn5, hs5, hb5⟩; subst he; have HB5 : Hid (Below wr.heap.size wr w5) := ⟨hb5⟩; have HBa : Hid (Below w5.heap.size w5 (w5.alloc (.cells #[.slice na files.length nc, .slice ta seqs.length tc] 28))) := ⟨(Below.refl _ _).alloc (Nat.le_refl _) _⟩; have HN5 : Hid _ := ⟨(hn5.bel HBa.out).low HW.out.2.size⟩; have HS5 : Hid _ := ⟨(hs5.bel HBa.out).low HW.out.2.size⟩; have HT5 : Hid _ := ⟨(HW.out.1.bel hb5).bel HBa.out⟩; have HS : Hid (w.heap.size ≤ (w5.alloc (.cells #[.slice na files.length nc, .slice ta seqs.length tc] 28)).heap.size) := ⟨Nat.le_trans HW.out.2.size (Nat.le_trans hb5.size HBa.out.size)⟩; clear hn5 hs5 hb5)
        | (at_builtin; go_loud (refine append_pg (w5.alloc (.cells #[.slice na files.length nc, .slice ta seqs.length tc] 28)) rfl _ _ rfl w.heap.size (.slice xa L.length xc) L rfl HT5.out w5.heap.size ⟨files, seqs⟩ (.slice na files.length nc) (.slice ta seqs.length tc) (by simp [Act.eval, Act.put]) (Bk.new _ _ _) HN5.out HS5.out (by omega) HS.out ?_); intro v6 w6 hT6 hG6; obtain ⟨L2, hL2⟩ : ∃ L2, L ++ [(⟨files, seqs⟩ : Pg)] = L2 := ⟨_, rfl⟩; rw [hL2] at hT6; have HL2 : Hid _ := ⟨hL2⟩; clear hL2; have HT6 : Hid _ := ⟨hT6⟩; have HG6 : Hid _ := ⟨hG6⟩; clear hT6 hG6))
      go_roundw
      case rel =>
        refine ⟨k + 1, hlt, by go_num, ⟨?_, ?_⟩⟩
        · rw [HT.out, HL2.out]; exact HT6.out
        · exact HW.out.2.trans ((HB5.out.mono HW.out.2.size).trans ((HBa.out.mono (by have := HW.out.2.size; have := HB5.out.size; omega)).trans (bel_grownL HG6.out (fun k hk => (HT5.out.ty k hk).1) HS.out)))
      case measure => simp [intOf]; omega
    · obtain rfl : k = l.length := by omega
      rw [List.take_of_length_le (Nat.le_refl _)] at HW
      have HPx : Hid _ := ⟨HW.out.1.pgs HFw.out⟩
      go_wp2_with (first
        | (go_at_call 16; (with_reducible refine (HF1.out _ _ _ HPx.out).mono ?_); rintro e w6 ⟨he, hb6⟩; subst he; have HB6 : Hid (Below w.heap.size w (w6.alloc (.cells #[.int .i64 ra, .int .i64 rf, .int .i64 rl, .int .i64 rco] 47))) := ⟨(HW.out.2.trans (hb6.mono HW.out.2.size)).alloc (Nat.le_trans HW.out.2.size hb6.size) _⟩; have HK6 : Hid _ := ⟨Bk.new w6 #[.int .i64 ra, .int .i64 rf, .int .i64 rl, .int .i64 rco] 47⟩; clear hb6)
        | (go_at_call 17; (with_reducible refine (HF2.out _ HB6.out).mono ?_); rintro e w7 ⟨he, hb7⟩; subst he; have HB7 : Hid (Below w.heap.size w (w7.alloc (.cells #[.int .i64 ra, .int .i64 rf, .int .i64 rl, .int .i64 rco] 50))) := ⟨(HB6.out.trans (hb7.mono HB6.out.size)).alloc (Nat.le_trans HB6.out.size hb7.size) _⟩; have K7 := (HK6.out.bel hb7 HK6.out.lt).bel (v := w7.alloc (.cells #[.int .i64 ra, .int .i64 rf, .int .i64 rl, .int .i64 rco] 50)) ((Below.refl _ _).alloc (Nat.le_refl _) _) (HK6.out.bel hb7 HK6.out.lt).lt; have y0 := K7.cell 0 rfl; have y1 := K7.cell 1 rfl; have y2 := K7.cell 2 rfl; have y3 := K7.cell 3 rfl; clear hb7 K7)
        | (go_at_call 18; (with_reducible refine (HRow.out _).mono ?_); rintro e w8 ⟨he, hb8⟩; subst he; have HB8 : Hid (Below w.heap.size w w8) := ⟨HB7.out.trans (hb8.mono HB7.out.size)⟩; clear hb8 y0 y1 y2 y3)
        | (go_at_call 15; (with_reducible refine (knows_any _).mono ?_); rintro e w9 ⟨he, hb9⟩; subst he; have HB9 : Hid (Below w.heap.size w w9) := ⟨HB8.out.trans (hb9.mono HB8.out.size)⟩; clear hb9))
      go_ret
      exact ⟨rfl, HB9.out⟩
theorem linesFinds_walk (ao : Option Addr) (c : Nat) (l : List Pg) (addr : Int) (w : World) (h : PgsH w ao l ∧ l.length ≤ 1048576 ∧ FewL l ∧ ∀ p ∈ l, ∀ q ∈ p.seqs, BndQ q) (ha : (Lit.int .i64 addr).wf = true) :
    Calls Try.prog 4 #[.slice ao l.length c, .int .i64 addr] w fun e w' => e = .returned (.bool true) ∧ Below w.heap.size w w' :=
  linesFinds_go ao c l addr w h.1 h.2.1 h.2.2.1 h.2.2.2 (i64_in ha)
end Go.Proofs.Ytbhdledlahbokaa
