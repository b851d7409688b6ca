/- Units of what was written. -/
import Derived.Test.YtbhdledlahbokaaLPcs
namespace Go.Proofs.Ytbhdledlahbokaa
open Go.ChangeShapes Go.WideShapes Go.ChangeAt Go.RowKit Go.Conc
set_option linter.unusedVariables false
set_option linter.unusedSimpArgs false

theorem TP.low {w : World} {b b' : Nat} {v : Value} {l : List Pg} (h : TP w b v l) (hb : b' ≤ b) : TP w b' v l := by
  obtain ⟨ps, h1, h2, h3⟩ := h.row
  refine ⟨ps, h1, ⟨h2.1, ?_⟩, fun p hp => ⟨(h3 p hp).1.low hb, (h3 p hp).2.low hb⟩⟩
  rcases h2.2 with hv | ⟨g', c', cur, hv, h2, h3⟩
  · exact .inl hv
  · exact .inr ⟨g', c', cur, hv, by omega, h3⟩
set_option maxRecDepth 20000 in
set_option maxHeartbeats 4000000 in
theorem units_ok (ps : List Pg) (hps : ∀ p ∈ ps, wriE p = 0) (hn : ps.length ≤ 16) (g L C : Nat) (hL : (ps.flatMap unitR).length = L) (hsh : L ≤ 1048576) (hC : L ≤ C) (hT : C ≤ 9223372036854775807) (w : World) (hr : ∀ i, i < L → w.cell? ⟨g, 0 + i, none⟩ = some (.int .u8 ((ps.flatMap unitR).getD i 0))) :
    Calls Try.prog 20 #[.slice (some ⟨g, 0, none⟩) L C] w fun e w' => ∃ v, e = .returned (.tuple #[v, .int .i64 0]) ∧ TP w' w.heap.size v ps ∧ Below w.heap.size w w' := by
  have HPc : Hid _ := ⟨pieces_ok ps hps g L C hL hsh hC hT w hr⟩
  have HRd : Hid (∀ k, k < ps.length → ∀ W, Below w.heap.size w W → Calls Try.prog 19 #[pcU g C ps k] W (RdEnd (ps.getD k pg0) W)) := ⟨fun k hk W hW => by
    have hlen := offU_next ps k hk
    have hle := offU_le ps (k + 1)
    refine read_unit (ps.getD k pg0) (hps _ (by simp [hk])) g (offU ps k) (C - offU ps k) W (fun i hi => ?_) (by omega) (by omega)
    have := up_belL (hr (offU ps k + i) (by omega)) hW
    rwa [Nat.zero_add, at_part hk i hi] at this⟩
  have h1 : ¬ (1048576 : Int) < (L : Int) := by omega
  have h2 : ¬ (16 : Int) < (ps.length : Int) := by omega
  have hn' : (ps.length : Int) ≤ 16 := by omega
  clear hps hr hL hsh hC hT
  go_enter Try.func20, Try.ntmps20
  go_upto_region 4 with (go_at_call 36; (with_reducible refine HPc.out.mono ?_); rintro e w1 ⟨v1, he, ho1, hb1⟩; subst he; have HO1 : Hid _ := ⟨ho1⟩; have HB1 : Hid _ := ⟨hb1⟩; clear ho1 hb1)
  obtain ⟨pa, pc, hv⟩ := HO1.out.sl
  rw [pcsU_len] at hv
  subst hv
  clear HPc
  go_wp2
  go_loopw [5, 20] (fun xv iv wr => ∃ k : Nat, k ≤ ps.length ∧ iv = .int .i64 k ∧ Hid (TP wr w1.heap.size xv (ps.take k) ∧ Below w1.heap.size w1 wr)) (fun xv iv _ => ps.length - (intOf iv).toNat)
  case atStart => exact ⟨0, by omega, rfl, ⟨TP.nil _ _, Below.refl _ _⟩⟩
  case round =>
    obtain ⟨k, hk, rfl, HW⟩ := hrel
    obtain ⟨xa, xc, rfl⟩ := HW.out.1.sl
    have HBw : Hid (Below w.heap.size w wr) := ⟨HB1.out.trans (HW.out.2.mono HB1.out.size)⟩
    by_cases hlt : k < ps.length
    · obtain ⟨gp, rfl, hat⟩ := (HO1.out.bel HW.out.2).at (by rw [pcsU_len]; omega)
      have c0 := hat k (by rw [pcsU_len]; exact hlt)
      rw [show (pcsU g C ps ps.length).getD k undef = pcU g C ps k by simp [pcsU, hlt], Nat.zero_add] at c0
      have q1 : (k : Int) < (ps.length : Int) := by omega
      have q0 : (0 : Int) ≤ (k : Int) := by omega
      have HR : Hid _ := ⟨HRd.out k hlt wr HBw.out⟩
      have HT : Hid (ps.take (k + 1) = ps.take k ++ [ps.getD k pg0]) := ⟨by rw [List.take_add_one]; simp [hlt]⟩
      have hLl : (ps.take k).length ≤ 1000000000000 := by simp; omega
      clear hat
      generalize pcU g C ps k = PU at *
      generalize ps.getD k pg0 = p at *
      generalize ps.take k = L0 at *
      obtain ⟨files, seqs⟩ := p
      unfold RdEnd at HR
      dsimp only at HR
      go_wp2_with (first
        | (go_at_call 19; (with_reducible refine HR.out.mono ?_); rintro e w5 ⟨na, nc, ta, tc, he, _, hn5, hs5, hb5⟩; subst he; have HB5 : Hid (Below wr.heap.size wr w5) := ⟨hb5⟩; have HBa : Hid (Below w5.heap.size w5 ((w5.alloc (.cells #[.slice na files.length nc, .slice ta seqs.length tc] 28)).alloc (.cells #[.slice na files.length nc, .slice ta seqs.length tc] 28))) := ⟨((Below.refl _ _).alloc (Nat.le_refl _) _).alloc (by simp) _⟩; have HN5 : Hid _ := ⟨(hn5.bel HBa.out).low HW.out.2.size⟩; have HS5 : Hid _ := ⟨(hs5.bel HBa.out).low HW.out.2.size⟩; have HT5 : Hid _ := ⟨(HW.out.1.bel hb5).bel HBa.out⟩; have HS : Hid (w1.heap.size ≤ ((w5.alloc (.cells #[.slice na files.length nc, .slice ta seqs.length tc] 28)).alloc (.cells #[.slice na files.length nc, .slice ta seqs.length tc] 28)).heap.size) := ⟨Nat.le_trans HW.out.2.size (Nat.le_trans hb5.size HBa.out.size)⟩; have HKn : Hid (Bk ((w5.alloc (.cells #[.slice na files.length nc, .slice ta seqs.length tc] 28)).alloc (.cells #[.slice na files.length nc, .slice ta seqs.length tc] 28)) (w5.heap.size + 1) 28 #[.slice na files.length nc, .slice ta seqs.length tc]) := ⟨by (have := Bk.new (w5.alloc (.cells #[.slice na files.length nc, .slice ta seqs.length tc] 28)) #[.slice na files.length nc, .slice ta seqs.length tc] 28); rwa [show (w5.alloc (.cells #[.slice na files.length nc, .slice ta seqs.length tc] 28)).heap.size = w5.heap.size + 1 by simp] at this⟩; clear hn5 hs5 hb5)
        | (at_builtin; go_loud (refine append_pg ((w5.alloc (.cells #[.slice na files.length nc, .slice ta seqs.length tc] 28)).alloc (.cells #[.slice na files.length nc, .slice ta seqs.length tc] 28)) rfl _ _ rfl w1.heap.size (.slice xa L0.length xc) L0 rfl HT5.out (w5.heap.size + 1) ⟨files, seqs⟩ (.slice na files.length nc) (.slice ta seqs.length tc) (by simp [Act.eval, Act.put]) HKn.out HN5.out HS5.out (by omega) HS.out ?_); intro v6 w6 hT6 hG6; obtain ⟨L2, hL2⟩ : ∃ L2, L0 ++ [(⟨files, seqs⟩ : Pg)] = L2 := ⟨_, rfl⟩; rw [hL2] at hT6; have HL2 : Hid _ := ⟨hL2⟩; clear hL2; have HT6 : Hid _ := ⟨hT6⟩; have HG6 : Hid _ := ⟨hG6⟩; clear hT6 hG6))
      go_roundw
      case rel =>
        refine ⟨k + 1, hlt, by go_num, ⟨?_, ?_⟩⟩
        · rw [HT.out, HL2.out]; exact HT6.out
        · refine HW.out.2.trans ((HB5.out.mono HW.out.2.size).trans ((HBa.out.mono (by have := HW.out.2.size; have := HB5.out.size; omega)).trans (bel_grownL HG6.out (fun k hk => ?_) ?_)))
          · exact (HT5.out.ty k hk).1
          · exact HS.out
      case measure => simp [intOf]; omega
    · obtain rfl : k = ps.length := by omega
      rw [List.take_of_length_le (Nat.le_refl _)] at HW ⊢
      go_wp2
      go_ret2
      exact ⟨_, rfl, HW.out.1.low HB1.out.size, HBw.out⟩
end Go.Proofs.Ytbhdledlahbokaa
