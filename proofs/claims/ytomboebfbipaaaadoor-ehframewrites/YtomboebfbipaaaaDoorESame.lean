/- The law's sameOps and same, of what is the same. -/
import Derived.Test.YtomboebfbipaaaaDoorETabX
import Derived.Deep.RegionHeld3
import Derived.BigQuiet
namespace Go.Proofs.YtomboebfbipaaaaDoor
open Go.ChangeShapes Go.WideShapes Go.ChangeAt Go.RowKit Go.Maps
set_option linter.unusedVariables false
set_option linter.unusedSimpArgs false

set_option maxRecDepth 20000 in
set_option maxHeartbeats 4000000 in
theorem sameOps_any (l : List Oq) (ao bo : Option Addr) (c d : Nat) (w : World) (hl : l.length ≤ 5864062014634) (h1 : Oqs w ao l) (h2 : Oqs w bo l) :
    Calls Tryd.prog 49 #[.slice ao l.length c, .slice bo l.length d] w fun e w' => e = .returned (.bool true) ∧ Below w.heap.size w w' := by
  have H1 : Hid _ := ⟨h1⟩
  have H2 : Hid _ := ⟨h2⟩
  have hl' : (l.length : Int) ≤ 5864062014634 := by omega
  clear h1 h2
  go_enter Tryd.func49, Tryd.ntmps49
  go_wp2
  go_loopw [5] (fun iv wr => ∃ k : Nat, k ≤ l.length ∧ iv = .int .i64 k ∧ Hid (Below w.heap.size w wr)) (fun iv _ => l.length - (intOf iv).toNat)
  case atStart => exact ⟨0, by omega, rfl, ⟨Below.refl _ _⟩⟩
  case round =>
    obtain ⟨k, hk, rfl, HW⟩ := hrel
    by_cases hlt : k < l.length
    · have q1 : (k : Int) < (l.length : Int) := by omega
      have q0 : (0 : Int) ≤ (k : Int) := by omega
      obtain ⟨b1, o1, rfl, hc1⟩ : ∃ b off, ao = some ⟨b, off, none⟩ ∧ ∀ i, i < l.length → OqAt w b (off + i * 3) (l.getD i Oq.none) := by
        rcases H1.out with h | h
        · rw [h] at hlt; simp at hlt
        · exact h
      obtain ⟨b2, o2, rfl, hc2⟩ : ∃ b off, bo = some ⟨b, off, none⟩ ∧ ∀ i, i < l.length → OqAt w b (off + i * 3) (l.getD i Oq.none) := by
        rcases H2.out with h | h
        · rw [h] at hlt; simp at hlt
        · exact h
      obtain ⟨x0, x1, x2⟩ := hc1 k hlt
      obtain ⟨y0, y1, y2⟩ := hc2 k hlt
      clear hc1 hc2
      replace x0 := up_bel x0 HW.out
      replace x1 := up_bel x1 HW.out
      replace x2 := up_bel x2 HW.out
      replace y0 := up_bel y0 HW.out
      replace y1 := up_bel y1 HW.out
      replace y2 := up_bel y2 HW.out
      generalize l.getD k Oq.none = q at *
      obtain ⟨qk, qr, qn⟩ := q
      dsimp only at *
      go_wp2
      go_quiet (fail)
      go_wp2
      go_roundw
      case rel => exact ⟨k + 1, hlt, by go_num, ⟨below_drewN HW.out _⟩⟩
      case measure => simp [intOf]; omega
    · obtain rfl : k = l.length := by omega
      go_wp2
      go_ret
      exact ⟨rfl, HW.out⟩

set_option maxRecDepth 20000 in
set_option maxHeartbeats 8000000 in
theorem same_any (c : List Ce) (f : List Fe) (xa ca ya fa : Option Addr) (xc cc yc fc : Nat) (w : World) (hcl : c.length ≤ 4398046511000) (hfl : f.length ≤ 2932031007400) (hci : ∀ x ∈ c, x.ini.length ≤ 5864062014634) (hfi : ∀ x ∈ f, x.ops.length ≤ 5864062014634) (h1 : Cs w xa c) (h2 : Cs w ca c) (h3 : Fs w ya f) (h4 : Fs w fa f) :
    Calls Tryd.prog 17 #[.slice xa c.length xc, .slice ya f.length yc, .slice ca c.length cc, .slice fa f.length fc] w fun e w' => e = .returned (.bool true) ∧ Below w.heap.size w w' := by
  have H1 : Hid _ := ⟨h1⟩
  have H2 : Hid _ := ⟨h2⟩
  have H3 : Hid _ := ⟨h3⟩
  have H4 : Hid _ := ⟨h4⟩
  have HC : Hid _ := ⟨hci⟩
  have HF : Hid _ := ⟨hfi⟩
  have hcl' : (c.length : Int) ≤ 4398046511000 := by omega
  have hfl' : (f.length : Int) ≤ 2932031007400 := by omega
  clear h1 h2 h3 h4 hci hfi hcl hfl
  go_enter Tryd.func17, Tryd.ntmps17
  go_wp2
  go_loopw [9] (fun iv wr => ∃ k : Nat, k ≤ c.length ∧ iv = .int .i64 k ∧ Hid (Below w.heap.size w wr)) (fun iv _ => c.length - (intOf iv).toNat)
  case atStart => exact ⟨0, by omega, rfl, ⟨Below.refl _ _⟩⟩
  case round =>
    obtain ⟨k, hk, rfl, HW⟩ := hrel
    by_cases hlt : k < c.length
    · have q1 : (k : Int) < (c.length : Int) := by omega
      have q0 : (0 : Int) ≤ (k : Int) := by omega
      obtain ⟨b1, o1, rfl, hc1⟩ : ∃ b off, xa = some ⟨b, off, none⟩ ∧ ∀ i, i < c.length → CeAt w b (off + i * 2) (c.getD i Ce.zero) := by
        rcases H1.out with h | h
        · omega
        · exact h
      obtain ⟨b2, o2, rfl, hc2⟩ : ∃ b off, ca = some ⟨b, off, none⟩ ∧ ∀ i, i < c.length → CeAt w b (off + i * 2) (c.getD i Ce.zero) := by
        rcases H2.out with h | h
        · omega
        · exact h
      obtain ⟨ra, rc, x0, x1, hx⟩ := hc1 k hlt
      obtain ⟨sa, sc, y0, y1, hy⟩ := hc2 k hlt
      clear hc1 hc2
      have HWd : Hid (Below w.heap.size w wr.drew) := ⟨HW.out.drew⟩
      replace x0 := up_bel x0 HWd.out
      replace x1 := up_bel x1 HWd.out
      replace y0 := up_bel y0 HWd.out
      replace y1 := up_bel y1 HWd.out
      have HS : Hid (∀ W, Below w.heap.size w W → Calls Tryd.prog 49 #[.slice ra (c.getD k Ce.zero).ini.length rc, .slice sa (c.getD k Ce.zero).ini.length sc] W fun e w' => e = .returned (.bool true) ∧ Below W.heap.size W w') := ⟨fun W hW => sameOps_any _ ra sa rc sc W (HC.out _ (ce_in hlt)) (hx.ops.bel hW) (hy.ops.bel hW)⟩
      clear hx hy
      generalize c.getD k Ce.zero = q at *
      obtain ⟨qe, qi⟩ := q
      dsimp only at *
      go_wp2
      go_region_held3 (fun v => v.cell? ⟨b1, o1 + k * 2, none⟩ = some (.int .i64 qe) ∧ v.cell? ⟨b1, o1 + k * 2 + 1, none⟩ = some (.slice ra qi.length rc) ∧ v.cell? ⟨b2, o2 + k * 2, none⟩ = some (.int .i64 qe) ∧ v.cell? ⟨b2, o2 + k * 2 + 1, none⟩ = some (.slice sa qi.length sc))
        (first | (with_reducible assumption) | exact ⟨a_0, a_1, a_2, a_3⟩ | exact ⟨x0, x1, y0, y1⟩)
        ((go_at_call 49; (with_reducible refine (HS.out _ HWd.out).mono ?_); rintro e u ⟨rfl, hu⟩; have HU1 : Hid (Below w.heap.size w u) := ⟨HWd.out.trans (hu.mono HWd.out.size)⟩; have a_0 := up_bel x0 hu; have a_1 := up_bel x1 hu; have a_2 := up_bel y0 hu; have a_3 := up_bel y1 hu; clear hu))
      go_wp2
      go_roundw
      case rel => exact ⟨k + 1, hlt, by go_num, HU1⟩
      case measure => simp [intOf]; omega
    · obtain rfl : k = c.length := by omega
      go_wp2
      generalize wr = V1 at *
      go_loopw [10] (fun iv wr => ∃ k : Nat, k ≤ f.length ∧ iv = .int .i64 k ∧ Hid (Below w.heap.size w wr)) (fun iv _ => f.length - (intOf iv).toNat)
      case atStart => exact ⟨0, by omega, rfl, ⟨HW.out⟩⟩
      case round =>
        clear HW
        obtain ⟨k, hk, rfl, HW⟩ := hrel
        by_cases hlt : k < f.length
        · have q1 : (k : Int) < (f.length : Int) := by omega
          have q0 : (0 : Int) ≤ (k : Int) := by omega
          obtain ⟨b1, o1, rfl, hc1⟩ : ∃ b off, ya = some ⟨b, off, none⟩ ∧ ∀ i, i < f.length → FeAt w b (off + i * 4) (f.getD i Fe.zero) := by
            rcases H3.out with h | h
            · omega
            · exact h
          obtain ⟨b2, o2, rfl, hc2⟩ : ∃ b off, fa = some ⟨b, off, none⟩ ∧ ∀ i, i < f.length → FeAt w b (off + i * 4) (f.getD i Fe.zero) := by
            rcases H4.out with h | h
            · omega
            · exact h
          obtain ⟨ra, rc, x0, x1, x2, x3, hx⟩ := hc1 k hlt
          obtain ⟨sa, sc, y0, y1, y2, y3, hy⟩ := hc2 k hlt
          clear hc1 hc2
          have HWd : Hid (Below w.heap.size w wr.drew) := ⟨HW.out.drew⟩
          replace x0 := up_bel x0 HWd.out
          replace x1 := up_bel x1 HWd.out
          replace x2 := up_bel x2 HWd.out
          replace x3 := up_bel x3 HWd.out
          replace y0 := up_bel y0 HWd.out
          replace y1 := up_bel y1 HWd.out
          replace y2 := up_bel y2 HWd.out
          replace y3 := up_bel y3 HWd.out
          have HS : Hid (∀ W, Below w.heap.size w W → Calls Tryd.prog 49 #[.slice ra (f.getD k Fe.zero).ops.length rc, .slice sa (f.getD k Fe.zero).ops.length sc] W fun e w' => e = .returned (.bool true) ∧ Below W.heap.size W w') := ⟨fun W hW => sameOps_any _ ra sa rc sc W (HF.out _ (fe_in hlt)) (hx.ops.bel hW) (hy.ops.bel hW)⟩
          clear hx hy
          generalize f.getD k Fe.zero = q at *
          obtain ⟨q0', q1', q2', q3'⟩ := q
          dsimp only at *
          go_wp2
          go_region_held3 (fun v => v.cell? ⟨b1, o1 + k * 4, none⟩ = some (.int .i64 q0') ∧ v.cell? ⟨b1, o1 + k * 4 + 1, none⟩ = some (.int .i64 q1') ∧ v.cell? ⟨b1, o1 + k * 4 + 2, none⟩ = some (.int .i64 q2') ∧ v.cell? ⟨b1, o1 + k * 4 + 3, none⟩ = some (.slice ra q3'.length rc) ∧ v.cell? ⟨b2, o2 + k * 4, none⟩ = some (.int .i64 q0') ∧ v.cell? ⟨b2, o2 + k * 4 + 1, none⟩ = some (.int .i64 q1') ∧ v.cell? ⟨b2, o2 + k * 4 + 2, none⟩ = some (.int .i64 q2') ∧ v.cell? ⟨b2, o2 + k * 4 + 3, none⟩ = some (.slice sa q3'.length sc))
            (first | (with_reducible assumption) | exact ⟨a_0, a_1, a_2, a_3, a_4, a_5, a_6, a_7⟩ | exact ⟨x0, x1, x2, x3, y0, y1, y2, y3⟩)
            ((go_at_call 49; (with_reducible refine (HS.out _ HWd.out).mono ?_); rintro e u ⟨rfl, hu⟩; have HU1 : Hid (Below w.heap.size w u) := ⟨HWd.out.trans (hu.mono HWd.out.size)⟩; have a_0 := up_bel x0 hu; have a_1 := up_bel x1 hu; have a_2 := up_bel x2 hu; have a_3 := up_bel x3 hu; have a_4 := up_bel y0 hu; have a_5 := up_bel y1 hu; have a_6 := up_bel y2 hu; have a_7 := up_bel y3 hu; clear hu))
          go_wp2
          go_roundw
          case rel => exact ⟨k + 1, hlt, by go_num, HU1⟩
          case measure => simp [intOf]; omega
        · obtain rfl : k = f.length := by omega
          go_wp2
          go_ret
          exact ⟨rfl, HW.out⟩
end Go.Proofs.YtomboebfbipaaaaDoor
