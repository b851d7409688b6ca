/- isRight. -/
import Derived.Test.YtojiomkinhnodaaRSec
namespace Go.Proofs.Ytojiomkinhnodaa
open Go.ChangeShapes Go.WideShapes Go.ChangeAt Go.RowKit Go.Maps
set_option linter.unusedVariables false
set_option linter.unusedSimpArgs false

theorem bt2 {B : Nat} {w v v' : World} (hB : w.heap.size = B) (h : Below B w v) (g : Below v.heap.size v v') : Below B w v' := h.trans (g.mono (by have := h.size; omega))
theorem up_c {w w' : World} {p : Addr} {v : Value} (h : w.cell? p = some v) (hb : Below w.heap.size w w') : w'.cell? p = some v :=
  (hb.cell (World.block_lt_of_cell? w p h)).trans h
theorem Turn.cell {S : Nat → Prop} {w w' : World} {p : Addr} {v : Value} (h : w.cell? p = some v) (ht : Turn S w w') (hs : ¬ S p.block) : w'.cell? p = some v := by
  have hl := World.block_lt_of_cell? w p h
  have := ht.block p.block hl hs
  rw [← h]
  unfold World.cell?
  rw [this]
theorem Bk.turn {S : Nat → Prop} {w w' : World} {b t : Nat} {cs : Array Value} (h : Bk w b t cs) (ht : Turn S w w') (hs : ¬ S b) : Bk w' b t cs := h.of (ht.block b h.lt hs)

def mSec (l : List Sec) : ByteArray → Option Sec := l.foldl (fun m s => putN m s.nm s) (fun _ => none)
theorem mSec_snoc (l : List Sec) (s : Sec) : mSec (l ++ [s]) = putN (mSec l) s.nm s := by unfold mSec; rw [List.foldl_append]; rfl
def rightF (f : Fl) : Bool := f.secs.all secB && f.syms.all (fun s => symB s ((mSec f.secs s.sc).getD Sec.zero))
theorem all_take_succ {α : Type} (p : α → Bool) (l : List α) (k : Nat) (hk : k < l.length) : (l.take (k + 1)).all p = ((l.take k).all p && p l[k]) := by
  rw [List.take_succ_eq_append_getElem hk, List.all_append]; simp
theorem all_stop {α : Type} (p : α → Bool) (l : List α) (k : Nat) (hk : k < l.length) (h : p l[k] = false) : l.all p = false := by
  rw [List.all_eq_false]; exact ⟨l[k], List.getElem_mem hk, by rw [h]; simp⟩

set_option maxHeartbeats 8000000 in
set_option maxRecDepth 20000 in
theorem isRight2_any (f : Fl) (w : World) (hb : FlB f) (hin : FlIn w f) : Calls Try.prog 49 #[f.val] w fun e w' => e = .returned (.bool (rightF f)) ∧ Below w.heap.size w w' := by
  obtain ⟨sa, sc, secs, ya, yc, syms⟩ := f
  obtain ⟨hse, hsy⟩ := hin
  obtain ⟨ns, ny, zs, zy⟩ := hb
  dsimp only [Fl.val] at *
  have HSE : Hid _ := ⟨hse⟩
  have HSY : Hid _ := ⟨hsy⟩
  have HZS : Hid _ := ⟨zs⟩
  have HZY : Hid _ := ⟨zy⟩
  have HR : Hid (rightF ⟨sa, sc, secs, ya, yc, syms⟩ = (secs.all secB && syms.all (fun s => symB s ((mSec secs s.sc).getD Sec.zero)))) := ⟨rfl⟩
  generalize rightF ⟨sa, sc, secs, ya, yc, syms⟩ = R at *
  clear hse hsy zs zy
  obtain ⟨B, hB⟩ : ∃ B, w.heap.size = B := ⟨_, rfl⟩
  have hb1 : Below B w (w.alloc (.cells #[.slice sa secs.length sc, .slice ya syms.length yc] 41)) := by rw [← hB]; exact (Below.refl _ _).alloc (Nat.le_refl _) _
  have k1 : Bk (w.alloc (.cells #[.slice sa secs.length sc, .slice ya syms.length yc] 41)) B 41 #[.slice sa secs.length sc, .slice ya syms.length yc] := by rw [← hB]; exact Bk.new _ _ _
  have HB1 : Hid _ := ⟨hb1⟩
  have HK1 : Hid _ := ⟨k1⟩
  clear hb1 k1
  go_enter Try.func49, Try.ntmps49
  go_upto_region 2 with (go_at_call 63; refine (newSec_any _).mono ?_; rintro e w1 ⟨mb, rfl, hmb, hM, hbw⟩)
  have hs0 : (w.alloc (.cells #[.slice sa secs.length sc, .slice ya syms.length yc] 41)).heap.size = B + 1 := by rw [← hB]; simp
  obtain ⟨T, hT⟩ : ∃ T, w1.heap.size = T := ⟨_, rfl⟩
  have hmT : mb < T := by rw [← hT]; exact hM.lt
  have hBm : B < mb := by omega
  have K1 := (HK1.out.bel hbw HK1.out.lt).alloc (.cells #[.map (some mb)] 126)
  have K2 : Bk (w1.alloc (.cells #[.map (some mb)] 126)) T 126 #[.map (some mb)] := by rw [← hT]; exact Bk.new _ _ _
  have M1 := hM.alloc (.cells #[.map (some mb)] 126)
  have F1 : Below B w (w1.alloc (.cells #[.map (some mb)] 126)) := (HB1.out.trans (hbw.mono (by omega))).alloc (by omega) _
  generalize w1.alloc (.cells #[.map (some mb)] 126) = v0 at *
  have c0 : v0.cell? ⟨B, 0, none⟩ = some (.slice sa secs.length sc) := K1.cell 0 rfl
  have HI : Hid (Bk v0 B 41 #[.slice sa secs.length sc, .slice ya syms.length yc] ∧ Bk v0 T 126 #[.map (some mb)] ∧ Mp Sec.val v0 mb 0 (fun _ => none) ∧ Below B w v0) := ⟨K1, K2, M1, F1⟩
  clear K1 K2 M1 F1 hM hbw hmb hs0
  rw [hT]
  clear hT
  go_upto_region 3 with (fail)
  go_loopw [12] (fun i wr => ∃ k : Nat, k ≤ secs.length ∧ i = .int .i64 k ∧ Hid (Bk wr B 41 #[.slice sa secs.length sc, .slice ya syms.length yc] ∧ Bk wr T 126 #[.map (some mb)] ∧ Mp Sec.val wr mb k (mSec (secs.take k)) ∧ Below B w wr) ∧ Hid ((secs.take k).all secB = true)) (fun i _ => secs.length - (intOf i).toNat)
  case atStart => exact ⟨0, by omega, rfl, ⟨HI.out⟩, ⟨by simp⟩⟩
  case round =>
    obtain ⟨k, hk, rfl, HW, HA⟩ := hrel
    by_cases hlt : k < secs.length
    · obtain ⟨b, off, rfl, hcell⟩ : ∃ b off, sa = some ⟨b, off, none⟩ ∧ ∀ i, i < secs.length → SecAt wr b (off + i * 7) (secs.getD i Sec.zero) := by
        rcases HSE.out.below HW.out.2.2.2 (by omega) with h | h
        · subst h; simp at hlt
        · exact h
      obtain ⟨c0, c1, c2, c3, c4, c5, c6⟩ := hcell k hlt
      have hget : secs.getD k Sec.zero = secs[k] := by simp [hlt]
      rw [hget] at c0 c1 c2 c3 c4 c5 c6
      have hz := HZS.out _ (List.getElem_mem hlt)
      have HT : Hid (secB secs[k] = true → (secs.take (k + 1)).all secB = true) := ⟨fun h => by rw [all_take_succ _ _ _ hlt, HA.out, h]; rfl⟩
      have HN : Hid (secB secs[k] = false → R = false) := ⟨fun h => by rw [HR.out, all_stop _ _ _ hlt h]; rfl⟩
      have HM : Hid (mSec (secs.take (k + 1)) = putN (mSec (secs.take k)) secs[k].nm secs[k]) := ⟨by rw [List.take_succ_eq_append_getElem hlt, mSec_snoc]⟩
      have HS : Hid (∀ W, _) := ⟨fun W => isSection_any secs[k] W⟩
      clear hcell hget
      generalize secB secs[k] = sb at *
      obtain ⟨s, hs⟩ : ∃ s, s = secs[k] := ⟨_, rfl⟩
      rw [← hs] at c0 c1 c2 c3 c4 c5 c6 hz HM HS
      clear hs
      obtain ⟨nm, ty, fl, al, da, dn, dc, sz, ra, rn, rc⟩ := s
      dsimp only [Sec.val] at *
      obtain ⟨P, hP⟩ : ∃ P, wr.heap.size = P := ⟨_, rfl⟩
      have KS : Bk (wr.alloc (.cells #[.string nm, .int .i64 ty, .int .i64 fl, .int .i64 al, .slice da dn dc, .int .i64 sz, .slice ra rn rc] 52)) P 52 #[.string nm, .int .i64 ty, .int .i64 fl, .int .i64 al, .slice da dn dc, .int .i64 sz, .slice ra rn rc] := by rw [← hP]; exact Bk.new _ _ _
      have HKS : Hid _ := ⟨KS⟩
      have HW2 : Hid (Bk (wr.alloc (.cells #[.string nm, .int .i64 ty, .int .i64 fl, .int .i64 al, .slice da dn dc, .int .i64 sz, .slice ra rn rc] 52)) B 41 #[.slice (some ⟨b, off, none⟩) secs.length sc, .slice ya syms.length yc] ∧ Bk (wr.alloc (.cells #[.string nm, .int .i64 ty, .int .i64 fl, .int .i64 al, .slice da dn dc, .int .i64 sz, .slice ra rn rc] 52)) T 126 #[.map (some mb)] ∧ Mp Sec.val (wr.alloc (.cells #[.string nm, .int .i64 ty, .int .i64 fl, .int .i64 al, .slice da dn dc, .int .i64 sz, .slice ra rn rc] 52)) mb k (mSec (secs.take k)) ∧ Below B w (wr.alloc (.cells #[.string nm, .int .i64 ty, .int .i64 fl, .int .i64 al, .slice da dn dc, .int .i64 sz, .slice ra rn rc] 52))) := ⟨HW.out.1.alloc _, HW.out.2.1.alloc _, HW.out.2.2.1.alloc _, HW.out.2.2.2.alloc (by have := HW.out.2.2.2.size; omega) _⟩
      clear KS
      cases sb
      · obtain rfl : R = false := HN.out rfl
        go_wp2_with (go_at_call 64; refine (HS.out _).mono ?_; rintro e w3 ⟨rfl, hb3⟩)
        go_ret
        exact ⟨rfl, by rw [hB]; exact bt2 hB HW2.out.2.2.2 hb3⟩
      · have HAA := HT.out rfl
        go_wp2_with (first
          | (go_at_call 64; refine (HS.out _).mono ?_; rintro e w3 ⟨rfl, hb3⟩
             have HW3 : Hid (Bk w3 B 41 #[.slice (some ⟨b, off, none⟩) secs.length sc, .slice ya syms.length yc] ∧ Bk w3 T 126 #[.map (some mb)] ∧ Mp Sec.val w3 mb k (mSec (secs.take k)) ∧ Below B w w3) := ⟨HW2.out.1.bel hb3 HW2.out.1.lt, HW2.out.2.1.bel hb3 HW2.out.2.1.lt, HW2.out.2.2.1.below hb3 HW2.out.2.2.1.lt, bt2 hB HW2.out.2.2.2 hb3⟩
             have KS3 := HKS.out.bel hb3 HKS.out.lt
             have d0 : w3.cell? ⟨P, 0, none⟩ = some (.string nm) := KS3.cell 0 rfl
             have d1 : w3.cell? ⟨P, 1, none⟩ = some (.int .i64 ty) := KS3.cell 1 rfl
             have d2 : w3.cell? ⟨P, 2, none⟩ = some (.int .i64 fl) := KS3.cell 2 rfl
             have d3 : w3.cell? ⟨P, 3, none⟩ = some (.int .i64 al) := KS3.cell 3 rfl
             have d4 : w3.cell? ⟨P, 4, none⟩ = some (.slice da dn dc) := KS3.cell 4 rfl
             have d5 : w3.cell? ⟨P, 5, none⟩ = some (.int .i64 sz) := KS3.cell 5 rfl
             have d6 : w3.cell? ⟨P, 6, none⟩ = some (.slice ra rn rc) := KS3.cell 6 rfl
             have t0 : w3.cell? ⟨T, 0, none⟩ = some (.map (some mb)) := HW3.out.2.1.cell 0 rfl
             clear KS3 hb3)
          | (go_at_call 65; refine (putSec_any HW3.out.2.2.1 (by unfold maxLen; omega) nm (by unfold maxLen; omega) ⟨nm, ty, fl, al, da, dn, dc, sz, ra, rn, rc⟩).mono ?_; rintro e w4 ⟨rfl, hM4, ht4⟩))
        go_roundw
        case rel => exact ⟨k + 1, hlt, by go_num, ⟨HW3.out.1.turn ht4 (by omega), HW3.out.2.1.turn ht4 (by omega), by rw [HM.out]; exact hM4, HW3.out.2.2.2.trans (ht4.below (by have := HW3.out.2.2.2.size; omega) (fun k hk => by omega))⟩, ⟨HAA⟩⟩
        case measure => simp [intOf]; omega
    · obtain rfl : k = secs.length := by omega
      rw [List.take_of_length_le (Nat.le_refl _)] at HW HA
      have HR2 : Hid (R = syms.all (fun s => symB s ((mSec secs s.sc).getD Sec.zero))) := ⟨by rw [HR.out, HA.out]; rfl⟩
      have c1 : wr.cell? ⟨B, 1, none⟩ = some (.slice ya syms.length yc) := HW.out.1.cell 1 rfl
      go_upto_region 10 with (fail)
      have HI2 : Hid (Bk wr T 126 #[.map (some mb)] ∧ Mp Sec.val wr mb secs.length (mSec secs) ∧ Below B w wr) := ⟨HW.out.2⟩
      clear HW c1 c0
      go_loopw [28] (fun i wr => ∃ k : Nat, k ≤ syms.length ∧ i = .int .i64 k ∧ Hid (Below B w wr ∧ Bk wr T 126 #[.map (some mb)] ∧ Mp Sec.val wr mb secs.length (mSec secs)) ∧ Hid ((syms.take k).all (fun s => symB s ((mSec secs s.sc).getD Sec.zero)) = true)) (fun i _ => syms.length - (intOf i).toNat)
      case atStart => exact ⟨0, by omega, rfl, ⟨HI2.out.2.2, HI2.out.1, HI2.out.2.1⟩, ⟨by simp⟩⟩
      case round =>
        obtain ⟨k, hk, rfl, HV, HA⟩ := hrel
        by_cases hlt : k < syms.length
        · obtain ⟨b, off, rfl, hcell⟩ : ∃ b off, ya = some ⟨b, off, none⟩ ∧ ∀ i, i < syms.length → SymAt wr b (off + i * 6) (syms.getD i Sym.none) := by
            rcases HSY.out.below HV.out.1 (by omega) with h | h
            · subst h; simp at hlt
            · exact h
          obtain ⟨c0, c1, c2, c3, c4, c5⟩ := hcell k hlt
          have hget : syms.getD k Sym.none = syms[k] := by simp [hlt]
          rw [hget] at c0 c1 c2 c3 c4 c5
          have hz := (HZY.out _ (List.getElem_mem hlt)).2
          have HT : Hid (symB syms[k] ((mSec secs syms[k].sc).getD Sec.zero) = true → (syms.take (k + 1)).all (fun s => symB s ((mSec secs s.sc).getD Sec.zero)) = true) := ⟨fun h => by rw [all_take_succ _ _ _ hlt, HA.out, h]; rfl⟩
          have HN : Hid (symB syms[k] ((mSec secs syms[k].sc).getD Sec.zero) = false → R = false) := ⟨fun h => by rw [HR2.out, all_stop _ _ _ hlt h]⟩
          clear hcell hget
          obtain ⟨s, hs⟩ : ∃ s, s = syms[k] := ⟨_, rfl⟩
          rw [← hs] at c0 c1 c2 c3 c4 c5 hz HT HN
          clear hs
          have HO : Hid (∀ W, Mp Sec.val W mb secs.length (mSec secs) → Calls Try.prog 67 #[.agg #[.map (some mb)], .string s.sc] W fun e w' => e = .returned ((mSec secs s.sc).getD Sec.zero).val ∧ Below W.heap.size W w') := ⟨fun W h => ofSec_any h s.sc (by unfold maxLen; omega)⟩
          generalize (mSec secs s.sc).getD Sec.zero = y at *
          have HSB : Hid (∀ W, _) := ⟨fun W => isSymbol_any s y W⟩
          generalize symB s y = sb at *
          obtain ⟨nm, sc', sv, sz, bd, ty⟩ := s
          obtain ⟨yn, yt, yf, yl, yd, ydn, ydc, yz, yr, yrn, yrc⟩ := y
          dsimp only [Sec.val, Sym.val] at *
          obtain ⟨P, hP⟩ : ∃ P, wr.heap.size = P := ⟨_, rfl⟩
          have KS : Bk (wr.alloc (.cells #[.string nm, .string sc', .int .i64 sv, .int .i64 sz, .int .i64 bd, .int .i64 ty] 80)) P 80 #[.string nm, .string sc', .int .i64 sv, .int .i64 sz, .int .i64 bd, .int .i64 ty] := by rw [← hP]; exact Bk.new _ _ _
          have HV2 : Hid (Below B w (wr.alloc (.cells #[.string nm, .string sc', .int .i64 sv, .int .i64 sz, .int .i64 bd, .int .i64 ty] 80)) ∧ Bk (wr.alloc (.cells #[.string nm, .string sc', .int .i64 sv, .int .i64 sz, .int .i64 bd, .int .i64 ty] 80)) T 126 #[.map (some mb)] ∧ Mp Sec.val (wr.alloc (.cells #[.string nm, .string sc', .int .i64 sv, .int .i64 sz, .int .i64 bd, .int .i64 ty] 80)) mb secs.length (mSec secs)) := ⟨HV.out.1.alloc (by have := HV.out.1.size; omega) _, HV.out.2.1.alloc _, HV.out.2.2.alloc _⟩
          go_upto_region 12 with (fail)
          generalize wr.alloc (.cells #[.string nm, .string sc', .int .i64 sv, .int .i64 sz, .int .i64 bd, .int .i64 ty] 80) = v2 at *
          have HD : Hid (Below v2.heap.size v2 v2.drew) := ⟨(Below.refl _ _).drew⟩
          have t0 : v2.drew.cell? ⟨T, 0, none⟩ = some (.map (some mb)) := HV2.out.2.1.cell 0 rfl
          have d0 : v2.drew.cell? ⟨P, 0, none⟩ = some (.string nm) := KS.cell 0 rfl
          have d1 : v2.drew.cell? ⟨P, 1, none⟩ = some (.string sc') := KS.cell 1 rfl
          have d2 : v2.drew.cell? ⟨P, 2, none⟩ = some (.int .i64 sv) := KS.cell 2 rfl
          have d3 : v2.drew.cell? ⟨P, 3, none⟩ = some (.int .i64 sz) := KS.cell 3 rfl
          have d4 : v2.drew.cell? ⟨P, 4, none⟩ = some (.int .i64 bd) := KS.cell 4 rfl
          have d5 : v2.drew.cell? ⟨P, 5, none⟩ = some (.int .i64 ty) := KS.cell 5 rfl
          clear KS c0 c1 c2 c3 c4 c5
          go_region_held3 (fun x => x.cell? ⟨T, 0, none⟩ = some (.map (some mb)) ∧ x.cell? ⟨P, 0, none⟩ = some (.string nm) ∧ x.cell? ⟨P, 1, none⟩ = some (.string sc') ∧ x.cell? ⟨P, 2, none⟩ = some (.int .i64 sv) ∧ x.cell? ⟨P, 3, none⟩ = some (.int .i64 sz) ∧ x.cell? ⟨P, 4, none⟩ = some (.int .i64 bd) ∧ x.cell? ⟨P, 5, none⟩ = some (.int .i64 ty))
            (first | (with_reducible assumption) | exact ⟨t0, d0, d1, d2, d3, d4, d5⟩ | exact ⟨t1, e0, e1, e2, e3, e4, e5⟩ | exact ⟨t2, f0, f1, f2, f3, f4, f5⟩)
            (first
              | (go_at_call 67; (with_reducible refine (HO.out _ (HV2.out.2.2.below HD.out HV2.out.2.2.lt)).mono ?_); rintro e u ⟨rfl, hu⟩; have HU : Hid (Below v2.heap.size v2 u) := ⟨HD.out.trans (hu.mono HD.out.size)⟩; have t1 := up_c t0 hu; have e0 := up_c d0 hu; have e1 := up_c d1 hu; have e2 := up_c d2 hu; have e3 := up_c d3 hu; have e4 := up_c d4 hu; have e5 := up_c d5 hu; clear hu)
              | (go_at_call 66; (with_reducible refine (HSB.out _).mono ?_); rintro e u' ⟨rfl, hu'⟩; have HU2 : Hid (Below v2.heap.size v2 u') := ⟨HU.out.trans (hu'.mono HU.out.size)⟩; have t2 := up_c t1 hu'; have f0 := up_c e0 hu'; have f1 := up_c e1 hu'; have f2 := up_c e2 hu'; have f3 := up_c e3 hu'; have f4 := up_c e4 hu'; have f5 := up_c e5 hu'; clear hu'))
          cases sb
          · obtain rfl : R = false := HN.out rfl
            go_wp2
            go_ret
            exact ⟨rfl, by first | exact bt2 hB HV2.out.1 HU2.out | (rw [hB]; exact bt2 hB HV2.out.1 HU2.out)⟩
          · have HAA := HT.out rfl
            go_wp2
            go_roundw
            case rel => exact ⟨k + 1, hlt, by go_num, ⟨bt2 hB HV2.out.1 HU2.out, HV2.out.2.1.bel HU2.out HV2.out.2.1.lt, HV2.out.2.2.below HU2.out HV2.out.2.2.lt⟩, ⟨HAA⟩⟩
            case measure => simp [intOf]; omega
        · obtain rfl : k = syms.length := by omega
          have hR : R = true := by
            have := HA.out
            rw [List.take_of_length_le (Nat.le_refl _)] at this
            rw [HR2.out, this]
          go_wp2
          go_ret
          exact ⟨ret_bool hR.symm, by first | exact HV.out.1 | (rw [hB]; exact HV.out.1)⟩
end Go.Proofs.Ytojiomkinhnodaa
