/- checkObject, Check. -/
import Derived.Test.YtojiomkinhnodaaRRight
namespace Go.Proofs.Ytojiomkinhnodaa
open Go.ChangeShapes Go.WideShapes Go.ChangeAt Go.RowKit Go.Maps
set_option linter.unusedVariables false
set_option linter.unusedSimpArgs false

def errF (f : Fl) : Int := if !(checkE f.syms (f.secs.map (·.nm)) == 0) then checkE f.syms (f.secs.map (·.nm)) else if rightF f then 0 else 80
def errL : List Fl → Int
  | [] => 0
  | f :: r => if !(errF f == 0) then errF f else errL r
def checkL (l : List Fl) : Int := if 16 < l.length then 6 else errL l

set_option maxHeartbeats 8000000 in
set_option maxRecDepth 20000 in
theorem checkObject_any (f : Fl) (w : World) (hb : FlB f) (hin : FlIn w f) : Calls Try.prog 33 #[f.val] w fun e w' => e = .returned (.int .i64 (errF f)) ∧ Below w.heap.size w w' := by
  have HRI : Hid (∀ W, Below w.heap.size w W → Calls Try.prog 49 #[f.val] W fun e w' => e = .returned (.bool (rightF f)) ∧ Below W.heap.size W w') := ⟨fun W h => isRight2_any f W hb (hin.below h (Nat.le_refl _))⟩
  have HE : Hid (errF f = (if !(checkE f.syms (f.secs.map (·.nm)) == 0) then checkE f.syms (f.secs.map (·.nm)) else if rightF f then 0 else 80)) := ⟨rfl⟩
  have HCK : Hid (∀ W ao c, Below w.heap.size w W → Strs W ao (f.secs.map (·.nm)) → Calls Try.prog 48 #[.slice f.ya f.syms.length f.yc, .slice ao f.secs.length c] W fun e w' => e = .returned (.int .i64 (checkE f.syms (f.secs.map (·.nm)))) ∧ Below W.heap.size W w') := ⟨fun W ao c h hs => by
    have := check_any f.ya ao f.yc c f.syms (f.secs.map (·.nm)) W (by have := hb.ny; omega) (by have := hb.ns; simp; omega) (hin.sy.below h (Nat.le_refl _)) hs hb.zy (fun s hs => by obtain ⟨x, hx, rfl⟩ := List.mem_map.1 hs; exact hb.zs x hx)
    simpa using this⟩
  generalize errF f = E at *
  generalize checkE f.syms (f.secs.map (·.nm)) = C at *
  generalize rightF f = R at *
  obtain ⟨sa, sc, secs, ya, yc, syms⟩ := f
  obtain ⟨hse, hsy⟩ := hin
  obtain ⟨ns, ny, zs, zy⟩ := hb
  dsimp only [Fl.val] at *
  have HSE : Hid _ := ⟨hse⟩
  clear hse hsy zs zy
  obtain ⟨B, hB⟩ : ∃ B, w.heap.size = B := ⟨_, rfl⟩
  have hb1 : Below B w (w.alloc (.cells #[.slice sa secs.length sc, .slice ya syms.length yc] 41)) := by rw [← hB]; exact (Below.refl _ _).alloc (Nat.le_refl _) _
  have k1 : Bk (w.alloc (.cells #[.slice sa secs.length sc, .slice ya syms.length yc] 41)) B 41 #[.slice sa secs.length sc, .slice ya syms.length yc] := by rw [← hB]; exact Bk.new _ _ _
  have hz0 : (w.alloc (.cells #[.slice sa secs.length sc, .slice ya syms.length yc] 41)).heap.size = B + 1 := by rw [← hB]; simp
  have HB1 : Hid _ := ⟨hb1⟩
  have HK1 : Hid _ := ⟨k1⟩
  have c0 : (w.alloc (.cells #[.slice sa secs.length sc, .slice ya syms.length yc] 41)).cell? ⟨B, 0, none⟩ = some (.slice sa secs.length sc) := k1.cell 0 rfl
  clear hb1 k1
  go_enter Try.func33, Try.ntmps33
  go_upto_region 3 with (fail)
  generalize w.alloc (.cells #[.slice sa secs.length sc, .slice ya syms.length yc] 41) = w0 at *
  go_loopw [3, 10] (fun v i wr => ∃ k : Nat, k ≤ secs.length ∧ i = .int .i64 k ∧ Hid (OwnS wr (B + 1) v ((secs.take k).map (·.nm)) ∧ Below (B + 1) w0 wr)) (fun _ i _ => secs.length - (intOf i).toNat)
  case atStart => exact ⟨0, by omega, rfl, ⟨OwnS.nil _ _, Below.refl _ _⟩⟩
  case round =>
    obtain ⟨k, hk, rfl, HW⟩ := hrel
    have hbw := HW.out.2.size
    by_cases hlt : k < secs.length
    · obtain ⟨b, off, rfl, hcell⟩ : ∃ b off, sa = some ⟨b, off, none⟩ ∧ ∀ i, i < secs.length → SecAt wr b (off + i * 7) (secs.getD i Sec.zero) := by
        rcases (HSE.out.below HB1.out (by omega)).below HW.out.2 (by omega) with h | h
        · subst h; simp at hlt
        · exact h
      obtain ⟨c0, c1, c2, c3, c4, c5, c6⟩ := hcell k hlt
      have hget : secs.getD k Sec.zero = secs[k] := by simp [hlt]
      rw [hget] at c0 c1 c2 c3 c4 c5 c6
      have HM : Hid ((secs.take (k + 1)).map (·.nm) = (secs.take k).map (·.nm) ++ [secs[k].nm]) := ⟨by rw [List.take_succ_eq_append_getElem hlt, List.map_append]; rfl⟩
      clear hcell hget
      obtain ⟨s, hs⟩ : ∃ s, s = secs[k] := ⟨_, rfl⟩
      rw [← hs] at c0 c1 c2 c3 c4 c5 c6 HM
      clear hs
      obtain ⟨nm, ty, fl, al, da, dn, dc, sz, ra, rn, rc⟩ := s
      dsimp only at *
      have HP : Hid (OwnS (wr.alloc (.cells #[.string nm, .int .i64 ty, .int .i64 fl, .int .i64 al, .slice da dn dc, .int .i64 sz, .slice ra rn rc] 52)) (B + 1) _ ((secs.take k).map (·.nm))) := ⟨World.ownsRow.alloc HW.out.1 _⟩
      have HB2 : Hid _ := ⟨HW.out.2.alloc (by omega) (.cells #[.string nm, .int .i64 ty, .int .i64 fl, .int .i64 al, .slice da dn dc, .int .i64 sz, .slice ra rn rc] 52)⟩
      have hln : ((secs.take k).map (·.nm)).length ≤ 1048577 := by simp; omega
      go_wp2_with (at_builtin; refine append_nameQ _ rfl _ _ rfl (B + 1) _ _ rfl HP.out nm _ rfl (by simp) (by omega) (by simp; omega) ?_; intro v1 w3 hr1 hs1)
      go_roundw
      case rel => exact ⟨k + 1, hlt, by go_num, ⟨by rw [HM.out]; exact hr1, HB2.out.trans (hs1.below HP.out (by have := HB2.out.size; omega))⟩⟩
      case measure => simp [intOf]; omega
    · obtain rfl : k = secs.length := by omega
      rw [List.take_of_length_le (Nat.le_refl _)] at HW
      obtain ⟨ao, cp, hv, _, _, hst, _⟩ := HW.out.1.any
      subst hv
      have HWB : Hid (Below B w wr) := ⟨HB1.out.trans (HW.out.2.mono (by omega))⟩
      have K2 := HK1.out.bel HW.out.2 (by omega)
      have c1 : wr.cell? ⟨B, 1, none⟩ = some (.slice ya syms.length yc) := K2.cell 1 rfl
      have HC2 : Hid _ := ⟨HCK.out wr ao cp (by rw [hB]; exact HWB.out) hst⟩
      have HK2 : Hid _ := ⟨K2⟩
      rw [List.length_map]
      clear K2 hst
      obtain ⟨q, hq⟩ : ∃ q, (C == 0) = q := ⟨_, rfl⟩
      have hq' : (C != 0) = !q := by rw [bne, hq]
      rw [hq] at HE
      cases q
      · go_wp2_with (go_at_call 48; refine HC2.out.mono ?_; rintro e w3 ⟨rfl, hb3⟩)
        go_ret
        obtain rfl : E = C := by rw [HE.out]; rfl
        exact ⟨rfl, by first | exact bt2 hB HWB.out hb3 | (rw [hB]; exact bt2 hB HWB.out hb3)⟩
      · cases R
        all_goals
          go_wp2_with (first
            | (go_at_call 48; refine HC2.out.mono ?_; rintro e w3 ⟨rfl, hb3⟩
               have HB3 : Hid (Below B w w3) := ⟨bt2 hB HWB.out hb3⟩
               have K3 := HK2.out.bel hb3 HK2.out.lt
               have f0 : w3.cell? ⟨B, 0, none⟩ = some (.slice sa secs.length sc) := K3.cell 0 rfl
               have f1 : w3.cell? ⟨B, 1, none⟩ = some (.slice ya syms.length yc) := K3.cell 1 rfl
               clear K3 hb3)
            | (go_at_call 49; refine (HRI.out _ (by rw [hB]; exact HB3.out)).mono ?_; rintro e w4 ⟨rfl, hb4⟩))
          go_ret
          exact ⟨by rw [HE.out]; rfl, by first | exact bt2 hB HB3.out hb4 | (rw [hB]; exact bt2 hB HB3.out hb4)⟩
end Go.Proofs.Ytojiomkinhnodaa
