/- entries: what each name means. -/
import Derived.Test.YtgoaegembijdcaaRFaults
namespace Go.Proofs.Ytgoaegembijdcaa
open Go.ChangeShapes Go.WideShapes Go.ChangeAt Go.RowKit Go.Maps
set_option linter.unusedVariables false
set_option linter.unusedSimpArgs false

def encE (x : En) : List Value := [.string x.nm, .int .i64 x.o, .int .i64 x.k, .int .i64 x.b, .int .i64 x.t]
theorem encE_len (r : En) : (encE r).length = 5 := rfl
theorem encE_one (r : En) : ∀ v ∈ encE r, v.oneCell' = true := List.all_eq_true.1 rfl
theorem infoEn : (Try.prog.info? 27).map (fun i => (i.zero, i.size, i.bytes)) = some (some (.agg (encE En.zero).toArray), 5, 48) := by kernel_rfl

set_option maxHeartbeats 8000000 in
set_option maxRecDepth 20000 in
theorem entries_any {w : World} {bu bs Lu : Nat} {mu : ByteArray → Option Us} (hu : Mp Us.val w bu Lu mu) (hLu : Lu ≤ 2097152) :
    Calls Try.prog 31 #[.agg #[.map (some bu), .map (some bs)]] w fun e w' => ∃ v, e = .returned v ∧ RowsOf (rws mu) mu ∧ (rws mu).length ≤ Lu ∧ OwnR 27 5 encE w' w.heap.size v ((rws mu).map entOf) ∧ Below w.heap.size w w' := by
  obtain ⟨B, hB⟩ : ∃ B, w.heap.size = B := ⟨_, rfl⟩
  have hub := hu.lt
  have K0 : Bk (w.alloc (.cells #[.map (some bu), .map (some bs)] 71)) B 71 #[.map (some bu), .map (some bs)] := by rw [← hB]; exact Bk.new _ _ _
  have HU : Hid _ := ⟨hu.alloc (.cells #[.map (some bu), .map (some bs)] 71)⟩
  have hz0 : (w.alloc (.cells #[.map (some bu), .map (some bs)] 71)).heap.size = B + 1 := by rw [← hB]; simp
  have F0 : Below B w (w.alloc (.cells #[.map (some bu), .map (some bs)] 71)) := by rw [← hB]; exact (Below.refl _ _).alloc (Nat.le_refl _) _
  have HK : Hid _ := ⟨K0⟩
  have HF : Hid _ := ⟨F0⟩
  clear K0 F0 hu
  go_enter Try.func31, Try.ntmps31
  go_upto_region 2 with (fail)
  generalize w.alloc (.cells #[.map (some bu), .map (some bs)] 71) = w0 at *
  have c0 : w0.cell? ⟨B, 0, none⟩ = some (.map (some bu)) := HK.out.cell 0 rfl
  go_upto_region 3 with (go_at_call 40; refine (risingUs_any HU.out hLu).mono ?_; rintro e w1 ⟨v1, rows, rfl, hRU, hlU, hoU, hb1⟩; obtain ⟨ao, cap, hv1, _, _, _, _⟩ := hoU.any encU_len; subst hv1)
  have hsz1 := hb1.size
  have HO1 : Hid (OwnR 106 11 encU w1 (B + 1) (.slice ao rows.length cap) rows ∧ Below (B + 1) w0 w1) := ⟨ownR_base hoU (by omega), hb1.mono (by omega)⟩
  have HRU : Hid _ := ⟨hRU⟩
  clear hoU hb1 hRU c0
  go_loopw [3, 10] (fun x i wr => ∃ k : Nat, k ≤ rows.length ∧ i = .int .i64 k ∧ Hid (OwnR 27 5 encE wr (B + 1) x ((rows.take k).map entOf) ∧ OwnR 106 11 encU wr (B + 1) (.slice ao rows.length cap) rows ∧ Below (B + 1) w0 wr)) (fun _ i _ => rows.length - (intOf i).toNat)
  case atStart => exact ⟨0, by omega, rfl, ⟨OwnR.nil _ _, HO1.out.1, HO1.out.2⟩⟩
  case round =>
    obtain ⟨k, hk, rfl, HW⟩ := hrel
    have hbw := HW.out.2.2.size
    by_cases hlt : k < rows.length
    · obtain ⟨g, rfl, hg1, hg2, hcell⟩ := HW.out.2.1.at encU_len hlt
      have HT : Hid ((rows.take (k + 1)).map entOf = (rows.take k).map entOf ++ [entOf rows[k]]) := ⟨by rw [List.take_succ_eq_append_getElem hlt, List.map_append]; rfl⟩
      have hfl : ((rows.take k).map entOf).length ≤ 2097152 := by simp; omega
      obtain ⟨r, hr⟩ : ∃ r, r = rows[k] := ⟨_, rfl⟩
      rw [← hr] at hcell HT
      clear hr
      obtain ⟨t, u⟩ := r
      obtain ⟨⟨y0, y1, y2, y3, y4⟩, y5, y6, y7, y8, y9⟩ := u
      have c0 : wr.cell? ⟨g, k * 11, none⟩ = some (.string t) := hcell 0 (by decide)
      have c1 : wr.cell? ⟨g, k * 11 + 1, none⟩ = some (.string y0) := hcell 1 (by decide)
      have c2 : wr.cell? ⟨g, k * 11 + 2, none⟩ = some (.int .i64 y1) := hcell 2 (by decide)
      have c3 : wr.cell? ⟨g, k * 11 + 3, none⟩ = some (.int .i64 y2) := hcell 3 (by decide)
      have c4 : wr.cell? ⟨g, k * 11 + 4, none⟩ = some (.int .i64 y3) := hcell 4 (by decide)
      have c5 : wr.cell? ⟨g, k * 11 + 5, none⟩ = some (.int .i64 y4) := hcell 5 (by decide)
      have c6 : wr.cell? ⟨g, k * 11 + 6, none⟩ = some (.bool y5) := hcell 6 (by decide)
      have c7 : wr.cell? ⟨g, k * 11 + 7, none⟩ = some (.int .i64 y6) := hcell 7 (by decide)
      have c8 : wr.cell? ⟨g, k * 11 + 8, none⟩ = some (.bool y7) := hcell 8 (by decide)
      have c9 : wr.cell? ⟨g, k * 11 + 9, none⟩ = some (.bool y8) := hcell 9 (by decide)
      have c10 : wr.cell? ⟨g, k * 11 + 10, none⟩ = some (.bool y9) := hcell 10 (by decide)
      clear hcell
      have HFF : Hid (OwnR 27 5 encE (wr.alloc (.cells #[.string t, .string y0, .int .i64 y1, .int .i64 y2, .int .i64 y3, .int .i64 y4, .bool y5, .int .i64 y6, .bool y7, .bool y8, .bool y9] 106)) (B + 1) u3 ((rows.take k).map entOf) ∧ OwnR 106 11 encU (wr.alloc (.cells #[.string t, .string y0, .int .i64 y1, .int .i64 y2, .int .i64 y3, .int .i64 y4, .bool y5, .int .i64 y6, .bool y7, .bool y8, .bool y9] 106)) (B + 1) (.slice (some ⟨g, 0, none⟩) rows.length cap) rows ∧ Below (B + 1) w0 (wr.alloc (.cells #[.string t, .string y0, .int .i64 y1, .int .i64 y2, .int .i64 y3, .int .i64 y4, .bool y5, .int .i64 y6, .bool y7, .bool y8, .bool y9] 106))) := ⟨World.ownsRow.alloc HW.out.1 _, World.ownsRow.alloc HW.out.2.1 _, HW.out.2.2.alloc (by omega) _⟩
      have HAP : Hid (Apart (.slice (some ⟨g, 0, none⟩) rows.length cap) u3) := ⟨own_apart' (by decide) HFF.out.1 HFF.out.2.1⟩
      cases y5
      · have HTT : Hid ((rows.take (k + 1)).map entOf = (rows.take k).map entOf ++ [⟨t, -1, -1, 2, 0⟩]) := ⟨HT.out⟩
        go_wp2_with (at_builtin; refine append_R rfl _ _ 24 (.agg (encE En.zero).toArray) 48 rfl Try.underlying24 infoEn (by kernel_rfl) (by decide) encE_len encE_one rfl HFF.out.1 ⟨t, -1, -1, 2, 0⟩ rfl (by simp) rfl (by unfold maxLen; omega) (by omega) (by simp; omega) ?_; intro v1 w5 hr5 hs5; go_frame)
        go_roundw
        case rel => exact ⟨k + 1, hlt, by go_num, ⟨by rw [HTT.out]; exact hr5, (hs5.keep HFF.out.2.1 HAP.out).1, HFF.out.2.2.trans (hs5.below HFF.out.1 (by simp; omega))⟩⟩
        case measure => simp [intOf]; omega
      · have HTT : Hid ((rows.take (k + 1)).map entOf = (rows.take k).map entOf ++ [⟨y0, y1, y2, y3, y4⟩]) := ⟨HT.out⟩
        go_wp2_with (at_builtin; refine append_R rfl _ _ 24 (.agg (encE En.zero).toArray) 48 rfl Try.underlying24 infoEn (by kernel_rfl) (by decide) encE_len encE_one rfl HFF.out.1 ⟨y0, y1, y2, y3, y4⟩ rfl (by simp) rfl (by unfold maxLen; omega) (by omega) (by simp; omega) ?_; intro v1 w5 hr5 hs5; go_frame)
        go_roundw
        case rel => exact ⟨k + 1, hlt, by go_num, ⟨by rw [HTT.out]; exact hr5, (hs5.keep HFF.out.2.1 HAP.out).1, HFF.out.2.2.trans (hs5.below HFF.out.1 (by simp; omega))⟩⟩
        case measure => simp [intOf]; omega
    · obtain rfl : k = rows.length := by omega
      rw [List.take_of_length_le (Nat.le_refl _)] at HW
      go_wp2
      go_ret
      obtain rfl := rws_eq HRU.out
      have h := ownR_base HW.out.1 (show B ≤ B + 1 by omega)
      have hfin : Below B w wr := HF.out.trans (HW.out.2.2.mono (by omega))
      exact ⟨_, rfl, HRU.out, hlU, by first | exact h | (rw [hB]; exact h), by first | exact hfin | (rw [hB]; exact hfin)⟩
end Go.Proofs.Ytgoaegembijdcaa
