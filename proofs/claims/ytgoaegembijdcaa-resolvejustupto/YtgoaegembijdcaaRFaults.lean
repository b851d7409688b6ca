/- faults: what does not agree. -/
import Derived.Test.YtgoaegembijdcaaRFaultA
namespace Go.Proofs.Ytgoaegembijdcaa
open Go.ChangeShapes Go.WideShapes Go.ChangeAt Go.RowKit Go.Maps
set_option linter.unusedVariables false
set_option linter.unusedSimpArgs false

noncomputable def faultsM (mu : ByteArray → Option Us) (ms : ByteArray → Option Sh) : List Ft := ftOf 180 twice (rws mu) ++ ftOf 181 undef1 (rws mu) ++ ftOf 182 mixd (rws mu) ++ ftOf 182 Sh.un (rws ms)
theorem faultsM_is (l : List Fl) : faultsM (mU (occ l)) (mS (l.flatMap (·.secs))) = faultsL l := rfl
theorem ftOf_le {α : Type} (e : Int) (p : α → Bool) (L : List (ByteArray × α)) : (ftOf e p L).length ≤ L.length := by
  have := ftOf_len e p L L.length
  rwa [List.take_of_length_le (Nat.le_refl _)] at this

set_option maxHeartbeats 8000000 in
set_option maxRecDepth 20000 in
theorem faults_any {w : World} {bu bs Lu Ls : Nat} {mu : ByteArray → Option Us} {ms : ByteArray → Option Sh} (hu : Mp Us.val w bu Lu mu) (hs : Mp Sh.val w bs Ls ms) (hLu : Lu ≤ 2097152) (hLs : Ls ≤ 2097152) :
    Calls Try.prog 29 #[.agg #[.map (some bu), .map (some bs)]] w fun e w' => ∃ v, e = .returned v ∧ RowsOf (rws mu) mu ∧ RowsOf (rws ms) ms ∧ (rws mu).length ≤ Lu ∧ (rws ms).length ≤ Ls ∧ OwnR 45 2 encF w' w.heap.size v (faultsM mu ms) ∧ Below w.heap.size w w' := by
  obtain ⟨B, hB⟩ : ∃ B, w.heap.size = B := ⟨_, rfl⟩
  have hub := hu.lt
  have hsb := hs.lt
  have K0 : Bk (w.alloc (.cells #[.map (some bu), .map (some bs)] 71)) B 71 #[.map (some bu), .map (some bs)] := by rw [← hB]; exact Bk.new _ _ _
  have HU : Hid _ := ⟨hu.alloc (.cells #[.map (some bu), .map (some bs)] 71)⟩
  have HS : Hid _ := ⟨hs.alloc (.cells #[.map (some bu), .map (some bs)] 71)⟩
  have hz0 : (w.alloc (.cells #[.map (some bu), .map (some bs)] 71)).heap.size = B + 1 := by rw [← hB]; simp
  have F0 : Below B w (w.alloc (.cells #[.map (some bu), .map (some bs)] 71)) := by rw [← hB]; exact (Below.refl _ _).alloc (Nat.le_refl _) _
  have HK : Hid _ := ⟨K0⟩
  have HF : Hid _ := ⟨F0⟩
  clear K0 F0 hu hs
  go_enter Try.func29, Try.ntmps29
  go_upto_region 1 with (fail)
  generalize w.alloc (.cells #[.map (some bu), .map (some bs)] 71) = w0 at *
  have c0 : w0.cell? ⟨B, 0, none⟩ = some (.map (some bu)) := HK.out.cell 0 rfl
  go_upto_region 2 with (go_at_call 40; refine (risingUs_any HU.out hLu).mono ?_; rintro e w1 ⟨v1, U, rfl, hRU, hlU, hoU, hb1⟩)
  have hsz1 := hb1.size
  have HO1 : Hid (OwnR 106 11 encU w1 (B + 1) v1 U ∧ Below (B + 1) w0 w1) := ⟨ownR_base hoU (by omega), hb1.mono (by omega)⟩
  have HRU : Hid _ := ⟨hRU⟩
  clear hoU hb1 hRU c0
  have HA1 : Hid (∀ W, OwnR 106 11 encU W (B + 1) v1 U → B + 1 ≤ W.heap.size → _) := ⟨fun W hr hb => addU_any (w := W) (l := []) 42 twice 180 en_twice cl_twice (OwnR.nil W (B + 1)) hr hb (by simp; omega)⟩
  go_upto_region 3 with (go_at_call 41; refine (HA1.out _ HO1.out.1 (by omega)).mono ?_; rintro e w2 ⟨v2, rfl, hf2, hr2, hb2⟩)
  have hsz2 := hb2.size
  have HO2 : Hid (OwnR 45 2 encF w2 (B + 1) v2 ([] ++ ftOf 180 twice U) ∧ OwnR 106 11 encU w2 (B + 1) v1 U ∧ Below (B + 1) w0 w2) := ⟨hf2, hr2, HO1.out.2.trans hb2⟩
  clear hf2 hr2 hb2 HA1 HO1
  have hl2 := ftOf_le 180 twice U
  have HA2 : Hid (∀ W, OwnR 45 2 encF W (B + 1) v2 ([] ++ ftOf 180 twice U) → OwnR 106 11 encU W (B + 1) v1 U → B + 1 ≤ W.heap.size → _) := ⟨fun W hl hr hb => addU_any (w := W) 43 undef1 181 en_undef1 cl_undef1 hl hr hb (by simp; omega)⟩
  go_upto_region 4 with (go_at_call 41; refine (HA2.out _ HO2.out.1 HO2.out.2.1 (by omega)).mono ?_; rintro e w3 ⟨v3, rfl, hf3, hr3, hb3⟩)
  have hsz3 := hb3.size
  have HO3 : Hid (OwnR 45 2 encF w3 (B + 1) v3 ([] ++ ftOf 180 twice U ++ ftOf 181 undef1 U) ∧ OwnR 106 11 encU w3 (B + 1) v1 U ∧ Below (B + 1) w0 w3) := ⟨hf3, hr3, HO2.out.2.2.trans hb3⟩
  clear hf3 hr3 hb3 HA2 HO2
  have hl3 := ftOf_le 181 undef1 U
  have HA3 : Hid (∀ W, OwnR 45 2 encF W (B + 1) v3 ([] ++ ftOf 180 twice U ++ ftOf 181 undef1 U) → OwnR 106 11 encU W (B + 1) v1 U → B + 1 ≤ W.heap.size → _) := ⟨fun W hl hr hb => addU_any (w := W) 44 mixd 182 en_mixd cl_mixd hl hr hb (by simp; omega)⟩
  go_upto_region 5 with (go_at_call 41; refine (HA3.out _ HO3.out.1 HO3.out.2.1 (by omega)).mono ?_; rintro e w4 ⟨v4, rfl, hf4, hr4, hb4⟩)
  have hsz4 := hb4.size
  have HO4 : Hid (OwnR 45 2 encF w4 (B + 1) v4 ([] ++ ftOf 180 twice U ++ ftOf 181 undef1 U ++ ftOf 182 mixd U) ∧ Below (B + 1) w0 w4) := ⟨hf4, HO3.out.2.2.trans hb4⟩
  clear hf4 hr4 hb4 HA3 HO3
  have hl4 := ftOf_le 182 mixd U
  have c1 : w4.cell? ⟨B, 1, none⟩ = some (.map (some bs)) := (HK.out.bel HO4.out.2 (by omega)).cell 1 rfl
  have HS4 : Hid _ := ⟨HS.out.below HO4.out.2 (by omega)⟩
  go_wp2_with (first
    | (go_at_call 46; refine (risingSh_any HS4.out hLs).mono ?_; rintro e w5 ⟨v5, S, rfl, hRS, hlS, hoS, hb5⟩
       have hsz5 := hb5.size
       have HO5 : Hid (OwnR 45 2 encF w5 (B + 1) v4 ([] ++ ftOf 180 twice U ++ ftOf 181 undef1 U ++ ftOf 182 mixd U) ∧ OwnR 112 5 encS w5 (B + 1) v5 S ∧ Below (B + 1) w0 w5) := ⟨own_belR hb5 HO4.out.1, ownR_base hoS (by omega), HO4.out.2.trans (hb5.mono (by omega))⟩
       have HRS : Hid _ := ⟨hRS⟩
       clear hoS hb5 hRS c1)
    | (go_at_call 45; refine (addS_any 47 Sh.un 182 en_un cl_un HO5.out.1 HO5.out.2.1 (by omega) (by simp; omega)).mono ?_; rintro e w6 ⟨v6, rfl, hf6, hr6, hb6⟩))
  go_ret
  obtain rfl := rws_eq HRU.out
  obtain rfl := rws_eq HRS.out
  have hfin : Below B w w6 := HF.out.trans ((HO5.out.2.2.trans hb6).mono (by omega))
  refine ⟨_, rfl, HRU.out, HRS.out, hlU, hlS, ?_, ?_⟩
  · have h := ownR_base hf6 (show B ≤ B + 1 by omega)
    have e : faultsM mu ms = [] ++ ftOf 180 twice (rws mu) ++ ftOf 181 undef1 (rws mu) ++ ftOf 182 mixd (rws mu) ++ ftOf 182 Sh.un (rws ms) := by unfold faultsM; rw [List.nil_append]
    rw [e]
    first | exact h | (rw [hB]; exact h)
  · first | exact hfin | (rw [hB]; exact hfin)
end Go.Proofs.Ytgoaegembijdcaa
