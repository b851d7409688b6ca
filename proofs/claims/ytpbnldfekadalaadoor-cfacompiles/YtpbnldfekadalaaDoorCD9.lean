/- The document's Begin and Rows, whole. -/
import Derived.Test.YtpbnldfekadalaaDoorCD8
namespace Go.Proofs.YtpbnldfekadalaaDoor
open Go.ChangeShapes Go.WideShapes Go.ChangeAt Go.RowKit
set_option linter.unusedVariables false
set_option linter.unusedSimpArgs false
variable {X : Nat → Option Obj}

set_option maxRecDepth 10000 in
set_option maxHeartbeats 1000000 in
/-- The initial ops. -/
theorem rbegin_any {base tb : Nat} {w0 w : World} {t : Tb} {vL vK : Value} (h : TD X base w tb t vL vK) (hp : Pl 0 false t) (ao : Option Addr) (c : Nat) (l : List Oq) (hm : l.length ≤ 4000) (hb : base = w0.heap.size) (hq : Oqs w0 ao l) (hB : Below base w0 w) :
    Calls Tryd.prog 15 #[.pointer (some ⟨tb, 0, none⟩), .slice ao l.length c] w fun e w' => e = .returned (.bool (begM t l).isSome) ∧ DEnd X base tb w w' (begM t l) := by
  subst hb
  obtain ⟨R, hR⟩ : ∃ R, begM t l = R := ⟨_, rfl⟩
  obtain ⟨r, hr⟩ : ∃ r, R.isSome = r := ⟨_, rfl⟩
  rw [hR, hr]
  have HX : Hid (begM t l = R ∧ R.isSome = r) := ⟨hR, hr⟩
  have HH : Hid _ := ⟨h⟩
  have HP : Hid _ := ⟨hp⟩
  have HQ : Hid _ := ⟨hq⟩
  have HBB : Hid _ := ⟨hB⟩
  clear hR hr h hp hq hB
  go_enter Tryd.func15, Tryd.ntmps15
  go_wp2
  go_loopw [5] (fun iv wr => ∃ k : Nat, k ≤ l.length ∧ iv = .int .i64 k ∧ Hid (∃ tk vL vK, opsM true t (l.take k) = some tk ∧ TD X w0.heap.size wr tb tk vL vK ∧ Pl (0 + k) false tk ∧ Below w0.heap.size w wr)) (fun iv _ => l.length - (intOf iv).toNat)
  case atStart => exact ⟨0, by omega, rfl, ⟨t, vL, vK, rfl, HH.out, HP.out, Below.refl _ _⟩⟩
  case round =>
    obtain ⟨k, hk, rfl, HW⟩ := hrel
    by_cases hlt : k < l.length
    · have hlti : (k : Int) < (l.length : Int) := by omega
      obtain ⟨tk, vL1, vK1, hops, hT, hPl, hBw⟩ := HW.out
      obtain ⟨b, off, rfl, hat⟩ : ∃ b off, ao = some ⟨b, off, none⟩ ∧ ∀ i, i < l.length → OqAt wr b (off + i * 3) (l.getD i Oq.none) := by
        rcases HQ.out.below (HBB.out.trans hBw) (Nat.le_refl _) with h | h
        · rw [h] at hlt; simp at hlt
        · exact h
      obtain ⟨c0, c1, c2⟩ := hat k hlt
      have hnext := ops_take hlt hops
      clear hat HW
      generalize l.getD k Oq.none = o at *
      have HN : Hid _ := ⟨hnext⟩
      have HD : Hid _ := ⟨rone_any hT true hPl (by omega) o⟩
      have HBw : Hid _ := ⟨hBw⟩
      have HPl : Hid _ := ⟨hPl⟩
      clear hnext hops hT hPl hBw
      cases hone : oneM true tk o with
      | none =>
        rw [hone] at HD HN
        have hRn : R = none := by rw [← HX.out.1]; unfold begM; rw [ops_none HN.out]
        obtain rfl : r = false := by rw [← HX.out.2, hRn]; rfl
        subst hRn
        clear hone
        go_wp2_with (go_at_call 16; (with_reducible refine HD.out.mono ?_); rintro e w4 ⟨he, hb4⟩; subst he; have HB4 : Hid _ := ⟨hb4⟩; clear hb4)
        go_ret
        exact ⟨rfl, HBw.out.trans HB4.out.1, fun t' ht => by cases ht⟩
      | some t2 =>
        rw [hone] at HD HN
        have hd2 : Pl (0 + k + 1) false t2 := pl_do HPl.out (oneM_some hone).1 (by rw [← oneM_d (oneM_some hone).1]; exact hone)
        have HP2 : Hid _ := ⟨hd2⟩
        clear hone hd2
        go_wp2_with (go_at_call 16; (with_reducible refine HD.out.mono ?_); rintro e w4 ⟨he, hb4⟩; subst he; have HB4 : Hid _ := ⟨hb4⟩; clear hb4)
        go_roundw
        case rel =>
          obtain ⟨v1, v2, hT4⟩ := HB4.out.2 t2 rfl
          exact ⟨k + 1, hlt, by go_num, ⟨t2, v1, v2, HN.out, hT4, HP2.out, HBw.out.trans HB4.out.1⟩⟩
        case measure => simp [intOf]; omega
    · obtain rfl : k = l.length := by omega
      obtain ⟨tk, vL1, vK1, hops, hT, hPl, hBw⟩ := HW.out
      rw [List.take_of_length_le (Nat.le_refl _)] at hops
      have hX : begM t l = if 0 ≤ tk.now.r then some ⟨tk.L, tk.now, tk.now, tk.kept, tk.size⟩ else none := by unfold begM; rw [hops]
      rw [HX.out.1] at hX
      have HXX : Hid _ := ⟨hX⟩
      have HT : Hid _ := ⟨hT⟩
      have HBw : Hid _ := ⟨hBw⟩
      have hb0 : w0.heap.size ≤ tb := hT.lo
      have hwf := hT.wf
      clear hPl hBw HW hops hX
      have H5 : TD X w0.heap.size (wr.setRow tb (dC ⟨tk.L, tk.now, tk.now, tk.kept, tk.size⟩ vL1 vK1).toArray) tb ⟨tk.L, tk.now, tk.now, tk.kept, tk.size⟩ vL1 vK1 := hT.put (t' := ⟨tk.L, tk.now, tk.now, tk.kept, tk.size⟩) rfl rfl ⟨hwf.L, hwf.now, hwf.now, hwf.kept⟩ rfl
      go_upto_region 7 with (first
        | (refine wpList_load_mid rfl 60 _ rfl tb 1 (by rfl) tk.now.cells _ hT.rnow Tryd.underlying60 rfl (by rw [sizeRowD, Rw.cells_len hwf.now]) ?_)
        | (refine wpList_part (g := tb) (off := 38) (val := .agg tk.now.cells.toArray) (new := (dC ⟨tk.L, tk.now, tk.now, tk.kept, tk.size⟩ vL1 vK1).toArray) rfl rfl (by rfl) (by rfl) hT.bk (by rw [sizeRowD]; simp [Value.cells, Rw.cells_len hwf.now]) (by rw [hT.len]; simp [Value.cells, Rw.cells_len hwf.now]) (by simpa [Value.cells] using rw_one tk.now) (by simpa [Value.cells] using dput_first hwf tk.now hwf.now) ?_))
      have B5 := below_set wr tb (dC ⟨tk.L, tk.now, tk.now, tk.kept, tk.size⟩ vL1 vK1).toArray hb0
      have HH5 : Hid _ := ⟨H5⟩
      have HB5 : Hid _ := ⟨B5⟩
      have d0 := H5.r
      dsimp only at d0
      clear hT H5 B5
      generalize wr.setRow tb (dC ⟨tk.L, tk.now, tk.now, tk.kept, tk.size⟩ vL1 vK1).toArray = W5 at *
      by_cases hr : 0 ≤ tk.now.r
      · have hRR : R = some ⟨tk.L, tk.now, tk.now, tk.kept, tk.size⟩ := by have := HXX.out; rw [if_pos hr] at this; exact this
        obtain rfl : r = true := by rw [← HX.out.2, hRR]; rfl
        go_wp2_with fail
        go_ret
        refine ⟨rfl, HBw.out.trans HB5.out, fun t' ht => ?_⟩
        first | rw [hRR] at ht | skip
        cases ht
        exact ⟨vL1, vK1, HH5.out⟩
      · have hRR : R = none := by have := HXX.out; rw [if_neg hr] at this; exact this
        obtain rfl : r = false := by rw [← HX.out.2, hRR]; rfl
        go_wp2_with fail
        go_ret
        refine ⟨rfl, HBw.out.trans HB5.out, fun t' ht => ?_⟩
        first | rw [hRR] at ht | skip
        cases ht
end Go.Proofs.YtpbnldfekadalaaDoor
