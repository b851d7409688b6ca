/- The document's encodings. The document's Put of a pointer. The document's Get of a pointer. -/
import Derived.Test.YtomboebfbipaaaaDoorEGetX
import Derived.Test.YtomboebfbipaaaaDoorLebD
namespace Go.Proofs.YtomboebfbipaaaaDoor
open Go.ChangeShapes Go.WideShapes Go.ChangeAt Go.RowKit Go.Maps
set_option linter.unusedVariables false
set_option linter.unusedSimpArgs false

def bytesV (f : Int) : Int := if fOk f = true then (if fGr f = true then 0 else (fSize f : Int)) else -1
def plainB (f : Int) : Bool := decide (1 ≤ f) && decide (f ≤ 4)
theorem all16 {f : Int} (h0 : 0 ≤ f) (h1 : f ≤ 15) : f = 0 ∨ f = 1 ∨ f = 2 ∨ f = 3 ∨ f = 4 ∨ f = 5 ∨ f = 6 ∨ f = 7 ∨ f = 8 ∨ f = 9 ∨ f = 10 ∨ f = 11 ∨ f = 12 ∨ f = 13 ∨ f = 14 ∨ f = 15 := by omega
theorem rbytes_any (f : Int) (h0 : 0 ≤ f) (h1 : f ≤ 15) (w : World) : Calls Tryd.prog 26 #[.int .i64 f] w fun e w' => e = .returned (.int .i64 (bytesV f)) ∧ w' = w := by
  rcases all16 h0 h1 with rfl | rfl | rfl | rfl | rfl | rfl | rfl | rfl | rfl | rfl | rfl | rfl | rfl | rfl | rfl | rfl
  all_goals
    go_enter Tryd.func26, Tryd.ntmps26
    go_wp2
    go_ret
    exact ⟨rfl, rfl⟩
theorem rplain_any (f : Int) (h0 : 0 ≤ f) (h1 : f ≤ 15) (w : World) : Calls Tryd.prog 27 #[.int .i64 f] w fun e w' => e = .returned (.bool (plainB f)) ∧ w' = w := by
  rcases all16 h0 h1 with rfl | rfl | rfl | rfl | rfl | rfl | rfl | rfl | rfl | rfl | rfl | rfl | rfl | rfl | rfl | rfl
  all_goals
    go_enter Tryd.func27, Tryd.ntmps27
    go_wp2
    go_ret
    exact ⟨rfl, rfl⟩
theorem rfar_any (x : Int) (w : World) : Calls Tryd.prog 24 #[.int .i64 x] w fun e w' => e = .returned (.bool (awayB x)) ∧ w' = w := by
  by_cases h0 : x < -1152921504606846976
  · have e : awayB x = true := by simp [awayB]; omega
    rw [e]
    go_enter Tryd.func24, Tryd.ntmps24
    go_wp2
    go_ret
    exact ⟨rfl, rfl⟩
  · by_cases h1 : 1152921504606846976 < x
    · have e : awayB x = true := by simp [awayB]; omega
      rw [e]
      go_enter Tryd.func24, Tryd.ntmps24
      go_wp2
      go_ret
      exact ⟨rfl, rfl⟩
    · have e : awayB x = false := by simp [awayB]; omega
      rw [e]
      go_enter Tryd.func24, Tryd.ntmps24
      go_wp2
      go_ret
      exact ⟨rfl, rfl⟩
theorem renc_any (enc : Int) (w : World) (h1 : enc ≤ 9223372036854775807) : Calls Tryd.prog 23 #[.int .i64 enc] w fun e w' => e = .returned (.bool (encB enc)) ∧ w' = w := by
  by_cases h0 : enc < 0
  · have e : encB enc = false := by
      cases h : encB enc
      · rfl
      · have := enc_of h; omega
    rw [e]
    clear e
    go_enter Tryd.func23, Tryd.ntmps23
    go_wp2
    go_ret
    exact ⟨rfl, rfl⟩
  · have f0 : 0 ≤ enc % 16 := by omega
    have f1 : enc % 16 ≤ 15 := by omega
    have HB : Hid _ := ⟨rbytes_any (enc % 16) f0 f1⟩
    have hm : enc.tmod 16 = enc % 16 := Int.tmod_eq_emod_of_nonneg (by omega)
    have hd : enc.tdiv 16 = enc / 16 := Int.tdiv_eq_ediv_of_nonneg (by omega)
    have hq : enc / 16 * 16 = eFrom enc := by unfold eFrom; omega
    have hE : encB enc = (fOk (enc % 16) && (eFrom enc == 0 || (eFrom enc == 16 || eFrom enc == 48))) := rfl
    rw [hE]
    cases hk : fOk (enc % 16)
    · have hv : bytesV (enc % 16) = -1 := by unfold bytesV; rw [hk]; rfl
      rw [hv] at HB
      clear hE hk hv hd hq
      generalize enc % 16 = f at *
      go_enter Tryd.func23, Tryd.ntmps23
      go_wp2_with (go_at_call 26; (with_reducible refine (HB.out _).mono ?_); rintro e wn ⟨he, hwn⟩; subst he; subst wn)
      go_ret
      exact ⟨rfl, rfl⟩
    · have hv : 0 ≤ bytesV (enc % 16) := by unfold bytesV; rw [hk, if_pos rfl]; split <;> omega
      have hv2 : ¬ bytesV (enc % 16) < 0 := by omega
      obtain ⟨b0, hb0⟩ : ∃ b, (eFrom enc == 0) = b := ⟨_, rfl⟩
      obtain ⟨b1, hb1⟩ : ∃ b, (eFrom enc == 16) = b := ⟨_, rfl⟩
      obtain ⟨b2, hb2⟩ : ∃ b, (eFrom enc == 48) = b := ⟨_, rfl⟩
      rw [hb0, hb1, hb2]
      clear hE hk
      generalize bytesV (enc % 16) = v at *
      generalize enc % 16 = f at *
      generalize eFrom enc = d at *
      cases b0 <;> cases b1 <;> cases b2
      all_goals
        go_enter Tryd.func23, Tryd.ntmps23
        go_wp2_with (go_at_call 26; (with_reducible refine (HB.out _).mono ?_); rintro e wn ⟨he, hwn⟩; subst he; subst wn)
        go_ret
        exact ⟨rfl, rfl⟩
theorem roff_any (enc at' data : Int) (w : World) (h0 : 0 ≤ enc) (h1 : enc ≤ 9223372036854775807) : Calls Tryd.prog 25 #[.int .i64 enc, .int .i64 at', .int .i64 data] w fun e w' => e = .returned (.int .i64 (baseV enc at' data)) ∧ w' = w := by
  have hd : enc.tdiv 16 = enc / 16 := Int.tdiv_eq_ediv_of_nonneg (by omega)
  have hq : enc / 16 * 16 = eFrom enc := by unfold eFrom; omega
  unfold baseV
  generalize eFrom enc = d at *
  by_cases e1 : d = 16
  · rw [if_pos e1]
    go_enter Tryd.func25, Tryd.ntmps25
    go_wp2
    go_ret
    exact ⟨rfl, rfl⟩
  · rw [if_neg e1]
    have b1 : (d == 16) = false := by simpa using e1
    by_cases e2 : d = 48
    · rw [if_pos e2]
      go_enter Tryd.func25, Tryd.ntmps25
      go_wp2
      go_ret
      exact ⟨rfl, rfl⟩
    · rw [if_neg e2]
      have b2 : (d == 48) = false := by simpa using e2
      go_enter Tryd.func25, Tryd.ntmps25
      go_wp2
      go_ret
      exact ⟨rfl, rfl⟩

theorem plain_sg {f : Int} (h : fOk f = true) : plainB f = !fSg f := by
  rcases forms_of h with rfl | rfl | rfl | rfl | rfl | rfl | rfl | rfl | rfl <;> rfl
/-- What stands there, in its form's room. -/
theorem hold_no {f x : Int} (hf : fOk f = true) (h : plainB f = true) (hx : x < 0) : holdB f x = false := by
  have hs : fSg f = false := by have := plain_sg hf; rw [h] at this; cases hh : fSg f; rfl; rw [hh] at this; cases this
  unfold holdB; rw [hs]
  have : ¬ 0 ≤ x := by omega
  simp [fitsB, this]
theorem hold_far {f x : Int} (h : awayB x = true) : holdB f x = false := by unfold holdB; rw [h]; rfl
theorem hold_8 {f x : Int} (hf : fOk f = true) (h8 : fSize f = 8) (ha : awayB x = false) (hp : plainB f = true → 0 ≤ x) : holdB f x = true := by
  have := away_of ha
  unfold holdB; rw [ha, h8]
  cases hs : fSg f
  · have : plainB f = true := by rw [plain_sg hf, hs]; rfl
    have h0 := hp this
    have e := fits_64u (x := x) (by omega)
    show (true && fitsB x 64 false) = true
    rw [e]; simp [h0]
  · exact fits_64s (x := x) (by omega) (by omega)
theorem hold_z {f x : Int} (ha : awayB x = false) : holdB f x = fitsB x (8 * (fSize f : Int)) (fSg f) := by unfold holdB; rw [ha]; rfl
theorem rputZ (z : Nat) (hz : z = 2 ∨ z = 4 ∨ z = 8) (n : Int) (s : Bool) (h : fitsB n (8 * (z : Int)) s = true) (w : World) :
    Calls Tryd.prog 31 #[.int .i64 n, .int .i64 (z : Int)] w fun e w' => ∃ v, e = .returned (.tuple #[v, .int .i64 0]) ∧ Own w' w.heap.size v (pl n z) ∧ Below w.heap.size w w' := by
  rcases hz with rfl | rfl | rfl
  · refine rput_2 n w ?_
    have p1 : (2 : Int) ^ ((8 * ((2 : Nat) : Int)).toNat - 1) = 32768 := by decide
    have p2 : (2 : Int) ^ (8 * ((2 : Nat) : Int)).toNat = 65536 := by decide
    unfold fitsB at h; rw [p1, p2] at h
    cases s <;> simp at h <;> omega
  · refine rput_4 n w ?_
    have p1 : (2 : Int) ^ ((8 * ((4 : Nat) : Int)).toNat - 1) = 2147483648 := by decide
    have p2 : (2 : Int) ^ (8 * ((4 : Nat) : Int)).toNat = 4294967296 := by decide
    unfold fitsB at h; rw [p1, p2] at h
    cases s <;> simp at h <;> omega
  · exact rput_8 n w trivial

set_option maxHeartbeats 4000000 in
theorem rput14 (enc v at' data : Int) (w : World) (h1 : enc ≤ 9223372036854775807) :
    Calls Tryd.prog 7 #[.int .i64 enc, .int .i64 v, .int .i64 at', .int .i64 data] w (PutEnd (putE enc v at' data) (putL enc v at' data) w) := by
  have HE : Hid _ := ⟨fun w => renc_any enc w h1⟩
  by_cases he : encB enc = true
  rotate_left
  · have he : encB enc = false := by simpa using he
    have e1 : putE enc v at' data = 140 := by unfold putE; rw [if_pos he]
    have e2 : putL enc v at' data = [] := by unfold putL; rw [e1]; rfl
    rw [e1, e2]
    rw [he] at HE
    clear e1 e2
    go_enter Tryd.func7, Tryd.ntmps7
    go_wp2_with (go_at_call 23; (with_reducible refine (HE.out _).mono ?_); rintro e wn ⟨he, hwn⟩; subst he; subst wn)
    go_ret2
    exact PutEnd.bad (Below.refl _ _)
  have hx := enc_of he
  rw [he] at HE
  have H1 : Hid _ := ⟨rfar_any v⟩
  have H2 : Hid _ := ⟨rfar_any at'⟩
  have H3 : Hid _ := ⟨rfar_any data⟩
  obtain ⟨a1, ha1⟩ : ∃ a, awayB v = a := ⟨_, rfl⟩
  obtain ⟨a2, ha2⟩ : ∃ a, awayB at' = a := ⟨_, rfl⟩
  obtain ⟨a3, ha3⟩ : ∃ a, awayB data = a := ⟨_, rfl⟩
  rw [ha1] at H1
  rw [ha2] at H2
  rw [ha3] at H3
  by_cases hfar : (a1 || (a2 || a3)) = true
  · have e1 : putE enc v at' data = 11 := by unfold putE; rw [if_neg (by rw [he]; simp), ha1, ha2, ha3, if_pos hfar]
    have e2 : putL enc v at' data = [] := by unfold putL; rw [e1]; rfl
    rw [e1, e2]
    clear e1 e2 hx he ha1 ha2 ha3
    cases a1 <;> cases a2 <;> cases a3 <;> first
      | (simp at hfar; done)
      | (clear hfar
         go_enter Tryd.func7, Tryd.ntmps7
         go_wp2_with (first
           | (go_at_call 23; (with_reducible refine (HE.out _).mono ?_); rintro e wn ⟨he, hwn⟩; subst he; subst wn)
           | (go_at_call 24; (first | (with_reducible refine (H1.out _).mono ?_) | (with_reducible refine (H2.out _).mono ?_) | (with_reducible refine (H3.out _).mono ?_)); rintro e wn ⟨he, hwn⟩; subst he; subst wn))
         go_ret2
         exact PutEnd.bad (Below.refl _ _))
  have hfar' : a1 = false ∧ a2 = false ∧ a3 = false := by
    clear HE H1 H2 H3 hx ha1 ha2 ha3
    revert hfar
    cases a1 <;> cases a2 <;> cases a3 <;> simp
  obtain ⟨rfl, rfl, rfl⟩ := hfar'
  have i1 := away_of ha1
  have i2 := away_of (base_in (enc := enc) ha2 ha3)
  have hpE : putE enc v at' data = if holdB (enc % 16) (v - baseV enc at' data) = false then 11 else 0 := by
    unfold putE; rw [if_neg (by rw [he]; simp), ha1, ha2, ha3, if_neg (by simp)]
  have hpL : putL enc v at' data = if putE enc v at' data = 0 then putF (enc % 16) (v - baseV enc at' data) else [] := rfl
  have HO : Hid _ := ⟨fun w => roff_any enc at' data w hx.2.2.2.1 h1⟩
  have hm : enc.tmod 16 = enc % 16 := Int.tmod_eq_emod_of_nonneg hx.2.2.2.1
  have f0 : 0 ≤ enc % 16 := by omega
  have f1 : enc % 16 ≤ 15 := by omega
  have hf := hx.1
  rw [hpL, hpE]
  clear hpL hpE hx he ha1 ha2 ha3 hfar
  generalize baseV enc at' data = B at *
  generalize enc % 16 = f at *
  have HB : Hid _ := ⟨rbytes_any f f0 f1⟩
  have HP : Hid _ := ⟨rplain_any f f0 f1⟩
  have x0 : -9223372036854775808 ≤ v - B := by omega
  have x1 : v - B ≤ 9223372036854775807 := by omega
  obtain ⟨x, hxv⟩ : ∃ x, v - B = x := ⟨_, rfl⟩
  rw [hxv] at x0 x1 ⊢
  have HX : Hid _ := ⟨rfar_any x⟩
  obtain ⟨P, hP⟩ : ∃ P, plainB f = P := ⟨_, rfl⟩
  obtain ⟨ax, hax⟩ : ∃ a, awayB x = a := ⟨_, rfl⟩
  rw [hax] at HX
  rw [hP] at HP
  have hbv : bytesV f = if fGr f = true then 0 else (fSize f : Int) := by unfold bytesV; rw [if_pos hf]
  rw [hbv] at HB
  by_cases hA : P = true ∧ x < 0
  · obtain ⟨rfl, hA2⟩ := hA
    rw [hold_no hf hP hA2, if_pos rfl, if_neg (by simp)]
    clear hbv hP hax i1 i2
    generalize (if fGr f = true then 0 else (fSize f : Int)) = n at *
    go_enter Tryd.func7, Tryd.ntmps7
    go_wp2_with (first
      | (go_at_call 23; (with_reducible refine (HE.out _).mono ?_); rintro e wn ⟨he, hwn⟩; subst he; subst wn)
      | (go_at_call 24; (first | (with_reducible refine (H1.out _).mono ?_) | (with_reducible refine (H2.out _).mono ?_) | (with_reducible refine (H3.out _).mono ?_) | (with_reducible refine (HX.out _).mono ?_)); rintro e wn ⟨he, hwn⟩; subst he; subst wn)
      | (go_at_call 25; (with_reducible refine (HO.out _).mono ?_); rintro e wn ⟨he, hwn⟩; subst he; subst wn)
      | (go_at_call 26; (with_reducible refine (HB.out _).mono ?_); rintro e wn ⟨he, hwn⟩; subst he; subst wn)
      | (go_at_call 27; (with_reducible refine (HP.out _).mono ?_); rintro e wn ⟨he, hwn⟩; subst he; subst wn))
    go_ret2
    exact PutEnd.bad (Below.refl _ _)
  have hP' : P = true → 0 ≤ x := fun e => by
    rcases Int.lt_or_le x 0 with h | h
    · exact absurd ⟨e, h⟩ hA
    · exact h
  have hPx : (P = true ∧ ¬ x < 0) ∨ P = false := by
    cases hq : P
    · exact .inr rfl
    · exact .inl ⟨rfl, by have := hP' hq; omega⟩
  cases ax
  rotate_left
  · rw [hold_far hax, if_pos rfl, if_neg (by simp)]
    clear hbv hP hax i1 i2 hA hP'
    generalize (if fGr f = true then 0 else (fSize f : Int)) = n at *
    rcases hPx with ⟨rfl, hx0⟩ | rfl
    · go_enter Tryd.func7, Tryd.ntmps7
      go_wp2_with (first
        | (go_at_call 23; (with_reducible refine (HE.out _).mono ?_); rintro e wn ⟨he, hwn⟩; subst he; subst wn)
        | (go_at_call 24; (first | (with_reducible refine (H1.out _).mono ?_) | (with_reducible refine (H2.out _).mono ?_) | (with_reducible refine (H3.out _).mono ?_) | (with_reducible refine (HX.out _).mono ?_)); rintro e wn ⟨he, hwn⟩; subst he; subst wn)
        | (go_at_call 25; (with_reducible refine (HO.out _).mono ?_); rintro e wn ⟨he, hwn⟩; subst he; subst wn)
        | (go_at_call 26; (with_reducible refine (HB.out _).mono ?_); rintro e wn ⟨he, hwn⟩; subst he; subst wn)
        | (go_at_call 27; (with_reducible refine (HP.out _).mono ?_); rintro e wn ⟨he, hwn⟩; subst he; subst wn))
      go_ret2
      exact PutEnd.bad (Below.refl _ _)
    · go_enter Tryd.func7, Tryd.ntmps7
      go_wp2_with (first
        | (go_at_call 23; (with_reducible refine (HE.out _).mono ?_); rintro e wn ⟨he, hwn⟩; subst he; subst wn)
        | (go_at_call 24; (first | (with_reducible refine (H1.out _).mono ?_) | (with_reducible refine (H2.out _).mono ?_) | (with_reducible refine (H3.out _).mono ?_) | (with_reducible refine (HX.out _).mono ?_)); rintro e wn ⟨he, hwn⟩; subst he; subst wn)
        | (go_at_call 25; (with_reducible refine (HO.out _).mono ?_); rintro e wn ⟨he, hwn⟩; subst he; subst wn)
        | (go_at_call 26; (with_reducible refine (HB.out _).mono ?_); rintro e wn ⟨he, hwn⟩; subst he; subst wn)
        | (go_at_call 27; (with_reducible refine (HP.out _).mono ?_); rintro e wn ⟨he, hwn⟩; subst he; subst wn))
      go_ret2
      exact PutEnd.bad (Below.refl _ _)
  have hxin := away_of hax
  have hpf : ∀ h : P = true, 0 ≤ x := hP'
  by_cases hf1 : f = 1
  · subst hf1
    have hho : holdB 1 x = true := hold_8 hf rfl hax (fun e => hP' (hP ▸ e))
    have hPt : P = true := hP.symm
    subst hPt
    have hx0 : 0 ≤ x := hP' rfl
    have hx2 : ¬ x < 0 := by omega
    have e1 : (if holdB 1 x = false then (11 : Int) else 0) = 0 := by rw [hho]; rfl
    have e2 : putF 1 x = ul x.toNat := rfl
    rw [e1, if_pos rfl, e2]
    have HU : Hid _ := ⟨ruleb_any x⟩
    rw [show (x % 18446744073709551616).toNat = x.toNat by omega] at HU
    clear hbv hax i1 i2 hA hP' hpf e1 e2 hho hPx
    go_enter Tryd.func7, Tryd.ntmps7
    go_wp2_with (first
      | (go_at_call 23; (with_reducible refine (HE.out _).mono ?_); rintro e wn ⟨he, hwn⟩; subst he; subst wn)
      | (go_at_call 24; (first | (with_reducible refine (H1.out _).mono ?_) | (with_reducible refine (H2.out _).mono ?_) | (with_reducible refine (H3.out _).mono ?_) | (with_reducible refine (HX.out _).mono ?_)); rintro e wn ⟨he, hwn⟩; subst he; subst wn)
      | (go_at_call 25; (with_reducible refine (HO.out _).mono ?_); rintro e wn ⟨he, hwn⟩; subst he; subst wn)
      | (go_at_call 26; (with_reducible refine (HB.out _).mono ?_); rintro e wn ⟨he, hwn⟩; subst he; subst wn)
      | (go_at_call 27; (with_reducible refine (HP.out _).mono ?_); rintro e wn ⟨he, hwn⟩; subst he; subst wn)
      | (go_at_call 28; (with_reducible refine (HU.out _).mono ?_); rintro e w1 ⟨u, he, ho, hb⟩; subst he))
    go_ret2
    exact ⟨u, rfl, ho, hb⟩
  have f1b : (f == 1) = false := by simpa using hf1
  by_cases hf9 : f = 9
  · subst hf9
    have hho : holdB 9 x = true := hold_8 hf rfl hax (fun e => hP' (hP ▸ e))
    have hPt : P = false := hP.symm
    subst hPt
    have e1 : (if holdB 9 x = false then (11 : Int) else 0) = 0 := by rw [hho]; rfl
    have e2 : putF 9 x = sl x := rfl
    rw [e1, if_pos rfl, e2]
    have HS : Hid _ := ⟨fun w => rsleb_any x w (by omega)⟩
    clear hbv hax i1 i2 hA hP' hpf e1 e2 hho hPx
    go_enter Tryd.func7, Tryd.ntmps7
    go_wp2_with (first
      | (go_at_call 23; (with_reducible refine (HE.out _).mono ?_); rintro e wn ⟨he, hwn⟩; subst he; subst wn)
      | (go_at_call 24; (first | (with_reducible refine (H1.out _).mono ?_) | (with_reducible refine (H2.out _).mono ?_) | (with_reducible refine (H3.out _).mono ?_) | (with_reducible refine (HX.out _).mono ?_)); rintro e wn ⟨he, hwn⟩; subst he; subst wn)
      | (go_at_call 25; (with_reducible refine (HO.out _).mono ?_); rintro e wn ⟨he, hwn⟩; subst he; subst wn)
      | (go_at_call 26; (with_reducible refine (HB.out _).mono ?_); rintro e wn ⟨he, hwn⟩; subst he; subst wn)
      | (go_at_call 27; (with_reducible refine (HP.out _).mono ?_); rintro e wn ⟨he, hwn⟩; subst he; subst wn)
      | (go_at_call 29; (with_reducible refine (HS.out _).mono ?_); rintro e w1 ⟨u, he, ho, hb⟩; subst he))
    go_ret2
    exact ⟨u, rfl, ho, hb⟩
  have f9b : (f == 9) = false := by simpa using hf9
  have hgr : fGr f = false := by simp [fGr, hf1, hf9]
  rw [hgr] at HB
  simp only [Bool.false_eq_true, if_false] at HB
  have hsg : P = !fSg f := by rw [← hP]; exact plain_sg hf
  have HF : Hid _ := ⟨fun w => rfits_any x (8 * (fSize f : Int)) (!P) w ⟨x0, x1⟩⟩
  have hsg' : (!P) = fSg f := by rw [hsg]; simp
  have hzz := size_of f
  have hpF : putF f x = pl x (fSize f) := by unfold putF; rw [hgr]; rfl
  have HZ : Hid (holdB f x = true → ∀ w, Calls Tryd.prog 31 #[.int .i64 x, .int .i64 (fSize f : Int)] w fun e w' => ∃ v, e = .returned (.tuple #[v, .int .i64 0]) ∧ Own w' w.heap.size v (putF f x) ∧ Below w.heap.size w w') := ⟨fun h w => by rw [hpF]; exact rputZ (fSize f) hzz x (fSg f) (by rw [← hold_z hax]; exact h) w⟩
  have h8 : (fSize f : Int) = 8 → holdB f x = true := fun e => hold_8 hf (by omega) hax (fun e => hP' (hP ▸ e))
  rw [hsg', ← hold_z hax] at HF
  have hz2 : (fSize f : Int) ≤ 8 ∧ (0 : Int) ≤ (fSize f : Int) := by omega
  obtain ⟨hz2, hz3⟩ := hz2
  generalize putF f x = L at *
  clear hzz
  generalize (fSize f : Int) = z at *
  obtain ⟨Hb, hHb⟩ : ∃ b, holdB f x = b := ⟨_, rfl⟩
  rw [hHb] at HZ h8 HF ⊢
  rw [← hsg'] at HF
  clear hHb hsg hsg' hgr hpF hbv hP hax hxin hpf hP' hA i1 i2 hf
  have ARM : True := trivial
  by_cases hz8 : z = 8
  · subst hz8
    have : Hb = true := h8 rfl
    subst this
    rw [if_neg (by simp), if_pos rfl]
    have HZ' : Hid _ := ⟨HZ.out rfl⟩
    clear h8 HZ
    rcases hPx with ⟨rfl, hx0⟩ | rfl <;> simp only [Bool.not_true, Bool.not_false] at HF
    · go_enter Tryd.func7, Tryd.ntmps7
      go_wp2_with (first
        | (go_at_call 23; (with_reducible refine (HE.out _).mono ?_); rintro e wn ⟨he, hwn⟩; subst he; subst wn)
        | (go_at_call 24; (first | (with_reducible refine (H1.out _).mono ?_) | (with_reducible refine (H2.out _).mono ?_) | (with_reducible refine (H3.out _).mono ?_) | (with_reducible refine (HX.out _).mono ?_)); rintro e wn ⟨he, hwn⟩; subst he; subst wn)
        | (go_at_call 25; (with_reducible refine (HO.out _).mono ?_); rintro e wn ⟨he, hwn⟩; subst he; subst wn)
        | (go_at_call 26; (with_reducible refine (HB.out _).mono ?_); rintro e wn ⟨he, hwn⟩; subst he; subst wn)
        | (go_at_call 27; (with_reducible refine (HP.out _).mono ?_); rintro e wn ⟨he, hwn⟩; subst he; subst wn)
          | (go_at_call 30; (with_reducible refine (HF.out _).mono ?_); rintro e wn ⟨he, hwn⟩; subst he; subst wn)
          | (go_at_call 31; (with_reducible refine (HZ'.out _).mono ?_); rintro e w1 ⟨u, he, ho, hb⟩; subst he))
      go_ret2
      exact ⟨u, rfl, ho, hb⟩
    · go_enter Tryd.func7, Tryd.ntmps7
      go_wp2_with (first
        | (go_at_call 23; (with_reducible refine (HE.out _).mono ?_); rintro e wn ⟨he, hwn⟩; subst he; subst wn)
        | (go_at_call 24; (first | (with_reducible refine (H1.out _).mono ?_) | (with_reducible refine (H2.out _).mono ?_) | (with_reducible refine (H3.out _).mono ?_) | (with_reducible refine (HX.out _).mono ?_)); rintro e wn ⟨he, hwn⟩; subst he; subst wn)
        | (go_at_call 25; (with_reducible refine (HO.out _).mono ?_); rintro e wn ⟨he, hwn⟩; subst he; subst wn)
        | (go_at_call 26; (with_reducible refine (HB.out _).mono ?_); rintro e wn ⟨he, hwn⟩; subst he; subst wn)
        | (go_at_call 27; (with_reducible refine (HP.out _).mono ?_); rintro e wn ⟨he, hwn⟩; subst he; subst wn)
          | (go_at_call 30; (with_reducible refine (HF.out _).mono ?_); rintro e wn ⟨he, hwn⟩; subst he; subst wn)
          | (go_at_call 31; (with_reducible refine (HZ'.out _).mono ?_); rintro e w1 ⟨u, he, ho, hb⟩; subst he))
      go_ret2
      exact ⟨u, rfl, ho, hb⟩
  have hz8' : z < 8 := by omega
  clear h8
  cases Hb
  · rw [if_pos rfl, if_neg (by simp)]
    clear HZ
    rcases hPx with ⟨rfl, hx0⟩ | rfl <;> simp only [Bool.not_true, Bool.not_false] at HF
    · go_enter Tryd.func7, Tryd.ntmps7
      go_wp2_with (first
        | (go_at_call 23; (with_reducible refine (HE.out _).mono ?_); rintro e wn ⟨he, hwn⟩; subst he; subst wn)
        | (go_at_call 24; (first | (with_reducible refine (H1.out _).mono ?_) | (with_reducible refine (H2.out _).mono ?_) | (with_reducible refine (H3.out _).mono ?_) | (with_reducible refine (HX.out _).mono ?_)); rintro e wn ⟨he, hwn⟩; subst he; subst wn)
        | (go_at_call 25; (with_reducible refine (HO.out _).mono ?_); rintro e wn ⟨he, hwn⟩; subst he; subst wn)
        | (go_at_call 26; (with_reducible refine (HB.out _).mono ?_); rintro e wn ⟨he, hwn⟩; subst he; subst wn)
        | (go_at_call 27; (with_reducible refine (HP.out _).mono ?_); rintro e wn ⟨he, hwn⟩; subst he; subst wn)
          | (go_at_call 30; (with_reducible refine (HF.out _).mono ?_); rintro e wn ⟨he, hwn⟩; subst he; subst wn))
      go_ret2
      exact PutEnd.bad (Below.refl _ _)
    · go_enter Tryd.func7, Tryd.ntmps7
      go_wp2_with (first
        | (go_at_call 23; (with_reducible refine (HE.out _).mono ?_); rintro e wn ⟨he, hwn⟩; subst he; subst wn)
        | (go_at_call 24; (first | (with_reducible refine (H1.out _).mono ?_) | (with_reducible refine (H2.out _).mono ?_) | (with_reducible refine (H3.out _).mono ?_) | (with_reducible refine (HX.out _).mono ?_)); rintro e wn ⟨he, hwn⟩; subst he; subst wn)
        | (go_at_call 25; (with_reducible refine (HO.out _).mono ?_); rintro e wn ⟨he, hwn⟩; subst he; subst wn)
        | (go_at_call 26; (with_reducible refine (HB.out _).mono ?_); rintro e wn ⟨he, hwn⟩; subst he; subst wn)
        | (go_at_call 27; (with_reducible refine (HP.out _).mono ?_); rintro e wn ⟨he, hwn⟩; subst he; subst wn)
          | (go_at_call 30; (with_reducible refine (HF.out _).mono ?_); rintro e wn ⟨he, hwn⟩; subst he; subst wn))
      go_ret2
      exact PutEnd.bad (Below.refl _ _)
  · rw [if_neg (by simp), if_pos rfl]
    have HZ' : Hid _ := ⟨HZ.out rfl⟩
    clear HZ
    rcases hPx with ⟨rfl, hx0⟩ | rfl <;> simp only [Bool.not_true, Bool.not_false] at HF
    · go_enter Tryd.func7, Tryd.ntmps7
      go_wp2_with (first
        | (go_at_call 23; (with_reducible refine (HE.out _).mono ?_); rintro e wn ⟨he, hwn⟩; subst he; subst wn)
        | (go_at_call 24; (first | (with_reducible refine (H1.out _).mono ?_) | (with_reducible refine (H2.out _).mono ?_) | (with_reducible refine (H3.out _).mono ?_) | (with_reducible refine (HX.out _).mono ?_)); rintro e wn ⟨he, hwn⟩; subst he; subst wn)
        | (go_at_call 25; (with_reducible refine (HO.out _).mono ?_); rintro e wn ⟨he, hwn⟩; subst he; subst wn)
        | (go_at_call 26; (with_reducible refine (HB.out _).mono ?_); rintro e wn ⟨he, hwn⟩; subst he; subst wn)
        | (go_at_call 27; (with_reducible refine (HP.out _).mono ?_); rintro e wn ⟨he, hwn⟩; subst he; subst wn)
          | (go_at_call 30; (with_reducible refine (HF.out _).mono ?_); rintro e wn ⟨he, hwn⟩; subst he; subst wn)
          | (go_at_call 31; (with_reducible refine (HZ'.out _).mono ?_); rintro e w1 ⟨u, he, ho, hb⟩; subst he))
      go_ret2
      exact ⟨u, rfl, ho, hb⟩
    · go_enter Tryd.func7, Tryd.ntmps7
      go_wp2_with (first
        | (go_at_call 23; (with_reducible refine (HE.out _).mono ?_); rintro e wn ⟨he, hwn⟩; subst he; subst wn)
        | (go_at_call 24; (first | (with_reducible refine (H1.out _).mono ?_) | (with_reducible refine (H2.out _).mono ?_) | (with_reducible refine (H3.out _).mono ?_) | (with_reducible refine (HX.out _).mono ?_)); rintro e wn ⟨he, hwn⟩; subst he; subst wn)
        | (go_at_call 25; (with_reducible refine (HO.out _).mono ?_); rintro e wn ⟨he, hwn⟩; subst he; subst wn)
        | (go_at_call 26; (with_reducible refine (HB.out _).mono ?_); rintro e wn ⟨he, hwn⟩; subst he; subst wn)
        | (go_at_call 27; (with_reducible refine (HP.out _).mono ?_); rintro e wn ⟨he, hwn⟩; subst he; subst wn)
          | (go_at_call 30; (with_reducible refine (HF.out _).mono ?_); rintro e wn ⟨he, hwn⟩; subst he; subst wn)
          | (go_at_call 31; (with_reducible refine (HZ'.out _).mono ?_); rintro e w1 ⟨u, he, ho, hb⟩; subst he))
      go_ret2
      exact ⟨u, rfl, ho, hb⟩

set_option maxHeartbeats 8000000 in
theorem rget14 (enc t addr data : Int) (len : Nat) (bs : Nat → Int) (x i J g : Int) (h1 : enc ≤ 9223372036854775807) (ht0 : -9223372036854775808 ≤ t) (ht1 : t ≤ 9223372036854775807) (hl : len ≤ 140737488355328) (hN : encB enc = true → NumIs (enc % 16) len bs t x i J g)
    (ao : Option Addr) (cap : Nat) (w : World) (hrow : Row w ao len bs) :
    Calls Tryd.prog 9 #[.slice ao len cap, .int .i64 t, .int .i64 enc, .int .i64 addr, .int .i64 data] w fun e w' => e = .returned (.tuple #[.int .i64 (getV enc t addr data x g), .int .i64 (getI enc t addr data x i g), .int .i64 (getE enc t addr data x g)]) ∧ w' = w := by
  have HE : Hid _ := ⟨fun w => renc_any enc w h1⟩
  have H1 : Hid _ := ⟨rfar_any addr⟩
  have H2 : Hid _ := ⟨rfar_any data⟩
  by_cases he : encB enc = true
  rotate_left
  · have he : encB enc = false := by simpa using he
    have e1 : getE enc t addr data x g = 140 := by unfold getE; rw [if_pos he]
    have e2 : getV enc t addr data x g = 0 := by unfold getV; rw [e1]; rfl
    have e3 : getI enc t addr data x i g = 0 := by unfold getI; rw [e1]; rfl
    rw [e1, e2, e3]
    rw [he] at HE
    clear e1 e2 hN hrow
    go_enter Tryd.func9, Tryd.ntmps9
    go_wp2_with (first
      | (go_at_call 23; (with_reducible refine (HE.out _).mono ?_); rintro e wn ⟨he, hwn⟩; subst he; subst wn)
      | (go_at_call 24; (first | (with_reducible refine (H1.out _).mono ?_) | (with_reducible refine (H2.out _).mono ?_)); rintro e wn ⟨he, hwn⟩; subst he; subst wn))

    go_ret3
    exact ⟨rfl, rfl⟩
  have hx := enc_of he
  have hn := hN he
  rw [he] at HE
  obtain ⟨a1, ha1⟩ : ∃ a, awayB addr = a := ⟨_, rfl⟩
  obtain ⟨a2, ha2⟩ : ∃ a, awayB data = a := ⟨_, rfl⟩
  rw [ha1] at H1
  rw [ha2] at H2
  by_cases hfar : (a1 || a2) = true
  · have e1 : getE enc t addr data x g = 11 := by unfold getE; rw [if_neg (by rw [he]; simp), ha1, ha2, if_pos hfar]
    have e2 : getV enc t addr data x g = 0 := by unfold getV; rw [e1]; rfl
    have e3 : getI enc t addr data x i g = 0 := by unfold getI; rw [e1]; rfl
    rw [e1, e2, e3]
    clear e1 e2 e3 hN hn hrow ha1 ha2 he hx
    cases a1 <;> cases a2 <;> first
      | (simp at hfar; done)
      | (clear hfar
         go_enter Tryd.func9, Tryd.ntmps9
         go_wp2_with (first
           | (go_at_call 23; (with_reducible refine (HE.out _).mono ?_); rintro e wn ⟨he, hwn⟩; subst he; subst wn)
           | (go_at_call 24; (first | (with_reducible refine (H1.out _).mono ?_) | (with_reducible refine (H2.out _).mono ?_)); rintro e wn ⟨he, hwn⟩; subst he; subst wn))

         go_ret3
         exact ⟨rfl, rfl⟩)
  have hfar' : a1 = false ∧ a2 = false := by
    clear HE H1 H2 ha1 ha2 hn hN hx
    revert hfar
    cases a1 <;> cases a2 <;> simp
  obtain ⟨rfl, rfl⟩ := hfar'
  have hm : enc.tmod 16 = enc % 16 := Int.tmod_eq_emod_of_nonneg hx.2.2.2.1
  have f0 : 0 ≤ enc % 16 := by omega
  have f1 : enc % 16 ≤ 15 := by omega
  have hf := hx.1
  have HO : Hid _ := ⟨fun w => roff_any enc (addr + t) data w hx.2.2.2.1 h1⟩
  have HRw : Hid _ := ⟨hrow⟩
  have hgE : getE enc t addr data x g = if g ≠ 0 then g else if holdB (enc % 16) x = false then 11 else if awayB (x + baseV enc (addr + t) data) = true then 11 else 0 := by
    unfold getE; rw [if_neg (by rw [he]; simp), ha1, ha2, if_neg (by simp)]
  have i3 := away_of ha1
  have i4 := away_of ha2
  have hbin : g = 0 → -1152921504606846976 ≤ baseV enc (addr + t) data ∧ baseV enc (addr + t) data ≤ 1152921504606846976 + 140737488355328 := fun e => by
    obtain ⟨t0, t1, _, _, _⟩ := hn.rd.in' e
    unfold baseV; split
    · omega
    · split <;> omega
  have HV : Hid _ := ⟨rfar_any (x + baseV enc (addr + t) data)⟩
  obtain ⟨av, hav⟩ : ∃ a, awayB (x + baseV enc (addr + t) data) = a := ⟨_, rfl⟩
  rw [hav] at HV
  rw [hav] at hgE
  have hgV : getV enc t addr data x g = if getE enc t addr data x g = 0 then x + baseV enc (addr + t) data else 0 := rfl
  have hgI : getI enc t addr data x i g = if getE enc t addr data x g = 0 then i else 0 := rfl
  rw [hgV, hgI]
  rw [hgE]
  clear hgV hgI hgE hN he hx ha1 ha2 hfar hav hrow
  generalize baseV enc (addr + t) data = B at *
  generalize enc % 16 = f at *
  have HX : Hid _ := ⟨rfar_any x⟩
  obtain ⟨ax, hax⟩ : ∃ a, awayB x = a := ⟨_, rfl⟩
  rw [hax] at HX
  have HP : Hid _ := ⟨rplain_any f f0 f1⟩
  have HB : Hid _ := ⟨rbytes_any f f0 f1⟩
  obtain ⟨P, hP⟩ : ∃ P, plainB f = P := ⟨_, rfl⟩
  rw [hP] at HP
  have hsg : fSg f = !P := by rw [← hP, plain_sg hf]; simp
  have hbv : bytesV f = if fGr f = true then 0 else (fSize f : Int) := by unfold bytesV; rw [if_pos hf]
  rw [hbv] at HB
  have x0 := hn.rd.x0
  have x1 := hn.rd.x1
  have hin := hn.rd.in'
  have hk := hn.k
  have hxin : ax = false → -1152921504606846976 ≤ x ∧ x ≤ 1152921504606846976 := fun e => away_of (hax.trans e)
  -- the answers, once g is known
  have hgood : g = 0 → holdB f x = (!ax && (!P || decide (0 ≤ x))) := fun e => by
    obtain ⟨_, _, _, _, hfit⟩ := hin e
    unfold holdB; rw [hax, hfit, hsg]
  have hnu := hn.u
  have hns := hn.s
  have hnn := hn.n
  clear hn
  by_cases hf1 : f = 1
  · subst hf1
    have HR : Hid _ := ⟨hnu rfl ao cap⟩
    clear hnu hns hnn hk hbv HB
    by_cases hg0 : g = 0
    rotate_left
    · rw [if_pos hg0, if_neg hg0, if_neg hg0]
      have gn : (g != 0) = true := by simpa using hg0
      have gn' : (g == 0) = false := by simpa using hg0
      clear hbin hin hgood hxin HX HV hax
      go_enter Tryd.func9, Tryd.ntmps9
      go_wp2_with (first
        | (go_at_call 23; (with_reducible refine (HE.out _).mono ?_); rintro e wn ⟨he, hwn⟩; subst he; subst wn)
        | (go_at_call 24; (first | (with_reducible refine (H1.out _).mono ?_) | (with_reducible refine (H2.out _).mono ?_)); rintro e wn ⟨he, hwn⟩; subst he; subst wn)
        | (go_at_call 33; (with_reducible refine (HR.out _ HRw.out).mono ?_); rintro e wn ⟨he, hwn⟩; subst he; subst wn)
        | (go_at_call 27; (with_reducible refine (HP.out _).mono ?_); rintro e wn ⟨he, hwn⟩; subst he; subst wn))

      all_goals (go_ret3; exact ⟨rfl, rfl⟩)
    subst hg0
    obtain ⟨t0, t1, i0, i1, _⟩ := hin rfl
    obtain ⟨q0, q1⟩ := hbin rfl
    rw [hgood rfl]
    clear hin hbin hgood
    by_cases hA : P = true ∧ x < 0
    · obtain ⟨rfl, hA2⟩ := hA
      have hA3 : ¬ 0 ≤ x := by omega
      have ev : (!ax && (!true || decide (0 ≤ x))) = false := by simp [hA3]
      rw [ev]
      simp only [ne_eq, not_true, if_false, if_true]
      rw [if_neg (by omega), if_neg (by omega)]
      clear ev hA3 hax hxin HX HV
      go_enter Tryd.func9, Tryd.ntmps9
      go_wp2_with (first
        | (go_at_call 23; (with_reducible refine (HE.out _).mono ?_); rintro e wn ⟨he, hwn⟩; subst he; subst wn)
        | (go_at_call 24; (first | (with_reducible refine (H1.out _).mono ?_) | (with_reducible refine (H2.out _).mono ?_)); rintro e wn ⟨he, hwn⟩; subst he; subst wn)
        | (go_at_call 33; (with_reducible refine (HR.out _ HRw.out).mono ?_); rintro e wn ⟨he, hwn⟩; subst he; subst wn)
        | (go_at_call 27; (with_reducible refine (HP.out _).mono ?_); rintro e wn ⟨he, hwn⟩; subst he; subst wn))

      all_goals (go_ret3; exact ⟨rfl, rfl⟩)
    have hPx : (P = true ∧ ¬ x < 0) ∨ P = false := by
      cases hq : P
      · exact .inr rfl
      · exact .inl ⟨rfl, fun h => hA ⟨hq, h⟩⟩
    have hev : (!P || decide (0 ≤ x)) = true := by
      rcases hPx with ⟨rfl, hh⟩ | rfl
      · have : 0 ≤ x := by omega
        simp [this]
      · rfl
    rw [hev]
    clear hev hA
    cases ax
    rotate_left
    · simp only [Bool.not_true, Bool.false_and, ne_eq, not_true, if_false, if_true]
      rw [if_neg (by omega), if_neg (by omega)]
      clear hax hxin HV
      rcases hPx with ⟨rfl, hx0⟩ | rfl
      · go_enter Tryd.func9, Tryd.ntmps9
        go_wp2_with (first
          | (go_at_call 23; (with_reducible refine (HE.out _).mono ?_); rintro e wn ⟨he, hwn⟩; subst he; subst wn)
          | (go_at_call 24; (first | (with_reducible refine (H1.out _).mono ?_) | (with_reducible refine (H2.out _).mono ?_) | (with_reducible refine (HX.out _).mono ?_)); rintro e wn ⟨he, hwn⟩; subst he; subst wn)
          | (go_at_call 33; (with_reducible refine (HR.out _ HRw.out).mono ?_); rintro e wn ⟨he, hwn⟩; subst he; subst wn)
          | (go_at_call 27; (with_reducible refine (HP.out _).mono ?_); rintro e wn ⟨he, hwn⟩; subst he; subst wn))

        all_goals (go_ret3; exact ⟨rfl, rfl⟩)
      · go_enter Tryd.func9, Tryd.ntmps9
        go_wp2_with (first
          | (go_at_call 23; (with_reducible refine (HE.out _).mono ?_); rintro e wn ⟨he, hwn⟩; subst he; subst wn)
          | (go_at_call 24; (first | (with_reducible refine (H1.out _).mono ?_) | (with_reducible refine (H2.out _).mono ?_) | (with_reducible refine (HX.out _).mono ?_)); rintro e wn ⟨he, hwn⟩; subst he; subst wn)
          | (go_at_call 33; (with_reducible refine (HR.out _ HRw.out).mono ?_); rintro e wn ⟨he, hwn⟩; subst he; subst wn)
          | (go_at_call 27; (with_reducible refine (HP.out _).mono ?_); rintro e wn ⟨he, hwn⟩; subst he; subst wn))

        all_goals (go_ret3; exact ⟨rfl, rfl⟩)
    obtain ⟨p0, p1⟩ := hxin rfl
    simp only [Bool.not_false, Bool.true_and, ne_eq, not_true, if_false, Bool.true_eq_false]
    clear hax hxin
    cases av
    · simp only [Bool.false_eq_true, if_false, if_true]
      rcases hPx with ⟨rfl, hx0⟩ | rfl
      · go_enter Tryd.func9, Tryd.ntmps9
        go_wp2_with (first
          | (go_at_call 23; (with_reducible refine (HE.out _).mono ?_); rintro e wn ⟨he, hwn⟩; subst he; subst wn)
          | (go_at_call 24; (first | (with_reducible refine (H1.out _).mono ?_) | (with_reducible refine (H2.out _).mono ?_) | (with_reducible refine (HX.out _).mono ?_) | (with_reducible refine (HV.out _).mono ?_)); rintro e wn ⟨he, hwn⟩; subst he; subst wn)
          | (go_at_call 33; (with_reducible refine (HR.out _ HRw.out).mono ?_); rintro e wn ⟨he, hwn⟩; subst he; subst wn)
          | (go_at_call 27; (with_reducible refine (HP.out _).mono ?_); rintro e wn ⟨he, hwn⟩; subst he; subst wn)
          | (go_at_call 25; (with_reducible refine (HO.out _).mono ?_); rintro e wn ⟨he, hwn⟩; subst he; subst wn))

        all_goals (go_ret3; exact ⟨rfl, rfl⟩)
      · go_enter Tryd.func9, Tryd.ntmps9
        go_wp2_with (first
          | (go_at_call 23; (with_reducible refine (HE.out _).mono ?_); rintro e wn ⟨he, hwn⟩; subst he; subst wn)
          | (go_at_call 24; (first | (with_reducible refine (H1.out _).mono ?_) | (with_reducible refine (H2.out _).mono ?_) | (with_reducible refine (HX.out _).mono ?_) | (with_reducible refine (HV.out _).mono ?_)); rintro e wn ⟨he, hwn⟩; subst he; subst wn)
          | (go_at_call 33; (with_reducible refine (HR.out _ HRw.out).mono ?_); rintro e wn ⟨he, hwn⟩; subst he; subst wn)
          | (go_at_call 27; (with_reducible refine (HP.out _).mono ?_); rintro e wn ⟨he, hwn⟩; subst he; subst wn)
          | (go_at_call 25; (with_reducible refine (HO.out _).mono ?_); rintro e wn ⟨he, hwn⟩; subst he; subst wn))

        all_goals (go_ret3; exact ⟨rfl, rfl⟩)
    · simp only [if_true]
      rw [if_neg (by omega), if_neg (by omega)]
      rcases hPx with ⟨rfl, hx0⟩ | rfl
      · go_enter Tryd.func9, Tryd.ntmps9
        go_wp2_with (first
          | (go_at_call 23; (with_reducible refine (HE.out _).mono ?_); rintro e wn ⟨he, hwn⟩; subst he; subst wn)
          | (go_at_call 24; (first | (with_reducible refine (H1.out _).mono ?_) | (with_reducible refine (H2.out _).mono ?_) | (with_reducible refine (HX.out _).mono ?_) | (with_reducible refine (HV.out _).mono ?_)); rintro e wn ⟨he, hwn⟩; subst he; subst wn)
          | (go_at_call 33; (with_reducible refine (HR.out _ HRw.out).mono ?_); rintro e wn ⟨he, hwn⟩; subst he; subst wn)
          | (go_at_call 27; (with_reducible refine (HP.out _).mono ?_); rintro e wn ⟨he, hwn⟩; subst he; subst wn)
          | (go_at_call 25; (with_reducible refine (HO.out _).mono ?_); rintro e wn ⟨he, hwn⟩; subst he; subst wn))

        all_goals (go_ret3; exact ⟨rfl, rfl⟩)
      · go_enter Tryd.func9, Tryd.ntmps9
        go_wp2_with (first
          | (go_at_call 23; (with_reducible refine (HE.out _).mono ?_); rintro e wn ⟨he, hwn⟩; subst he; subst wn)
          | (go_at_call 24; (first | (with_reducible refine (H1.out _).mono ?_) | (with_reducible refine (H2.out _).mono ?_) | (with_reducible refine (HX.out _).mono ?_) | (with_reducible refine (HV.out _).mono ?_)); rintro e wn ⟨he, hwn⟩; subst he; subst wn)
          | (go_at_call 33; (with_reducible refine (HR.out _ HRw.out).mono ?_); rintro e wn ⟨he, hwn⟩; subst he; subst wn)
          | (go_at_call 27; (with_reducible refine (HP.out _).mono ?_); rintro e wn ⟨he, hwn⟩; subst he; subst wn)
          | (go_at_call 25; (with_reducible refine (HO.out _).mono ?_); rintro e wn ⟨he, hwn⟩; subst he; subst wn))

        all_goals (go_ret3; exact ⟨rfl, rfl⟩)
  have f1b : (f == 1) = false := by simpa using hf1
  by_cases hf9 : f = 9
  · subst hf9
    have HR : Hid _ := ⟨hns rfl ao cap⟩
    clear hnu hns hnn hk hbv HB
    by_cases hg0 : g = 0
    rotate_left
    · rw [if_pos hg0, if_neg hg0, if_neg hg0]
      have gn : (g != 0) = true := by simpa using hg0
      have gn' : (g == 0) = false := by simpa using hg0
      clear hbin hin hgood hxin HX HV hax
      go_enter Tryd.func9, Tryd.ntmps9
      go_wp2_with (first
        | (go_at_call 23; (with_reducible refine (HE.out _).mono ?_); rintro e wn ⟨he, hwn⟩; subst he; subst wn)
        | (go_at_call 24; (first | (with_reducible refine (H1.out _).mono ?_) | (with_reducible refine (H2.out _).mono ?_)); rintro e wn ⟨he, hwn⟩; subst he; subst wn)
        | (go_at_call 34; (with_reducible refine (HR.out _ HRw.out).mono ?_); rintro e wn ⟨he, hwn⟩; subst he; subst wn)
        | (go_at_call 27; (with_reducible refine (HP.out _).mono ?_); rintro e wn ⟨he, hwn⟩; subst he; subst wn))

      all_goals (go_ret3; exact ⟨rfl, rfl⟩)
    subst hg0
    obtain ⟨t0, t1, i0, i1, _⟩ := hin rfl
    obtain ⟨q0, q1⟩ := hbin rfl
    rw [hgood rfl]
    clear hin hbin hgood
    by_cases hA : P = true ∧ x < 0
    · obtain ⟨rfl, hA2⟩ := hA
      have hA3 : ¬ 0 ≤ x := by omega
      have ev : (!ax && (!true || decide (0 ≤ x))) = false := by simp [hA3]
      rw [ev]
      simp only [ne_eq, not_true, if_false, if_true]
      rw [if_neg (by omega), if_neg (by omega)]
      clear ev hA3 hax hxin HX HV
      go_enter Tryd.func9, Tryd.ntmps9
      go_wp2_with (first
        | (go_at_call 23; (with_reducible refine (HE.out _).mono ?_); rintro e wn ⟨he, hwn⟩; subst he; subst wn)
        | (go_at_call 24; (first | (with_reducible refine (H1.out _).mono ?_) | (with_reducible refine (H2.out _).mono ?_)); rintro e wn ⟨he, hwn⟩; subst he; subst wn)
        | (go_at_call 34; (with_reducible refine (HR.out _ HRw.out).mono ?_); rintro e wn ⟨he, hwn⟩; subst he; subst wn)
        | (go_at_call 27; (with_reducible refine (HP.out _).mono ?_); rintro e wn ⟨he, hwn⟩; subst he; subst wn))

      all_goals (go_ret3; exact ⟨rfl, rfl⟩)
    have hPx : (P = true ∧ ¬ x < 0) ∨ P = false := by
      cases hq : P
      · exact .inr rfl
      · exact .inl ⟨rfl, fun h => hA ⟨hq, h⟩⟩
    have hev : (!P || decide (0 ≤ x)) = true := by
      rcases hPx with ⟨rfl, hh⟩ | rfl
      · have : 0 ≤ x := by omega
        simp [this]
      · rfl
    rw [hev]
    clear hev hA
    cases ax
    rotate_left
    · simp only [Bool.not_true, Bool.false_and, ne_eq, not_true, if_false, if_true]
      rw [if_neg (by omega), if_neg (by omega)]
      clear hax hxin HV
      rcases hPx with ⟨rfl, hx0⟩ | rfl
      · go_enter Tryd.func9, Tryd.ntmps9
        go_wp2_with (first
          | (go_at_call 23; (with_reducible refine (HE.out _).mono ?_); rintro e wn ⟨he, hwn⟩; subst he; subst wn)
          | (go_at_call 24; (first | (with_reducible refine (H1.out _).mono ?_) | (with_reducible refine (H2.out _).mono ?_) | (with_reducible refine (HX.out _).mono ?_)); rintro e wn ⟨he, hwn⟩; subst he; subst wn)
          | (go_at_call 34; (with_reducible refine (HR.out _ HRw.out).mono ?_); rintro e wn ⟨he, hwn⟩; subst he; subst wn)
          | (go_at_call 27; (with_reducible refine (HP.out _).mono ?_); rintro e wn ⟨he, hwn⟩; subst he; subst wn))

        all_goals (go_ret3; exact ⟨rfl, rfl⟩)
      · go_enter Tryd.func9, Tryd.ntmps9
        go_wp2_with (first
          | (go_at_call 23; (with_reducible refine (HE.out _).mono ?_); rintro e wn ⟨he, hwn⟩; subst he; subst wn)
          | (go_at_call 24; (first | (with_reducible refine (H1.out _).mono ?_) | (with_reducible refine (H2.out _).mono ?_) | (with_reducible refine (HX.out _).mono ?_)); rintro e wn ⟨he, hwn⟩; subst he; subst wn)
          | (go_at_call 34; (with_reducible refine (HR.out _ HRw.out).mono ?_); rintro e wn ⟨he, hwn⟩; subst he; subst wn)
          | (go_at_call 27; (with_reducible refine (HP.out _).mono ?_); rintro e wn ⟨he, hwn⟩; subst he; subst wn))

        all_goals (go_ret3; exact ⟨rfl, rfl⟩)
    obtain ⟨p0, p1⟩ := hxin rfl
    simp only [Bool.not_false, Bool.true_and, ne_eq, not_true, if_false, Bool.true_eq_false]
    clear hax hxin
    cases av
    · simp only [Bool.false_eq_true, if_false, if_true]
      rcases hPx with ⟨rfl, hx0⟩ | rfl
      · go_enter Tryd.func9, Tryd.ntmps9
        go_wp2_with (first
          | (go_at_call 23; (with_reducible refine (HE.out _).mono ?_); rintro e wn ⟨he, hwn⟩; subst he; subst wn)
          | (go_at_call 24; (first | (with_reducible refine (H1.out _).mono ?_) | (with_reducible refine (H2.out _).mono ?_) | (with_reducible refine (HX.out _).mono ?_) | (with_reducible refine (HV.out _).mono ?_)); rintro e wn ⟨he, hwn⟩; subst he; subst wn)
          | (go_at_call 34; (with_reducible refine (HR.out _ HRw.out).mono ?_); rintro e wn ⟨he, hwn⟩; subst he; subst wn)
          | (go_at_call 27; (with_reducible refine (HP.out _).mono ?_); rintro e wn ⟨he, hwn⟩; subst he; subst wn)
          | (go_at_call 25; (with_reducible refine (HO.out _).mono ?_); rintro e wn ⟨he, hwn⟩; subst he; subst wn))

        all_goals (go_ret3; exact ⟨rfl, rfl⟩)
      · go_enter Tryd.func9, Tryd.ntmps9
        go_wp2_with (first
          | (go_at_call 23; (with_reducible refine (HE.out _).mono ?_); rintro e wn ⟨he, hwn⟩; subst he; subst wn)
          | (go_at_call 24; (first | (with_reducible refine (H1.out _).mono ?_) | (with_reducible refine (H2.out _).mono ?_) | (with_reducible refine (HX.out _).mono ?_) | (with_reducible refine (HV.out _).mono ?_)); rintro e wn ⟨he, hwn⟩; subst he; subst wn)
          | (go_at_call 34; (with_reducible refine (HR.out _ HRw.out).mono ?_); rintro e wn ⟨he, hwn⟩; subst he; subst wn)
          | (go_at_call 27; (with_reducible refine (HP.out _).mono ?_); rintro e wn ⟨he, hwn⟩; subst he; subst wn)
          | (go_at_call 25; (with_reducible refine (HO.out _).mono ?_); rintro e wn ⟨he, hwn⟩; subst he; subst wn))

        all_goals (go_ret3; exact ⟨rfl, rfl⟩)
    · simp only [if_true]
      rw [if_neg (by omega), if_neg (by omega)]
      rcases hPx with ⟨rfl, hx0⟩ | rfl
      · go_enter Tryd.func9, Tryd.ntmps9
        go_wp2_with (first
          | (go_at_call 23; (with_reducible refine (HE.out _).mono ?_); rintro e wn ⟨he, hwn⟩; subst he; subst wn)
          | (go_at_call 24; (first | (with_reducible refine (H1.out _).mono ?_) | (with_reducible refine (H2.out _).mono ?_) | (with_reducible refine (HX.out _).mono ?_) | (with_reducible refine (HV.out _).mono ?_)); rintro e wn ⟨he, hwn⟩; subst he; subst wn)
          | (go_at_call 34; (with_reducible refine (HR.out _ HRw.out).mono ?_); rintro e wn ⟨he, hwn⟩; subst he; subst wn)
          | (go_at_call 27; (with_reducible refine (HP.out _).mono ?_); rintro e wn ⟨he, hwn⟩; subst he; subst wn)
          | (go_at_call 25; (with_reducible refine (HO.out _).mono ?_); rintro e wn ⟨he, hwn⟩; subst he; subst wn))

        all_goals (go_ret3; exact ⟨rfl, rfl⟩)
      · go_enter Tryd.func9, Tryd.ntmps9
        go_wp2_with (first
          | (go_at_call 23; (with_reducible refine (HE.out _).mono ?_); rintro e wn ⟨he, hwn⟩; subst he; subst wn)
          | (go_at_call 24; (first | (with_reducible refine (H1.out _).mono ?_) | (with_reducible refine (H2.out _).mono ?_) | (with_reducible refine (HX.out _).mono ?_) | (with_reducible refine (HV.out _).mono ?_)); rintro e wn ⟨he, hwn⟩; subst he; subst wn)
          | (go_at_call 34; (with_reducible refine (HR.out _ HRw.out).mono ?_); rintro e wn ⟨he, hwn⟩; subst he; subst wn)
          | (go_at_call 27; (with_reducible refine (HP.out _).mono ?_); rintro e wn ⟨he, hwn⟩; subst he; subst wn)
          | (go_at_call 25; (with_reducible refine (HO.out _).mono ?_); rintro e wn ⟨he, hwn⟩; subst he; subst wn))

        all_goals (go_ret3; exact ⟨rfl, rfl⟩)
  have f9b : (f == 9) = false := by simpa using hf9
  have hgr : fGr f = false := by simp [fGr, hf1, hf9]
  rw [hgr] at HB
  simp only [Bool.false_eq_true, if_false] at HB
  have HR : Hid _ := ⟨hnn hgr ao cap⟩
  have HK : Hid _ := ⟨hk hgr⟩
  have hz2 : (fSize f : Int) ≤ 8 := by have := size_of f; omega
  have hz3 : 0 ≤ (fSize f : Int) := by omega
  rw [hsg] at HR
  clear hnu hns hnn hk hbv hgr
  generalize (fSize f : Int) = z at *
  by_cases hg0 : g = 0
  rotate_left
  · rw [if_pos hg0, if_neg hg0, if_neg hg0]
    have gn : (g != 0) = true := by simpa using hg0
    have gn' : (g == 0) = false := by simpa using hg0
    clear hbin hin hgood hxin HX HV hax
    go_enter Tryd.func9, Tryd.ntmps9
    go_wp2_with (first
      | (go_at_call 23; (with_reducible refine (HE.out _).mono ?_); rintro e wn ⟨he, hwn⟩; subst he; subst wn)
      | (go_at_call 24; (first | (with_reducible refine (H1.out _).mono ?_) | (with_reducible refine (H2.out _).mono ?_)); rintro e wn ⟨he, hwn⟩; subst he; subst wn)
      | (go_at_call 35; (with_reducible refine (HR.out _ HRw.out).mono ?_); rintro e wn ⟨he, hwn⟩; subst he; subst wn)
      | (go_at_call 26; (with_reducible refine (HB.out _).mono ?_); rintro e wn ⟨he, hwn⟩; subst he; subst wn)
      | (go_at_call 27; (with_reducible refine (HP.out _).mono ?_); rintro e wn ⟨he, hwn⟩; subst he; subst wn))

    all_goals (go_ret3; exact ⟨rfl, rfl⟩)
  subst hg0
  obtain ⟨t0, t1, i0, i1, _⟩ := hin rfl
  obtain ⟨q0, q1⟩ := hbin rfl
  have hiz := HK.out rfl
  have hiz0 : t + z ≤ 9223372036854775807 := by omega
  rw [hgood rfl]
  clear hin hbin hgood
  by_cases hA : P = true ∧ x < 0
  · obtain ⟨rfl, hA2⟩ := hA
    simp only [Bool.not_true] at HR
    have hA3 : ¬ 0 ≤ x := by omega
    have ev : (!ax && (!true || decide (0 ≤ x))) = false := by simp [hA3]
    rw [ev]
    simp only [ne_eq, not_true, if_false, if_true]
    rw [if_neg (by omega), if_neg (by omega)]
    clear ev hA3 hax hxin HX HV
    go_enter Tryd.func9, Tryd.ntmps9
    go_wp2_with (first
      | (go_at_call 23; (with_reducible refine (HE.out _).mono ?_); rintro e wn ⟨he, hwn⟩; subst he; subst wn)
      | (go_at_call 24; (first | (with_reducible refine (H1.out _).mono ?_) | (with_reducible refine (H2.out _).mono ?_)); rintro e wn ⟨he, hwn⟩; subst he; subst wn)
      | (go_at_call 35; (with_reducible refine (HR.out _ HRw.out).mono ?_); rintro e wn ⟨he, hwn⟩; subst he; subst wn)
      | (go_at_call 26; (with_reducible refine (HB.out _).mono ?_); rintro e wn ⟨he, hwn⟩; subst he; subst wn)
      | (go_at_call 27; (with_reducible refine (HP.out _).mono ?_); rintro e wn ⟨he, hwn⟩; subst he; subst wn))

    all_goals (go_ret3; exact ⟨rfl, rfl⟩)
  have hPx : (P = true ∧ ¬ x < 0) ∨ P = false := by
    cases hq : P
    · exact .inr rfl
    · exact .inl ⟨rfl, fun h => hA ⟨hq, h⟩⟩
  have hev : (!P || decide (0 ≤ x)) = true := by
    rcases hPx with ⟨rfl, hh⟩ | rfl
    · have : 0 ≤ x := by omega
      simp [this]
    · rfl
  rw [hev]
  clear hev hA
  cases ax
  rotate_left
  · simp only [Bool.not_true, Bool.false_and, ne_eq, not_true, if_false, if_true]
    rw [if_neg (by omega), if_neg (by omega)]
    clear hax hxin HV
    rcases hPx with ⟨rfl, hx0⟩ | rfl <;> simp only [Bool.not_true, Bool.not_false] at HR
    · go_enter Tryd.func9, Tryd.ntmps9
      go_wp2_with (first
        | (go_at_call 23; (with_reducible refine (HE.out _).mono ?_); rintro e wn ⟨he, hwn⟩; subst he; subst wn)
        | (go_at_call 24; (first | (with_reducible refine (H1.out _).mono ?_) | (with_reducible refine (H2.out _).mono ?_) | (with_reducible refine (HX.out _).mono ?_)); rintro e wn ⟨he, hwn⟩; subst he; subst wn)
        | (go_at_call 35; (with_reducible refine (HR.out _ HRw.out).mono ?_); rintro e wn ⟨he, hwn⟩; subst he; subst wn)
        | (go_at_call 26; (with_reducible refine (HB.out _).mono ?_); rintro e wn ⟨he, hwn⟩; subst he; subst wn)
        | (go_at_call 27; (with_reducible refine (HP.out _).mono ?_); rintro e wn ⟨he, hwn⟩; subst he; subst wn))

      all_goals (go_ret3; exact ⟨rfl, rfl⟩)
    · go_enter Tryd.func9, Tryd.ntmps9
      go_wp2_with (first
        | (go_at_call 23; (with_reducible refine (HE.out _).mono ?_); rintro e wn ⟨he, hwn⟩; subst he; subst wn)
        | (go_at_call 24; (first | (with_reducible refine (H1.out _).mono ?_) | (with_reducible refine (H2.out _).mono ?_) | (with_reducible refine (HX.out _).mono ?_)); rintro e wn ⟨he, hwn⟩; subst he; subst wn)
        | (go_at_call 35; (with_reducible refine (HR.out _ HRw.out).mono ?_); rintro e wn ⟨he, hwn⟩; subst he; subst wn)
        | (go_at_call 26; (with_reducible refine (HB.out _).mono ?_); rintro e wn ⟨he, hwn⟩; subst he; subst wn)
        | (go_at_call 27; (with_reducible refine (HP.out _).mono ?_); rintro e wn ⟨he, hwn⟩; subst he; subst wn))

      all_goals (go_ret3; exact ⟨rfl, rfl⟩)
  obtain ⟨p0, p1⟩ := hxin rfl
  simp only [Bool.not_false, Bool.true_and, ne_eq, not_true, if_false, Bool.true_eq_false]
  clear hax hxin
  cases av
  · simp only [Bool.false_eq_true, if_false, if_true]
    rcases hPx with ⟨rfl, hx0⟩ | rfl <;> simp only [Bool.not_true, Bool.not_false] at HR
    · go_enter Tryd.func9, Tryd.ntmps9
      go_wp2_with (first
        | (go_at_call 23; (with_reducible refine (HE.out _).mono ?_); rintro e wn ⟨he, hwn⟩; subst he; subst wn)
        | (go_at_call 24; (first | (with_reducible refine (H1.out _).mono ?_) | (with_reducible refine (H2.out _).mono ?_) | (with_reducible refine (HX.out _).mono ?_) | (with_reducible refine (HV.out _).mono ?_)); rintro e wn ⟨he, hwn⟩; subst he; subst wn)
        | (go_at_call 35; (with_reducible refine (HR.out _ HRw.out).mono ?_); rintro e wn ⟨he, hwn⟩; subst he; subst wn)
        | (go_at_call 26; (with_reducible refine (HB.out _).mono ?_); rintro e wn ⟨he, hwn⟩; subst he; subst wn)
        | (go_at_call 27; (with_reducible refine (HP.out _).mono ?_); rintro e wn ⟨he, hwn⟩; subst he; subst wn)
        | (go_at_call 25; (with_reducible refine (HO.out _).mono ?_); rintro e wn ⟨he, hwn⟩; subst he; subst wn))

      all_goals (go_ret3; exact ⟨by rw [hiz]; rfl, rfl⟩)
    · go_enter Tryd.func9, Tryd.ntmps9
      go_wp2_with (first
        | (go_at_call 23; (with_reducible refine (HE.out _).mono ?_); rintro e wn ⟨he, hwn⟩; subst he; subst wn)
        | (go_at_call 24; (first | (with_reducible refine (H1.out _).mono ?_) | (with_reducible refine (H2.out _).mono ?_) | (with_reducible refine (HX.out _).mono ?_) | (with_reducible refine (HV.out _).mono ?_)); rintro e wn ⟨he, hwn⟩; subst he; subst wn)
        | (go_at_call 35; (with_reducible refine (HR.out _ HRw.out).mono ?_); rintro e wn ⟨he, hwn⟩; subst he; subst wn)
        | (go_at_call 26; (with_reducible refine (HB.out _).mono ?_); rintro e wn ⟨he, hwn⟩; subst he; subst wn)
        | (go_at_call 27; (with_reducible refine (HP.out _).mono ?_); rintro e wn ⟨he, hwn⟩; subst he; subst wn)
        | (go_at_call 25; (with_reducible refine (HO.out _).mono ?_); rintro e wn ⟨he, hwn⟩; subst he; subst wn))

      all_goals (go_ret3; exact ⟨by rw [hiz]; rfl, rfl⟩)
  · simp only [if_true]
    rw [if_neg (by omega), if_neg (by omega)]
    rcases hPx with ⟨rfl, hx0⟩ | rfl <;> simp only [Bool.not_true, Bool.not_false] at HR
    · go_enter Tryd.func9, Tryd.ntmps9
      go_wp2_with (first
        | (go_at_call 23; (with_reducible refine (HE.out _).mono ?_); rintro e wn ⟨he, hwn⟩; subst he; subst wn)
        | (go_at_call 24; (first | (with_reducible refine (H1.out _).mono ?_) | (with_reducible refine (H2.out _).mono ?_) | (with_reducible refine (HX.out _).mono ?_) | (with_reducible refine (HV.out _).mono ?_)); rintro e wn ⟨he, hwn⟩; subst he; subst wn)
        | (go_at_call 35; (with_reducible refine (HR.out _ HRw.out).mono ?_); rintro e wn ⟨he, hwn⟩; subst he; subst wn)
        | (go_at_call 26; (with_reducible refine (HB.out _).mono ?_); rintro e wn ⟨he, hwn⟩; subst he; subst wn)
        | (go_at_call 27; (with_reducible refine (HP.out _).mono ?_); rintro e wn ⟨he, hwn⟩; subst he; subst wn)
        | (go_at_call 25; (with_reducible refine (HO.out _).mono ?_); rintro e wn ⟨he, hwn⟩; subst he; subst wn))

      all_goals (go_ret3; exact ⟨rfl, rfl⟩)
    · go_enter Tryd.func9, Tryd.ntmps9
      go_wp2_with (first
        | (go_at_call 23; (with_reducible refine (HE.out _).mono ?_); rintro e wn ⟨he, hwn⟩; subst he; subst wn)
        | (go_at_call 24; (first | (with_reducible refine (H1.out _).mono ?_) | (with_reducible refine (H2.out _).mono ?_) | (with_reducible refine (HX.out _).mono ?_) | (with_reducible refine (HV.out _).mono ?_)); rintro e wn ⟨he, hwn⟩; subst he; subst wn)
        | (go_at_call 35; (with_reducible refine (HR.out _ HRw.out).mono ?_); rintro e wn ⟨he, hwn⟩; subst he; subst wn)
        | (go_at_call 26; (with_reducible refine (HB.out _).mono ?_); rintro e wn ⟨he, hwn⟩; subst he; subst wn)
        | (go_at_call 27; (with_reducible refine (HP.out _).mono ?_); rintro e wn ⟨he, hwn⟩; subst he; subst wn)
        | (go_at_call 25; (with_reducible refine (HO.out _).mono ?_); rintro e wn ⟨he, hwn⟩; subst he; subst wn))

      all_goals (go_ret3; exact ⟨rfl, rfl⟩)
end Go.Proofs.YtomboebfbipaaaaDoor
