/- A program that is written is read as it was, plainly. -/
import Derived.Test.YtgldijohpfihaaaDoorCRReadX
import Derived.Test.YtgldijohpfihaaaDoorBackPlain
namespace Go.Proofs.YtgldijohpfihaaaDoor
open Go.ChangeShapes Go.WideShapes Go.ChangeAt Go.RowKit
set_option linter.unusedVariables false
set_option linter.unusedSimpArgs false

theorem cN_of {len : Nat} {bs : Nat → Int} {a L : Nat} (h1 : 1 ≤ L) (h2 : L ≤ 10) (h3 : a + L ≤ len) (h4 : ∀ j, j + 1 < L → 128 ≤ bs (a + j)) (h5 : bs (a + (L - 1)) < 128) : cN len bs a = some (L - 1) := by
  unfold cN
  rw [List.find?_range_eq_some]
  refine ⟨?_, by simp; omega, fun j hj => ?_⟩
  · simp
    exact ⟨by omega, h5⟩
  · have := h4 j (by omega)
    simp
    omega
theorem ulB_is {n : Int} (h0 : 0 ≤ n) (h1 : n < 9223372036854775808) : ulB n = ul n.toNat := by
  unfold ulB
  rw [show n % 18446744073709551616 = n by omega]
theorem uN_back {len : Nat} {bs : Nat → Int} {a : Nat} {n : Int} (h0 : 0 ≤ n) (h1 : n < 9223372036854775808) (hat : At bs a (ulB n)) (hl : a + (ulB n).length ≤ len) : uN len bs a = some (n, a + (ulB n).length) := by
  rw [ulB_is h0 h1] at hat hl ⊢
  obtain ⟨r1, r2, r3⟩ := ul_read n.toNat bs a hat
  have hp := ul_len_pos n.toNat
  have ht := ul_len10 n.toNat (by omega)
  have hc := cN_of hp ht hl r2 r3
  unfold uN uR
  rw [hc]
  dsimp only
  rw [if_neg (by
    rintro ⟨h9, hx⟩
    have := ul_ten n.toNat (by omega) bs a hat (by omega)
    omega)]
  dsimp only
  rw [show (ul n.toNat).length - 1 + 1 = (ul n.toNat).length by omega, r1]
  have e : wrap64 ((n.toNat : Nat) : Int) = n := by unfold wrap64; omega
  rw [e, if_pos h0]
theorem sR_back {len : Nat} {bs : Nat → Int} {a : Nat} {n : Int} (h0 : -268435456 ≤ n) (h1 : n ≤ 268435456) (hat : At bs a (sl n)) (hl : a + (sl n).length ≤ len) : sR len bs a = some (n, a + (sl n).length) := by
  obtain ⟨r1, r2, r3⟩ := sl_read n.natAbs n (Nat.le_refl _) bs a hat
  have hp := sl_len_pos n
  have h5 : (sl n).length ≤ 4 + 1 := sl_len 4 n (by omega) (by omega)
  have hc := cN_of hp (by omega) hl r2 r3
  unfold sR
  rw [hc]
  dsimp only
  rw [if_neg (by omega), show (sl n).length - 1 + 1 = (sl n).length by omega]
  unfold sval
  rw [show min (7 * (sl n).length) 64 = 7 * (sl n).length by omega, r1]
theorem At.app {bs : Nat → Int} {a : Nat} {l m : List Int} (h : At bs a (l ++ m)) : At bs a l ∧ At bs (a + l.length) m := by
  constructor
  · intro i hi
    have := h i (by simp; omega)
    rw [this, List.getD_eq_getElem?_getD, List.getD_eq_getElem?_getD, List.getElem?_append_left hi]
  · intro i hi
    have := h (l.length + i) (by simp; omega)
    rw [Nat.add_assoc, this, List.getD_eq_getElem?_getD, List.getD_eq_getElem?_getD, List.getElem?_append_right (by omega)]
    congr 2
    omega
theorem gN_back {len : Nat} {bs : Nat → Int} {a s : Nat} {n : Int} (hs : s = 1 ∨ s = 2 ∨ s = 4) (h0 : 0 ≤ n) (h1 : n < 2147483648) (h2 : s = 1 → n < 256) (h3 : s = 2 → n < 65536) (hat : At bs a (pl n s)) (hl : a + s ≤ len) : gN len bs a s = some (n, a + s) := by
  unfold gN
  rw [if_pos hl]
  have e : gval bs a s false = n := by
    rw [gv_plain]
    have hb : ∀ j, j < s → bs (a + j) = n / 2 ^ (8 * j) % 256 := fun j hj => by
      rw [hat j (by rw [pl_len]; exact hj)]
      simp [pl, hj]
    rcases hs with rfl | rfl | rfl
    · have b0 := hb 0 (by omega)
      have := h2 rfl
      simp [bacc] at b0 ⊢
      unfold wrap64
      omega
    · have b0 := hb 0 (by omega)
      have b1 := hb 1 (by omega)
      have := h3 rfl
      simp [bacc] at b0 b1 ⊢
      unfold wrap64
      omega
    · have b0 := hb 0 (by omega)
      have b1 := hb 1 (by omega)
      have b2 := hb 2 (by omega)
      have b3 := hb 3 (by omega)
      simp [bacc] at b0 b1 b2 b3 ⊢
      unfold wrap64
      omega
  rw [e]

theorem facM_back {n : Int} (h0 : -2147483648 ≤ n) (h1 : n < 2147483648) (h8 : n.tmod 8 = 0) : facM (-(n.tdiv 8)) = some n := by
  have hd := tdiv8 h0 h1
  have e := Int.tmod_add_mul_tdiv n 8
  unfold facM
  rw [if_neg (by omega)]
  congr 1
  omega

/-- An op's bytes are read as the op. -/
theorem opR_back {len : Nat} {bs : Nat → Int} {t : Nat} {o : Oq} (hm : mayB o = true) (hat : At bs t (oneB o)) (hl : t + (oneB o).length ≤ len) : opR len bs (bs t) (t + 1) = some (o, t + (oneB o).length) := by
  obtain ⟨k, r, n⟩ := o
  have reg : k = 2 ∨ k = 4 ∨ k = 5 ∨ k = 6 ∨ k = 7 ∨ k = 8 → 0 ≤ r ∧ r ≤ 16 := fun h => may_reg hm h
  by_cases k0 : k = 0
  · subst k0
    obtain ⟨rfl, rfl⟩ : r = 0 ∧ n = 0 := by simpa [mayB] using hm
    have hb := (At.tail (show At bs t (0 :: []) from hat)).1
    rw [hb]
    rfl
  by_cases k9 : k = 9
  · subst k9
    obtain ⟨rfl, rfl⟩ : r = 0 ∧ n = 0 := by simpa [mayB] using hm
    have hb := (At.tail (show At bs t (10 :: []) from hat)).1
    rw [hb]
    rfl
  by_cases k10 : k = 10
  · subst k10
    obtain ⟨rfl, rfl⟩ : r = 0 ∧ n = 0 := by simpa [mayB] using hm
    have hb := (At.tail (show At bs t (11 :: []) from hat)).1
    rw [hb]
    rfl
  by_cases k1 : k = 1
  · subst k1
    obtain ⟨n0, n1⟩ := may_adv hm rfl
    dsimp only at n0 n1
    obtain rfl : r = 0 := by simp [mayB] at hm; exact hm.1
    have eB : oneB ⟨1, 0, n⟩ = advB n := by simp [oneB]
    rw [eB] at hat hl ⊢
    unfold advB at hat hl ⊢
    by_cases c1 : n < 64
    · rw [if_pos c1] at hat hl ⊢
      have hb := (At.tail hat).1
      rw [hb]
      unfold opR
      rw [if_neg (by omega), if_neg (by omega), if_pos (by omega)]
      simp
      omega
    rw [if_neg c1] at hat hl ⊢
    by_cases c2 : n < 256
    · rw [if_pos c2] at hat hl ⊢
      obtain ⟨hb, h2⟩ := At.tail hat
      rw [hb]
      have hL : (2 :: pl n 1).length = 2 := by simp [pl_len]
      rw [hL] at hl ⊢
      have hg := gN_back (len := len) (.inl rfl) n0 n1 (fun _ => c2) (fun h => by cases h) h2 (by omega)
      unfold opR
      simp [hg]
    rw [if_neg c2] at hat hl ⊢
    by_cases c3 : n < 65536
    · rw [if_pos c3] at hat hl ⊢
      obtain ⟨hb, h2⟩ := At.tail hat
      rw [hb]
      have hL : (3 :: pl n 2).length = 3 := by simp [pl_len]
      rw [hL] at hl ⊢
      have hg := gN_back (len := len) (.inr (.inl rfl)) n0 n1 (fun h => by cases h) (fun _ => c3) h2 (by omega)
      unfold opR
      simp [hg]
    rw [if_neg c3] at hat hl ⊢
    obtain ⟨hb, h2⟩ := At.tail hat
    rw [hb]
    have hL : (4 :: pl n 4).length = 5 := by simp [pl_len]
    rw [hL] at hl ⊢
    have hg := gN_back (len := len) (.inr (.inr rfl)) n0 n1 (fun h => by cases h) (fun h => by cases h) h2 (by omega)
    unfold opR
    simp [hg]
  by_cases k6 : k = 6
  · subst k6
    obtain ⟨r0, r1⟩ := reg (by omega)
    obtain rfl : n = 0 := by simp [mayB] at hm; exact hm.2
    have eB : oneB ⟨6, r, 0⟩ = [192 + r] := by simp [oneB]
    rw [eB] at hat ⊢
    have hb := (At.tail hat).1
    rw [hb]
    unfold opR
    rw [if_pos (by omega)]
    simp
    omega
  by_cases k4 : k = 4
  · subst k4
    obtain ⟨r0, r1⟩ := reg (by omega)
    obtain rfl : n = 0 := by simp [mayB] at hm; exact hm.2
    have eB : oneB ⟨4, r, 0⟩ = 13 :: ulB r := by simp [oneB]
    rw [eB] at hat hl ⊢
    obtain ⟨hb, h2⟩ := At.tail hat
    rw [hb]
    simp only [List.length_cons] at hl ⊢
    have hg := uN_back (len := len) r0 (by omega) h2 (by omega)
    unfold opR
    simp [hg]
    omega
  by_cases k7 : k = 7
  · subst k7
    obtain ⟨r0, r1⟩ := reg (by omega)
    obtain rfl : n = 0 := by simp [mayB] at hm; exact hm.2
    have eB : oneB ⟨7, r, 0⟩ = 7 :: ulB r := by simp [oneB]
    rw [eB] at hat hl ⊢
    obtain ⟨hb, h2⟩ := At.tail hat
    rw [hb]
    simp only [List.length_cons] at hl ⊢
    have hg := uN_back (len := len) r0 (by omega) h2 (by omega)
    unfold opR
    simp [hg]
    omega
  by_cases k8 : k = 8
  · subst k8
    obtain ⟨r0, r1⟩ := reg (by omega)
    obtain rfl : n = 0 := by simp [mayB] at hm; exact hm.2
    have eB : oneB ⟨8, r, 0⟩ = 8 :: ulB r := by simp [oneB]
    rw [eB] at hat hl ⊢
    obtain ⟨hb, h2⟩ := At.tail hat
    rw [hb]
    simp only [List.length_cons] at hl ⊢
    have hg := uN_back (len := len) r0 (by omega) h2 (by omega)
    unfold opR
    simp [hg]
    omega
  by_cases k3 : k = 3
  · subst k3
    have hf : r = 0 ∧ 0 ≤ n ∧ n < 2147483648 := by
      simp [mayB] at hm
      refine ⟨hm.1, ?_⟩
      simpa [farB] using hm.2
    obtain ⟨rfl, n0, n1⟩ := hf
    have eB : oneB ⟨3, 0, n⟩ = 14 :: ulB n := by simp [oneB]
    rw [eB] at hat hl ⊢
    obtain ⟨hb, h2⟩ := At.tail hat
    rw [hb]
    simp only [List.length_cons] at hl ⊢
    have hg := uN_back (len := len) n0 (by omega) h2 (by omega)
    unfold opR
    simp [hg]
    omega
  by_cases k2 : k = 2
  · subst k2
    obtain ⟨r0, r1⟩ := reg (by omega)
    have hf : 0 ≤ n ∧ n < 2147483648 := by
      simp [mayB] at hm
      simpa [farB] using hm.2
    have eB : oneB ⟨2, r, n⟩ = 12 :: (ulB r ++ ulB n) := by simp [oneB]
    rw [eB] at hat hl ⊢
    obtain ⟨hb, h2⟩ := At.tail hat
    obtain ⟨h3, h4⟩ := h2.app
    rw [hb]
    simp only [List.length_cons, List.length_append] at hl ⊢
    have hg := uN_back (len := len) r0 (by omega) h3 (by omega)
    have hg2 := uN_back (len := len) hf.1 (by omega) h4 (by omega)
    unfold opR
    simp [hg, hg2]
    omega
  by_cases k5 : k = 5
  · subst k5
    obtain ⟨r0, r1⟩ := reg (by omega)
    have hf : -2147483648 ≤ n ∧ n < 2147483648 ∧ n.tmod 8 = 0 := by
      simp [mayB] at hm
      exact ⟨hm.2.1, hm.2.2.1, hm.2.2.2⟩
    obtain ⟨n0, n1, n8⟩ := hf
    have hfm := facM_back n0 n1 n8
    have hd := tdiv8 n0 n1
    by_cases hn : n ≤ 0
    · have hq : 0 ≤ -(n.tdiv 8) := by
        have e : n.tdiv 8 = -((-n).tdiv 8) := by rw [Int.neg_tdiv]; omega
        rw [e, Int.tdiv_eq_ediv_of_nonneg (by omega)]
        omega
      have eB : oneB ⟨5, r, n⟩ = (128 + r) :: ulB (-(n.tdiv 8)) := by simp [oneB, hn]
      rw [eB] at hat hl ⊢
      obtain ⟨hb, h2⟩ := At.tail hat
      rw [hb]
      simp only [List.length_cons] at hl ⊢
      have hg := uN_back (len := len) hq (by omega) h2 (by omega)
      unfold opR
      rw [if_neg (by omega), if_pos (by omega), hg]
      dsimp only
      rw [hfm]
      simp
      omega
    · have eB : oneB ⟨5, r, n⟩ = 17 :: (ulB r ++ sl (-(n.tdiv 8))) := by simp [oneB, hn]
      rw [eB] at hat hl ⊢
      obtain ⟨hb, h2⟩ := At.tail hat
      obtain ⟨h3, h4⟩ := h2.app
      rw [hb]
      simp only [List.length_cons, List.length_append] at hl ⊢
      have hg := uN_back (len := len) r0 (by omega) h3 (by omega)
      have hg2 := sR_back (len := len) (by omega) (by omega) h4 (by omega)
      unfold opR
      simp [hg, hg2, hfm]
      omega
  exfalso
  simp [mayB, k0, k1, k2, k3, k4, k5, k6, k7, k8, k9, k10] at hm

theorem oneB_pos (o : Oq) : 1 ≤ (oneB o).length := by
  unfold oneB advB
  repeat' split
  all_goals simp
theorem rdM_back {len : Nat} {bs : Nat → Int} : ∀ (l : List Oq) (f t : Nat) (out : List Oq), l.all mayB = true → At bs t (l.flatMap oneB) → t + (l.flatMap oneB).length = len → len < t + f → out.length + l.length ≤ 4000 → rdM len bs f t out = .ok (out ++ l)
  | [], f, t, out, _, _, h3, _, _ => by
    rw [rdM_end (by simp at h3; omega)]
    simp
  | o :: l, f, t, out, h1, h2, h3, h4, h5 => by
    simp only [List.all_cons, Bool.and_eq_true] at h1
    simp only [List.flatMap_cons] at h2 h3
    obtain ⟨a1, a2⟩ := h2.app
    rw [List.length_append] at h3
    have hp := oneB_pos o
    have ho := opR_back (len := len) h1.1 a1 (by omega)
    simp only [List.length_cons] at h5
    obtain ⟨f', rfl⟩ : ∃ f', f = f' + 1 := ⟨f - 1, by omega⟩
    rw [rdM_more (by omega) ho h1.1 (by omega), rdM_back l f' _ _ h1.2 a2 (by omega) (by omega) (by simp; omega)]
    simp
/-- Read of Write is the ops (P1308). -/
theorem read_writ {l : List Oq} (h : writE l = 0) {bs : Nat → Int} (hat : At bs 0 (writB l)) : readE (writB l).length bs = 0 ∧ readL (writB l).length bs = l := by
  unfold writE at h
  have h1 : ¬ 4000 < l.length := fun c => by rw [if_pos c] at h; cases h
  rw [if_neg h1] at h
  have h2 : l.all mayB = true := by
    cases ha : l.all mayB with
    | true => rfl
    | false => rw [ha] at h; cases h
  have eW : writB l = l.flatMap oneB := by unfold writB; rw [if_neg h1, if_pos h2]
  rw [eW] at hat ⊢
  have hlen := flat_len l h2
  have := rdM_back (bs := bs) (len := (l.flatMap oneB).length) l ((l.flatMap oneB).length + 1) 0 [] h2 hat (by omega) (by omega) (by simp; omega)
  unfold readE readL
  rw [if_neg (by omega), if_neg (by omega), this]
  exact ⟨rfl, by simp [exL]⟩
end Go.Proofs.YtgldijohpfihaaaDoor
