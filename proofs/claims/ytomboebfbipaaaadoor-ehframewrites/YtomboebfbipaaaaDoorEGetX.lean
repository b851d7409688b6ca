/- An encoding's methods; the program's Put. The program's Get. -/
import Derived.Test.YtomboebfbipaaaaDoorEEnc2
import Derived.Test.YtomboebfbipaaaaDoorLebB
namespace Go.Proofs.YtomboebfbipaaaaDoor
open Go.ChangeShapes Go.WideShapes Go.ChangeAt Go.RowKit Go.Maps
set_option linter.unusedVariables false
set_option linter.unusedSimpArgs false

theorem Own.lowE {w : World} {b b' : Nat} {v : Value} {l : List Int} (h : Own w b v l) (hb : b' ≤ b) : Own w b' v l := by
  refine ⟨h.1, ?_⟩
  rcases h.2 with ⟨rfl, e⟩ | ⟨g, cap, cur, rfl, e1, e2⟩
  · exact .inl ⟨rfl, e⟩
  · exact .inr ⟨g, cap, cur, rfl, Nat.le_trans hb e1, e2⟩
theorem base_any (z : Int) (s g : Bool) (d at' data : Int) (w : World) :
    Calls Tryd.prog 20 #[.agg #[.int .i64 z, .bool s, .bool g, .int .i64 d], .int .i64 at', .int .i64 data] w fun e w' => e = .returned (.int .i64 (if d = 16 then at' else if d = 48 then data else 0)) ∧ Below w.heap.size w w' := by
  by_cases h1 : d = 16
  · subst h1
    rw [if_pos rfl]
    go_enter Tryd.func20, Tryd.ntmps20
    go_wp2
    go_ret
    exact ⟨rfl, (Below.refl _ _).alloc (Nat.le_refl _) _⟩
  · rw [if_neg h1]
    by_cases h2 : d = 48
    · subst h2
      rw [if_pos rfl]
      go_enter Tryd.func20, Tryd.ntmps20
      go_wp2
      go_ret
      exact ⟨rfl, (Below.refl _ _).alloc (Nat.le_refl _) _⟩
    · rw [if_neg h2]
      have b1 : (d == 16) = false := by simpa using h1
      have b2 : (d == 48) = false := by simpa using h2
      go_enter Tryd.func20, Tryd.ntmps20
      go_wp2
      go_ret
      exact ⟨rfl, (Below.refl _ _).alloc (Nat.le_refl _) _⟩
theorem mayHold_any (z : Nat) (hz : z = 2 ∨ z = 4 ∨ z = 8) (s g : Bool) (d n : Int) (w : World) :
    Calls Tryd.prog 21 #[.agg #[.int .i64 (z : Int), .bool s, .bool g, .int .i64 d], .int .i64 n] w fun e w' => e = .returned (.bool (!awayB n && fitsB n (8 * (z : Int)) s)) ∧ Below w.heap.size w w' := by
  have hz1 : (z : Int) ≤ 8 := by omega
  have hz0 : (0 : Int) ≤ (z : Int) := by omega
  have HF : Hid _ := ⟨fits_any n (8 * (z : Int)) s⟩
  obtain ⟨a, ha⟩ : ∃ a, awayB n = a := ⟨_, rfl⟩
  obtain ⟨f, hf⟩ : ∃ f, fitsB n (8 * (z : Int)) s = f := ⟨_, rfl⟩
  have HA : Hid _ := ⟨isAddress_any n⟩
  rw [ha] at HA
  rw [hf] at HF
  rw [ha, hf]
  clear ha hf
  cases a
  all_goals
    go_enter Tryd.func21, Tryd.ntmps21
    go_wp2_with (first
      | (go_at_call 19; (with_reducible refine (HA.out _).mono ?_); rintro e wn ⟨he, hwn⟩; subst he; subst wn)
      | (go_at_call 52; (with_reducible refine (HF.out _).mono ?_); rintro e wn ⟨he, hwn⟩; subst he; subst wn))
    go_ret
    exact ⟨rfl, (Below.refl _ _).alloc (Nat.le_refl _) _⟩
/-- Put of a number that fits. -/
theorem putZ (z : Nat) (hz : z = 2 ∨ z = 4 ∨ z = 8) (n : Int) (s : Bool) (h : fitsB n (8 * (z : Int)) s = true) (w : World) :
    Calls Tryd.prog 53 #[.int .i64 n, .int .i64 (z : Int)] w fun e w' => ∃ v, e = .returned (.tuple #[v, .int .i64 0]) ∧ Own w' w.heap.size v (pl n z) ∧ Below w.heap.size w w' := by
  have h' : fitsB n (8 * (z : Int)) true = true ∨ fitsB n (8 * (z : Int)) false = true := by cases s; exact .inr h; exact .inl h
  rcases hz with rfl | rfl | rfl
  · refine (put_2 n w h').mono ?_
    rintro e w' ⟨rfl, hown, hb⟩
    exact ⟨_, rfl, by unfold Own; rw [← part_full, pl_len]; exact hown, hb⟩
  · refine (put_4 n w h').mono ?_
    rintro e w' ⟨rfl, hown, hb⟩
    exact ⟨_, rfl, by unfold Own; rw [← part_full, pl_len]; exact hown, hb⟩
  · refine (put_8 n w h').mono ?_
    rintro e w' ⟨rfl, hown, hb⟩
    exact ⟨_, rfl, by unfold Own; rw [← part_full, pl_len]; exact hown, hb⟩
theorem size_of (f : Int) : fSize f = 2 ∨ fSize f = 4 ∨ fSize f = 8 := by
  unfold fSize
  split
  · omega
  · split <;> omega
theorem bytes_any (f n d : Int) (h : holdB f n = true) (hf : fOk f = true) (w : World) :
    Calls Tryd.prog 22 #[.agg #[.int .i64 (fSize f : Int), .bool (fSg f), .bool (fGr f), .int .i64 d], .int .i64 n] w fun e w' => ∃ v, e = .returned v ∧ Own w' w.heap.size v (putF f n) ∧ Below w.heap.size w w' := by
  have ha : awayB n = false := by unfold holdB at h; simp at h; exact h.1
  have hfit : fitsB n (8 * (fSize f : Int)) (fSg f) = true := by unfold holdB at h; simp at h; exact h.2
  have han := away_of ha
  have HP : Hid _ := ⟨putZ (fSize f) (size_of f) n (fSg f) hfit⟩
  have HU : Hid _ := ⟨uleb_any n⟩
  have HS : Hid _ := ⟨fun w => sleb_any n w (by omega)⟩
  have hul : fGr f = true → fSg f = false → (n % 18446744073709551616).toNat = n.toNat := fun hg hs => by
    have h8 : fSize f = 8 := by
      have := forms_of hf
      simp [fGr] at hg
      unfold fSize; rcases hg with rfl | rfl <;> rfl
    rw [h8, hs] at hfit
    simp [fitsB] at hfit
    omega
  have HN : Hid _ := ⟨hul⟩
  unfold putF
  clear ha hfit h hul
  generalize (fSize f : Int) = z at *
  cases hg : fGr f
  · simp only [Bool.false_eq_true, if_false]
    generalize fSg f = s at *
    go_enter Tryd.func22, Tryd.ntmps22
    go_wp2_with (go_at_call 53; (with_reducible refine (HP.out _).mono ?_); rintro e w1 ⟨v, he, ho, hb⟩; subst he)
    go_ret
    exact ⟨v, rfl, Own.lowE ho (by simp), ((Below.refl _ _).alloc (Nat.le_refl _) _).trans (hb.mono (by simp))⟩
  · cases hs : fSg f
    · simp only [Bool.false_eq_true, if_false, if_true]
      rw [HN.out hg hs] at HU
      go_enter Tryd.func22, Tryd.ntmps22
      go_wp2_with (go_at_call 55; (with_reducible refine (HU.out _).mono ?_); rintro e w1 ⟨v, he, ho, hb⟩; subst he)
      go_ret
      exact ⟨v, rfl, Own.lowE ho (by simp), ((Below.refl _ _).alloc (Nat.le_refl _) _).trans (hb.mono (by simp))⟩
    · simp only [if_true]
      go_enter Tryd.func22, Tryd.ntmps22
      go_wp2_with (go_at_call 54; (with_reducible refine (HS.out _).mono ?_); rintro e w1 ⟨v, he, ho, hb⟩; subst he)
      go_ret
      exact ⟨v, rfl, Own.lowE ho (by simp), ((Below.refl _ _).alloc (Nat.le_refl _) _).trans (hb.mono (by simp))⟩
theorem eX_ok {enc : Int} (h : encB enc = true) : eX enc = .agg #[.int .i64 (fSize (enc % 16) : Int), .bool (fSg (enc % 16)), .bool (fGr (enc % 16)), .int .i64 (eFrom enc)] := by
  unfold eX; rw [if_pos (enc_of h).1]; rfl
theorem eX_some (enc : Int) : ∃ (z : Int) (s g : Bool) (d : Int), eX enc = .agg #[.int .i64 z, .bool s, .bool g, .int .i64 d] := by
  unfold eX; split <;> exact ⟨_, _, _, _, rfl⟩
/-- A tuple of bytes and an error. -/
def PutEnd (E : Int) (l : List Int) (w : World) (e : Ending) (w' : World) : Prop := ∃ x, e = .returned (.tuple #[x, .int .i64 E]) ∧ Own w' w.heap.size x l ∧ Below w.heap.size w w'
theorem PutEnd.bad {E : Int} {w w' : World} (hb : Below w.heap.size w w') : PutEnd E [] w (.returned (.tuple #[.slice none 0 0, .int .i64 E])) w' := ⟨_, rfl, Own.nil _ _, hb⟩

set_option maxHeartbeats 2000000 in
theorem pput (enc v at' data : Int) (w : World) (h0 : -9223372036854775808 ≤ enc) (h1 : enc ≤ 9223372036854775807) :
    Calls Tryd.prog 6 #[.int .i64 enc, .int .i64 v, .int .i64 at', .int .i64 data] w (PutEnd (putE enc v at' data) (putL enc v at' data) w) := by
  have HE : Hid _ := ⟨fun w => encodingOf_any enc w h0 h1⟩
  have HA : Hid _ := ⟨isAddress_any⟩
  by_cases he : encB enc = true
  rotate_left
  · have he : encB enc = false := by simpa using he
    have e1 : putE enc v at' data = 140 := by unfold putE; rw [if_pos he]
    have e2 : putL enc v at' data = [] := by unfold putL; rw [e1]; rfl
    rw [e1, e2]
    rw [he] at HE
    obtain ⟨z, s, g, d, hX⟩ := eX_some enc
    rw [hX] at HE
    clear e1 e2 hX
    go_enter Tryd.func6, Tryd.ntmps6
    go_wp2_with (go_at_call 18; (with_reducible refine (HE.out _).mono ?_); rintro e w1 ⟨he, hb⟩; subst he)
    go_ret2
    exact PutEnd.bad (hb.alloc hb.size _)
  have hx := enc_of he
  rw [he, eX_ok he] at HE
  have HBa : Hid _ := ⟨base_any (fSize (enc % 16) : Int) (fSg (enc % 16)) (fGr (enc % 16)) (eFrom enc) at' data⟩
  have HMa : Hid _ := ⟨mayHold_any (fSize (enc % 16)) (size_of _) (fSg (enc % 16)) (fGr (enc % 16)) (eFrom enc) (v - baseV enc at' data)⟩
  have HBy : Hid _ := ⟨fun h => bytes_any (enc % 16) (v - baseV enc at' data) (eFrom enc) h hx.1⟩
  have hba : (if eFrom enc = 16 then at' else if eFrom enc = 48 then data else 0) = baseV enc at' data := rfl
  rw [hba] at HBa
  obtain ⟨a1, ha1⟩ : ∃ a, awayB v = a := ⟨_, rfl⟩
  obtain ⟨a2, ha2⟩ : ∃ a, awayB at' = a := ⟨_, rfl⟩
  obtain ⟨a3, ha3⟩ : ∃ a, awayB data = a := ⟨_, rfl⟩
  by_cases hfar : (a1 || (a2 || a3)) = true
  · have e1 : putE enc v at' data = 11 := by unfold putE; rw [if_neg (by rw [he]; simp), ha1, ha2, ha3, if_pos hfar]
    have e2 : putL enc v at' data = [] := by unfold putL; rw [e1]; rfl
    rw [e1, e2]
    clear e1 e2 HBa HMa HBy hba hx he
    generalize (fSize (enc % 16) : Int) = z at *
    generalize fSg (enc % 16) = s at *
    generalize fGr (enc % 16) = g at *
    generalize eFrom enc = d at *
    have H1 : Hid _ := ⟨isAddress_any v⟩
    have H2 : Hid _ := ⟨isAddress_any at'⟩
    have H3 : Hid _ := ⟨isAddress_any data⟩
    rw [ha1] at H1
    rw [ha2] at H2
    rw [ha3] at H3
    clear ha1 ha2 ha3 HA
    cases a1 <;> cases a2 <;> cases a3 <;> first
      | (simp at hfar; done)
      | (clear hfar
         go_enter Tryd.func6, Tryd.ntmps6
         go_wp2_with (first
           | (go_at_call 18; (with_reducible refine (HE.out _).mono ?_); rintro e w1 ⟨he, hb⟩; subst he)
           | (go_at_call 19; (first | (with_reducible refine (H1.out _).mono ?_) | (with_reducible refine (H2.out _).mono ?_) | (with_reducible refine (H3.out _).mono ?_)); rintro e wn ⟨he, hwn⟩; subst he; subst wn))
         go_ret2
         exact PutEnd.bad (hb.alloc hb.size _))
  have hfar' : a1 = false ∧ a2 = false ∧ a3 = false := by
    clear HE HA HBa HMa HBy hx ha1 ha2 ha3 hba
    revert hfar
    cases a1 <;> cases a2 <;> cases a3 <;> simp
  obtain ⟨rfl, rfl, rfl⟩ := hfar'
  have i1 := away_of ha1
  have i2 := away_of (base_in (enc := enc) ha2 ha3)
  have H1 : Hid _ := ⟨isAddress_any v⟩
  have H2 : Hid _ := ⟨isAddress_any at'⟩
  have H3 : Hid _ := ⟨isAddress_any data⟩
  rw [ha1] at H1
  rw [ha2] at H2
  rw [ha3] at H3
  have hh : (!awayB (v - baseV enc at' data) && fitsB (v - baseV enc at' data) (8 * (fSize (enc % 16) : Int)) (fSg (enc % 16))) = holdB (enc % 16) (v - baseV enc at' data) := rfl
  rw [hh] at HMa
  cases hho : holdB (enc % 16) (v - baseV enc at' data)
  · have e1 : putE enc v at' data = 11 := by unfold putE; rw [if_neg (by rw [he]; simp), ha1, ha2, ha3, if_neg (by simp), if_pos hho]
    have e2 : putL enc v at' data = [] := by unfold putL; rw [e1]; rfl
    rw [e1, e2]
    rw [hho] at HMa
    clear e1 e2 HBy hba hx he hh hho hfar ha1 ha2 ha3 HA
    generalize (fSize (enc % 16) : Int) = z at *
    generalize fSg (enc % 16) = s at *
    generalize fGr (enc % 16) = g at *
    generalize eFrom enc = d at *
    generalize baseV enc at' data = B at *
    go_enter Tryd.func6, Tryd.ntmps6
    go_wp2_with (first
      | (go_at_call 18; (with_reducible refine (HE.out _).mono ?_); rintro e w1 ⟨he, hb⟩; subst he)
      | (go_at_call 19; (first | (with_reducible refine (H1.out _).mono ?_) | (with_reducible refine (H2.out _).mono ?_) | (with_reducible refine (H3.out _).mono ?_)); rintro e wn ⟨he, hwn⟩; subst he; subst wn)
      | (go_at_call 20; (with_reducible refine (HBa.out _).mono ?_); rintro e w2 ⟨he, hb2⟩; subst he; have KX := (Bk.new w1 #[.int .i64 z, .bool s, .bool g, .int .i64 d] 60).bel hb2 (by simp); have k0 := KX.cell 0 rfl; have k1 := KX.cell 1 rfl; have k2 := KX.cell 2 rfl; have k3 := KX.cell 3 rfl; clear KX)
      | (go_at_call 21; (with_reducible refine (HMa.out _).mono ?_); rintro e w3 ⟨he, hb3⟩; subst he))
    go_ret2
    exact PutEnd.bad ((((hb.alloc hb.size _).trans (hb2.mono (by have := hb.size; simp; omega)))).trans (hb3.mono (by have := hb.size; have := hb2.size; simp at this; omega)))
  · have e1 : putE enc v at' data = 0 := by unfold putE; rw [if_neg (by rw [he]; simp), ha1, ha2, ha3, if_neg (by simp), if_neg (by rw [hho]; simp)]
    have e2 : putL enc v at' data = putF (enc % 16) (v - baseV enc at' data) := by unfold putL; rw [if_pos e1]
    rw [e1, e2]
    rw [hho] at HMa
    have HBz : Hid _ := ⟨HBy.out hho⟩
    clear e1 e2 HBy hba hx he hh hho hfar ha1 ha2 ha3 HA
    generalize putF (enc % 16) (v - baseV enc at' data) = L at *
    generalize (fSize (enc % 16) : Int) = z at *
    generalize fSg (enc % 16) = s at *
    generalize fGr (enc % 16) = g at *
    generalize eFrom enc = d at *
    generalize baseV enc at' data = B at *
    go_enter Tryd.func6, Tryd.ntmps6
    go_wp2_with (first
      | (go_at_call 18; (with_reducible refine (HE.out _).mono ?_); rintro e w1 ⟨he, hb⟩; subst he)
      | (go_at_call 19; (first | (with_reducible refine (H1.out _).mono ?_) | (with_reducible refine (H2.out _).mono ?_) | (with_reducible refine (H3.out _).mono ?_)); rintro e wn ⟨he, hwn⟩; subst he; subst wn)
      | (go_at_call 20; (with_reducible refine (HBa.out _).mono ?_); rintro e w2 ⟨he, hb2⟩; subst he; have HKX : Hid _ := ⟨(Bk.new w1 #[.int .i64 z, .bool s, .bool g, .int .i64 d] 60).bel hb2 (by simp)⟩; have k0 := HKX.out.cell 0 rfl; have k1 := HKX.out.cell 1 rfl; have k2 := HKX.out.cell 2 rfl; have k3 := HKX.out.cell 3 rfl)
      | (go_at_call 21; (with_reducible refine (HMa.out _).mono ?_); rintro e w3 ⟨he, hb3⟩; subst he; have KY := HKX.out.bel hb3 HKX.out.lt; clear k0 k1 k2 k3; have k0 := KY.cell 0 rfl; have k1 := KY.cell 1 rfl; have k2 := KY.cell 2 rfl; have k3 := KY.cell 3 rfl; clear KY)
      | (go_at_call 22; (with_reducible refine (HBz.out _).mono ?_); rintro e w4 ⟨x, he, ho, hb4⟩; subst he))
    go_ret2
    have hs1 := hb.size
    have hs2 := hb2.size
    have hs3 := hb3.size
    simp at hs2
    exact ⟨x, rfl, Own.lowE ho (by omega), ((((hb.alloc hb.size _).trans (hb2.mono (by simp; omega)))).trans (hb3.mono (by omega))).trans (hb4.mono (by omega))⟩

/-- What a form's number is, at a place of bytes: of the program, and of the document. -/
structure NumIs (f : Int) (len : Nat) (bs : Nat → Int) (t x i J g : Int) : Prop where
  rd : Rd f len t x i g
  j : g = 0 → J = i
  p : ∀ d ao cap w, Row w ao len bs → Calls Tryd.prog 32 #[.agg #[.int .i64 (fSize f : Int), .bool (fSg f), .bool (fGr f), .int .i64 d], .slice ao len cap, .int .i64 t] w fun e w' => e = .returned (.tuple #[.int .i64 x, .int .i64 J, .int .i64 g]) ∧ Below w.heap.size w w'
  u : f = 1 → ∀ ao cap w, Row w ao len bs → Calls Tryd.prog 33 #[.slice ao len cap, .int .i64 t] w fun e w' => e = .returned (.tuple #[.int .i64 x, .int .i64 i, .int .i64 g]) ∧ w' = w
  s : f = 9 → ∀ ao cap w, Row w ao len bs → Calls Tryd.prog 34 #[.slice ao len cap, .int .i64 t] w fun e w' => e = .returned (.tuple #[.int .i64 x, .int .i64 i, .int .i64 g]) ∧ w' = w
  n : fGr f = false → ∀ ao cap w, Row w ao len bs → Calls Tryd.prog 35 #[.slice ao len cap, .int .i64 t, .int .i64 (fSize f : Int), .bool (fSg f)] w fun e w' => e = .returned (.tuple #[.int .i64 x, .int .i64 g]) ∧ w' = w
  k : fGr f = false → g = 0 → i = t + fSize f

theorem bel_drewN {B : Nat} {a w : World} (h : Below B a w) (n : Nat) : Below B a (w.drewN n) := by
  induction n generalizing w with
  | zero => exact h
  | succ n ih => exact (ih h).drew
theorem row_alloc {w : World} {ao : Option Addr} {len : Nat} {bs : Nat → Int} (h : Row w ao len bs) (o : Obj) : Row (w.alloc o) ao len bs := h.below ((Below.refl w.heap.size w).alloc (Nat.le_refl _) o) (Nat.le_refl _)

set_option maxHeartbeats 1000000 in
theorem num_is (f : Int) (hf : fOk f = true) (len : Nat) (bs : Nat → Int) (t : Int) (hbs : ∀ i, 0 ≤ bs i ∧ bs i < 256) (hl : len ≤ 140737488355328) (ht : t ≤ 9223372036854775807) : ∃ x i J g : Int, NumIs f len bs t x i J g := by
  cases hg : fGr f
  · obtain ⟨x, g, hr, hp, hq⟩ := getF f hf hg len bs t hbs hl ht
    refine ⟨x, _, wrap64 (t + fSize f), g, hr, ?_, ?_, ?_, ?_, fun _ => hq, ?_⟩
    · intro e
      obtain ⟨i1, i2, i3, i4, _⟩ := hr.in' e
      rw [if_pos e] at i3 i4 ⊢
      unfold wrap64; omega
    · intro d ao cap w hrow
      have HP : Hid _ := ⟨hp ao cap⟩
      have HR : Hid (∀ o, Row (w.alloc o) ao len bs) := ⟨fun o => row_alloc hrow o⟩
      rw [hg]
      clear hp hq hr hf hg hbs
      generalize (fSize f : Int) = z at *
      generalize fSg f = sg at *
      go_enter Tryd.func32, Tryd.ntmps32
      go_upto_region 3 with (go_at_call 57; (with_reducible refine (HP.out _ (HR.out _)).mono ?_); rintro e w1 ⟨he, hb⟩; subst he; have KX := (Bk.new w #[.int .i64 z, .bool sg, .bool false, .int .i64 d] 60).bel hb (by simp); have k0 := KX.cell 0 rfl; clear KX)
      go_quiet (fail)
      go_wp2
      go_ret3
      exact ⟨rfl, bel_drewN (((Below.refl _ _).alloc (Nat.le_refl _) _).trans (hb.mono (by simp))) _⟩
    · intro e; subst e; simp [fGr] at hg
    · intro e; subst e; simp [fGr] at hg
    · intro _ e; rw [if_pos e]
  · have hf1 : f = 1 ∨ f = 9 := by simpa [fGr] using hg
    rcases hf1 with rfl | rfl
    · obtain ⟨x, i, g, hr, hp, hq⟩ := readUF len bs t hbs hl ht
      refine ⟨x, i, i, g, hr, fun _ => rfl, ?_, fun _ => hq, fun e => absurd e (by omega), fun e => by simp [fGr] at e, fun e => by simp [fGr] at e⟩
      intro d ao cap w hrow
      have HP : Hid _ := ⟨hp ao cap⟩
      have HR : Hid (∀ o, Row (w.alloc o) ao len bs) := ⟨fun o => row_alloc hrow o⟩
      clear hp hq hr hbs
      show Calls Tryd.prog 32 #[.agg #[.int .i64 8, .bool false, .bool true, .int .i64 d], .slice ao len cap, .int .i64 t] w _
      go_enter Tryd.func32, Tryd.ntmps32
      go_wp2_with (go_at_call 59; (with_reducible refine (HP.out _ (HR.out _)).mono ?_); rintro e w1 ⟨he, hb⟩; subst he)
      go_ret3
      exact ⟨rfl, ((Below.refl _ _).alloc (Nat.le_refl _) _).trans (hb.mono (by simp))⟩
    · obtain ⟨x, i, g, hr, hp, hq⟩ := readSF len bs t hbs hl ht
      refine ⟨x, i, i, g, hr, fun _ => rfl, ?_, fun e => absurd e (by omega), fun _ => hq, fun e => by simp [fGr] at e, fun e => by simp [fGr] at e⟩
      intro d ao cap w hrow
      have HP : Hid _ := ⟨hp ao cap⟩
      have HR : Hid (∀ o, Row (w.alloc o) ao len bs) := ⟨fun o => row_alloc hrow o⟩
      clear hp hq hr hbs
      show Calls Tryd.prog 32 #[.agg #[.int .i64 8, .bool true, .bool true, .int .i64 d], .slice ao len cap, .int .i64 t] w _
      go_enter Tryd.func32, Tryd.ntmps32
      go_wp2_with (go_at_call 58; (with_reducible refine (HP.out _ (HR.out _)).mono ?_); rintro e w1 ⟨he, hb⟩; subst he)
      go_ret3
      exact ⟨rfl, ((Below.refl _ _).alloc (Nat.le_refl _) _).trans (hb.mono (by simp))⟩
/-- What Get answers: where the pointer's number, x, was read behind t. -/
def getE (enc t addr data x g : Int) : Int :=
  if encB enc = false then 140 else if (awayB addr || awayB data) = true then 11 else if g ≠ 0 then g else if holdB (enc % 16) x = false then 11 else if awayB (x + baseV enc (addr + t) data) = true then 11 else 0
def getV (enc t addr data x g : Int) : Int := if getE enc t addr data x g = 0 then x + baseV enc (addr + t) data else 0
def getI (enc t addr data x i g : Int) : Int := if getE enc t addr data x g = 0 then i else 0

set_option maxHeartbeats 2000000 in
theorem pget (enc t addr data : Int) (len : Nat) (bs : Nat → Int) (x i J g : Int) (h0 : -9223372036854775808 ≤ enc) (h1 : enc ≤ 9223372036854775807) (hl : len ≤ 140737488355328) (hN : encB enc = true → NumIs (enc % 16) len bs t x i J g)
    (ao : Option Addr) (cap : Nat) (w : World) (hrow : Row w ao len bs) :
    Calls Tryd.prog 8 #[.slice ao len cap, .int .i64 t, .int .i64 enc, .int .i64 addr, .int .i64 data] w fun e w' => e = .returned (.tuple #[.int .i64 (getV enc t addr data x g), .int .i64 (getI enc t addr data x i g), .int .i64 (getE enc t addr data x g)]) ∧ Below w.heap.size w w' := by
  have HE : Hid _ := ⟨fun w => encodingOf_any enc w h0 h1⟩
  by_cases he : encB enc = true
  rotate_left
  · have he : encB enc = false := by simpa using he
    have e1 : getE enc t addr data x g = 140 := by unfold getE; rw [if_pos he]
    have e2 : getV enc t addr data x g = 0 := by unfold getV; rw [e1]; rfl
    have e3 : getI enc t addr data x i g = 0 := by unfold getI; rw [e1]; rfl
    rw [e1, e2, e3]
    rw [he] at HE
    obtain ⟨z, s, g, d, hX⟩ := eX_some enc
    rw [hX] at HE
    clear e1 e2 hX hN hrow
    go_enter Tryd.func8, Tryd.ntmps8
    go_wp2_with (go_at_call 18; (with_reducible refine (HE.out _).mono ?_); rintro e w1 ⟨he, hb⟩; subst he)
    go_ret3
    exact ⟨rfl, hb.alloc hb.size _⟩
  have hx := enc_of he
  have hn := hN he
  rw [he, eX_ok he] at HE
  have H1 : Hid _ := ⟨isAddress_any addr⟩
  have H2 : Hid _ := ⟨isAddress_any data⟩
  obtain ⟨a1, ha1⟩ : ∃ a, awayB addr = a := ⟨_, rfl⟩
  obtain ⟨a2, ha2⟩ : ∃ a, awayB data = a := ⟨_, rfl⟩
  rw [ha1] at H1
  rw [ha2] at H2
  by_cases hfar : (a1 || a2) = true
  · have e1 : getE enc t addr data x g = 11 := by unfold getE; rw [if_neg (by rw [he]; simp), ha1, ha2, if_pos hfar]
    have e2 : getV enc t addr data x g = 0 := by unfold getV; rw [e1]; rfl
    have e3 : getI enc t addr data x i g = 0 := by unfold getI; rw [e1]; rfl
    rw [e1, e2, e3]
    clear e1 e2 e3 hN hn hrow ha1 ha2 he hx
    generalize (fSize (enc % 16) : Int) = z at *
    generalize fSg (enc % 16) = s at *
    generalize fGr (enc % 16) = g at *
    generalize eFrom enc = d at *
    cases a1 <;> cases a2 <;> first
      | (simp at hfar; done)
      | (clear hfar
         go_enter Tryd.func8, Tryd.ntmps8
         go_wp2_with (first
           | (go_at_call 18; (with_reducible refine (HE.out _).mono ?_); rintro e w1 ⟨he, hb⟩; subst he)
           | (go_at_call 19; (first | (with_reducible refine (H1.out _).mono ?_) | (with_reducible refine (H2.out _).mono ?_)); rintro e wn ⟨he, hwn⟩; subst he; subst wn))
         go_ret3
         exact ⟨rfl, hb.alloc hb.size _⟩)
  have hfar' : a1 = false ∧ a2 = false := by
    clear HE H1 H2 ha1 ha2 hn hN hx
    revert hfar
    cases a1 <;> cases a2 <;> simp
  obtain ⟨rfl, rfl⟩ := hfar'
  have HNp : Hid _ := ⟨hn.p (eFrom enc) ao cap⟩
  have HRw : Hid _ := ⟨hrow⟩
  have hgE : getE enc t addr data x g = if g ≠ 0 then g else if holdB (enc % 16) x = false then 11 else if awayB (x + baseV enc (addr + t) data) = true then 11 else 0 := by
    unfold getE; rw [if_neg (by rw [he]; simp), ha1, ha2, if_neg (by simp)]
  by_cases hg0 : g = 0
  rotate_left
  · have e1 : getE enc t addr data x g = g := by rw [hgE, if_pos hg0]
    have e2 : getV enc t addr data x g = 0 := by unfold getV; rw [e1, if_neg hg0]
    have e3 : getI enc t addr data x i g = 0 := by unfold getI; rw [e1, if_neg hg0]
    rw [e1, e2, e3]
    have gn : (g != 0) = true := by simpa using hg0
    have gn' : (g == 0) = false := by simpa using hg0
    clear e1 e2 e3 hN hn hrow ha1 ha2 he hx hgE
    generalize (fSize (enc % 16) : Int) = z at *
    generalize fSg (enc % 16) = s at *
    generalize fGr (enc % 16) = gg at *
    generalize eFrom enc = d at *
    go_enter Tryd.func8, Tryd.ntmps8
    go_wp2_with (first
      | (go_at_call 18; (with_reducible refine (HE.out _).mono ?_); rintro e w1 ⟨he, hb⟩; subst he)
      | (go_at_call 19; (first | (with_reducible refine (H1.out _).mono ?_) | (with_reducible refine (H2.out _).mono ?_)); rintro e wn ⟨he, hwn⟩; subst he; subst wn)
      | (go_at_call 32; (with_reducible refine (HNp.out _ (row_alloc (HRw.out.below hb (Nat.le_refl _)) _)).mono ?_); rintro e w2 ⟨he, hb2⟩; subst he))
    go_ret3
    have hs1 := hb.size
    exact ⟨rfl, (hb.alloc hb.size _).trans (hb2.mono (by simp; omega))⟩
  subst hg0
  obtain ⟨t0, t1, i0, i1, hfit⟩ := hn.rd.in' rfl
  have hJ := hn.j rfl
  have HMa : Hid _ := ⟨mayHold_any (fSize (enc % 16)) (size_of _) (fSg (enc % 16)) (fGr (enc % 16)) (eFrom enc) x⟩
  have hh : (!awayB x && fitsB x (8 * (fSize (enc % 16) : Int)) (fSg (enc % 16))) = holdB (enc % 16) x := rfl
  rw [hh] at HMa
  cases hho : holdB (enc % 16) x
  · have e1 : getE enc t addr data x 0 = 11 := by rw [hgE, if_neg (by simp), if_pos hho]
    have e2 : getV enc t addr data x 0 = 0 := by unfold getV; rw [e1]; rfl
    have e3 : getI enc t addr data x i 0 = 0 := by unfold getI; rw [e1]; rfl
    rw [e1, e2, e3]
    rw [hho] at HMa
    clear e1 e2 e3 hN hn hrow ha1 ha2 he hx hgE hh hho hfit
    generalize (fSize (enc % 16) : Int) = z at *
    generalize fSg (enc % 16) = s at *
    generalize fGr (enc % 16) = gg at *
    generalize eFrom enc = d at *
    go_enter Tryd.func8, Tryd.ntmps8
    go_wp2_with (first
      | (go_at_call 18; (with_reducible refine (HE.out _).mono ?_); rintro e w1 ⟨he, hb⟩; subst he)
      | (go_at_call 19; (first | (with_reducible refine (H1.out _).mono ?_) | (with_reducible refine (H2.out _).mono ?_)); rintro e wn ⟨he, hwn⟩; subst he; subst wn)
      | (go_at_call 32; (with_reducible refine (HNp.out _ (row_alloc (HRw.out.below hb (Nat.le_refl _)) _)).mono ?_); rintro e w2 ⟨he, hb2⟩; subst he; have HKX : Hid _ := ⟨(Bk.new w1 #[.int .i64 z, .bool s, .bool gg, .int .i64 d] 60).bel hb2 (by simp)⟩; have k0 := HKX.out.cell 0 rfl; have k1 := HKX.out.cell 1 rfl; have k2 := HKX.out.cell 2 rfl; have k3 := HKX.out.cell 3 rfl)
      | (go_at_call 21; (with_reducible refine (HMa.out _).mono ?_); rintro e w3 ⟨he, hb3⟩; subst he))
    go_ret3
    have hs1 := hb.size
    have hs2 := hb2.size
    simp at hs2
    exact ⟨rfl, ((hb.alloc hb.size _).trans (hb2.mono (by simp; omega))).trans (hb3.mono (by omega))⟩
  have i3 := away_of ha1
  have i4 := away_of ha2
  have hxa : awayB x = false := by unfold holdB at hho; simp at hho; exact hho.1
  have i5 := away_of hxa
  have hbin : -1152921504606846976 ≤ baseV enc (addr + t) data ∧ baseV enc (addr + t) data ≤ 1152921504606846976 + 140737488355328 := by
    unfold baseV; split
    · omega
    · split <;> omega
  have HBa : Hid _ := ⟨base_any (fSize (enc % 16) : Int) (fSg (enc % 16)) (fGr (enc % 16)) (eFrom enc) (addr + t) data⟩
  have hba : (if eFrom enc = 16 then addr + t else if eFrom enc = 48 then data else 0) = baseV enc (addr + t) data := rfl
  rw [hba] at HBa
  have HA3 : Hid _ := ⟨isAddress_any (x + baseV enc (addr + t) data)⟩
  obtain ⟨av, hav⟩ : ∃ a, awayB (x + baseV enc (addr + t) data) = a := ⟨_, rfl⟩
  rw [hav] at HA3
  have e1 : getE enc t addr data x 0 = if av = true then 11 else 0 := by rw [hgE, if_neg (by simp), if_neg (by rw [hho]; simp), hav]
  have e2 : getV enc t addr data x 0 = if av = true then 0 else x + baseV enc (addr + t) data := by unfold getV; rw [e1]; cases av <;> rfl
  have e3 : getI enc t addr data x i 0 = if av = true then 0 else i := by unfold getI; rw [e1]; cases av <;> rfl
  rw [e1, e2, e3]
  rw [hho] at HMa
  clear e1 e2 e3 hN hn hrow ha1 ha2 he hx hgE hh hho hfit hav hxa hba
  generalize (fSize (enc % 16) : Int) = z at *
  generalize fSg (enc % 16) = s at *
  generalize fGr (enc % 16) = gg at *
  generalize eFrom enc = d at *
  generalize baseV enc (addr + t) data = B at *
  subst hJ
  cases av
  all_goals
    simp only [Bool.false_eq_true, if_false, if_true]
    go_enter Tryd.func8, Tryd.ntmps8
    go_wp2_with (first
      | (go_at_call 18; (with_reducible refine (HE.out _).mono ?_); rintro e w1 ⟨he, hb⟩; subst he)
      | (go_at_call 19; (first | (with_reducible refine (H1.out _).mono ?_) | (with_reducible refine (H2.out _).mono ?_) | (with_reducible refine (HA3.out _).mono ?_)); rintro e wn ⟨he, hwn⟩; subst he; subst wn)
      | (go_at_call 32; (with_reducible refine (HNp.out _ (row_alloc (HRw.out.below hb (Nat.le_refl _)) _)).mono ?_); rintro e w2 ⟨he, hb2⟩; subst he; have HKX : Hid _ := ⟨(Bk.new w1 #[.int .i64 z, .bool s, .bool gg, .int .i64 d] 60).bel hb2 (by simp)⟩; have k0 := HKX.out.cell 0 rfl; have k1 := HKX.out.cell 1 rfl; have k2 := HKX.out.cell 2 rfl; have k3 := HKX.out.cell 3 rfl)
      | (go_at_call 21; (with_reducible refine (HMa.out _).mono ?_); rintro e w3 ⟨he, hb3⟩; subst he; have KY := HKX.out.bel hb3 HKX.out.lt; clear k0 k1 k2 k3; have k0 := KY.cell 0 rfl; have k1 := KY.cell 1 rfl; have k2 := KY.cell 2 rfl; have k3 := KY.cell 3 rfl; clear KY)
      | (go_at_call 20; (with_reducible refine (HBa.out _).mono ?_); rintro e w4 ⟨he, hb4⟩; subst he))
    go_ret3
    have hs1 := hb.size
    have hs2 := hb2.size
    have hs3 := hb3.size
    simp at hs2
    exact ⟨rfl, (((hb.alloc hb.size _).trans (hb2.mono (by simp; omega))).trans (hb3.mono (by omega))).trans (hb4.mono (by omega))⟩
end Go.Proofs.YtomboebfbipaaaaDoor
