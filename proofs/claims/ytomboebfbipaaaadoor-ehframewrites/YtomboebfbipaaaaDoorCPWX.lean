/- The program's Write: an op's bytes; Write whole. The program's Write, whole. -/
import Derived.Test.YtomboebfbipaaaaDoorCPW
namespace Go.Proofs.YtomboebfbipaaaaDoor
open Go.ChangeShapes Go.WideShapes Go.ChangeAt Go.RowKit
set_option linter.unusedVariables false
set_option linter.unusedSimpArgs false

/-- One number, two numbers behind a byte, in rows that were just made. -/
theorem numbers_1 {base : Nat} {w : World} {v : Value} {xs : List Int} (ho : Own w base v xs) (hb : base ≤ w.heap.size) (hx : xs.length ≤ 1000000) (c x : Int) :
    Calls Tryd.prog 103 #[v, .int .u8 c, .slice (some ⟨w.heap.size, 0, none⟩) 1 1] (w.alloc (.cells #[.int .i64 x] 3)) fun e w' => ∃ v', e = .returned v' ∧ AE base w v w' v' (xs ++ (c :: ulB x)) := by
  have B1 : Below w.heap.size w (w.alloc (.cells #[.int .i64 x] 3)) := (Below.refl _ _).alloc (Nat.le_refl _) _
  refine (appendNumbers_any (ho.bel B1) (Nat.le_trans hb B1.size) hx c [x] (by simp) w.heap.size 1 (fun e => by have := (ho.lt _ e).2; omega) (fun i hi => ?_) (by simp)).mono ?_
  · have : i = 0 := by simp at hi; omega
    subst this
    simp
  · rintro e w' ⟨v', rfl, hA⟩
    exact ⟨v', rfl, (AE.pre B1 hA).to (by simp)⟩
theorem numbers_2 {base : Nat} {w : World} {v : Value} {xs : List Int} (ho : Own w base v xs) (hb : base ≤ w.heap.size) (hx : xs.length ≤ 1000000) (c x y : Int) :
    Calls Tryd.prog 103 #[v, .int .u8 c, .slice (some ⟨w.heap.size, 0, none⟩) 2 2] (w.alloc (.cells #[.int .i64 x, .int .i64 y] 3)) fun e w' => ∃ v', e = .returned v' ∧ AE base w v w' v' (xs ++ (c :: (ulB x ++ ulB y))) := by
  have B1 : Below w.heap.size w (w.alloc (.cells #[.int .i64 x, .int .i64 y] 3)) := (Below.refl _ _).alloc (Nat.le_refl _) _
  refine (appendNumbers_any (ho.bel B1) (Nat.le_trans hb B1.size) hx c [x, y] (by simp) w.heap.size 2 (fun e => by have := (ho.lt _ e).2; omega) (fun i hi => ?_) (by simp)).mono ?_
  · have : i = 0 ∨ i = 1 := by simp at hi; omega
    rcases this with rfl | rfl <;> simp
  · rintro e w' ⟨v', rfl, hA⟩
    exact ⟨v', rfl, (AE.pre B1 hA).to (by simp)⟩

set_option maxRecDepth 10000 in
set_option maxHeartbeats 1000000 in
theorem appendOffset_any {base : Nat} {w : World} {v : Value} {xs : List Int} (ho : Own w base v xs) (hb : base ≤ w.heap.size) (hx : xs.length ≤ 1000000) (r u : Int) (hr0 : 0 ≤ r) (hr1 : r ≤ 16) (hu0 : -1000000000 ≤ u) (hu1 : u ≤ 1000000000) :
    Calls Tryd.prog 104 #[v, .int .i64 r, .int .i64 u] w fun e w' => ∃ v', e = .returned v' ∧ AE base w v w' v' (xs ++ (if u < 0 then 17 :: (ulB r ++ sl u) else (128 + r) :: ulB u)) := by
  have hlr := ulB_len r
  have hlu := ulB_len u
  have HO : Hid _ := ⟨ho⟩
  by_cases hu : u < 0
  · rw [if_pos hu]
    have HN : Hid _ := ⟨numbers_1 ho hb hx 17 r⟩
    have hls := sl_len10 u (by omega)
    have HS : Hid (∀ w1, Calls Tryd.prog 54 #[.int .i64 u] w1 fun e w' => ∃ v, e = .returned v ∧ Own w' w1.heap.size v (sl u) ∧ Below w1.heap.size w1 w') := ⟨fun w1 => sleb_any u w1 (by omega)⟩
    have HX : Hid ((xs ++ (17 :: ulB r)).length + (sl u).length ≤ 140737488355328 ∧ base ≤ w.heap.size) := ⟨by simp; omega, hb⟩
    clear ho hx hb hlr hlu hls
    go_enter Tryd.func104, Tryd.ntmps104
    go_wp2_with (first
      | (go_at_call 103; (with_reducible refine HN.out.mono ?_); rintro e w3 ⟨v3, he, hA3⟩; subst he; have H3 : Hid _ := ⟨hA3⟩; clear hA3)
      | (go_at_call 54; (with_reducible refine (HS.out _).mono ?_); rintro e w5 ⟨v5, he, ho5, hb5⟩; subst he; have H5 : Hid _ := ⟨ho5⟩; have HB5 : Hid _ := ⟨hb5⟩; clear ho5 hb5)
      | (at_builtin; refine append_bk w5 rfl _ _ rfl base _ (xs ++ (17 :: ulB r)) rfl (H3.out.own.bel HB5.out) _ (sl u) rfl H5.out.bt HX.out.1 (Nat.le_trans HX.out.2 (Nat.le_trans H3.out.gr.size HB5.out.size)) ?_; intro v6 w6 hA6; have H6 : Hid _ := ⟨H3.out.trans (AE.pre HB5.out hA6)⟩; clear hA6))
    go_ret
    exact ⟨_, rfl, H6.out.to (by simp)⟩
  · rw [if_neg hu]
    have HU : Hid (∀ w1, Calls Tryd.prog 55 #[.int .i64 u] w1 fun e w' => ∃ v, e = .returned v ∧ Own w' w1.heap.size v (ulB u) ∧ Below w1.heap.size w1 w') := ⟨fun w1 => uleb_any u w1⟩
    have HX : Hid (xs.length + 1 ≤ 140737488355328 ∧ (xs ++ [128 + r]).length + (ulB u).length ≤ 140737488355328 ∧ base ≤ w.heap.size) := ⟨by omega, by simp; omega, hb⟩
    clear ho hx hb hlr hlu
    have tk : True := trivial
    go_enter Tryd.func104, Tryd.ntmps104
    go_wp2_with (first
      | (at_builtin; have _t := tk; refine append_bk (w.alloc (.cells #[.int .u8 (128 + r)] 5)) rfl _ _ rfl base v xs rfl (HO.out.bel ((Below.refl _ _).alloc (Nat.le_refl _) _)) _ [128 + r] rfl (bt_lit w (128 + r)) (by simpa using HX.out.1) (by have := HX.out.2.2; simp; omega) ?_; intro v3 w3 hA3; clear tk _t; have H3 : Hid (AE base w v w3 v3 (xs ++ [128 + r])) := ⟨AE.pre ((Below.refl _ _).alloc (Nat.le_refl _) _) hA3⟩; clear hA3)
      | (go_at_call 55; (with_reducible refine (HU.out _).mono ?_); rintro e w5 ⟨v5, he, ho5, hb5⟩; subst he; have H5 : Hid _ := ⟨ho5⟩; have HB5 : Hid _ := ⟨hb5⟩; clear ho5 hb5)
      | (at_builtin; refine append_bk w5 rfl _ _ rfl base _ (xs ++ [128 + r]) rfl (H3.out.own.bel HB5.out) _ (ulB u) rfl H5.out.bt HX.out.2.1 (Nat.le_trans HX.out.2.2 (Nat.le_trans H3.out.gr.size HB5.out.size)) ?_; intro v6 w6 hA6; have H6 : Hid _ := ⟨H3.out.trans (AE.pre HB5.out hA6)⟩; clear hA6))
    go_ret
    exact ⟨_, rfl, H6.out.to (by simp)⟩

theorem neg_div8 (n : Int) : (-n).tdiv 8 = -(n.tdiv 8) := Int.neg_tdiv n 8
theorem off_bytes {r n : Int} (h8 : n.tmod 8 = 0) : (if -(n.tdiv 8) < 0 then 17 :: (ulB r ++ sl (-(n.tdiv 8))) else (128 + r) :: ulB (-(n.tdiv 8))) = (if n ≤ 0 then (128 + r) :: ulB (-(n.tdiv 8)) else 17 :: (ulB r ++ sl (-(n.tdiv 8)))) := by
  have e := Int.mul_tdiv_add_tmod n 8
  rw [h8] at e
  by_cases h : n ≤ 0
  · rw [if_neg (by omega), if_pos h]
  · rw [if_pos (by omega), if_neg h]

set_option maxRecDepth 10000 in
set_option maxHeartbeats 1000000 in
theorem appendOp_1 {base : Nat} {w : World} {v : Value} {xs : List Int} (ho : Own w base v xs) (hb : base ≤ w.heap.size) (hx : xs.length ≤ 1000000) (r n : Int) (h0 : 0 ≤ n) (h1 : n < 2147483648) :
    Calls Tryd.prog 94 #[v, .agg #[.int .i64 1, .int .i64 r, .int .i64 n]] w fun e w' => ∃ v', e = .returned v' ∧ AE base w v w' v' (xs ++ oneB ⟨1, r, n⟩) := by
  have B1 : Below w.heap.size w (w.alloc (.cells #[.int .i64 1, .int .i64 r, .int .i64 n] 102)) := (Below.refl _ _).alloc (Nat.le_refl _) _
  have O1 : Bk (w.alloc (.cells #[.int .i64 1, .int .i64 r, .int .i64 n] 102)) w.heap.size 102 #[.int .i64 1, .int .i64 r, .int .i64 n] := Bk.new w _ _
  have ho1 := ho.bel B1
  have hb1 := Nat.le_trans hb B1.size
  have HC : Hid _ := ⟨appendAdvance_any ho1 hb1 hx n h0 h1⟩
  go_enter Tryd.func94, Tryd.ntmps94
  go_upto_region 1 with fail
  generalize w.alloc (.cells #[.int .i64 1, .int .i64 r, .int .i64 n] 102) = W1 at *
  have d0 := O1.cell 0 rfl
  have d1 := O1.cell 1 rfl
  have d2 := O1.cell 2 rfl
  have HB1 : Hid _ := ⟨B1⟩
  have HO1 : Hid _ := ⟨ho1⟩
  have HX : Hid (xs.length ≤ 1000000 ∧ base ≤ W1.heap.size) := ⟨hx, hb1⟩
  clear B1 O1 ho1 ho hb hx hb1
  go_wp2_with (go_at_call 102; (with_reducible refine HC.out.mono ?_); rintro e w3 ⟨v3, he, hA3⟩; subst he; have H3 : Hid _ := ⟨hA3⟩; clear hA3)
  go_ret
  exact ⟨_, rfl, (AE.pre HB1.out H3.out).to (by simp [oneB])⟩

set_option maxRecDepth 10000 in
set_option maxHeartbeats 1000000 in
theorem appendOp_2 {base : Nat} {w : World} {v : Value} {xs : List Int} (ho : Own w base v xs) (hb : base ≤ w.heap.size) (hx : xs.length ≤ 1000000) (r n : Int) :
    Calls Tryd.prog 94 #[v, .agg #[.int .i64 2, .int .i64 r, .int .i64 n]] w fun e w' => ∃ v', e = .returned v' ∧ AE base w v w' v' (xs ++ oneB ⟨2, r, n⟩) := by
  have B1 : Below w.heap.size w (w.alloc (.cells #[.int .i64 2, .int .i64 r, .int .i64 n] 102)) := (Below.refl _ _).alloc (Nat.le_refl _) _
  have O1 : Bk (w.alloc (.cells #[.int .i64 2, .int .i64 r, .int .i64 n] 102)) w.heap.size 102 #[.int .i64 2, .int .i64 r, .int .i64 n] := Bk.new w _ _
  have ho1 := ho.bel B1
  have hb1 := Nat.le_trans hb B1.size
  have HC : Hid _ := ⟨numbers_2 ho1 hb1 hx 12 r n⟩
  go_enter Tryd.func94, Tryd.ntmps94
  go_upto_region 1 with fail
  generalize w.alloc (.cells #[.int .i64 2, .int .i64 r, .int .i64 n] 102) = W1 at *
  have d0 := O1.cell 0 rfl
  have d1 := O1.cell 1 rfl
  have d2 := O1.cell 2 rfl
  have HB1 : Hid _ := ⟨B1⟩
  have HO1 : Hid _ := ⟨ho1⟩
  have HX : Hid (xs.length ≤ 1000000 ∧ base ≤ W1.heap.size) := ⟨hx, hb1⟩
  clear B1 O1 ho1 ho hb hx hb1
  go_wp2_with (go_at_call 103; (with_reducible refine HC.out.mono ?_); rintro e w3 ⟨v3, he, hA3⟩; subst he; have H3 : Hid _ := ⟨hA3⟩; clear hA3)
  go_ret
  exact ⟨_, rfl, (AE.pre HB1.out H3.out).to (by simp [oneB])⟩

set_option maxRecDepth 10000 in
set_option maxHeartbeats 1000000 in
theorem appendOp_3 {base : Nat} {w : World} {v : Value} {xs : List Int} (ho : Own w base v xs) (hb : base ≤ w.heap.size) (hx : xs.length ≤ 1000000) (r n : Int) :
    Calls Tryd.prog 94 #[v, .agg #[.int .i64 3, .int .i64 r, .int .i64 n]] w fun e w' => ∃ v', e = .returned v' ∧ AE base w v w' v' (xs ++ oneB ⟨3, r, n⟩) := by
  have B1 : Below w.heap.size w (w.alloc (.cells #[.int .i64 3, .int .i64 r, .int .i64 n] 102)) := (Below.refl _ _).alloc (Nat.le_refl _) _
  have O1 : Bk (w.alloc (.cells #[.int .i64 3, .int .i64 r, .int .i64 n] 102)) w.heap.size 102 #[.int .i64 3, .int .i64 r, .int .i64 n] := Bk.new w _ _
  have ho1 := ho.bel B1
  have hb1 := Nat.le_trans hb B1.size
  have HC : Hid _ := ⟨numbers_1 ho1 hb1 hx 14 n⟩
  go_enter Tryd.func94, Tryd.ntmps94
  go_upto_region 1 with fail
  generalize w.alloc (.cells #[.int .i64 3, .int .i64 r, .int .i64 n] 102) = W1 at *
  have d0 := O1.cell 0 rfl
  have d1 := O1.cell 1 rfl
  have d2 := O1.cell 2 rfl
  have HB1 : Hid _ := ⟨B1⟩
  have HO1 : Hid _ := ⟨ho1⟩
  have HX : Hid (xs.length ≤ 1000000 ∧ base ≤ W1.heap.size) := ⟨hx, hb1⟩
  clear B1 O1 ho1 ho hb hx hb1
  go_wp2_with (go_at_call 103; (with_reducible refine HC.out.mono ?_); rintro e w3 ⟨v3, he, hA3⟩; subst he; have H3 : Hid _ := ⟨hA3⟩; clear hA3)
  go_ret
  exact ⟨_, rfl, (AE.pre HB1.out H3.out).to (by simp [oneB])⟩

set_option maxRecDepth 10000 in
set_option maxHeartbeats 1000000 in
theorem appendOp_4 {base : Nat} {w : World} {v : Value} {xs : List Int} (ho : Own w base v xs) (hb : base ≤ w.heap.size) (hx : xs.length ≤ 1000000) (r n : Int) :
    Calls Tryd.prog 94 #[v, .agg #[.int .i64 4, .int .i64 r, .int .i64 n]] w fun e w' => ∃ v', e = .returned v' ∧ AE base w v w' v' (xs ++ oneB ⟨4, r, n⟩) := by
  have B1 : Below w.heap.size w (w.alloc (.cells #[.int .i64 4, .int .i64 r, .int .i64 n] 102)) := (Below.refl _ _).alloc (Nat.le_refl _) _
  have O1 : Bk (w.alloc (.cells #[.int .i64 4, .int .i64 r, .int .i64 n] 102)) w.heap.size 102 #[.int .i64 4, .int .i64 r, .int .i64 n] := Bk.new w _ _
  have ho1 := ho.bel B1
  have hb1 := Nat.le_trans hb B1.size
  have HC : Hid _ := ⟨numbers_1 ho1 hb1 hx 13 r⟩
  go_enter Tryd.func94, Tryd.ntmps94
  go_upto_region 1 with fail
  generalize w.alloc (.cells #[.int .i64 4, .int .i64 r, .int .i64 n] 102) = W1 at *
  have d0 := O1.cell 0 rfl
  have d1 := O1.cell 1 rfl
  have d2 := O1.cell 2 rfl
  have HB1 : Hid _ := ⟨B1⟩
  have HO1 : Hid _ := ⟨ho1⟩
  have HX : Hid (xs.length ≤ 1000000 ∧ base ≤ W1.heap.size) := ⟨hx, hb1⟩
  clear B1 O1 ho1 ho hb hx hb1
  go_wp2_with (go_at_call 103; (with_reducible refine HC.out.mono ?_); rintro e w3 ⟨v3, he, hA3⟩; subst he; have H3 : Hid _ := ⟨hA3⟩; clear hA3)
  go_ret
  exact ⟨_, rfl, (AE.pre HB1.out H3.out).to (by simp [oneB])⟩

set_option maxRecDepth 10000 in
set_option maxHeartbeats 1000000 in
theorem appendOp_5 {base : Nat} {w : World} {v : Value} {xs : List Int} (ho : Own w base v xs) (hb : base ≤ w.heap.size) (hx : xs.length ≤ 1000000) (r n : Int) (hr0 : 0 ≤ r) (hr1 : r ≤ 16) (h0 : -2147483648 ≤ n) (h1 : n < 2147483648) (h8 : n.tmod 8 = 0) :
    Calls Tryd.prog 94 #[v, .agg #[.int .i64 5, .int .i64 r, .int .i64 n]] w fun e w' => ∃ v', e = .returned v' ∧ AE base w v w' v' (xs ++ oneB ⟨5, r, n⟩) := by
  have B1 : Below w.heap.size w (w.alloc (.cells #[.int .i64 5, .int .i64 r, .int .i64 n] 102)) := (Below.refl _ _).alloc (Nat.le_refl _) _
  have O1 : Bk (w.alloc (.cells #[.int .i64 5, .int .i64 r, .int .i64 n] 102)) w.heap.size 102 #[.int .i64 5, .int .i64 r, .int .i64 n] := Bk.new w _ _
  have ho1 := ho.bel B1
  have hb1 := Nat.le_trans hb B1.size
  have ht := tdiv8 h0 h1
  have HC : Hid _ := ⟨appendOffset_any ho1 hb1 hx r ((-n).tdiv 8) hr0 hr1 (by rw [neg_div8]; omega) (by rw [neg_div8]; omega)⟩
  rw [neg_div8, off_bytes h8] at HC
  have hnn : (-n).tdiv 8 = -(n.tdiv 8) := neg_div8 n
  have HND : Hid _ := ⟨hnn⟩
  clear hnn
  go_enter Tryd.func94, Tryd.ntmps94
  go_upto_region 1 with fail
  generalize w.alloc (.cells #[.int .i64 5, .int .i64 r, .int .i64 n] 102) = W1 at *
  have d0 := O1.cell 0 rfl
  have d1 := O1.cell 1 rfl
  have d2 := O1.cell 2 rfl
  have HB1 : Hid _ := ⟨B1⟩
  have HO1 : Hid _ := ⟨ho1⟩
  have HX : Hid (xs.length ≤ 1000000 ∧ base ≤ W1.heap.size) := ⟨hx, hb1⟩
  clear B1 O1 ho1 ho hb hx hb1
  go_wp2_with (go_at_call 104; (with_reducible refine HC.out.mono ?_); rintro e w3 ⟨v3, he, hA3⟩; subst he; have H3 : Hid _ := ⟨hA3⟩; clear hA3)
  go_ret
  exact ⟨_, rfl, (AE.pre HB1.out H3.out).to (by simp [oneB])⟩

set_option maxRecDepth 10000 in
set_option maxHeartbeats 1000000 in
theorem appendOp_6 {base : Nat} {w : World} {v : Value} {xs : List Int} (ho : Own w base v xs) (hb : base ≤ w.heap.size) (hx : xs.length ≤ 1000000) (r n : Int) (hr0 : 0 ≤ r) (hr1 : r ≤ 16) :
    Calls Tryd.prog 94 #[v, .agg #[.int .i64 6, .int .i64 r, .int .i64 n]] w fun e w' => ∃ v', e = .returned v' ∧ AE base w v w' v' (xs ++ oneB ⟨6, r, n⟩) := by
  have B1 : Below w.heap.size w (w.alloc (.cells #[.int .i64 6, .int .i64 r, .int .i64 n] 102)) := (Below.refl _ _).alloc (Nat.le_refl _) _
  have O1 : Bk (w.alloc (.cells #[.int .i64 6, .int .i64 r, .int .i64 n] 102)) w.heap.size 102 #[.int .i64 6, .int .i64 r, .int .i64 n] := Bk.new w _ _
  have ho1 := ho.bel B1
  have hb1 := Nat.le_trans hb B1.size
  go_enter Tryd.func94, Tryd.ntmps94
  go_upto_region 1 with fail
  generalize w.alloc (.cells #[.int .i64 6, .int .i64 r, .int .i64 n] 102) = W1 at *
  have d0 := O1.cell 0 rfl
  have d1 := O1.cell 1 rfl
  have d2 := O1.cell 2 rfl
  have HB1 : Hid _ := ⟨B1⟩
  have HO1 : Hid _ := ⟨ho1⟩
  have HX : Hid (xs.length ≤ 1000000 ∧ base ≤ W1.heap.size) := ⟨hx, hb1⟩
  clear B1 O1 ho1 ho hb hx hb1
  go_wp2_with (at_builtin; refine append_bk (W1.alloc (.cells #[.int .u8 (192 + r)] 5)) rfl _ _ rfl base v xs rfl (HO1.out.bel ((Below.refl _ _).alloc (Nat.le_refl _) _)) _ [192 + r] rfl (bt_lit W1 (192 + r)) (by have := HX.out.1; simp; omega) (by have := HX.out.2; simp; omega) ?_; intro v3 w3 hA3; have H3 : Hid (AE base W1 v w3 v3 (xs ++ [192 + r])) := ⟨AE.pre ((Below.refl _ _).alloc (Nat.le_refl _) _) hA3⟩; clear hA3)
  go_ret
  exact ⟨_, rfl, (AE.pre HB1.out H3.out).to (by simp [oneB])⟩

set_option maxRecDepth 10000 in
set_option maxHeartbeats 1000000 in
theorem appendOp_7 {base : Nat} {w : World} {v : Value} {xs : List Int} (ho : Own w base v xs) (hb : base ≤ w.heap.size) (hx : xs.length ≤ 1000000) (r n : Int) :
    Calls Tryd.prog 94 #[v, .agg #[.int .i64 7, .int .i64 r, .int .i64 n]] w fun e w' => ∃ v', e = .returned v' ∧ AE base w v w' v' (xs ++ oneB ⟨7, r, n⟩) := by
  have B1 : Below w.heap.size w (w.alloc (.cells #[.int .i64 7, .int .i64 r, .int .i64 n] 102)) := (Below.refl _ _).alloc (Nat.le_refl _) _
  have O1 : Bk (w.alloc (.cells #[.int .i64 7, .int .i64 r, .int .i64 n] 102)) w.heap.size 102 #[.int .i64 7, .int .i64 r, .int .i64 n] := Bk.new w _ _
  have ho1 := ho.bel B1
  have hb1 := Nat.le_trans hb B1.size
  have HC : Hid _ := ⟨numbers_1 ho1 hb1 hx 7 r⟩
  go_enter Tryd.func94, Tryd.ntmps94
  go_upto_region 1 with fail
  generalize w.alloc (.cells #[.int .i64 7, .int .i64 r, .int .i64 n] 102) = W1 at *
  have d0 := O1.cell 0 rfl
  have d1 := O1.cell 1 rfl
  have d2 := O1.cell 2 rfl
  have HB1 : Hid _ := ⟨B1⟩
  have HO1 : Hid _ := ⟨ho1⟩
  have HX : Hid (xs.length ≤ 1000000 ∧ base ≤ W1.heap.size) := ⟨hx, hb1⟩
  clear B1 O1 ho1 ho hb hx hb1
  go_wp2_with (go_at_call 103; (with_reducible refine HC.out.mono ?_); rintro e w3 ⟨v3, he, hA3⟩; subst he; have H3 : Hid _ := ⟨hA3⟩; clear hA3)
  go_ret
  exact ⟨_, rfl, (AE.pre HB1.out H3.out).to (by simp [oneB])⟩

set_option maxRecDepth 10000 in
set_option maxHeartbeats 1000000 in
theorem appendOp_8 {base : Nat} {w : World} {v : Value} {xs : List Int} (ho : Own w base v xs) (hb : base ≤ w.heap.size) (hx : xs.length ≤ 1000000) (r n : Int) :
    Calls Tryd.prog 94 #[v, .agg #[.int .i64 8, .int .i64 r, .int .i64 n]] w fun e w' => ∃ v', e = .returned v' ∧ AE base w v w' v' (xs ++ oneB ⟨8, r, n⟩) := by
  have B1 : Below w.heap.size w (w.alloc (.cells #[.int .i64 8, .int .i64 r, .int .i64 n] 102)) := (Below.refl _ _).alloc (Nat.le_refl _) _
  have O1 : Bk (w.alloc (.cells #[.int .i64 8, .int .i64 r, .int .i64 n] 102)) w.heap.size 102 #[.int .i64 8, .int .i64 r, .int .i64 n] := Bk.new w _ _
  have ho1 := ho.bel B1
  have hb1 := Nat.le_trans hb B1.size
  have HC : Hid _ := ⟨numbers_1 ho1 hb1 hx 8 r⟩
  go_enter Tryd.func94, Tryd.ntmps94
  go_upto_region 1 with fail
  generalize w.alloc (.cells #[.int .i64 8, .int .i64 r, .int .i64 n] 102) = W1 at *
  have d0 := O1.cell 0 rfl
  have d1 := O1.cell 1 rfl
  have d2 := O1.cell 2 rfl
  have HB1 : Hid _ := ⟨B1⟩
  have HO1 : Hid _ := ⟨ho1⟩
  have HX : Hid (xs.length ≤ 1000000 ∧ base ≤ W1.heap.size) := ⟨hx, hb1⟩
  clear B1 O1 ho1 ho hb hx hb1
  go_wp2_with (go_at_call 103; (with_reducible refine HC.out.mono ?_); rintro e w3 ⟨v3, he, hA3⟩; subst he; have H3 : Hid _ := ⟨hA3⟩; clear hA3)
  go_ret
  exact ⟨_, rfl, (AE.pre HB1.out H3.out).to (by simp [oneB])⟩

set_option maxRecDepth 10000 in
set_option maxHeartbeats 1000000 in
theorem appendOp_9 {base : Nat} {w : World} {v : Value} {xs : List Int} (ho : Own w base v xs) (hb : base ≤ w.heap.size) (hx : xs.length ≤ 1000000) (r n : Int) :
    Calls Tryd.prog 94 #[v, .agg #[.int .i64 9, .int .i64 r, .int .i64 n]] w fun e w' => ∃ v', e = .returned v' ∧ AE base w v w' v' (xs ++ oneB ⟨9, r, n⟩) := by
  have B1 : Below w.heap.size w (w.alloc (.cells #[.int .i64 9, .int .i64 r, .int .i64 n] 102)) := (Below.refl _ _).alloc (Nat.le_refl _) _
  have O1 : Bk (w.alloc (.cells #[.int .i64 9, .int .i64 r, .int .i64 n] 102)) w.heap.size 102 #[.int .i64 9, .int .i64 r, .int .i64 n] := Bk.new w _ _
  have ho1 := ho.bel B1
  have hb1 := Nat.le_trans hb B1.size
  go_enter Tryd.func94, Tryd.ntmps94
  go_upto_region 1 with fail
  generalize w.alloc (.cells #[.int .i64 9, .int .i64 r, .int .i64 n] 102) = W1 at *
  have d0 := O1.cell 0 rfl
  have d1 := O1.cell 1 rfl
  have d2 := O1.cell 2 rfl
  have HB1 : Hid _ := ⟨B1⟩
  have HO1 : Hid _ := ⟨ho1⟩
  have HX : Hid (xs.length ≤ 1000000 ∧ base ≤ W1.heap.size) := ⟨hx, hb1⟩
  clear B1 O1 ho1 ho hb hx hb1
  go_wp2_with (at_builtin; refine append_bk (W1.alloc (.cells #[.int .u8 10] 5)) rfl _ _ rfl base v xs rfl (HO1.out.bel ((Below.refl _ _).alloc (Nat.le_refl _) _)) _ [10] rfl (bt_lit W1 10) (by have := HX.out.1; simp; omega) (by have := HX.out.2; simp; omega) ?_; intro v3 w3 hA3; have H3 : Hid (AE base W1 v w3 v3 (xs ++ [10])) := ⟨AE.pre ((Below.refl _ _).alloc (Nat.le_refl _) _) hA3⟩; clear hA3)
  go_ret
  exact ⟨_, rfl, (AE.pre HB1.out H3.out).to (by simp [oneB])⟩

set_option maxRecDepth 10000 in
set_option maxHeartbeats 1000000 in
theorem appendOp_10 {base : Nat} {w : World} {v : Value} {xs : List Int} (ho : Own w base v xs) (hb : base ≤ w.heap.size) (hx : xs.length ≤ 1000000) (r n : Int) :
    Calls Tryd.prog 94 #[v, .agg #[.int .i64 10, .int .i64 r, .int .i64 n]] w fun e w' => ∃ v', e = .returned v' ∧ AE base w v w' v' (xs ++ oneB ⟨10, r, n⟩) := by
  have B1 : Below w.heap.size w (w.alloc (.cells #[.int .i64 10, .int .i64 r, .int .i64 n] 102)) := (Below.refl _ _).alloc (Nat.le_refl _) _
  have O1 : Bk (w.alloc (.cells #[.int .i64 10, .int .i64 r, .int .i64 n] 102)) w.heap.size 102 #[.int .i64 10, .int .i64 r, .int .i64 n] := Bk.new w _ _
  have ho1 := ho.bel B1
  have hb1 := Nat.le_trans hb B1.size
  go_enter Tryd.func94, Tryd.ntmps94
  go_upto_region 1 with fail
  generalize w.alloc (.cells #[.int .i64 10, .int .i64 r, .int .i64 n] 102) = W1 at *
  have d0 := O1.cell 0 rfl
  have d1 := O1.cell 1 rfl
  have d2 := O1.cell 2 rfl
  have HB1 : Hid _ := ⟨B1⟩
  have HO1 : Hid _ := ⟨ho1⟩
  have HX : Hid (xs.length ≤ 1000000 ∧ base ≤ W1.heap.size) := ⟨hx, hb1⟩
  clear B1 O1 ho1 ho hb hx hb1
  go_wp2_with (at_builtin; refine append_bk (W1.alloc (.cells #[.int .u8 11] 5)) rfl _ _ rfl base v xs rfl (HO1.out.bel ((Below.refl _ _).alloc (Nat.le_refl _) _)) _ [11] rfl (bt_lit W1 11) (by have := HX.out.1; simp; omega) (by have := HX.out.2; simp; omega) ?_; intro v3 w3 hA3; have H3 : Hid (AE base W1 v w3 v3 (xs ++ [11])) := ⟨AE.pre ((Below.refl _ _).alloc (Nat.le_refl _) _) hA3⟩; clear hA3)
  go_ret
  exact ⟨_, rfl, (AE.pre HB1.out H3.out).to (by simp [oneB])⟩

set_option maxRecDepth 10000 in
set_option maxHeartbeats 1000000 in
theorem appendOp_0 {base : Nat} {w : World} {v : Value} {xs : List Int} (ho : Own w base v xs) (hb : base ≤ w.heap.size) (hx : xs.length ≤ 1000000) (r n : Int) :
    Calls Tryd.prog 94 #[v, .agg #[.int .i64 0, .int .i64 r, .int .i64 n]] w fun e w' => ∃ v', e = .returned v' ∧ AE base w v w' v' (xs ++ oneB ⟨0, r, n⟩) := by
  have B1 : Below w.heap.size w (w.alloc (.cells #[.int .i64 0, .int .i64 r, .int .i64 n] 102)) := (Below.refl _ _).alloc (Nat.le_refl _) _
  have O1 : Bk (w.alloc (.cells #[.int .i64 0, .int .i64 r, .int .i64 n] 102)) w.heap.size 102 #[.int .i64 0, .int .i64 r, .int .i64 n] := Bk.new w _ _
  have ho1 := ho.bel B1
  have hb1 := Nat.le_trans hb B1.size
  go_enter Tryd.func94, Tryd.ntmps94
  go_upto_region 1 with fail
  generalize w.alloc (.cells #[.int .i64 0, .int .i64 r, .int .i64 n] 102) = W1 at *
  have d0 := O1.cell 0 rfl
  have d1 := O1.cell 1 rfl
  have d2 := O1.cell 2 rfl
  have HB1 : Hid _ := ⟨B1⟩
  have HO1 : Hid _ := ⟨ho1⟩
  have HX : Hid (xs.length ≤ 1000000 ∧ base ≤ W1.heap.size) := ⟨hx, hb1⟩
  clear B1 O1 ho1 ho hb hx hb1
  go_wp2_with (at_builtin; refine append_bk (W1.alloc (.cells #[.int .u8 0] 5)) rfl _ _ rfl base v xs rfl (HO1.out.bel ((Below.refl _ _).alloc (Nat.le_refl _) _)) _ [0] rfl (bt_lit W1 0) (by have := HX.out.1; simp; omega) (by have := HX.out.2; simp; omega) ?_; intro v3 w3 hA3; have H3 : Hid (AE base W1 v w3 v3 (xs ++ [0])) := ⟨AE.pre ((Below.refl _ _).alloc (Nat.le_refl _) _) hA3⟩; clear hA3)
  go_ret
  exact ⟨_, rfl, (AE.pre HB1.out H3.out).to (by simp [oneB])⟩

/-- Every op that may be. -/
theorem appendOp_any {base : Nat} {w : World} {v : Value} {xs : List Int} (ho : Own w base v xs) (hb : base ≤ w.heap.size) (hx : xs.length ≤ 1000000) (o : Oq) (hm : mayB o = true) :
    Calls Tryd.prog 94 #[v, o.val] w fun e w' => ∃ v', e = .returned v' ∧ AE base w v w' v' (xs ++ oneB o) := by
  obtain ⟨k, r, n⟩ := o
  by_cases k0 : k = 0
  · subst k0; exact appendOp_0 ho hb hx r n
  by_cases k1 : k = 1
  · subst k1; obtain ⟨h1, h2⟩ := may_adv hm rfl; exact appendOp_1 ho hb hx r n h1 h2
  by_cases k2 : k = 2
  · subst k2; exact appendOp_2 ho hb hx r n
  by_cases k3 : k = 3
  · subst k3; exact appendOp_3 ho hb hx r n
  by_cases k4 : k = 4
  · subst k4; exact appendOp_4 ho hb hx r n
  by_cases k5 : k = 5
  · subst k5
    obtain ⟨h1, h2⟩ := may_reg hm (.inr (.inr (.inl rfl)))
    simp [mayB] at hm
    exact appendOp_5 ho hb hx r n h1 h2 hm.2.1 hm.2.2.1 hm.2.2.2
  by_cases k6 : k = 6
  · subst k6
    obtain ⟨h1, h2⟩ := may_reg hm (.inr (.inr (.inr (.inl rfl))))
    exact appendOp_6 ho hb hx r n h1 h2
  by_cases k7 : k = 7
  · subst k7; exact appendOp_7 ho hb hx r n
  by_cases k8 : k = 8
  · subst k8; exact appendOp_8 ho hb hx r n
  by_cases k9 : k = 9
  · subst k9; exact appendOp_9 ho hb hx r n
  by_cases k10 : k = 10
  · subst k10; exact appendOp_10 ho hb hx r n
  exfalso
  simp [mayB, k0, k1, k2, k3, k4, k5, k6, k7, k8, k9, k10] at hm

set_option maxRecDepth 10000 in
set_option maxHeartbeats 1000000 in
theorem pwrite : PWrite := by
  intro ao c l w hl hI hf
  have HQ : Hid _ := ⟨hI.ops⟩
  have HF : Hid _ := ⟨hf⟩
  clear hI hf
  by_cases h4 : 4000 < l.length
  · have HE : Hid (writE l = 6 ∧ writB l = []) := ⟨by unfold writE; rw [if_pos h4], by unfold writB; rw [if_pos h4]⟩
    have h4' : (4000 : Int) < (l.length : Int) := by omega
    go_enter Tryd.func79, Tryd.ntmps79
    go_wp2
    go_ret2
    refine ⟨.slice none 0 0, ?_, ?_, Below.refl _ _⟩
    · rw [HE.out.1]; rfl
    · rw [HE.out.2]; exact World.ownsRow_nil _ _ _ _
  have h4' : ¬ (4000 : Int) < (l.length : Int) := by omega
  have hll : (l.length : Int) ≤ 4000 := by omega
  obtain ⟨E, hE⟩ : ∃ E, writE l = E := ⟨_, rfl⟩
  obtain ⟨X, hX⟩ : ∃ X, writB l = X := ⟨_, rfl⟩
  rw [hE, hX]
  have HE : Hid (writE l = E ∧ writB l = X ∧ ¬ 4000 < l.length) := ⟨hE, hX, h4⟩
  clear hE hX hl
  go_enter Tryd.func79, Tryd.ntmps79
  go_wp2
  go_loopw [12, 4] (fun iv u wr => ∃ k : Nat, k ≤ l.length ∧ iv = .int .i64 k ∧ Hid (Own wr w.heap.size u ((l.take k).flatMap oneB) ∧ Below w.heap.size w wr ∧ (l.take k).all mayB = true)) (fun iv _ _ => l.length - (intOf iv).toNat)
  case atStart => exact ⟨0, by omega, rfl, ⟨World.ownsRow_nil _ _ _ _, Below.refl _ _, rfl⟩⟩
  case round =>
    obtain ⟨k, hk, rfl, HW⟩ := hrel
    by_cases hlt : k < l.length
    · have hlti : (k : Int) < (l.length : Int) := by omega
      obtain ⟨b, off, rfl, hat⟩ : ∃ b off, ao = some ⟨b, off, none⟩ ∧ ∀ i, i < l.length → OqAt wr b (off + i * 3) (l.getD i Oq.none) := by
        rcases HQ.out.below HW.out.2.1 (Nat.le_refl _) with h | h
        · rw [h] at hlt; simp at hlt
        · exact h
      have ho := hat k hlt
      have HT : Hid (l.take (k + 1) = l.take k ++ [l.getD k Oq.none]) := ⟨by
        have hget : l.getD k Oq.none = l[k] := by simp [hlt]
        rw [hget]; exact List.take_succ_eq_append_getElem hlt⟩
      have HMem : Hid (l.getD k Oq.none ∈ l) := ⟨by
        have hget : l.getD k Oq.none = l[k] := by simp [hlt]
        rw [hget]; exact List.getElem_mem hlt⟩
      have hfw : Fz wr := HF.out.bel HW.out.2.1 HF.out.z
      have HLen : Hid (((l.take k).flatMap oneB).length ≤ 1000000) := ⟨by
        have h1 := flat_len (l.take k) HW.out.2.2
        have h2 : (l.take k).length ≤ 4000 := by have := HE.out.2.2; rw [List.length_take]; omega
        omega⟩
      clear hat
      generalize l.getD k Oq.none = o at *
      go_upto_region 6 with fail
      iterate 1 go_step
      refine wpList_val (v := .pointer (some ⟨b, off + k * 3, none⟩)) (w' := wr) (by kernel_rfl) (exec_ix rfl (by kernel_rfl) (by kernel_rfl) (ix_op b off l.length c k hlt wr)) ?_
      simp only [Act.put, List.getElem_toArray, List.getElem_cons_succ, List.getElem_cons_zero, List.setIfInBounds_toArray, List.set_cons_zero, List.set_cons_succ]
      refine wpList_val (v := o.val) (w' := wr) (by kernel_rfl) (exec_loadV (t := 102) (p := ⟨b, off + k * 3, none⟩) rfl (by kernel_rfl) (load_opm ho)) ?_
      simp only [Act.put, List.getElem_toArray, List.getElem_cons_succ, List.getElem_cons_zero, List.setIfInBounds_toArray, List.set_cons_zero, List.set_cons_succ]
      refine wpList_val (v := .pointer (some ⟨wr.heap.size, 0, none⟩)) (w' := wr.alloc (.cells zeroO 102)) (by kernel_rfl) (by kernel_rfl) ?_
      simp only [Act.put, List.getElem_toArray, List.getElem_cons_succ, List.getElem_cons_zero, List.setIfInBounds_toArray, List.set_cons_zero, List.set_cons_succ]
      have B2 : Below wr.heap.size wr (wr.alloc (.cells zeroO 102)) := (Below.refl _ _).alloc (Nat.le_refl _) _
      have N2 : Bk (wr.alloc (.cells zeroO 102)) wr.heap.size 102 zeroO := Bk.new _ _ _
      refine wpList_part (g := wr.heap.size) (off := 0) (val := o.val) (new := #[.int .i64 o.k, .int .i64 o.r, .int .i64 o.n]) rfl rfl (by kernel_rfl) (by kernel_rfl) N2 (by rw [sizeOp]; rfl) (by show 0 + 3 ≤ 3; omega) (by intro u hu; simp [Value.cells] at hu; rcases hu with rfl | rfl | rfl <;> rfl) rfl ?_
      simp only [Act.put, List.getElem_toArray, List.getElem_cons_succ, List.getElem_cons_zero, List.setIfInBounds_toArray, List.set_cons_zero, List.set_cons_succ]
      have N3 := N2.setR #[.int .i64 o.k, .int .i64 o.r, .int .i64 o.n]
      have B3 : Below wr.heap.size wr ((wr.alloc (.cells zeroO 102)).setRow wr.heap.size #[.int .i64 o.k, .int .i64 o.r, .int .i64 o.n]) := B2.trans (below_set _ _ _ (Nat.le_refl _))
      have hO3 := HW.out.1.bel B3
      have Bw3 := HW.out.2.1.trans (B3.mono HW.out.2.1.size)
      have F3 := hfw.bel B3 hfw.z
      generalize (wr.alloc (.cells zeroO 102)).setRow wr.heap.size #[.int .i64 o.k, .int .i64 o.r, .int .i64 o.n] = W3 at *
      generalize wr.heap.size = sb at *
      have d0 := N3.cell 0 rfl
      have d1 := N3.cell 1 rfl
      have d2 := N3.cell 2 rfl
      have hlt3 := N3.lt
      have HM : Hid _ := ⟨mayBe_any o W3 F3⟩
      have HO3 : Hid _ := ⟨hO3⟩
      have HBw : Hid _ := ⟨Bw3⟩
      have HN3 : Hid _ := ⟨N3⟩
      clear hO3 ho B2 N2 N3 B3 Bw3 F3 hfw
      refine wpList_nil ?_
      cases hmay : mayB o with
      | false =>
        rw [hmay] at HM
        have hall : l.all mayB = false := by
          cases h : l.all mayB with
          | false => rfl
          | true => have := List.all_eq_true.1 h o HMem.out; rw [hmay] at this; cases this
        obtain rfl : E = 130 := by rw [← HE.out.1]; unfold writE; rw [if_neg HE.out.2.2, hall]; rfl
        obtain rfl : X = [] := by rw [← HE.out.2.1]; unfold writB; rw [if_neg HE.out.2.2, hall]; rfl
        clear hmay hall
        go_wp2_with (go_at_call 93; (with_reducible refine HM.out.mono ?_); rintro e w4 ⟨he, hb4⟩; subst he; have HB4 : Hid _ := ⟨hb4⟩; clear hb4)
        go_ret2
        exact ⟨_, rfl, World.ownsRow_nil _ _ _ _, HBw.out.trans (HB4.out.mono HBw.out.size)⟩
      | true =>
        rw [hmay] at HM
        have HMay : Hid _ := ⟨hmay⟩
        clear hmay
        go_upto_region 9 with (go_at_call 93; (with_reducible refine HM.out.mono ?_); rintro e w4 ⟨he, hb4⟩; subst he; have HB4 : Hid _ := ⟨hb4⟩; clear hb4)
        have e0 := (HN3.out.bel HB4.out hlt3).cell 0 rfl
        have e1 := (HN3.out.bel HB4.out hlt3).cell 1 rfl
        have e2 := (HN3.out.bel HB4.out hlt3).cell 2 rfl
        have Bw4 := HBw.out.trans (HB4.out.mono HBw.out.size)
        have HBw4 : Hid _ := ⟨Bw4⟩
        have HA : Hid _ := ⟨appendOp_any (HO3.out.bel HB4.out) Bw4.size HLen.out o HMay.out⟩
        have HO4 : Hid _ := ⟨HO3.out.bel HB4.out⟩
        clear Bw4 d0 d1 d2
        go_wp2_with (go_at_call 94; (with_reducible refine HA.out.mono ?_); rintro e w5 ⟨v5, he, hA5⟩; subst he; have H5 : Hid _ := ⟨hA5⟩; clear hA5)
        go_roundw
        case rel => exact ⟨k + 1, hlt, by go_num, ⟨by rw [HT.out]; simpa using H5.out.own, HBw4.out.trans (H5.out.bel HO4.out HBw4.out.size), by rw [HT.out]; simp [HW.out.2.2, HMay.out]⟩⟩
        case measure => simp [intOf]; omega
    · obtain rfl : k = l.length := by omega
      have hal := HW.out.2.2
      have how := HW.out.1
      rw [List.take_of_length_le (Nat.le_refl _)] at hal how
      obtain rfl : E = 0 := by rw [← HE.out.1]; unfold writE; rw [if_neg HE.out.2.2, if_pos hal]
      obtain rfl : X = l.flatMap oneB := by rw [← HE.out.2.1]; unfold writB; rw [if_neg HE.out.2.2, if_pos hal]
      have HOw : Hid _ := ⟨how⟩
      clear hal how
      go_wp2
      go_ret2
      exact ⟨_, rfl, HOw.out, HW.out.2.1⟩
end Go.Proofs.YtomboebfbipaaaaDoor
