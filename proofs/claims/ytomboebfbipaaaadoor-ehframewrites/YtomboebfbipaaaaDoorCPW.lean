/- The program's Write: bytes of an op behind bytes. -/
import Derived.Test.YtomboebfbipaaaaDoorCLaws
import Derived.Test.YtomboebfbipaaaaDoorCBuiltX
import Derived.Test.YtomboebfbipaaaaDoorLebB
namespace Go.Proofs.YtomboebfbipaaaaDoor
open Go.ChangeShapes Go.WideShapes Go.ChangeAt Go.RowKit
set_option linter.unusedVariables false
set_option linter.unusedSimpArgs false

/-- Bytes that were made behind bytes: nothing but their block has turned. -/
structure AE (base : Nat) (w : World) (v : Value) (w' : World) (v' : Value) (ys : List Int) : Prop where
  own : Own w' base v' ys
  gr : w.grownBy w' v.ownBlock
  bk : v'.ownBlock = v.ownBlock ∨ ∀ k, v'.ownBlock = some k → w.heap.size ≤ k
section
variable {base : Nat} {w w1 w2 : World} {v v1 v2 : Value} {xs ys : List Int}
theorem AE.refl (h : Own w base v xs) : AE base w v w v xs := ⟨h, ⟨rfl, rfl, rfl, Nat.le_refl _, fun _ _ _ => rfl⟩, .inl rfl⟩
theorem AE.trans (h1 : AE base w v w1 v1 xs) (h2 : AE base w1 v1 w2 v2 ys) : AE base w v w2 v2 ys := by
  refine ⟨h2.own, ⟨h2.gr.os.trans h1.gr.os, h2.gr.tape.trans h1.gr.tape, h2.gr.output.trans h1.gr.output, Nat.le_trans h1.gr.size h2.gr.size, fun k hk hn => ?_⟩, ?_⟩
  · rw [h2.gr.block k (Nat.lt_of_lt_of_le hk h1.gr.size) (fun e => ?_)]
    · exact h1.gr.block k hk hn
    · rcases h1.bk with hb | hb
      · exact hn (e.trans hb)
      · have := hb k e.symm; omega
  · rcases h2.bk with hb | hb
    · rcases h1.bk with hb1 | hb1
      · exact .inl (hb.trans hb1)
      · exact .inr fun k hk => hb1 k (hb ▸ hk)
    · exact .inr fun k hk => Nat.le_trans h1.gr.size (hb k hk)
theorem AE.pre (hb : Below w.heap.size w w1) (h : AE base w1 v w2 v2 ys) : AE base w v w2 v2 ys := by
  refine ⟨h.own, ⟨h.gr.os.trans hb.os, h.gr.tape.trans hb.tape, h.gr.output.trans hb.output, Nat.le_trans hb.size h.gr.size, fun k hk hn => (h.gr.block k (Nat.lt_of_lt_of_le hk hb.size) hn).trans (hb.block k hk)⟩, ?_⟩
  rcases h.bk with e | e
  · exact .inl e
  · exact .inr fun k hk => Nat.le_trans hb.size (e k hk)
theorem AE.bel (h : AE base w v w1 v1 ys) (ho : Own w base v xs) (hb : base ≤ w.heap.size) : Below base w w1 :=
  ⟨h.gr.os, h.gr.tape, h.gr.output, h.gr.size, fun k hk => h.gr.block k (by omega) (fun e => by have := (ho.lt k e.symm).1; omega)⟩
theorem AE.to {zs : List Int} (h : AE base w v w1 v1 ys) (e : ys = zs) : AE base w v w1 v1 zs := e ▸ h
end
theorem append_bk {ops : Array Oper} {rest : List Oper} {o : Oper} {a : Act} {Q : Exit → Act → World → Prop} (w : World) (hgd : o.guard = none) (s x : Operand)
    (ho : o.op = .call { callee := .builtin .append, args := #[s, x], argTypes := #[24, 24] })
    (base : Nat) (v : Value) (l : List Int) (hs : a.eval s = v) (hown : Own w base v l) (u : Value) (m : List Int) (hx : a.eval x = u) (hb : Bt w u m)
    (hn : l.length + m.length ≤ 140737488355328) (hbase : base ≤ w.heap.size)
    (h : ∀ v' w', AE base w v w' v' (l ++ m) → wpList Tryd.prog ops Q rest (a.put o.dst v') w') :
    wpList Tryd.prog ops Q (o :: rest) a w := by
  obtain ⟨ao, c, rfl, hr, hnil⟩ := hb
  obtain ⟨i0, hi, hz0, hz1, hz2⟩ := info_parts info5
  cases ao with
  | none =>
    obtain ⟨h1, rfl⟩ := hnil rfl
    obtain rfl : m = [] := List.eq_nil_of_length_eq_zero h1
    refine wpList_append_own_none hgd s x 24 ho base 5 i0 1 Tryd.underlying24 hi _ _ _ hs hown hx ?_
    exact h v w (by simpa using AE.refl hown)
  | some ad =>
    refine wpList_append_own_at w hgd s x 24 ho base 5 i0 _ 1 1 Tryd.underlying24 hi hz0 hz1 hz2 rfl (by decide) _ l.length _ hs hown ad m.length c (m.map (Value.int .u8)) hx (by simp) ?_ ?_ (by unfold maxLen; omega) (by omega) hbase ?_
    · intro j u hj
      by_cases hjm : j < m.length
      · rcases hr with hr | ⟨b, off, e, hc⟩
        · omega
        · cases e
          rw [caddr_add, hc j hjm]
          simp [hjm] at hj
          simp [hjm, hj]
      · simp [hjm] at hj
    · intro u hu
      simp at hu
      obtain ⟨z, _, rfl⟩ := hu
      rfl
    · intro v' w' hown' hgrow hnn hbk
      refine h v' w' ⟨?_, hgrow, ?_⟩
      · unfold Own
        simpa using hown'
      · rcases hbk with e | e
        · exact .inl e
        · exact .inr fun k hk => by rw [e] at hk; simp at hk; omega
theorem own_far {w1 w2 : World} {b : Nat} {u : Value} {m : List Int} {row : Option Nat} (h : Own w1 b u m) (hg : w1.grownBy w2 row) (hn : row ≠ u.ownBlock) : Own w2 b u m := World.ownsRow.kept h hg (.inr (Ne.symm hn))
theorem Own.of_part {w : World} {b g n : Nat} {x : Int} (h : w.ownsRow b 5 1 (.slice (some ⟨g, 0, none⟩) n n) n (part x n n)) : Own w b (.slice (some ⟨g, 0, none⟩) n n) (pl x n) := by
  rw [part_full] at h
  unfold Own
  rw [pl_len]
  exact h

set_option maxRecDepth 10000 in
/-- A byte, and a number of 1 bytes. -/
theorem appendFixed_1 {base : Nat} {w : World} {v : Value} {xs : List Int} (ho : Own w base v xs) (hb : base ≤ w.heap.size) (hx : xs.length ≤ 1000000) (c n : Int) (hf : fitsB n 8 false = true) :
    Calls Tryd.prog 107 #[v, .int .u8 c, .int .i64 n, .int .i64 1] w fun e w' => ∃ v', e = .returned v' ∧ AE base w v w' v' (xs ++ (c :: pl n 1)) := by
  have HP : Hid _ := ⟨put_1 n w (.inr hf)⟩
  have HO : Hid _ := ⟨ho⟩
  have HX : Hid (xs.length ≤ 1000000 ∧ base ≤ w.heap.size) := ⟨hx, hb⟩
  clear ho hx hb hf
  have tk : True := trivial
  go_enter Tryd.func107, Tryd.ntmps107
  go_wp2_with (first
    | (go_at_call 53; (with_reducible refine HP.out.mono ?_); rintro e w1 ⟨he, ho1, hb1⟩; subst he; have H1 : Hid _ := ⟨Own.of_part ho1⟩; have HB1 : Hid (Below w.heap.size w w1) := ⟨hb1⟩; clear ho1 hb1)
    | (at_builtin; have _t := tk; refine append_bk (w1.alloc (.cells #[.int .u8 c] 5)) rfl _ _ rfl base v xs rfl (HO.out.bel (HB1.out.trans ((Below.refl _ _).alloc HB1.out.size _))) _ [c] rfl (bt_lit w1 c) (by have := HX.out.1; simp; omega) (by have := HX.out.2; have := HB1.out.size; simp; omega) ?_; intro v3 w3 hA3; clear tk _t; have H3 : Hid (AE base w v w3 v3 (xs ++ [c])) := ⟨AE.pre (HB1.out.trans ((Below.refl _ _).alloc HB1.out.size _)) hA3⟩; have H3b : Hid (Bt w3 (.slice (some ⟨w.heap.size, 0, none⟩) 1 1) (pl n 1)) := ⟨(own_far (H1.out.bel ((Below.refl _ _).alloc (Nat.le_refl _) _)) hA3.gr (fun e => Nat.lt_irrefl _ (HO.out.lt w.heap.size e).2)).bt⟩; clear hA3)
    | (at_builtin; refine append_bk w3 rfl _ _ rfl base v3 (xs ++ [c]) rfl H3.out.own _ (pl n 1) rfl H3b.out (by have := HX.out.1; simp [pl_len]; omega) (Nat.le_trans HX.out.2 H3.out.gr.size) ?_; intro v4 w4 hA4; have H4 : Hid (AE base w v w4 v4 (xs ++ [c] ++ pl n 1)) := ⟨H3.out.trans hA4⟩; clear hA4))
  go_ret
  exact ⟨_, rfl, H4.out.to (by simp)⟩
/-- A byte, and a number of 2 bytes. -/
theorem appendFixed_2 {base : Nat} {w : World} {v : Value} {xs : List Int} (ho : Own w base v xs) (hb : base ≤ w.heap.size) (hx : xs.length ≤ 1000000) (c n : Int) (hf : fitsB n 16 false = true) :
    Calls Tryd.prog 107 #[v, .int .u8 c, .int .i64 n, .int .i64 2] w fun e w' => ∃ v', e = .returned v' ∧ AE base w v w' v' (xs ++ (c :: pl n 2)) := by
  have HP : Hid _ := ⟨put_2 n w (.inr hf)⟩
  have HO : Hid _ := ⟨ho⟩
  have HX : Hid (xs.length ≤ 1000000 ∧ base ≤ w.heap.size) := ⟨hx, hb⟩
  clear ho hx hb hf
  have tk : True := trivial
  go_enter Tryd.func107, Tryd.ntmps107
  go_wp2_with (first
    | (go_at_call 53; (with_reducible refine HP.out.mono ?_); rintro e w1 ⟨he, ho1, hb1⟩; subst he; have H1 : Hid _ := ⟨Own.of_part ho1⟩; have HB1 : Hid (Below w.heap.size w w1) := ⟨hb1⟩; clear ho1 hb1)
    | (at_builtin; have _t := tk; refine append_bk (w1.alloc (.cells #[.int .u8 c] 5)) rfl _ _ rfl base v xs rfl (HO.out.bel (HB1.out.trans ((Below.refl _ _).alloc HB1.out.size _))) _ [c] rfl (bt_lit w1 c) (by have := HX.out.1; simp; omega) (by have := HX.out.2; have := HB1.out.size; simp; omega) ?_; intro v3 w3 hA3; clear tk _t; have H3 : Hid (AE base w v w3 v3 (xs ++ [c])) := ⟨AE.pre (HB1.out.trans ((Below.refl _ _).alloc HB1.out.size _)) hA3⟩; have H3b : Hid (Bt w3 (.slice (some ⟨w.heap.size, 0, none⟩) 2 2) (pl n 2)) := ⟨(own_far (H1.out.bel ((Below.refl _ _).alloc (Nat.le_refl _) _)) hA3.gr (fun e => Nat.lt_irrefl _ (HO.out.lt w.heap.size e).2)).bt⟩; clear hA3)
    | (at_builtin; refine append_bk w3 rfl _ _ rfl base v3 (xs ++ [c]) rfl H3.out.own _ (pl n 2) rfl H3b.out (by have := HX.out.1; simp [pl_len]; omega) (Nat.le_trans HX.out.2 H3.out.gr.size) ?_; intro v4 w4 hA4; have H4 : Hid (AE base w v w4 v4 (xs ++ [c] ++ pl n 2)) := ⟨H3.out.trans hA4⟩; clear hA4))
  go_ret
  exact ⟨_, rfl, H4.out.to (by simp)⟩
/-- A byte, and a number of 4 bytes. -/
theorem appendFixed_4 {base : Nat} {w : World} {v : Value} {xs : List Int} (ho : Own w base v xs) (hb : base ≤ w.heap.size) (hx : xs.length ≤ 1000000) (c n : Int) (hf : fitsB n 32 false = true) :
    Calls Tryd.prog 107 #[v, .int .u8 c, .int .i64 n, .int .i64 4] w fun e w' => ∃ v', e = .returned v' ∧ AE base w v w' v' (xs ++ (c :: pl n 4)) := by
  have HP : Hid _ := ⟨put_4 n w (.inr hf)⟩
  have HO : Hid _ := ⟨ho⟩
  have HX : Hid (xs.length ≤ 1000000 ∧ base ≤ w.heap.size) := ⟨hx, hb⟩
  clear ho hx hb hf
  have tk : True := trivial
  go_enter Tryd.func107, Tryd.ntmps107
  go_wp2_with (first
    | (go_at_call 53; (with_reducible refine HP.out.mono ?_); rintro e w1 ⟨he, ho1, hb1⟩; subst he; have H1 : Hid _ := ⟨Own.of_part ho1⟩; have HB1 : Hid (Below w.heap.size w w1) := ⟨hb1⟩; clear ho1 hb1)
    | (at_builtin; have _t := tk; refine append_bk (w1.alloc (.cells #[.int .u8 c] 5)) rfl _ _ rfl base v xs rfl (HO.out.bel (HB1.out.trans ((Below.refl _ _).alloc HB1.out.size _))) _ [c] rfl (bt_lit w1 c) (by have := HX.out.1; simp; omega) (by have := HX.out.2; have := HB1.out.size; simp; omega) ?_; intro v3 w3 hA3; clear tk _t; have H3 : Hid (AE base w v w3 v3 (xs ++ [c])) := ⟨AE.pre (HB1.out.trans ((Below.refl _ _).alloc HB1.out.size _)) hA3⟩; have H3b : Hid (Bt w3 (.slice (some ⟨w.heap.size, 0, none⟩) 4 4) (pl n 4)) := ⟨(own_far (H1.out.bel ((Below.refl _ _).alloc (Nat.le_refl _) _)) hA3.gr (fun e => Nat.lt_irrefl _ (HO.out.lt w.heap.size e).2)).bt⟩; clear hA3)
    | (at_builtin; refine append_bk w3 rfl _ _ rfl base v3 (xs ++ [c]) rfl H3.out.own _ (pl n 4) rfl H3b.out (by have := HX.out.1; simp [pl_len]; omega) (Nat.le_trans HX.out.2 H3.out.gr.size) ?_; intro v4 w4 hA4; have H4 : Hid (AE base w v w4 v4 (xs ++ [c] ++ pl n 4)) := ⟨H3.out.trans hA4⟩; clear hA4))
  go_ret
  exact ⟨_, rfl, H4.out.to (by simp)⟩

theorem fits8 {n : Int} (h0 : 0 ≤ n) : fitsB n 8 false = decide (n < 256) := by
  unfold fitsB
  have : decide (0 ≤ n) = true := by simpa using h0
  simp [this]
theorem fits16 {n : Int} (h0 : 0 ≤ n) : fitsB n 16 false = decide (n < 65536) := by
  unfold fitsB
  have : decide (0 ≤ n) = true := by simpa using h0
  simp [this]
theorem fits32 {n : Int} (h0 : 0 ≤ n) (h1 : n < 2147483648) : fitsB n 32 false = true := by
  unfold fitsB
  simp
  omega

set_option maxRecDepth 10000 in
/-- An Advance's bytes. -/
theorem appendAdvance_any {base : Nat} {w : World} {v : Value} {xs : List Int} (ho : Own w base v xs) (hb : base ≤ w.heap.size) (hx : xs.length ≤ 1000000) (n : Int) (h0 : 0 ≤ n) (h1 : n < 2147483648) :
    Calls Tryd.prog 102 #[v, .int .i64 n] w fun e w' => ∃ v', e = .returned v' ∧ AE base w v w' v' (xs ++ advB n) := by
  have HF8 : Hid _ := ⟨fits_any n 8 false w⟩
  have HF16 : Hid _ := ⟨fits_any n 16 false w⟩
  rw [fits8 h0] at HF8
  rw [fits16 h0] at HF16
  by_cases c1 : n < 64
  · have HA : Hid (advB n = [64 + n]) := ⟨by unfold advB; rw [if_pos c1]⟩
    have HO : Hid _ := ⟨ho⟩
    have HX : Hid (xs.length ≤ 1000000 ∧ base ≤ w.heap.size) := ⟨hx, hb⟩
    clear ho hx hb
    go_enter Tryd.func102, Tryd.ntmps102
    go_wp2_with (at_builtin; refine append_bk (w.alloc (.cells #[.int .u8 (64 + n)] 5)) rfl _ _ rfl base v xs rfl (HO.out.bel ((Below.refl _ _).alloc (Nat.le_refl _) _)) _ [64 + n] rfl (bt_lit w (64 + n)) (by have := HX.out.1; simp; omega) (by have := HX.out.2; simp; omega) ?_; intro v3 w3 hA3; have H3 : Hid (AE base w v w3 v3 (xs ++ [64 + n])) := ⟨AE.pre ((Below.refl _ _).alloc (Nat.le_refl _) _) hA3⟩; clear hA3)
    go_ret
    exact ⟨_, rfl, by rw [HA.out]; exact H3.out⟩
  by_cases c2 : n < 256
  · have HA : Hid (advB n = 2 :: pl n 1) := ⟨by unfold advB; rw [if_neg c1, if_pos c2]⟩
    have d2 : decide (n < 256) = true := by simpa using c2
    rw [d2] at HF8
    have HC : Hid _ := ⟨appendFixed_1 ho hb hx 2 n (by rw [fits8 h0]; exact d2)⟩
    clear ho hx hb d2
    go_enter Tryd.func102, Tryd.ntmps102
    go_wp2_with (first
      | (go_at_call 52; (with_reducible refine HF8.out.mono ?_); rintro e wn ⟨he, hwn⟩; subst he; subst wn)
      | (go_at_call 107; (with_reducible refine HC.out.mono ?_); rintro e w3 ⟨v3, he, hA3⟩; subst he; have H3 : Hid _ := ⟨hA3⟩; clear hA3))
    go_ret
    exact ⟨_, rfl, by rw [HA.out]; exact H3.out⟩
  have d2 : decide (n < 256) = false := by simpa using c2
  rw [d2] at HF8
  clear d2
  have tk : True := trivial
  by_cases c3 : n < 65536
  · have HA : Hid (advB n = 3 :: pl n 2) := ⟨by unfold advB; rw [if_neg c1, if_neg c2, if_pos c3]⟩
    have d3 : decide (n < 65536) = true := by simpa using c3
    rw [d3] at HF16
    have HC : Hid _ := ⟨appendFixed_2 ho hb hx 3 n (by rw [fits16 h0]; exact d3)⟩
    clear ho hx hb d3
    go_enter Tryd.func102, Tryd.ntmps102
    go_wp2_with (first
      | (go_at_call 52; have _t := tk; (with_reducible refine HF8.out.mono ?_); rintro e wn ⟨he, hwn⟩; subst he; subst wn; clear tk _t)
      | (go_at_call 52; (with_reducible refine HF16.out.mono ?_); rintro e wn ⟨he, hwn⟩; subst he; subst wn)
      | (go_at_call 107; (with_reducible refine HC.out.mono ?_); rintro e w3 ⟨v3, he, hA3⟩; subst he; have H3 : Hid _ := ⟨hA3⟩; clear hA3))
    go_ret
    exact ⟨_, rfl, by rw [HA.out]; exact H3.out⟩
  · have HA : Hid (advB n = 4 :: pl n 4) := ⟨by unfold advB; rw [if_neg c1, if_neg c2, if_neg c3]⟩
    have d3 : decide (n < 65536) = false := by simpa using c3
    rw [d3] at HF16
    have HC : Hid _ := ⟨appendFixed_4 ho hb hx 4 n (fits32 h0 h1)⟩
    clear ho hx hb d3
    go_enter Tryd.func102, Tryd.ntmps102
    go_wp2_with (first
      | (go_at_call 52; have _t := tk; (with_reducible refine HF8.out.mono ?_); rintro e wn ⟨he, hwn⟩; subst he; subst wn; clear tk _t)
      | (go_at_call 52; (with_reducible refine HF16.out.mono ?_); rintro e wn ⟨he, hwn⟩; subst he; subst wn)
      | (go_at_call 107; (with_reducible refine HC.out.mono ?_); rintro e w3 ⟨v3, he, hA3⟩; subst he; have H3 : Hid _ := ⟨hA3⟩; clear hA3))
    go_ret
    exact ⟨_, rfl, by rw [HA.out]; exact H3.out⟩

set_option maxRecDepth 10000 in
set_option maxHeartbeats 1000000 in
/-- A byte, and numbers. -/
theorem appendNumbers_any {base : Nat} {w : World} {v : Value} {xs : List Int} (ho : Own w base v xs) (hb : base ≤ w.heap.size) (hx : xs.length ≤ 1000000) (c : Int) (ns : List Int) (hn : ns.length ≤ 2) (q cq : Nat) (hq : v.ownBlock ≠ some q) (hc : ∀ i, i < ns.length → w.cell? ⟨q, i, none⟩ = some (.int .i64 (ns.getD i 0))) (hql : q < w.heap.size) :
    Calls Tryd.prog 103 #[v, .int .u8 c, .slice (some ⟨q, 0, none⟩) ns.length cq] w fun e w' => ∃ v', e = .returned v' ∧ AE base w v w' v' (xs ++ (c :: ns.flatMap ulB)) := by
  have HO : Hid _ := ⟨ho⟩
  have HX : Hid (xs.length ≤ 1000000 ∧ base ≤ w.heap.size ∧ ns.length ≤ 2) := ⟨hx, hb, hn⟩
  have HQ : Hid (v.ownBlock ≠ some q ∧ q < w.heap.size ∧ ∀ i, i < ns.length → w.cell? ⟨q, i, none⟩ = some (.int .i64 (ns.getD i 0))) := ⟨hq, hql, hc⟩
  have hnl : (ns.length : Int) ≤ 2 := by omega
  clear ho hx hb hn hq hc hql
  go_enter Tryd.func103, Tryd.ntmps103
  go_upto_region 2 with (at_builtin; refine append_bk (w.alloc (.cells #[.int .u8 c] 5)) rfl _ _ rfl base v xs rfl (HO.out.bel ((Below.refl _ _).alloc (Nat.le_refl _) _)) _ [c] rfl (bt_lit w c) (by have := HX.out.1; simp; omega) (by have := HX.out.2.1; simp; omega) ?_; intro v3 w3 hA3; have H3 : Hid (AE base w v w3 v3 (xs ++ [c])) := ⟨AE.pre ((Below.refl _ _).alloc (Nat.le_refl _) _) hA3⟩; clear hA3)
  go_wp2
  go_loopw [15, 0] (fun iv u wr => ∃ k : Nat, k ≤ ns.length ∧ iv = .int .i64 k ∧ Hid (AE base w v wr u (xs ++ (c :: (ns.take k).flatMap ulB)))) (fun iv _ _ => ns.length - (intOf iv).toNat)
  case atStart => exact ⟨0, by omega, rfl, ⟨by simpa using H3.out⟩⟩
  case round =>
    obtain ⟨k, hk, rfl, HW⟩ := hrel
    by_cases hlt : k < ns.length
    · have hlti : (k : Int) < (ns.length : Int) := by omega
      have hk0 : (0 : Int) ≤ (k : Int) := by omega
      have d0 : wr.cell? ⟨q, k, none⟩ = some (.int .i64 (ns.getD k 0)) := (World.cell?_of_block (a := ⟨q, k, none⟩) (HW.out.gr.block q HQ.out.2.1 (Ne.symm HQ.out.1))).trans (HQ.out.2.2 k hlt)
      have HT : Hid (ns.take (k + 1) = ns.take k ++ [ns.getD k 0]) := ⟨by
        have hget : ns.getD k 0 = ns[k] := by simp [hlt]
        rw [hget]; exact List.take_succ_eq_append_getElem hlt⟩
      have HLen : Hid ((xs ++ (c :: (ns.take k).flatMap ulB)).length ≤ 1000100) := ⟨by
        have h1 : ∀ l : List Int, (l.flatMap ulB).length ≤ 10 * l.length := fun l => by
          induction l with
          | nil => simp
          | cons a l ih => have := ulB_len a; simp only [List.flatMap_cons, List.length_append, List.length_cons]; omega
        have := h1 (ns.take k)
        have := HX.out
        simp at this ⊢
        simp at *
        omega⟩
      generalize ns.getD k 0 = n at *
      have HU : Hid _ := ⟨uleb_any n wr⟩
      go_wp2_with (first
        | (go_at_call 55; (with_reducible refine HU.out.mono ?_); rintro e w5 ⟨v5, he, ho5, hb5⟩; subst he; have H5 : Hid _ := ⟨ho5⟩; have HB5 : Hid _ := ⟨hb5⟩; clear ho5 hb5)
        | (at_builtin; refine append_bk w5 rfl _ _ rfl base _ (xs ++ (c :: (ns.take k).flatMap ulB)) rfl (HW.out.own.bel HB5.out) _ (ulB n) rfl H5.out.bt (by have := HLen.out; have := ulB_len n; omega) (Nat.le_trans HX.out.2.1 (Nat.le_trans HW.out.gr.size HB5.out.size)) ?_; intro v6 w6 hA6; have H6 : Hid _ := ⟨HW.out.trans (AE.pre HB5.out hA6)⟩; clear hA6))
      go_roundw
      case rel => exact ⟨k + 1, hlt, by go_num, ⟨H6.out.to (by rw [HT.out]; simp)⟩⟩
      case measure => simp [intOf]; omega
    · obtain rfl : k = ns.length := by omega
      have HA : Hid (AE base w v wr _ (xs ++ (c :: ns.flatMap ulB))) := ⟨by have := HW.out; rwa [List.take_of_length_le (Nat.le_refl _)] at this⟩
      go_wp2
      go_ret
      exact ⟨_, rfl, HA.out⟩
end Go.Proofs.YtomboebfbipaaaaDoor
