/- The document's Write. The document's one, and Write. -/
import Derived.Test.YtomboebfbipaaaaDoorCMay
import Derived.Laws.AppendOwnNone
import Derived.Deep.RegionHeld3
namespace Go.Proofs.YtomboebfbipaaaaDoor
open Go.ChangeShapes Go.WideShapes Go.ChangeAt Go.RowKit
set_option linter.unusedVariables false
set_option linter.unusedSimpArgs false

/-- Bytes that lie in memory. -/
def Bt (w : World) (v : Value) (xs : List Int) : Prop := ∃ ao cap, v = .slice ao xs.length cap ∧ Row w ao xs.length (fun i => xs.getD i 0) ∧ (ao = none → xs.length = 0 ∧ cap = 0)
theorem Bt.bel {w w' : World} {v : Value} {xs : List Int} (h : Bt w v xs) (hb : Below w.heap.size w w') : Bt w' v xs := by
  obtain ⟨ao, cap, h1, h2, h3⟩ := h
  exact ⟨ao, cap, h1, h2.below hb (Nat.le_refl _), h3⟩
theorem Own.bt {w : World} {base : Nat} {v : Value} {xs : List Int} (h : Own w base v xs) : Bt w v xs := by
  by_cases h0 : 1 ≤ xs.length
  · obtain ⟨g, cap, rfl, _, _, hc⟩ := h.lies h0
    exact ⟨_, cap, rfl, .inr ⟨g, 0, rfl, fun i hi => by rw [Nat.zero_add]; exact hc i hi⟩, fun e => by cases e⟩
  · have h0' : xs.length = 0 := by omega
    rcases h.2 with ⟨rfl, _⟩ | ⟨g, cap, cur, rfl, _⟩
    · exact ⟨none, 0, by rw [h0'], .inl h0', fun _ => ⟨h0', rfl⟩⟩
    · exact ⟨_, cap, rfl, .inl h0', fun e => by cases e⟩
theorem bt_lit (w : World) (x : Int) : Bt (w.alloc (.cells #[.int .u8 x] 5)) (.slice (some ⟨w.heap.size, 0, none⟩) 1 1) [x] :=
  ⟨_, 1, rfl, .inr ⟨w.heap.size, 0, rfl, fun i hi => by
    have : i = 0 := by simpa using hi
    subst this
    simp⟩, fun e => by cases e⟩
theorem own_lit (w : World) (x : Int) : Own (w.alloc (.cells #[.int .u8 x] 5)) w.heap.size (.slice (some ⟨w.heap.size, 0, none⟩) 1 1) [x] :=
  ⟨rfl, .inr ⟨w.heap.size, 1, #[.int .u8 x], rfl, Nat.le_refl _, heap_alloc_new w _, Nat.le_refl _, by unfold maxLen; omega, rfl, rfl⟩⟩
theorem Own.bel {w w' : World} {base : Nat} {v : Value} {xs : List Int} (h : Own w base v xs) (hb : Below w.heap.size w w') : Own w' base v xs :=
  World.ownsRow.kept (row := none) h ⟨hb.os, hb.tape, hb.output, hb.size, fun j hj _ => hb.block j hj⟩ (by cases hv : v.ownBlock <;> simp)
theorem Own.low {w : World} {b b' : Nat} {v : Value} {xs : List Int} (h : Own w b v xs) (hb : b' ≤ b) : Own w b' v xs := by
  refine ⟨h.1, ?_⟩
  rcases h.2 with hv | ⟨g', c', cur, hv, h2, h3⟩
  · exact .inl hv
  · exact .inr ⟨g', c', cur, hv, by omega, h3⟩

/-- Bytes, copied behind a row of the call's own. -/
theorem append_bt {ops : Array Oper} {rest : List Oper} {o : Oper} {a : Act} {Q : Exit → Act → World → Prop} (w : World) (hgd : o.guard = none) (s x : Operand)
    (ho : o.op = .call { callee := .builtin .append, args := #[s, x], argTypes := #[24, 24] })
    (base : Nat) (v : Value) (l : List Int) (hs : a.eval s = v) (hown : Own w base v l) (u : Value) (m : List Int) (hx : a.eval x = u) (hb : Bt w u m)
    (hn : l.length + m.length ≤ 140737488355328) (hbase : base ≤ w.heap.size)
    (h : ∀ v' w', Own w' base v' (l ++ m) → Below base w w' → wpList Tryd.prog ops Q rest (a.put o.dst v') w') :
    wpList Tryd.prog ops Q (o :: rest) a w := by
  obtain ⟨ao, c, rfl, hr, hnil⟩ := hb
  obtain ⟨i0, hi, hz0, hz1, hz2⟩ := info_parts info5
  cases ao with
  | none =>
    obtain ⟨h1, rfl⟩ := hnil rfl
    obtain rfl : m = [] := List.eq_nil_of_length_eq_zero h1
    refine wpList_append_own_none hgd s x 24 ho base 5 i0 1 Tryd.underlying24 hi _ _ _ hs hown hx ?_
    exact h v w (by simpa using hown) (Below.refl _ _)
  | some ad =>
    refine wpList_append_own _ hgd s x 24 ho base 5 i0 _ 1 1 Tryd.underlying24 hi hz0 hz1 hz2 rfl (by decide) _ l.length _ hs hown ad m.length c (m.map (Value.int .u8)) hx (by simp) ?_ ?_ (by unfold maxLen; omega) (by omega) hbase ?_
    · intro j u hj
      by_cases hjm : j < m.length
      · rcases hr with hr | ⟨b, off, e, hc⟩
        · omega
        · cases e
          rw [caddr_add, hc j hjm]
          simp [hjm] at hj
          simp [hjm, hj]
      · simp [hjm] at hj
    · intro u hu
      simp at hu
      obtain ⟨z, _, rfl⟩ := hu
      rfl
    · intro v' w' hown' hgrow hnn
      refine h v' w' ?_ ((Below.refl base w).grown hgrow hbase (own_block hown))
      unfold Own
      simpa using hown'

set_option maxRecDepth 10000 in
theorem joined_any (v1 v2 : Value) (xs ys : List Int) (w : World) (h1 : Bt w v1 xs) (h2 : Bt w v2 ys) (hn : xs.length + ys.length ≤ 1000000) :
    Calls Tryd.prog 96 #[v1, v2] w fun e w' => ∃ v, e = .returned v ∧ Own w' w.heap.size v (xs ++ ys) ∧ Below w.heap.size w w' := by
  have HE : Hid _ := ⟨Own.empty w w.heap.size (Nat.le_refl _)⟩
  have H1 : Hid _ := ⟨h1.bel ((Below.refl _ _).alloc (Nat.le_refl _) (.cells #[] 5))⟩
  have H2 : Hid _ := ⟨h2⟩
  have HN : Hid (xs.length + ys.length ≤ 1000000) := ⟨hn⟩
  clear h1 h2 hn
  have tk : True := trivial
  go_enter Tryd.func96, Tryd.ntmps96
  go_wp2_with (first
    | (at_builtin; have _t := tk; refine append_bt _ rfl _ _ rfl w.heap.size _ [] rfl HE.out _ xs rfl H1.out (by have := HN.out; simp; omega) (by simp) ?_; intro v3 w3 ho3 hb3; clear tk _t; rw [List.nil_append] at ho3; have HO : Hid (Own w3 w.heap.size v3 xs ∧ Below w.heap.size w w3) := ⟨ho3, ((Below.refl _ _).alloc (Nat.le_refl _) _).trans hb3⟩; clear ho3 hb3)
    | (at_builtin; refine append_bt _ rfl _ _ rfl w.heap.size _ xs rfl HO.out.1 _ ys rfl (H2.out.bel HO.out.2) (by have := HN.out; omega) HO.out.2.size ?_; intro v4 w4 ho4 hb4; have HP : Hid (Own w4 w.heap.size v4 (xs ++ ys) ∧ Below w.heap.size w w4) := ⟨ho4, HO.out.2.trans hb4⟩; clear ho4 hb4))
  go_ret
  exact ⟨_, rfl, HP.out.1, HP.out.2⟩

/-- An Advance's bytes. -/
def advB (n : Int) : List Int := if n < 64 then [64 + n] else if n < 256 then 2 :: pl n 1 else if n < 65536 then 3 :: pl n 2 else 4 :: pl n 4
def ulB (n : Int) : List Int := ul (n % 18446744073709551616).toNat
theorem ulB_len (n : Int) : (ulB n).length ≤ 10 := ul_len10 _ (by omega)
/-- An op's bytes. -/
def oneB (o : Oq) : List Int :=
  if o.k = 1 then advB o.n
  else if o.k = 2 then 12 :: (ulB o.r ++ ulB o.n)
  else if o.k = 4 then 13 :: ulB o.r
  else if o.k = 3 then 14 :: ulB o.n
  else if o.k = 5 then (if o.n ≤ 0 then (128 + o.r) :: ulB (-(o.n.tdiv 8)) else 17 :: (ulB o.r ++ sl (-(o.n.tdiv 8))))
  else if o.k = 6 then [192 + o.r]
  else if o.k = 7 then 7 :: ulB o.r
  else if o.k = 8 then 8 :: ulB o.r
  else if o.k = 9 then [10]
  else if o.k = 10 then [11]
  else [0]

set_option maxRecDepth 10000 in
theorem advance_any (n : Int) (w : World) (h0 : 0 ≤ n) (h1 : n < 2147483648) :
    Calls Tryd.prog 95 #[.int .i64 n] w fun e w' => ∃ v, e = .returned v ∧ Own w' w.heap.size v (advB n) ∧ Below w.heap.size w w' := by
  have H : ∀ (c : Int) (v : Value) (xs : List Int) (w1 : World), Own w1 w.heap.size v xs → Below w.heap.size w w1 → xs.length ≤ 4 → Calls Tryd.prog 96 #[.slice (some ⟨w1.heap.size, 0, none⟩) 1 1, v] (w1.alloc (.cells #[.int .u8 c] 5)) fun e w' => ∃ v, e = .returned v ∧ Own w' w.heap.size v (c :: xs) ∧ Below w.heap.size w w' := fun c v xs w1 ho hb hl => by
    have B1 : Below w1.heap.size w1 (w1.alloc (.cells #[.int .u8 c] 5)) := (Below.refl _ _).alloc (Nat.le_refl _) _
    refine (joined_any _ v [c] xs _ (bt_lit w1 c) (ho.bt.bel B1) (by simp; omega)).mono ?_
    rintro e w' ⟨v', rfl, ho', hb'⟩
    have B2 := hb.trans (B1.mono hb.size)
    exact ⟨v', rfl, ho'.low B2.size, B2.trans (hb'.mono B2.size)⟩
  have HH : Hid _ := ⟨H⟩
  clear H
  by_cases c1 : n < 64
  · have HA : Hid (advB n = [64 + n]) := ⟨by unfold advB; rw [if_pos c1]⟩
    go_enter Tryd.func95, Tryd.ntmps95
    go_wp2
    go_ret
    exact ⟨_, rfl, by rw [HA.out]; exact own_lit w _, (Below.refl _ _).alloc (Nat.le_refl _) _⟩
  by_cases c2 : n < 256
  · have HA : Hid (advB n = 2 :: pl n 1) := ⟨by unfold advB; rw [if_neg c1, if_pos c2]⟩
    have HP := rput_1 n w (by omega)
    go_enter Tryd.func95, Tryd.ntmps95
    go_wp2_with (first
      | (go_at_call 31; (with_reducible refine HP.mono ?_); rintro e w1 ⟨v1, he, ho1, hb1⟩; subst he; have HO : Hid _ := ⟨ho1⟩; have HB : Hid _ := ⟨hb1⟩; clear ho1 hb1)
      | (go_at_call 96; (with_reducible refine (HH.out 2 _ _ _ HO.out HB.out (by rw [pl_len]; omega)).mono ?_); rintro e w2 ⟨v2, he, ho2, hb2⟩; subst he; have HO2 : Hid _ := ⟨ho2⟩; have HB2 : Hid _ := ⟨hb2⟩; clear ho2 hb2))
    go_ret
    exact ⟨_, rfl, by rw [HA.out]; exact HO2.out, HB2.out⟩
  by_cases c3 : n < 65536
  · have HA : Hid (advB n = 3 :: pl n 2) := ⟨by unfold advB; rw [if_neg c1, if_neg c2, if_pos c3]⟩
    have HP := rput_2 n w (by omega)
    go_enter Tryd.func95, Tryd.ntmps95
    go_wp2_with (first
      | (go_at_call 31; (with_reducible refine HP.mono ?_); rintro e w1 ⟨v1, he, ho1, hb1⟩; subst he; have HO : Hid _ := ⟨ho1⟩; have HB : Hid _ := ⟨hb1⟩; clear ho1 hb1)
      | (go_at_call 96; (with_reducible refine (HH.out 3 _ _ _ HO.out HB.out (by rw [pl_len]; omega)).mono ?_); rintro e w2 ⟨v2, he, ho2, hb2⟩; subst he; have HO2 : Hid _ := ⟨ho2⟩; have HB2 : Hid _ := ⟨hb2⟩; clear ho2 hb2))
    go_ret
    exact ⟨_, rfl, by rw [HA.out]; exact HO2.out, HB2.out⟩
  · have HA : Hid (advB n = 4 :: pl n 4) := ⟨by unfold advB; rw [if_neg c1, if_neg c2, if_neg c3]⟩
    have HP := rput_4 n w (by omega)
    go_enter Tryd.func95, Tryd.ntmps95
    go_wp2_with (first
      | (go_at_call 31; (with_reducible refine HP.mono ?_); rintro e w1 ⟨v1, he, ho1, hb1⟩; subst he; have HO : Hid _ := ⟨ho1⟩; have HB : Hid _ := ⟨hb1⟩; clear ho1 hb1)
      | (go_at_call 96; (with_reducible refine (HH.out 4 _ _ _ HO.out HB.out (by rw [pl_len]; omega)).mono ?_); rintro e w2 ⟨v2, he, ho2, hb2⟩; subst he; have HO2 : Hid _ := ⟨ho2⟩; have HB2 : Hid _ := ⟨hb2⟩; clear ho2 hb2))
    go_ret
    exact ⟨_, rfl, by rw [HA.out]; exact HO2.out, HB2.out⟩

/-- A byte and a row, joined. -/
theorem joined_lit (B0 : Nat) (c : Int) (v : Value) (xs : List Int) (w w1 : World) (ho : Own w1 B0 v xs) (hB : B0 = w.heap.size) (hb : Below w.heap.size w w1) (hl : xs.length ≤ 100) :
    Calls Tryd.prog 96 #[.slice (some ⟨w1.heap.size, 0, none⟩) 1 1, v] (w1.alloc (.cells #[.int .u8 c] 5)) fun e w' => ∃ v, e = .returned v ∧ Own w' w.heap.size v (c :: xs) ∧ Below w1.heap.size w1 w' := by
  have B1 : Below w1.heap.size w1 (w1.alloc (.cells #[.int .u8 c] 5)) := (Below.refl _ _).alloc (Nat.le_refl _) _
  refine (joined_any _ v [c] xs _ (bt_lit w1 c) (ho.bt.bel B1) (by simp; omega)).mono ?_
  rintro e w' ⟨v', rfl, ho', hb'⟩
  have h1 := B1.size
  have h2 := hb.size
  exact ⟨v', rfl, ho'.low (by omega), B1.trans (hb'.mono h1)⟩

theorem tdiv8 {n : Int} (h0 : -2147483648 ≤ n) (h1 : n < 2147483648) : -268435456 ≤ n.tdiv 8 ∧ n.tdiv 8 ≤ 268435456 := by
  by_cases h : 0 ≤ n
  · rw [Int.tdiv_eq_ediv_of_nonneg h]; omega
  · have e : n.tdiv 8 = -((-n).tdiv 8) := by rw [Int.neg_tdiv]; omega
    rw [e, Int.tdiv_eq_ediv_of_nonneg (by omega)]; omega
theorem up_al {w : World} {p : Addr} {v : Value} {o : Obj} (h : w.cell? p = some v) : (w.alloc o).cell? p = some v :=
  ((Below.refl w.heap.size w).alloc (Nat.le_refl _) o |>.cell (p := p) (World.block_lt_of_cell? w p h)).trans h
/-- A byte that was laid first, and a row. -/
theorem joined_lit2 (B0 : Nat) (c : Int) (v : Value) (xs : List Int) (w w1 : World) (ho : Own w1 B0 v xs) (hB : B0 = w.heap.size) (hb : Below w.heap.size w w1) (hl : xs.length ≤ 100) :
    Calls Tryd.prog 96 #[.slice (some ⟨w1.heap.size, 0, none⟩) 1 1, v] (w1.alloc (.cells #[.int .u8 c] 5)).drew fun e w' => ∃ v, e = .returned v ∧ Own w' w.heap.size v (c :: xs) ∧ Below w1.heap.size w1 w' := by
  have B1 : Below w1.heap.size w1 (w1.alloc (.cells #[.int .u8 c] 5)) := (Below.refl _ _).alloc (Nat.le_refl _) _
  have B0' : Below (w1.alloc (.cells #[.int .u8 c] 5)).heap.size (w1.alloc (.cells #[.int .u8 c] 5)) (w1.alloc (.cells #[.int .u8 c] 5)).drew := (Below.refl _ _).drew
  refine (joined_any _ v [c] xs _ ((bt_lit w1 c).bel B0') ((ho.bt.bel B1).bel B0') (by simp; omega)).mono ?_
  rintro e w' ⟨v', rfl, ho', hb'⟩
  have h1 := B1.size
  have h2 := hb.size
  have h3 := B0'.size
  exact ⟨v', rfl, ho'.low (by omega), (B1.trans (B0'.mono h1)).trans (hb'.mono (by omega))⟩
theorem joined_a (c : Int) (v : Value) (xs : List Int) (w w2 w3 : World) (hb : Below w.heap.size w w2) (hb3 : Below (w2.alloc (.cells #[.int .u8 c] 5)).drew.heap.size (w2.alloc (.cells #[.int .u8 c] 5)).drew w3) (ho : Own w3 (w2.alloc (.cells #[.int .u8 c] 5)).drew.heap.size v xs) (hl : xs.length ≤ 100) :
    Calls Tryd.prog 96 #[.slice (some ⟨w2.heap.size, 0, none⟩) 1 1, v] w3 fun e w' => ∃ v, e = .returned v ∧ Own w' w.heap.size v (c :: xs) ∧ Below w.heap.size w w' ∧ Below w3.heap.size w3 w' := by
  have b0 : Below (w2.alloc (.cells #[.int .u8 c] 5)).heap.size (w2.alloc (.cells #[.int .u8 c] 5)) w3 := ((Below.refl _ _).drew).trans hb3
  refine (joined_any _ v [c] xs w3 ((bt_lit w2 c).bel b0) ho.bt (by simp; omega)).mono ?_
  rintro e w' ⟨v', rfl, ho', hb'⟩
  have b2 := hb.alloc hb.size (.cells #[.int .u8 c] 5)
  have b3 := b2.trans (b0.mono b2.size)
  exact ⟨v', rfl, ho'.low b3.size, b3.trans (hb'.mono b3.size), hb'⟩
theorem joined_b (c : Int) (v : Value) (xs : List Int) (w w2 w3 : World) (hb : Below w.heap.size w w2) (hb3 : Below w2.drew.heap.size w2.drew w3) (ho : Own w3 w2.drew.heap.size v xs) (hl : xs.length ≤ 100) :
    Calls Tryd.prog 96 #[.slice (some ⟨w3.heap.size, 0, none⟩) 1 1, v] (w3.alloc (.cells #[.int .u8 c] 5)) fun e w' => ∃ v, e = .returned v ∧ Own w' w.heap.size v (c :: xs) ∧ Below w.heap.size w w' ∧ Below w3.heap.size w3 w' := by
  have B1 : Below w3.heap.size w3 (w3.alloc (.cells #[.int .u8 c] 5)) := (Below.refl _ _).alloc (Nat.le_refl _) _
  refine (joined_any _ v [c] xs _ (bt_lit w3 c) (ho.bt.bel B1) (by simp; omega)).mono ?_
  rintro e w' ⟨v', rfl, ho', hb'⟩
  have b1 : Below w.heap.size w w2.drew := hb.drew
  have b3 := b1.trans (hb3.mono b1.size)
  have b4 := b3.trans (B1.mono b3.size)
  exact ⟨v', rfl, ho'.low b4.size, b4.trans (hb'.mono b4.size), B1.trans (hb'.mono B1.size)⟩

set_option maxHeartbeats 4000000 in
set_option maxRecDepth 10000 in
theorem one_4 (r n : Int) (w : World) :
    Calls Tryd.prog 83 #[.agg #[.int .i64 4, .int .i64 r, .int .i64 n]] w fun e w' => ∃ v, e = .returned v ∧ Own w' w.heap.size v (oneB ⟨4, r, n⟩) ∧ Below w.heap.size w w' := by
  have HA : Hid (oneB ⟨4, r, n⟩ = 13 :: ulB r) := ⟨by simp [oneB]⟩
  have tk : True := trivial
  go_enter Tryd.func83, Tryd.ntmps83
  go_upto_region 1 with (fail)
  have HB : Hid (Below w.heap.size w (w.alloc (.cells #[.int .i64 4, .int .i64 r, .int .i64 n] 103))) := ⟨(Below.refl _ _).alloc (Nat.le_refl _) _⟩
  have c0 : (w.alloc (.cells #[.int .i64 4, .int .i64 r, .int .i64 n] 103)).cell? ⟨w.heap.size, 0, none⟩ = some (.int .i64 4) := by simp
  have c1 : (w.alloc (.cells #[.int .i64 4, .int .i64 r, .int .i64 n] 103)).cell? ⟨w.heap.size, 1, none⟩ = some (.int .i64 r) := by simp
  have c2 : (w.alloc (.cells #[.int .i64 4, .int .i64 r, .int .i64 n] 103)).cell? ⟨w.heap.size, 2, none⟩ = some (.int .i64 n) := by simp
  have hlt : w.heap.size < (w.alloc (.cells #[.int .i64 4, .int .i64 r, .int .i64 n] 103)).heap.size := by simp
  obtain ⟨B, hB⟩ : ∃ B, w.heap.size = B := ⟨_, rfl⟩
  generalize w.alloc (.cells #[.int .i64 4, .int .i64 r, .int .i64 n] 103) = W at *
  rw [hB] at c0 c1 c2 hlt ⊢
  have HE : Hid (w.heap.size = B ∧ B < W.heap.size) := ⟨hB, hlt⟩
  clear hB hlt
  go_upto_region 3 with (first
    | (go_at_call 28; have _t := tk; (with_reducible refine (ruleb_any r _).mono ?_); rintro e w1 ⟨v1, he, ho1, hb1⟩; subst he; clear tk _t; have HO1 : Hid (Own w1 w.heap.size v1 (ulB r) ∧ Below w.heap.size w w1 ∧ Below W.heap.size W w1) := ⟨ho1.low HB.out.size, HB.out.trans (hb1.mono HB.out.size), hb1⟩; have d2 := (hb1.cell (p := ⟨B, 2, none⟩) HE.out.2).trans c2; clear ho1 hb1)
    | (go_at_call 28; (with_reducible refine (ruleb_any n _).mono ?_); rintro e w2 ⟨v2, he, ho2, hb2⟩; subst he; have HO2 : Hid (Own w2 w.heap.size v1 (ulB r) ∧ Own w2 w.heap.size v2 (ulB n) ∧ Below w.heap.size w w2 ∧ Below W.heap.size W w2) := ⟨HO1.out.1.bel hb2, ho2.low HO1.out.2.1.size, HO1.out.2.1.trans (hb2.mono HO1.out.2.1.size), HO1.out.2.2.trans (hb2.mono HO1.out.2.2.size)⟩; clear ho2 hb2))
  have e0 := (HO2.out.2.2.2.cell (p := ⟨B, 0, none⟩) HE.out.2).trans c0
  have e1 := (HO2.out.2.2.2.cell (p := ⟨B, 1, none⟩) HE.out.2).trans c1
  have e2 := (HO2.out.2.2.2.cell (p := ⟨B, 2, none⟩) HE.out.2).trans c2
  have HBB : Hid (B < w2.heap.size) := ⟨Nat.lt_of_lt_of_le HE.out.2 HO2.out.2.2.2.size⟩
  clear c0 c1 c2 d2
  go_wp2_with (go_at_call 96; (with_reducible refine (joined_lit _ 13 _ _ w w2 HO2.out.1 rfl HO2.out.2.2.1 (by have := ulB_len r; have := ulB_len n; omega)).mono ?_); rintro e w3 ⟨v3, he, ho3, hb3⟩; subst he; have HO3 : Hid _ := ⟨ho3⟩; have HB3 : Hid (Below w.heap.size w w3) := ⟨HO2.out.2.2.1.trans (hb3.mono HO2.out.2.2.1.size)⟩; have HV2 : Hid (Own w3 w.heap.size v2 (ulB n)) := ⟨HO2.out.2.1.bel hb3⟩; clear ho3 hb3)
  go_ret
  exact ⟨_, rfl, by rw [HA.out]; exact HO3.out, HB3.out⟩

set_option maxHeartbeats 4000000 in
set_option maxRecDepth 10000 in
theorem one_7 (r n : Int) (w : World) :
    Calls Tryd.prog 83 #[.agg #[.int .i64 7, .int .i64 r, .int .i64 n]] w fun e w' => ∃ v, e = .returned v ∧ Own w' w.heap.size v (oneB ⟨7, r, n⟩) ∧ Below w.heap.size w w' := by
  have HA : Hid (oneB ⟨7, r, n⟩ = 7 :: ulB r) := ⟨by simp [oneB]⟩
  have tk : True := trivial
  go_enter Tryd.func83, Tryd.ntmps83
  go_upto_region 1 with (fail)
  have HB : Hid (Below w.heap.size w (w.alloc (.cells #[.int .i64 7, .int .i64 r, .int .i64 n] 103))) := ⟨(Below.refl _ _).alloc (Nat.le_refl _) _⟩
  have c0 : (w.alloc (.cells #[.int .i64 7, .int .i64 r, .int .i64 n] 103)).cell? ⟨w.heap.size, 0, none⟩ = some (.int .i64 7) := by simp
  have c1 : (w.alloc (.cells #[.int .i64 7, .int .i64 r, .int .i64 n] 103)).cell? ⟨w.heap.size, 1, none⟩ = some (.int .i64 r) := by simp
  have c2 : (w.alloc (.cells #[.int .i64 7, .int .i64 r, .int .i64 n] 103)).cell? ⟨w.heap.size, 2, none⟩ = some (.int .i64 n) := by simp
  have hlt : w.heap.size < (w.alloc (.cells #[.int .i64 7, .int .i64 r, .int .i64 n] 103)).heap.size := by simp
  obtain ⟨B, hB⟩ : ∃ B, w.heap.size = B := ⟨_, rfl⟩
  generalize w.alloc (.cells #[.int .i64 7, .int .i64 r, .int .i64 n] 103) = W at *
  rw [hB] at c0 c1 c2 hlt ⊢
  have HE : Hid (w.heap.size = B ∧ B < W.heap.size) := ⟨hB, hlt⟩
  clear hB hlt
  go_upto_region 3 with (first
    | (go_at_call 28; have _t := tk; (with_reducible refine (ruleb_any r _).mono ?_); rintro e w1 ⟨v1, he, ho1, hb1⟩; subst he; clear tk _t; have HO1 : Hid (Own w1 w.heap.size v1 (ulB r) ∧ Below w.heap.size w w1 ∧ Below W.heap.size W w1) := ⟨ho1.low HB.out.size, HB.out.trans (hb1.mono HB.out.size), hb1⟩; have d2 := (hb1.cell (p := ⟨B, 2, none⟩) HE.out.2).trans c2; clear ho1 hb1)
    | (go_at_call 28; (with_reducible refine (ruleb_any n _).mono ?_); rintro e w2 ⟨v2, he, ho2, hb2⟩; subst he; have HO2 : Hid (Own w2 w.heap.size v1 (ulB r) ∧ Own w2 w.heap.size v2 (ulB n) ∧ Below w.heap.size w w2 ∧ Below W.heap.size W w2) := ⟨HO1.out.1.bel hb2, ho2.low HO1.out.2.1.size, HO1.out.2.1.trans (hb2.mono HO1.out.2.1.size), HO1.out.2.2.trans (hb2.mono HO1.out.2.2.size)⟩; clear ho2 hb2))
  have e0 := (HO2.out.2.2.2.cell (p := ⟨B, 0, none⟩) HE.out.2).trans c0
  have e1 := (HO2.out.2.2.2.cell (p := ⟨B, 1, none⟩) HE.out.2).trans c1
  have e2 := (HO2.out.2.2.2.cell (p := ⟨B, 2, none⟩) HE.out.2).trans c2
  have HBB : Hid (B < w2.heap.size) := ⟨Nat.lt_of_lt_of_le HE.out.2 HO2.out.2.2.2.size⟩
  clear c0 c1 c2 d2
  go_wp2_with (go_at_call 96; (with_reducible refine (joined_lit _ 7 _ _ w w2 HO2.out.1 rfl HO2.out.2.2.1 (by have := ulB_len r; have := ulB_len n; omega)).mono ?_); rintro e w3 ⟨v3, he, ho3, hb3⟩; subst he; have HO3 : Hid _ := ⟨ho3⟩; have HB3 : Hid (Below w.heap.size w w3) := ⟨HO2.out.2.2.1.trans (hb3.mono HO2.out.2.2.1.size)⟩; have HV2 : Hid (Own w3 w.heap.size v2 (ulB n)) := ⟨HO2.out.2.1.bel hb3⟩; clear ho3 hb3)
  go_ret
  exact ⟨_, rfl, by rw [HA.out]; exact HO3.out, HB3.out⟩

set_option maxHeartbeats 4000000 in
set_option maxRecDepth 10000 in
theorem one_8 (r n : Int) (w : World) :
    Calls Tryd.prog 83 #[.agg #[.int .i64 8, .int .i64 r, .int .i64 n]] w fun e w' => ∃ v, e = .returned v ∧ Own w' w.heap.size v (oneB ⟨8, r, n⟩) ∧ Below w.heap.size w w' := by
  have HA : Hid (oneB ⟨8, r, n⟩ = 8 :: ulB r) := ⟨by simp [oneB]⟩
  have tk : True := trivial
  go_enter Tryd.func83, Tryd.ntmps83
  go_upto_region 1 with (fail)
  have HB : Hid (Below w.heap.size w (w.alloc (.cells #[.int .i64 8, .int .i64 r, .int .i64 n] 103))) := ⟨(Below.refl _ _).alloc (Nat.le_refl _) _⟩
  have c0 : (w.alloc (.cells #[.int .i64 8, .int .i64 r, .int .i64 n] 103)).cell? ⟨w.heap.size, 0, none⟩ = some (.int .i64 8) := by simp
  have c1 : (w.alloc (.cells #[.int .i64 8, .int .i64 r, .int .i64 n] 103)).cell? ⟨w.heap.size, 1, none⟩ = some (.int .i64 r) := by simp
  have c2 : (w.alloc (.cells #[.int .i64 8, .int .i64 r, .int .i64 n] 103)).cell? ⟨w.heap.size, 2, none⟩ = some (.int .i64 n) := by simp
  have hlt : w.heap.size < (w.alloc (.cells #[.int .i64 8, .int .i64 r, .int .i64 n] 103)).heap.size := by simp
  obtain ⟨B, hB⟩ : ∃ B, w.heap.size = B := ⟨_, rfl⟩
  generalize w.alloc (.cells #[.int .i64 8, .int .i64 r, .int .i64 n] 103) = W at *
  rw [hB] at c0 c1 c2 hlt ⊢
  have HE : Hid (w.heap.size = B ∧ B < W.heap.size) := ⟨hB, hlt⟩
  clear hB hlt
  go_upto_region 3 with (first
    | (go_at_call 28; have _t := tk; (with_reducible refine (ruleb_any r _).mono ?_); rintro e w1 ⟨v1, he, ho1, hb1⟩; subst he; clear tk _t; have HO1 : Hid (Own w1 w.heap.size v1 (ulB r) ∧ Below w.heap.size w w1 ∧ Below W.heap.size W w1) := ⟨ho1.low HB.out.size, HB.out.trans (hb1.mono HB.out.size), hb1⟩; have d2 := (hb1.cell (p := ⟨B, 2, none⟩) HE.out.2).trans c2; clear ho1 hb1)
    | (go_at_call 28; (with_reducible refine (ruleb_any n _).mono ?_); rintro e w2 ⟨v2, he, ho2, hb2⟩; subst he; have HO2 : Hid (Own w2 w.heap.size v1 (ulB r) ∧ Own w2 w.heap.size v2 (ulB n) ∧ Below w.heap.size w w2 ∧ Below W.heap.size W w2) := ⟨HO1.out.1.bel hb2, ho2.low HO1.out.2.1.size, HO1.out.2.1.trans (hb2.mono HO1.out.2.1.size), HO1.out.2.2.trans (hb2.mono HO1.out.2.2.size)⟩; clear ho2 hb2))
  have e0 := (HO2.out.2.2.2.cell (p := ⟨B, 0, none⟩) HE.out.2).trans c0
  have e1 := (HO2.out.2.2.2.cell (p := ⟨B, 1, none⟩) HE.out.2).trans c1
  have e2 := (HO2.out.2.2.2.cell (p := ⟨B, 2, none⟩) HE.out.2).trans c2
  have HBB : Hid (B < w2.heap.size) := ⟨Nat.lt_of_lt_of_le HE.out.2 HO2.out.2.2.2.size⟩
  clear c0 c1 c2 d2
  go_wp2_with (go_at_call 96; (with_reducible refine (joined_lit _ 8 _ _ w w2 HO2.out.1 rfl HO2.out.2.2.1 (by have := ulB_len r; have := ulB_len n; omega)).mono ?_); rintro e w3 ⟨v3, he, ho3, hb3⟩; subst he; have HO3 : Hid _ := ⟨ho3⟩; have HB3 : Hid (Below w.heap.size w w3) := ⟨HO2.out.2.2.1.trans (hb3.mono HO2.out.2.2.1.size)⟩; have HV2 : Hid (Own w3 w.heap.size v2 (ulB n)) := ⟨HO2.out.2.1.bel hb3⟩; clear ho3 hb3)
  go_ret
  exact ⟨_, rfl, by rw [HA.out]; exact HO3.out, HB3.out⟩

set_option maxHeartbeats 4000000 in
set_option maxRecDepth 10000 in
theorem one_3 (r n : Int) (w : World) :
    Calls Tryd.prog 83 #[.agg #[.int .i64 3, .int .i64 r, .int .i64 n]] w fun e w' => ∃ v, e = .returned v ∧ Own w' w.heap.size v (oneB ⟨3, r, n⟩) ∧ Below w.heap.size w w' := by
  have HA : Hid (oneB ⟨3, r, n⟩ = 14 :: ulB n) := ⟨by simp [oneB]⟩
  have tk : True := trivial
  go_enter Tryd.func83, Tryd.ntmps83
  go_upto_region 1 with (fail)
  have HB : Hid (Below w.heap.size w (w.alloc (.cells #[.int .i64 3, .int .i64 r, .int .i64 n] 103))) := ⟨(Below.refl _ _).alloc (Nat.le_refl _) _⟩
  have c0 : (w.alloc (.cells #[.int .i64 3, .int .i64 r, .int .i64 n] 103)).cell? ⟨w.heap.size, 0, none⟩ = some (.int .i64 3) := by simp
  have c1 : (w.alloc (.cells #[.int .i64 3, .int .i64 r, .int .i64 n] 103)).cell? ⟨w.heap.size, 1, none⟩ = some (.int .i64 r) := by simp
  have c2 : (w.alloc (.cells #[.int .i64 3, .int .i64 r, .int .i64 n] 103)).cell? ⟨w.heap.size, 2, none⟩ = some (.int .i64 n) := by simp
  have hlt : w.heap.size < (w.alloc (.cells #[.int .i64 3, .int .i64 r, .int .i64 n] 103)).heap.size := by simp
  obtain ⟨B, hB⟩ : ∃ B, w.heap.size = B := ⟨_, rfl⟩
  generalize w.alloc (.cells #[.int .i64 3, .int .i64 r, .int .i64 n] 103) = W at *
  rw [hB] at c0 c1 c2 hlt ⊢
  have HE : Hid (w.heap.size = B ∧ B < W.heap.size) := ⟨hB, hlt⟩
  clear hB hlt
  go_upto_region 3 with (first
    | (go_at_call 28; have _t := tk; (with_reducible refine (ruleb_any r _).mono ?_); rintro e w1 ⟨v1, he, ho1, hb1⟩; subst he; clear tk _t; have HO1 : Hid (Own w1 w.heap.size v1 (ulB r) ∧ Below w.heap.size w w1 ∧ Below W.heap.size W w1) := ⟨ho1.low HB.out.size, HB.out.trans (hb1.mono HB.out.size), hb1⟩; have d2 := (hb1.cell (p := ⟨B, 2, none⟩) HE.out.2).trans c2; clear ho1 hb1)
    | (go_at_call 28; (with_reducible refine (ruleb_any n _).mono ?_); rintro e w2 ⟨v2, he, ho2, hb2⟩; subst he; have HO2 : Hid (Own w2 w.heap.size v1 (ulB r) ∧ Own w2 w.heap.size v2 (ulB n) ∧ Below w.heap.size w w2 ∧ Below W.heap.size W w2) := ⟨HO1.out.1.bel hb2, ho2.low HO1.out.2.1.size, HO1.out.2.1.trans (hb2.mono HO1.out.2.1.size), HO1.out.2.2.trans (hb2.mono HO1.out.2.2.size)⟩; clear ho2 hb2))
  have e0 := (HO2.out.2.2.2.cell (p := ⟨B, 0, none⟩) HE.out.2).trans c0
  have e1 := (HO2.out.2.2.2.cell (p := ⟨B, 1, none⟩) HE.out.2).trans c1
  have e2 := (HO2.out.2.2.2.cell (p := ⟨B, 2, none⟩) HE.out.2).trans c2
  have HBB : Hid (B < w2.heap.size) := ⟨Nat.lt_of_lt_of_le HE.out.2 HO2.out.2.2.2.size⟩
  clear c0 c1 c2 d2
  go_wp2_with (go_at_call 96; (with_reducible refine (joined_lit _ 14 _ _ w w2 HO2.out.2.1 rfl HO2.out.2.2.1 (by have := ulB_len r; have := ulB_len n; omega)).mono ?_); rintro e w3 ⟨v3, he, ho3, hb3⟩; subst he; have HO3 : Hid _ := ⟨ho3⟩; have HB3 : Hid (Below w.heap.size w w3) := ⟨HO2.out.2.2.1.trans (hb3.mono HO2.out.2.2.1.size)⟩; have HV2 : Hid (Own w3 w.heap.size v2 (ulB n)) := ⟨HO2.out.2.1.bel hb3⟩; clear ho3 hb3)
  go_ret
  exact ⟨_, rfl, by rw [HA.out]; exact HO3.out, HB3.out⟩

set_option maxHeartbeats 4000000 in
set_option maxRecDepth 10000 in
theorem one_2 (r n : Int) (w : World) :
    Calls Tryd.prog 83 #[.agg #[.int .i64 2, .int .i64 r, .int .i64 n]] w fun e w' => ∃ v, e = .returned v ∧ Own w' w.heap.size v (oneB ⟨2, r, n⟩) ∧ Below w.heap.size w w' := by
  have HA : Hid (oneB ⟨2, r, n⟩ = 12 :: (ulB r ++ ulB n)) := ⟨by simp [oneB]⟩
  have tk : True := trivial
  go_enter Tryd.func83, Tryd.ntmps83
  go_upto_region 1 with (fail)
  have HB : Hid (Below w.heap.size w (w.alloc (.cells #[.int .i64 2, .int .i64 r, .int .i64 n] 103))) := ⟨(Below.refl _ _).alloc (Nat.le_refl _) _⟩
  have c0 : (w.alloc (.cells #[.int .i64 2, .int .i64 r, .int .i64 n] 103)).cell? ⟨w.heap.size, 0, none⟩ = some (.int .i64 2) := by simp
  have c1 : (w.alloc (.cells #[.int .i64 2, .int .i64 r, .int .i64 n] 103)).cell? ⟨w.heap.size, 1, none⟩ = some (.int .i64 r) := by simp
  have c2 : (w.alloc (.cells #[.int .i64 2, .int .i64 r, .int .i64 n] 103)).cell? ⟨w.heap.size, 2, none⟩ = some (.int .i64 n) := by simp
  have hlt : w.heap.size < (w.alloc (.cells #[.int .i64 2, .int .i64 r, .int .i64 n] 103)).heap.size := by simp
  obtain ⟨B, hB⟩ : ∃ B, w.heap.size = B := ⟨_, rfl⟩
  generalize w.alloc (.cells #[.int .i64 2, .int .i64 r, .int .i64 n] 103) = W at *
  rw [hB] at c0 c1 c2 hlt ⊢
  have HE : Hid (w.heap.size = B ∧ B < W.heap.size) := ⟨hB, hlt⟩
  clear hB hlt
  go_upto_region 3 with (first
    | (go_at_call 28; have _t := tk; (with_reducible refine (ruleb_any r _).mono ?_); rintro e w1 ⟨v1, he, ho1, hb1⟩; subst he; clear tk _t; have HO1 : Hid (Own w1 w.heap.size v1 (ulB r) ∧ Below w.heap.size w w1 ∧ Below W.heap.size W w1) := ⟨ho1.low HB.out.size, HB.out.trans (hb1.mono HB.out.size), hb1⟩; have d2 := (hb1.cell (p := ⟨B, 2, none⟩) HE.out.2).trans c2; clear ho1 hb1)
    | (go_at_call 28; (with_reducible refine (ruleb_any n _).mono ?_); rintro e w2 ⟨v2, he, ho2, hb2⟩; subst he; have HO2 : Hid (Own w2 w.heap.size v1 (ulB r) ∧ Own w2 w.heap.size v2 (ulB n) ∧ Below w.heap.size w w2 ∧ Below W.heap.size W w2) := ⟨HO1.out.1.bel hb2, ho2.low HO1.out.2.1.size, HO1.out.2.1.trans (hb2.mono HO1.out.2.1.size), HO1.out.2.2.trans (hb2.mono HO1.out.2.2.size)⟩; clear ho2 hb2))
  have e0 := (HO2.out.2.2.2.cell (p := ⟨B, 0, none⟩) HE.out.2).trans c0
  have e1 := (HO2.out.2.2.2.cell (p := ⟨B, 1, none⟩) HE.out.2).trans c1
  have e2 := (HO2.out.2.2.2.cell (p := ⟨B, 2, none⟩) HE.out.2).trans c2
  have HBB : Hid (B < w2.heap.size) := ⟨Nat.lt_of_lt_of_le HE.out.2 HO2.out.2.2.2.size⟩
  clear c0 c1 c2 d2
  go_wp2_with (first
    | (have _t := HO2; go_at_call 96; (with_reducible refine (joined_lit _ 12 _ _ w w2 HO2.out.1 rfl HO2.out.2.2.1 (by have := ulB_len r; have := ulB_len n; omega)).mono ?_); rintro e w3 ⟨v3, he, ho3, hb3⟩; subst he; have HO3 : Hid _ := ⟨ho3⟩; have HB3 : Hid (Below w.heap.size w w3) := ⟨HO2.out.2.2.1.trans (hb3.mono HO2.out.2.2.1.size)⟩; have HV2 : Hid (Own w3 w.heap.size v2 (ulB n)) := ⟨HO2.out.2.1.bel hb3⟩; clear ho3 hb3)
    | (go_at_call 96; (with_reducible refine (joined_any _ _ (12 :: ulB r) (ulB n) _ HO3.out.bt HV2.out.bt (by have := ulB_len r; have := ulB_len n; simp; omega)).mono ?_); rintro e w4 ⟨v4, he, ho4, hb4⟩; subst he; have HO4 : Hid (Own w4 w.heap.size v4 (12 :: (ulB r ++ ulB n)) ∧ Below w.heap.size w w4) := ⟨ho4.low HB3.out.size, HB3.out.trans (hb4.mono HB3.out.size)⟩; clear ho4 hb4))
  go_ret
  exact ⟨_, rfl, by rw [HA.out]; exact HO4.out.1, HO4.out.2⟩

set_option maxHeartbeats 4000000 in
set_option maxRecDepth 10000 in
theorem one_9 (r n : Int) (w : World) :
    Calls Tryd.prog 83 #[.agg #[.int .i64 9, .int .i64 r, .int .i64 n]] w fun e w' => ∃ v, e = .returned v ∧ Own w' w.heap.size v (oneB ⟨9, r, n⟩) ∧ Below w.heap.size w w' := by
  have HA : Hid (oneB ⟨9, r, n⟩ = [10]) := ⟨by simp [oneB]⟩
  have tk : True := trivial
  go_enter Tryd.func83, Tryd.ntmps83
  go_upto_region 1 with (fail)
  have HB : Hid (Below w.heap.size w (w.alloc (.cells #[.int .i64 9, .int .i64 r, .int .i64 n] 103))) := ⟨(Below.refl _ _).alloc (Nat.le_refl _) _⟩
  have c0 : (w.alloc (.cells #[.int .i64 9, .int .i64 r, .int .i64 n] 103)).cell? ⟨w.heap.size, 0, none⟩ = some (.int .i64 9) := by simp
  have c1 : (w.alloc (.cells #[.int .i64 9, .int .i64 r, .int .i64 n] 103)).cell? ⟨w.heap.size, 1, none⟩ = some (.int .i64 r) := by simp
  have c2 : (w.alloc (.cells #[.int .i64 9, .int .i64 r, .int .i64 n] 103)).cell? ⟨w.heap.size, 2, none⟩ = some (.int .i64 n) := by simp
  have hlt : w.heap.size < (w.alloc (.cells #[.int .i64 9, .int .i64 r, .int .i64 n] 103)).heap.size := by simp
  obtain ⟨B, hB⟩ : ∃ B, w.heap.size = B := ⟨_, rfl⟩
  generalize w.alloc (.cells #[.int .i64 9, .int .i64 r, .int .i64 n] 103) = W at *
  rw [hB] at c0 c1 c2 hlt ⊢
  have HE : Hid (w.heap.size = B ∧ B < W.heap.size) := ⟨hB, hlt⟩
  clear hB hlt
  go_upto_region 3 with (first
    | (go_at_call 28; have _t := tk; (with_reducible refine (ruleb_any r _).mono ?_); rintro e w1 ⟨v1, he, ho1, hb1⟩; subst he; clear tk _t; have HO1 : Hid (Own w1 w.heap.size v1 (ulB r) ∧ Below w.heap.size w w1 ∧ Below W.heap.size W w1) := ⟨ho1.low HB.out.size, HB.out.trans (hb1.mono HB.out.size), hb1⟩; have d2 := (hb1.cell (p := ⟨B, 2, none⟩) HE.out.2).trans c2; clear ho1 hb1)
    | (go_at_call 28; (with_reducible refine (ruleb_any n _).mono ?_); rintro e w2 ⟨v2, he, ho2, hb2⟩; subst he; have HO2 : Hid (Own w2 w.heap.size v1 (ulB r) ∧ Own w2 w.heap.size v2 (ulB n) ∧ Below w.heap.size w w2 ∧ Below W.heap.size W w2) := ⟨HO1.out.1.bel hb2, ho2.low HO1.out.2.1.size, HO1.out.2.1.trans (hb2.mono HO1.out.2.1.size), HO1.out.2.2.trans (hb2.mono HO1.out.2.2.size)⟩; clear ho2 hb2))
  have e0 := (HO2.out.2.2.2.cell (p := ⟨B, 0, none⟩) HE.out.2).trans c0
  have e1 := (HO2.out.2.2.2.cell (p := ⟨B, 1, none⟩) HE.out.2).trans c1
  have e2 := (HO2.out.2.2.2.cell (p := ⟨B, 2, none⟩) HE.out.2).trans c2
  have HBB : Hid (B < w2.heap.size) := ⟨Nat.lt_of_lt_of_le HE.out.2 HO2.out.2.2.2.size⟩
  clear c0 c1 c2 d2
  go_wp2
  go_ret
  exact ⟨_, rfl, by rw [HA.out]; exact (own_lit w2 _).low HO2.out.2.2.1.size, HO2.out.2.2.1.alloc HO2.out.2.2.1.size _⟩

set_option maxHeartbeats 4000000 in
set_option maxRecDepth 10000 in
theorem one_10 (r n : Int) (w : World) :
    Calls Tryd.prog 83 #[.agg #[.int .i64 10, .int .i64 r, .int .i64 n]] w fun e w' => ∃ v, e = .returned v ∧ Own w' w.heap.size v (oneB ⟨10, r, n⟩) ∧ Below w.heap.size w w' := by
  have HA : Hid (oneB ⟨10, r, n⟩ = [11]) := ⟨by simp [oneB]⟩
  have tk : True := trivial
  go_enter Tryd.func83, Tryd.ntmps83
  go_upto_region 1 with (fail)
  have HB : Hid (Below w.heap.size w (w.alloc (.cells #[.int .i64 10, .int .i64 r, .int .i64 n] 103))) := ⟨(Below.refl _ _).alloc (Nat.le_refl _) _⟩
  have c0 : (w.alloc (.cells #[.int .i64 10, .int .i64 r, .int .i64 n] 103)).cell? ⟨w.heap.size, 0, none⟩ = some (.int .i64 10) := by simp
  have c1 : (w.alloc (.cells #[.int .i64 10, .int .i64 r, .int .i64 n] 103)).cell? ⟨w.heap.size, 1, none⟩ = some (.int .i64 r) := by simp
  have c2 : (w.alloc (.cells #[.int .i64 10, .int .i64 r, .int .i64 n] 103)).cell? ⟨w.heap.size, 2, none⟩ = some (.int .i64 n) := by simp
  have hlt : w.heap.size < (w.alloc (.cells #[.int .i64 10, .int .i64 r, .int .i64 n] 103)).heap.size := by simp
  obtain ⟨B, hB⟩ : ∃ B, w.heap.size = B := ⟨_, rfl⟩
  generalize w.alloc (.cells #[.int .i64 10, .int .i64 r, .int .i64 n] 103) = W at *
  rw [hB] at c0 c1 c2 hlt ⊢
  have HE : Hid (w.heap.size = B ∧ B < W.heap.size) := ⟨hB, hlt⟩
  clear hB hlt
  go_upto_region 3 with (first
    | (go_at_call 28; have _t := tk; (with_reducible refine (ruleb_any r _).mono ?_); rintro e w1 ⟨v1, he, ho1, hb1⟩; subst he; clear tk _t; have HO1 : Hid (Own w1 w.heap.size v1 (ulB r) ∧ Below w.heap.size w w1 ∧ Below W.heap.size W w1) := ⟨ho1.low HB.out.size, HB.out.trans (hb1.mono HB.out.size), hb1⟩; have d2 := (hb1.cell (p := ⟨B, 2, none⟩) HE.out.2).trans c2; clear ho1 hb1)
    | (go_at_call 28; (with_reducible refine (ruleb_any n _).mono ?_); rintro e w2 ⟨v2, he, ho2, hb2⟩; subst he; have HO2 : Hid (Own w2 w.heap.size v1 (ulB r) ∧ Own w2 w.heap.size v2 (ulB n) ∧ Below w.heap.size w w2 ∧ Below W.heap.size W w2) := ⟨HO1.out.1.bel hb2, ho2.low HO1.out.2.1.size, HO1.out.2.1.trans (hb2.mono HO1.out.2.1.size), HO1.out.2.2.trans (hb2.mono HO1.out.2.2.size)⟩; clear ho2 hb2))
  have e0 := (HO2.out.2.2.2.cell (p := ⟨B, 0, none⟩) HE.out.2).trans c0
  have e1 := (HO2.out.2.2.2.cell (p := ⟨B, 1, none⟩) HE.out.2).trans c1
  have e2 := (HO2.out.2.2.2.cell (p := ⟨B, 2, none⟩) HE.out.2).trans c2
  have HBB : Hid (B < w2.heap.size) := ⟨Nat.lt_of_lt_of_le HE.out.2 HO2.out.2.2.2.size⟩
  clear c0 c1 c2 d2
  go_wp2
  go_ret
  exact ⟨_, rfl, by rw [HA.out]; exact (own_lit w2 _).low HO2.out.2.2.1.size, HO2.out.2.2.1.alloc HO2.out.2.2.1.size _⟩

set_option maxHeartbeats 4000000 in
set_option maxRecDepth 10000 in
theorem one_0 (r n : Int) (w : World) :
    Calls Tryd.prog 83 #[.agg #[.int .i64 0, .int .i64 r, .int .i64 n]] w fun e w' => ∃ v, e = .returned v ∧ Own w' w.heap.size v (oneB ⟨0, r, n⟩) ∧ Below w.heap.size w w' := by
  have HA : Hid (oneB ⟨0, r, n⟩ = [0]) := ⟨by simp [oneB]⟩
  have tk : True := trivial
  go_enter Tryd.func83, Tryd.ntmps83
  go_upto_region 1 with (fail)
  have HB : Hid (Below w.heap.size w (w.alloc (.cells #[.int .i64 0, .int .i64 r, .int .i64 n] 103))) := ⟨(Below.refl _ _).alloc (Nat.le_refl _) _⟩
  have c0 : (w.alloc (.cells #[.int .i64 0, .int .i64 r, .int .i64 n] 103)).cell? ⟨w.heap.size, 0, none⟩ = some (.int .i64 0) := by simp
  have c1 : (w.alloc (.cells #[.int .i64 0, .int .i64 r, .int .i64 n] 103)).cell? ⟨w.heap.size, 1, none⟩ = some (.int .i64 r) := by simp
  have c2 : (w.alloc (.cells #[.int .i64 0, .int .i64 r, .int .i64 n] 103)).cell? ⟨w.heap.size, 2, none⟩ = some (.int .i64 n) := by simp
  have hlt : w.heap.size < (w.alloc (.cells #[.int .i64 0, .int .i64 r, .int .i64 n] 103)).heap.size := by simp
  obtain ⟨B, hB⟩ : ∃ B, w.heap.size = B := ⟨_, rfl⟩
  generalize w.alloc (.cells #[.int .i64 0, .int .i64 r, .int .i64 n] 103) = W at *
  rw [hB] at c0 c1 c2 hlt ⊢
  have HE : Hid (w.heap.size = B ∧ B < W.heap.size) := ⟨hB, hlt⟩
  clear hB hlt
  go_upto_region 3 with (first
    | (go_at_call 28; have _t := tk; (with_reducible refine (ruleb_any r _).mono ?_); rintro e w1 ⟨v1, he, ho1, hb1⟩; subst he; clear tk _t; have HO1 : Hid (Own w1 w.heap.size v1 (ulB r) ∧ Below w.heap.size w w1 ∧ Below W.heap.size W w1) := ⟨ho1.low HB.out.size, HB.out.trans (hb1.mono HB.out.size), hb1⟩; have d2 := (hb1.cell (p := ⟨B, 2, none⟩) HE.out.2).trans c2; clear ho1 hb1)
    | (go_at_call 28; (with_reducible refine (ruleb_any n _).mono ?_); rintro e w2 ⟨v2, he, ho2, hb2⟩; subst he; have HO2 : Hid (Own w2 w.heap.size v1 (ulB r) ∧ Own w2 w.heap.size v2 (ulB n) ∧ Below w.heap.size w w2 ∧ Below W.heap.size W w2) := ⟨HO1.out.1.bel hb2, ho2.low HO1.out.2.1.size, HO1.out.2.1.trans (hb2.mono HO1.out.2.1.size), HO1.out.2.2.trans (hb2.mono HO1.out.2.2.size)⟩; clear ho2 hb2))
  have e0 := (HO2.out.2.2.2.cell (p := ⟨B, 0, none⟩) HE.out.2).trans c0
  have e1 := (HO2.out.2.2.2.cell (p := ⟨B, 1, none⟩) HE.out.2).trans c1
  have e2 := (HO2.out.2.2.2.cell (p := ⟨B, 2, none⟩) HE.out.2).trans c2
  have HBB : Hid (B < w2.heap.size) := ⟨Nat.lt_of_lt_of_le HE.out.2 HO2.out.2.2.2.size⟩
  clear c0 c1 c2 d2
  go_wp2
  go_ret
  exact ⟨_, rfl, by rw [HA.out]; exact (own_lit w2 _).low HO2.out.2.2.1.size, HO2.out.2.2.1.alloc HO2.out.2.2.1.size _⟩

set_option maxHeartbeats 4000000 in
set_option maxRecDepth 10000 in
theorem one_6 (r n : Int) (w : World) (h0 : 0 ≤ r) (h1 : r ≤ 16) :
    Calls Tryd.prog 83 #[.agg #[.int .i64 6, .int .i64 r, .int .i64 n]] w fun e w' => ∃ v, e = .returned v ∧ Own w' w.heap.size v (oneB ⟨6, r, n⟩) ∧ Below w.heap.size w w' := by
  have HA : Hid (oneB ⟨6, r, n⟩ = [192 + r]) := ⟨by simp [oneB]⟩
  have tk : True := trivial
  go_enter Tryd.func83, Tryd.ntmps83
  go_upto_region 1 with (fail)
  have HB : Hid (Below w.heap.size w (w.alloc (.cells #[.int .i64 6, .int .i64 r, .int .i64 n] 103))) := ⟨(Below.refl _ _).alloc (Nat.le_refl _) _⟩
  have c0 : (w.alloc (.cells #[.int .i64 6, .int .i64 r, .int .i64 n] 103)).cell? ⟨w.heap.size, 0, none⟩ = some (.int .i64 6) := by simp
  have c1 : (w.alloc (.cells #[.int .i64 6, .int .i64 r, .int .i64 n] 103)).cell? ⟨w.heap.size, 1, none⟩ = some (.int .i64 r) := by simp
  have c2 : (w.alloc (.cells #[.int .i64 6, .int .i64 r, .int .i64 n] 103)).cell? ⟨w.heap.size, 2, none⟩ = some (.int .i64 n) := by simp
  have hlt : w.heap.size < (w.alloc (.cells #[.int .i64 6, .int .i64 r, .int .i64 n] 103)).heap.size := by simp
  obtain ⟨B, hB⟩ : ∃ B, w.heap.size = B := ⟨_, rfl⟩
  generalize w.alloc (.cells #[.int .i64 6, .int .i64 r, .int .i64 n] 103) = W at *
  rw [hB] at c0 c1 c2 hlt ⊢
  have HE : Hid (w.heap.size = B ∧ B < W.heap.size) := ⟨hB, hlt⟩
  clear hB hlt
  go_upto_region 3 with (first
    | (go_at_call 28; have _t := tk; (with_reducible refine (ruleb_any r _).mono ?_); rintro e w1 ⟨v1, he, ho1, hb1⟩; subst he; clear tk _t; have HO1 : Hid (Own w1 w.heap.size v1 (ulB r) ∧ Below w.heap.size w w1 ∧ Below W.heap.size W w1) := ⟨ho1.low HB.out.size, HB.out.trans (hb1.mono HB.out.size), hb1⟩; have d2 := (hb1.cell (p := ⟨B, 2, none⟩) HE.out.2).trans c2; clear ho1 hb1)
    | (go_at_call 28; (with_reducible refine (ruleb_any n _).mono ?_); rintro e w2 ⟨v2, he, ho2, hb2⟩; subst he; have HO2 : Hid (Own w2 w.heap.size v1 (ulB r) ∧ Own w2 w.heap.size v2 (ulB n) ∧ Below w.heap.size w w2 ∧ Below W.heap.size W w2) := ⟨HO1.out.1.bel hb2, ho2.low HO1.out.2.1.size, HO1.out.2.1.trans (hb2.mono HO1.out.2.1.size), HO1.out.2.2.trans (hb2.mono HO1.out.2.2.size)⟩; clear ho2 hb2))
  have e0 := (HO2.out.2.2.2.cell (p := ⟨B, 0, none⟩) HE.out.2).trans c0
  have e1 := (HO2.out.2.2.2.cell (p := ⟨B, 1, none⟩) HE.out.2).trans c1
  have e2 := (HO2.out.2.2.2.cell (p := ⟨B, 2, none⟩) HE.out.2).trans c2
  have HBB : Hid (B < w2.heap.size) := ⟨Nat.lt_of_lt_of_le HE.out.2 HO2.out.2.2.2.size⟩
  clear c0 c1 c2 d2
  go_wp2
  go_ret
  exact ⟨_, rfl, by rw [HA.out]; exact (own_lit w2 _).low HO2.out.2.2.1.size, HO2.out.2.2.1.alloc HO2.out.2.2.1.size _⟩

set_option maxHeartbeats 4000000 in
set_option maxRecDepth 10000 in
theorem one_1 (r n : Int) (w : World) (h0 : 0 ≤ n) (h1 : n < 2147483648) :
    Calls Tryd.prog 83 #[.agg #[.int .i64 1, .int .i64 r, .int .i64 n]] w fun e w' => ∃ v, e = .returned v ∧ Own w' w.heap.size v (oneB ⟨1, r, n⟩) ∧ Below w.heap.size w w' := by
  have HA : Hid (oneB ⟨1, r, n⟩ = advB n) := ⟨by simp [oneB]⟩
  have tk : True := trivial
  go_enter Tryd.func83, Tryd.ntmps83
  go_upto_region 1 with (fail)
  have HB : Hid (Below w.heap.size w (w.alloc (.cells #[.int .i64 1, .int .i64 r, .int .i64 n] 103))) := ⟨(Below.refl _ _).alloc (Nat.le_refl _) _⟩
  have c0 : (w.alloc (.cells #[.int .i64 1, .int .i64 r, .int .i64 n] 103)).cell? ⟨w.heap.size, 0, none⟩ = some (.int .i64 1) := by simp
  have c1 : (w.alloc (.cells #[.int .i64 1, .int .i64 r, .int .i64 n] 103)).cell? ⟨w.heap.size, 1, none⟩ = some (.int .i64 r) := by simp
  have c2 : (w.alloc (.cells #[.int .i64 1, .int .i64 r, .int .i64 n] 103)).cell? ⟨w.heap.size, 2, none⟩ = some (.int .i64 n) := by simp
  have hlt : w.heap.size < (w.alloc (.cells #[.int .i64 1, .int .i64 r, .int .i64 n] 103)).heap.size := by simp
  obtain ⟨B, hB⟩ : ∃ B, w.heap.size = B := ⟨_, rfl⟩
  generalize w.alloc (.cells #[.int .i64 1, .int .i64 r, .int .i64 n] 103) = W at *
  rw [hB] at c0 c1 c2 hlt ⊢
  have HE : Hid (w.heap.size = B ∧ B < W.heap.size) := ⟨hB, hlt⟩
  clear hB hlt
  go_upto_region 3 with (first
    | (go_at_call 28; have _t := tk; (with_reducible refine (ruleb_any r _).mono ?_); rintro e w1 ⟨v1, he, ho1, hb1⟩; subst he; clear tk _t; have HO1 : Hid (Own w1 w.heap.size v1 (ulB r) ∧ Below w.heap.size w w1 ∧ Below W.heap.size W w1) := ⟨ho1.low HB.out.size, HB.out.trans (hb1.mono HB.out.size), hb1⟩; have d2 := (hb1.cell (p := ⟨B, 2, none⟩) HE.out.2).trans c2; clear ho1 hb1)
    | (go_at_call 28; (with_reducible refine (ruleb_any n _).mono ?_); rintro e w2 ⟨v2, he, ho2, hb2⟩; subst he; have HO2 : Hid (Own w2 w.heap.size v1 (ulB r) ∧ Own w2 w.heap.size v2 (ulB n) ∧ Below w.heap.size w w2 ∧ Below W.heap.size W w2) := ⟨HO1.out.1.bel hb2, ho2.low HO1.out.2.1.size, HO1.out.2.1.trans (hb2.mono HO1.out.2.1.size), HO1.out.2.2.trans (hb2.mono HO1.out.2.2.size)⟩; clear ho2 hb2))
  have e0 := (HO2.out.2.2.2.cell (p := ⟨B, 0, none⟩) HE.out.2).trans c0
  have e1 := (HO2.out.2.2.2.cell (p := ⟨B, 1, none⟩) HE.out.2).trans c1
  have e2 := (HO2.out.2.2.2.cell (p := ⟨B, 2, none⟩) HE.out.2).trans c2
  have HBB : Hid (B < w2.heap.size) := ⟨Nat.lt_of_lt_of_le HE.out.2 HO2.out.2.2.2.size⟩
  clear c0 c1 c2 d2
  go_wp2_with (go_at_call 95; (with_reducible refine (advance_any n _ h0 h1).mono ?_); rintro e w3 ⟨v3, he, ho3, hb3⟩; subst he; have HO3 : Hid (Own w3 w.heap.size v3 (advB n)) := ⟨ho3.low HO2.out.2.2.1.size⟩; have HB3 : Hid (Below w.heap.size w w3) := ⟨HO2.out.2.2.1.trans (hb3.mono HO2.out.2.2.1.size)⟩; clear ho3 hb3)
  go_ret
  exact ⟨_, rfl, by rw [HA.out]; exact HO3.out, HB3.out⟩

set_option maxHeartbeats 4000000 in
set_option maxRecDepth 10000 in
theorem one_5a (r n : Int) (w : World) (h0 : 0 ≤ r) (h1 : r ≤ 16) (hn : -2147483648 ≤ n) (hn0 : n ≤ 0) :
    Calls Tryd.prog 83 #[.agg #[.int .i64 5, .int .i64 r, .int .i64 n]] w fun e w' => ∃ v, e = .returned v ∧ Own w' w.heap.size v (oneB ⟨5, r, n⟩) ∧ Below w.heap.size w w' := by
  have HA : Hid (oneB ⟨5, r, n⟩ = (128 + r) :: ulB (-(n.tdiv 8))) := ⟨by simp [oneB, hn0]⟩
  have tk : True := trivial
  obtain ⟨q, hq⟩ : ∃ q, n.tdiv 8 = q := ⟨_, rfl⟩
  have hq1 : -268435456 ≤ q ∧ q ≤ 268435456 := by rw [← hq]; exact tdiv8 (by omega) (by omega)
  rw [hq] at HA
  go_enter Tryd.func83, Tryd.ntmps83
  go_upto_region 1 with (fail)
  have HB : Hid (Below w.heap.size w (w.alloc (.cells #[.int .i64 5, .int .i64 r, .int .i64 n] 103))) := ⟨(Below.refl _ _).alloc (Nat.le_refl _) _⟩
  have c0 : (w.alloc (.cells #[.int .i64 5, .int .i64 r, .int .i64 n] 103)).cell? ⟨w.heap.size, 0, none⟩ = some (.int .i64 5) := by simp
  have c1 : (w.alloc (.cells #[.int .i64 5, .int .i64 r, .int .i64 n] 103)).cell? ⟨w.heap.size, 1, none⟩ = some (.int .i64 r) := by simp
  have c2 : (w.alloc (.cells #[.int .i64 5, .int .i64 r, .int .i64 n] 103)).cell? ⟨w.heap.size, 2, none⟩ = some (.int .i64 n) := by simp
  have hlt : w.heap.size < (w.alloc (.cells #[.int .i64 5, .int .i64 r, .int .i64 n] 103)).heap.size := by simp
  obtain ⟨B, hB⟩ : ∃ B, w.heap.size = B := ⟨_, rfl⟩
  generalize w.alloc (.cells #[.int .i64 5, .int .i64 r, .int .i64 n] 103) = W at *
  rw [hB] at c0 c1 c2 hlt ⊢
  have HE : Hid (w.heap.size = B ∧ B < W.heap.size) := ⟨hB, hlt⟩
  clear hB hlt
  go_upto_region 3 with (first
    | (go_at_call 28; have _t := tk; (with_reducible refine (ruleb_any r _).mono ?_); rintro e w1 ⟨v1, he, ho1, hb1⟩; subst he; clear tk _t; have HO1 : Hid (Own w1 w.heap.size v1 (ulB r) ∧ Below w.heap.size w w1 ∧ Below W.heap.size W w1) := ⟨ho1.low HB.out.size, HB.out.trans (hb1.mono HB.out.size), hb1⟩; have d2 := (hb1.cell (p := ⟨B, 2, none⟩) HE.out.2).trans c2; clear ho1 hb1)
    | (go_at_call 28; (with_reducible refine (ruleb_any n _).mono ?_); rintro e w2 ⟨v2, he, ho2, hb2⟩; subst he; have HO2 : Hid (Own w2 w.heap.size v1 (ulB r) ∧ Own w2 w.heap.size v2 (ulB n) ∧ Below w.heap.size w w2 ∧ Below W.heap.size W w2) := ⟨HO1.out.1.bel hb2, ho2.low HO1.out.2.1.size, HO1.out.2.1.trans (hb2.mono HO1.out.2.1.size), HO1.out.2.2.trans (hb2.mono HO1.out.2.2.size)⟩; clear ho2 hb2))
  have e0 := (HO2.out.2.2.2.cell (p := ⟨B, 0, none⟩) HE.out.2).trans c0
  have e1 := (HO2.out.2.2.2.cell (p := ⟨B, 1, none⟩) HE.out.2).trans c1
  have e2 := (HO2.out.2.2.2.cell (p := ⟨B, 2, none⟩) HE.out.2).trans c2
  have HBB : Hid (B < w2.heap.size) := ⟨Nat.lt_of_lt_of_le HE.out.2 HO2.out.2.2.2.size⟩
  clear c0 c1 c2 d2
  go_upto_region 14 with (fail)
  have hc : (IntKind.u8.wrap (IntKind.i64.wrap (128 + r))) = 128 + r := by rw [IntKind.wrap_i64, IntKind.wrap_u8]; omega
  have hm : IntKind.i64.wrap (-IntKind.i64.wrap q) = -q := by rw [IntKind.wrap_i64, IntKind.wrap_i64]; omega
  have HL : Hid (B < w2.drew.heap.size) := ⟨HBB.out⟩
  have HL2 : Hid (B < (w2.alloc (.cells #[.int .u8 (128 + r)] 5)).drew.heap.size) := ⟨Nat.lt_of_lt_of_le HBB.out ((Below.refl w2.heap.size w2).alloc (Nat.le_refl _) _).size⟩
  have g1 : w2.drew.cell? ⟨B, 1, none⟩ = _ := e1
  have g2 : w2.drew.cell? ⟨B, 2, none⟩ = _ := e2
  have k1 : (w2.alloc (.cells #[.int .u8 (128 + r)] 5)).drew.cell? ⟨B, 1, none⟩ = some (.int .i64 r) := up_al e1
  have k2 : (w2.alloc (.cells #[.int .u8 (128 + r)] 5)).drew.cell? ⟨B, 2, none⟩ = some (.int .i64 n) := up_al e2
  have hl : (ul (-q % 18446744073709551616).toNat).length ≤ 100 := by have := ulB_len (-q); unfold ulB at this; omega
  go_region_held3 (fun v => v.cell? ⟨B, 1, none⟩ = some (.int .i64 r) ∧ v.cell? ⟨B, 2, none⟩ = some (.int .i64 n))
    (first | ((refine ⟨?_, ?_⟩) <;> (with_reducible assumption)) | ((refine ⟨?_, ?_⟩) <;> (exact up_al (by with_reducible assumption))) | (with_reducible assumption))
    (first
      | (go_at_call 28; (with_reducible refine (ruleb_any _ _).mono ?_); rintro e w3 ⟨v3, he, ho3, hb3⟩; subst he; (try rw [hm] at ho3); first | (have x1 := (hb3.cell (p := ⟨B, 1, none⟩) HL2.out).trans k1; have x2 := (hb3.cell (p := ⟨B, 2, none⟩) HL2.out).trans k2) | (have x1 := (hb3.cell (p := ⟨B, 1, none⟩) HL.out).trans g1; have x2 := (hb3.cell (p := ⟨B, 2, none⟩) HL.out).trans g2))
      | (go_at_call 96; (with_reducible refine (joined_a (128 + r) _ _ w w2 w3 HO2.out.2.2.1 hb3 ho3 hl).mono ?_); rintro e w4 ⟨v4, he, ho4, hb4, hc4⟩; subst he; have y1 := (hc4.cell (p := ⟨B, 1, none⟩) (World.block_lt_of_cell? _ _ x1)).trans x1; have y2 := (hc4.cell (p := ⟨B, 2, none⟩) (World.block_lt_of_cell? _ _ x2)).trans x2; have HO4 : Hid _ := ⟨ho4⟩; have HB4 : Hid _ := ⟨hb4⟩)
      | (go_at_call 96; (with_reducible refine (joined_b (128 + r) _ _ w w2 w3 HO2.out.2.2.1 hb3 ho3 hl).mono ?_); rintro e w4 ⟨v4, he, ho4, hb4, hc4⟩; subst he; have y1 := (hc4.cell (p := ⟨B, 1, none⟩) (World.block_lt_of_cell? _ _ x1)).trans x1; have y2 := (hc4.cell (p := ⟨B, 2, none⟩) (World.block_lt_of_cell? _ _ x2)).trans x2; have HO4 : Hid _ := ⟨ho4⟩; have HB4 : Hid _ := ⟨hb4⟩))
  all_goals
    go_wp2
    go_ret
    exact ⟨_, rfl, by rw [HA.out]; exact HO4.out, HB4.out⟩

set_option maxHeartbeats 4000000 in
set_option maxRecDepth 10000 in
theorem one_5b (r n : Int) (w : World) (h0 : 0 ≤ r) (h1 : r ≤ 16) (hn0 : 0 < n) (hn : n < 2147483648) :
    Calls Tryd.prog 83 #[.agg #[.int .i64 5, .int .i64 r, .int .i64 n]] w fun e w' => ∃ v, e = .returned v ∧ Own w' w.heap.size v (oneB ⟨5, r, n⟩) ∧ Below w.heap.size w w' := by
  have HA : Hid (oneB ⟨5, r, n⟩ = 17 :: (ulB r ++ sl (-(n.tdiv 8)))) := ⟨by simp [oneB]; omega⟩
  have tk : True := trivial
  obtain ⟨q, hq⟩ : ∃ q, n.tdiv 8 = q := ⟨_, rfl⟩
  have hq1 : -268435456 ≤ q ∧ q ≤ 268435456 := by rw [← hq]; exact tdiv8 (by omega) (by omega)
  rw [hq] at HA
  have tk2 : True := trivial
  go_enter Tryd.func83, Tryd.ntmps83
  go_upto_region 1 with (fail)
  have HB : Hid (Below w.heap.size w (w.alloc (.cells #[.int .i64 5, .int .i64 r, .int .i64 n] 103))) := ⟨(Below.refl _ _).alloc (Nat.le_refl _) _⟩
  have c0 : (w.alloc (.cells #[.int .i64 5, .int .i64 r, .int .i64 n] 103)).cell? ⟨w.heap.size, 0, none⟩ = some (.int .i64 5) := by simp
  have c1 : (w.alloc (.cells #[.int .i64 5, .int .i64 r, .int .i64 n] 103)).cell? ⟨w.heap.size, 1, none⟩ = some (.int .i64 r) := by simp
  have c2 : (w.alloc (.cells #[.int .i64 5, .int .i64 r, .int .i64 n] 103)).cell? ⟨w.heap.size, 2, none⟩ = some (.int .i64 n) := by simp
  have hlt : w.heap.size < (w.alloc (.cells #[.int .i64 5, .int .i64 r, .int .i64 n] 103)).heap.size := by simp
  obtain ⟨B, hB⟩ : ∃ B, w.heap.size = B := ⟨_, rfl⟩
  generalize w.alloc (.cells #[.int .i64 5, .int .i64 r, .int .i64 n] 103) = W at *
  rw [hB] at c0 c1 c2 hlt ⊢
  have HE : Hid (w.heap.size = B ∧ B < W.heap.size) := ⟨hB, hlt⟩
  clear hB hlt
  go_upto_region 3 with (first
    | (go_at_call 28; have _t := tk; (with_reducible refine (ruleb_any r _).mono ?_); rintro e w1 ⟨v1, he, ho1, hb1⟩; subst he; clear tk _t; have HO1 : Hid (Own w1 w.heap.size v1 (ulB r) ∧ Below w.heap.size w w1 ∧ Below W.heap.size W w1) := ⟨ho1.low HB.out.size, HB.out.trans (hb1.mono HB.out.size), hb1⟩; have d2 := (hb1.cell (p := ⟨B, 2, none⟩) HE.out.2).trans c2; clear ho1 hb1)
    | (go_at_call 28; (with_reducible refine (ruleb_any n _).mono ?_); rintro e w2 ⟨v2, he, ho2, hb2⟩; subst he; have HO2 : Hid (Own w2 w.heap.size v1 (ulB r) ∧ Own w2 w.heap.size v2 (ulB n) ∧ Below w.heap.size w w2 ∧ Below W.heap.size W w2) := ⟨HO1.out.1.bel hb2, ho2.low HO1.out.2.1.size, HO1.out.2.1.trans (hb2.mono HO1.out.2.1.size), HO1.out.2.2.trans (hb2.mono HO1.out.2.2.size)⟩; clear ho2 hb2))
  have e0 := (HO2.out.2.2.2.cell (p := ⟨B, 0, none⟩) HE.out.2).trans c0
  have e1 := (HO2.out.2.2.2.cell (p := ⟨B, 1, none⟩) HE.out.2).trans c1
  have e2 := (HO2.out.2.2.2.cell (p := ⟨B, 2, none⟩) HE.out.2).trans c2
  have HBB : Hid (B < w2.heap.size) := ⟨Nat.lt_of_lt_of_le HE.out.2 HO2.out.2.2.2.size⟩
  clear c0 c1 c2 d2
  go_upto_region 15 with (fail)
  have hm : IntKind.i64.wrap (-IntKind.i64.wrap q) = -q := by rw [IntKind.wrap_i64, IntKind.wrap_i64]; omega
  have g2 : w2.drew.cell? ⟨B, 2, none⟩ = _ := e2
  have HJ : Hid _ := ⟨joined_lit _ 17 _ _ w w2.drew (HO2.out.1.bel (Below.refl _ _).drew) rfl HO2.out.2.2.1.drew (by have := ulB_len r; omega)⟩
  have HJ2 : Hid _ := ⟨joined_lit2 _ 17 _ _ w w2 HO2.out.1 rfl HO2.out.2.2.1 (by have := ulB_len r; omega)⟩
  have hl : (17 :: ulB r).length + (sl (-q)).length ≤ 1000000 := by have := ulB_len r; have := sl_len10 (-q) (by omega); simp; omega
  go_region_held3 (fun v => v.cell? ⟨B, 2, none⟩ = some (.int .i64 n))
    (first | (with_reducible assumption) | (exact up_al (by with_reducible assumption)))
    (first
      | (have _t := tk2; go_at_call 96; first | (with_reducible refine HJ.out.mono ?_) | (with_reducible refine HJ2.out.mono ?_); rintro e w3 ⟨v3, he, ho3, hb3⟩; subst he; clear tk2 _t; have x2 := (hb3.cell (p := ⟨B, 2, none⟩) HBB.out).trans e2; have HO3 : Hid (Own w3 w.heap.size v3 (17 :: ulB r) ∧ Below w.heap.size w w3) := ⟨ho3, HO2.out.2.2.1.trans (hb3.mono HO2.out.2.2.1.size)⟩; clear ho3 hb3)
      | (go_at_call 29; (with_reducible refine (rsleb_any _ _ (by first | omega | (rw [hm]; omega))).mono ?_); rintro e w4 ⟨v4, he, ho4, hb4⟩; subst he; (try rw [hm] at ho4); have y2 := (hb4.cell (p := ⟨B, 2, none⟩) (World.block_lt_of_cell? _ _ x2)).trans x2; have HO4 : Hid (Own w4 w.heap.size v3 (17 :: ulB r) ∧ Own w4 w.heap.size v4 (sl (-q)) ∧ Below w.heap.size w w4) := ⟨HO3.out.1.bel hb4, ho4.low HO3.out.2.size, HO3.out.2.trans (hb4.mono HO3.out.2.size)⟩; clear ho4 hb4)
      | (go_at_call 96; (with_reducible refine (joined_any _ _ (17 :: ulB r) (sl (-q)) _ HO4.out.1.bt HO4.out.2.1.bt hl).mono ?_); rintro e w5 ⟨v5, he, ho5, hb5⟩; subst he; have z2 := (hb5.cell (p := ⟨B, 2, none⟩) (World.block_lt_of_cell? _ _ y2)).trans y2; have HO5 : Hid (Own w5 w.heap.size v5 (17 :: (ulB r ++ sl (-q))) ∧ Below w.heap.size w w5) := ⟨ho5.low HO4.out.2.2.size, HO4.out.2.2.trans (hb5.mono HO4.out.2.2.size)⟩; clear ho5 hb5))
  all_goals
    go_wp2
    go_ret
    exact ⟨_, rfl, by rw [HA.out]; exact HO5.out.1, HO5.out.2⟩
end Go.Proofs.YtomboebfbipaaaaDoor
