/- The document's Write. -/
import Derived.Test.YtgldijohpfihaaaDoorCMay
import Derived.Laws.AppendOwnNone
import Derived.Deep.RegionHeld3
namespace Go.Proofs.YtgldijohpfihaaaDoor
open Go.ChangeShapes Go.WideShapes Go.ChangeAt Go.RowKit
set_option linter.unusedVariables false
set_option linter.unusedSimpArgs false

/-- Bytes that lie in memory. -/
def Bt (w : World) (v : Value) (xs : List Int) : Prop := ∃ ao cap, v = .slice ao xs.length cap ∧ Row w ao xs.length (fun i => xs.getD i 0) ∧ (ao = none → xs.length = 0 ∧ cap = 0)
theorem Bt.bel {w w' : World} {v : Value} {xs : List Int} (h : Bt w v xs) (hb : Below w.heap.size w w') : Bt w' v xs := by
  obtain ⟨ao, cap, h1, h2, h3⟩ := h
  exact ⟨ao, cap, h1, h2.below hb (Nat.le_refl _), h3⟩
theorem Own.bt {w : World} {base : Nat} {v : Value} {xs : List Int} (h : Own w base v xs) : Bt w v xs := by
  by_cases h0 : 1 ≤ xs.length
  · obtain ⟨g, cap, rfl, _, _, hc⟩ := h.lies h0
    exact ⟨_, cap, rfl, .inr ⟨g, 0, rfl, fun i hi => by rw [Nat.zero_add]; exact hc i hi⟩, fun e => by cases e⟩
  · have h0' : xs.length = 0 := by omega
    rcases h.2 with ⟨rfl, _⟩ | ⟨g, cap, cur, rfl, _⟩
    · exact ⟨none, 0, by rw [h0'], .inl h0', fun _ => ⟨h0', rfl⟩⟩
    · exact ⟨_, cap, rfl, .inl h0', fun e => by cases e⟩
theorem bt_lit (w : World) (x : Int) : Bt (w.alloc (.cells #[.int .u8 x] 5)) (.slice (some ⟨w.heap.size, 0, none⟩) 1 1) [x] :=
  ⟨_, 1, rfl, .inr ⟨w.heap.size, 0, rfl, fun i hi => by
    have : i = 0 := by simpa using hi
    subst this
    simp⟩, fun e => by cases e⟩
theorem own_lit (w : World) (x : Int) : Own (w.alloc (.cells #[.int .u8 x] 5)) w.heap.size (.slice (some ⟨w.heap.size, 0, none⟩) 1 1) [x] :=
  ⟨rfl, .inr ⟨w.heap.size, 1, #[.int .u8 x], rfl, Nat.le_refl _, heap_alloc_new w _, Nat.le_refl _, by unfold maxLen; omega, rfl, rfl⟩⟩
theorem Own.bel {w w' : World} {base : Nat} {v : Value} {xs : List Int} (h : Own w base v xs) (hb : Below w.heap.size w w') : Own w' base v xs :=
  World.ownsRow.kept (row := none) h ⟨hb.os, hb.tape, hb.output, hb.size, fun j hj _ => hb.block j hj⟩ (by cases hv : v.ownBlock <;> simp)
theorem Own.low {w : World} {b b' : Nat} {v : Value} {xs : List Int} (h : Own w b v xs) (hb : b' ≤ b) : Own w b' v xs := by
  refine ⟨h.1, ?_⟩
  rcases h.2 with hv | ⟨g', c', cur, hv, h2, h3⟩
  · exact .inl hv
  · exact .inr ⟨g', c', cur, hv, by omega, h3⟩

/-- Bytes, copied behind a row of the call's own. -/
theorem append_bt {ops : Array Oper} {rest : List Oper} {o : Oper} {a : Act} {Q : Exit → Act → World → Prop} (w : World) (hgd : o.guard = none) (s x : Operand)
    (ho : o.op = .call { callee := .builtin .append, args := #[s, x], argTypes := #[64, 64] })
    (base : Nat) (v : Value) (l : List Int) (hs : a.eval s = v) (hown : Own w base v l) (u : Value) (m : List Int) (hx : a.eval x = u) (hb : Bt w u m)
    (hn : l.length + m.length ≤ 140737488355328) (hbase : base ≤ w.heap.size)
    (h : ∀ v' w', Own w' base v' (l ++ m) → Below base w w' → wpList Tryd.prog ops Q rest (a.put o.dst v') w') :
    wpList Tryd.prog ops Q (o :: rest) a w := by
  obtain ⟨ao, c, rfl, hr, hnil⟩ := hb
  obtain ⟨i0, hi, hz0, hz1, hz2⟩ := info_parts info5
  cases ao with
  | none =>
    obtain ⟨h1, rfl⟩ := hnil rfl
    obtain rfl : m = [] := List.eq_nil_of_length_eq_zero h1
    refine wpList_append_own_none hgd s x 64 ho base 5 i0 1 Tryd.underlying64 hi _ _ _ hs hown hx ?_
    exact h v w (by simpa using hown) (Below.refl _ _)
  | some ad =>
    refine wpList_append_own _ hgd s x 64 ho base 5 i0 _ 1 1 Tryd.underlying64 hi hz0 hz1 hz2 rfl (by decide) _ l.length _ hs hown ad m.length c (m.map (Value.int .u8)) hx (by simp) ?_ ?_ (by unfold maxLen; omega) (by omega) hbase ?_
    · intro j u hj
      by_cases hjm : j < m.length
      · rcases hr with hr | ⟨b, off, e, hc⟩
        · omega
        · cases e
          rw [caddr_add, hc j hjm]
          simp [hjm] at hj
          simp [hjm, hj]
      · simp [hjm] at hj
    · intro u hu
      simp at hu
      obtain ⟨z, _, rfl⟩ := hu
      rfl
    · intro v' w' hown' hgrow hnn
      refine h v' w' ?_ ((Below.refl base w).grown hgrow hbase (own_block hown))
      unfold Own
      simpa using hown'

set_option maxRecDepth 10000 in
theorem joined_any (v1 v2 : Value) (xs ys : List Int) (w : World) (h1 : Bt w v1 xs) (h2 : Bt w v2 ys) (hn : xs.length + ys.length ≤ 1000000) :
    Calls Tryd.prog 52 #[v1, v2] w fun e w' => ∃ v, e = .returned v ∧ Own w' w.heap.size v (xs ++ ys) ∧ Below w.heap.size w w' := by
  have HE : Hid _ := ⟨Own.empty w w.heap.size (Nat.le_refl _)⟩
  have H1 : Hid _ := ⟨h1.bel ((Below.refl _ _).alloc (Nat.le_refl _) (.cells #[] 5))⟩
  have H2 : Hid _ := ⟨h2⟩
  have HN : Hid (xs.length + ys.length ≤ 1000000) := ⟨hn⟩
  clear h1 h2 hn
  have tk : True := trivial
  go_enter Tryd.func52, Tryd.ntmps52
  go_wp2_with (first
    | (at_builtin; have _t := tk; refine append_bt _ rfl _ _ rfl w.heap.size _ [] rfl HE.out _ xs rfl H1.out (by have := HN.out; simp; omega) (by simp) ?_; intro v3 w3 ho3 hb3; clear tk _t; rw [List.nil_append] at ho3; have HO : Hid (Own w3 w.heap.size v3 xs ∧ Below w.heap.size w w3) := ⟨ho3, ((Below.refl _ _).alloc (Nat.le_refl _) _).trans hb3⟩; clear ho3 hb3)
    | (at_builtin; refine append_bt _ rfl _ _ rfl w.heap.size _ xs rfl HO.out.1 _ ys rfl (H2.out.bel HO.out.2) (by have := HN.out; omega) HO.out.2.size ?_; intro v4 w4 ho4 hb4; have HP : Hid (Own w4 w.heap.size v4 (xs ++ ys) ∧ Below w.heap.size w w4) := ⟨ho4, HO.out.2.trans hb4⟩; clear ho4 hb4))
  go_ret
  exact ⟨_, rfl, HP.out.1, HP.out.2⟩

/-- An Advance's bytes. -/
def advB (n : Int) : List Int := if n < 64 then [64 + n] else if n < 256 then 2 :: pl n 1 else if n < 65536 then 3 :: pl n 2 else 4 :: pl n 4
def ulB (n : Int) : List Int := ul (n % 18446744073709551616).toNat
theorem ulB_len (n : Int) : (ulB n).length ≤ 10 := ul_len10 _ (by omega)
/-- An op's bytes. -/
def oneB (o : Oq) : List Int :=
  if o.k = 1 then advB o.n
  else if o.k = 2 then 12 :: (ulB o.r ++ ulB o.n)
  else if o.k = 4 then 13 :: ulB o.r
  else if o.k = 3 then 14 :: ulB o.n
  else if o.k = 5 then (if o.n ≤ 0 then (128 + o.r) :: ulB (-(o.n.tdiv 8)) else 17 :: (ulB o.r ++ sl (-(o.n.tdiv 8))))
  else if o.k = 6 then [192 + o.r]
  else if o.k = 7 then 7 :: ulB o.r
  else if o.k = 8 then 8 :: ulB o.r
  else if o.k = 9 then [10]
  else if o.k = 10 then [11]
  else [0]

set_option maxRecDepth 10000 in
theorem advance_any (n : Int) (w : World) (h0 : 0 ≤ n) (h1 : n < 2147483648) :
    Calls Tryd.prog 51 #[.int .i64 n] w fun e w' => ∃ v, e = .returned v ∧ Own w' w.heap.size v (advB n) ∧ Below w.heap.size w w' := by
  have H : ∀ (c : Int) (v : Value) (xs : List Int) (w1 : World), Own w1 w.heap.size v xs → Below w.heap.size w w1 → xs.length ≤ 4 → Calls Tryd.prog 52 #[.slice (some ⟨w1.heap.size, 0, none⟩) 1 1, v] (w1.alloc (.cells #[.int .u8 c] 5)) fun e w' => ∃ v, e = .returned v ∧ Own w' w.heap.size v (c :: xs) ∧ Below w.heap.size w w' := fun c v xs w1 ho hb hl => by
    have B1 : Below w1.heap.size w1 (w1.alloc (.cells #[.int .u8 c] 5)) := (Below.refl _ _).alloc (Nat.le_refl _) _
    refine (joined_any _ v [c] xs _ (bt_lit w1 c) (ho.bt.bel B1) (by simp; omega)).mono ?_
    rintro e w' ⟨v', rfl, ho', hb'⟩
    have B2 := hb.trans (B1.mono hb.size)
    exact ⟨v', rfl, ho'.low B2.size, B2.trans (hb'.mono B2.size)⟩
  have HH : Hid _ := ⟨H⟩
  clear H
  by_cases c1 : n < 64
  · have HA : Hid (advB n = [64 + n]) := ⟨by unfold advB; rw [if_pos c1]⟩
    go_enter Tryd.func51, Tryd.ntmps51
    go_wp2
    go_ret
    exact ⟨_, rfl, by rw [HA.out]; exact own_lit w _, (Below.refl _ _).alloc (Nat.le_refl _) _⟩
  by_cases c2 : n < 256
  · have HA : Hid (advB n = 2 :: pl n 1) := ⟨by unfold advB; rw [if_neg c1, if_pos c2]⟩
    have HP := rput_1 n w (by omega)
    go_enter Tryd.func51, Tryd.ntmps51
    go_wp2_with (first
      | (go_at_call 71; (with_reducible refine HP.mono ?_); rintro e w1 ⟨v1, he, ho1, hb1⟩; subst he; have HO : Hid _ := ⟨ho1⟩; have HB : Hid _ := ⟨hb1⟩; clear ho1 hb1)
      | (go_at_call 52; (with_reducible refine (HH.out 2 _ _ _ HO.out HB.out (by rw [pl_len]; omega)).mono ?_); rintro e w2 ⟨v2, he, ho2, hb2⟩; subst he; have HO2 : Hid _ := ⟨ho2⟩; have HB2 : Hid _ := ⟨hb2⟩; clear ho2 hb2))
    go_ret
    exact ⟨_, rfl, by rw [HA.out]; exact HO2.out, HB2.out⟩
  by_cases c3 : n < 65536
  · have HA : Hid (advB n = 3 :: pl n 2) := ⟨by unfold advB; rw [if_neg c1, if_neg c2, if_pos c3]⟩
    have HP := rput_2 n w (by omega)
    go_enter Tryd.func51, Tryd.ntmps51
    go_wp2_with (first
      | (go_at_call 71; (with_reducible refine HP.mono ?_); rintro e w1 ⟨v1, he, ho1, hb1⟩; subst he; have HO : Hid _ := ⟨ho1⟩; have HB : Hid _ := ⟨hb1⟩; clear ho1 hb1)
      | (go_at_call 52; (with_reducible refine (HH.out 3 _ _ _ HO.out HB.out (by rw [pl_len]; omega)).mono ?_); rintro e w2 ⟨v2, he, ho2, hb2⟩; subst he; have HO2 : Hid _ := ⟨ho2⟩; have HB2 : Hid _ := ⟨hb2⟩; clear ho2 hb2))
    go_ret
    exact ⟨_, rfl, by rw [HA.out]; exact HO2.out, HB2.out⟩
  · have HA : Hid (advB n = 4 :: pl n 4) := ⟨by unfold advB; rw [if_neg c1, if_neg c2, if_neg c3]⟩
    have HP := rput_4 n w (by omega)
    go_enter Tryd.func51, Tryd.ntmps51
    go_wp2_with (first
      | (go_at_call 71; (with_reducible refine HP.mono ?_); rintro e w1 ⟨v1, he, ho1, hb1⟩; subst he; have HO : Hid _ := ⟨ho1⟩; have HB : Hid _ := ⟨hb1⟩; clear ho1 hb1)
      | (go_at_call 52; (with_reducible refine (HH.out 4 _ _ _ HO.out HB.out (by rw [pl_len]; omega)).mono ?_); rintro e w2 ⟨v2, he, ho2, hb2⟩; subst he; have HO2 : Hid _ := ⟨ho2⟩; have HB2 : Hid _ := ⟨hb2⟩; clear ho2 hb2))
    go_ret
    exact ⟨_, rfl, by rw [HA.out]; exact HO2.out, HB2.out⟩
end Go.Proofs.YtgldijohpfihaaaDoor
