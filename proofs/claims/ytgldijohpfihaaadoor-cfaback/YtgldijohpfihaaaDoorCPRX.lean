/- The program's reader of a frame's program: ops. The program's reader: ops of two numbers; every op. -/
import Derived.Test.YtgldijohpfihaaaDoorCPR1
import Derived.Test.YtgldijohpfihaaaDoorCFind
namespace Go.Proofs.YtgldijohpfihaaaDoor
open Go.ChangeShapes Go.WideShapes Go.ChangeAt Go.RowKit
set_option linter.unusedVariables false
set_option linter.unusedSimpArgs false

/-- Eights below, without a sign and with one: what is read, where, is it bad. -/
def uoP (len : Nat) (bs : Nat → Int) (t : Nat) (bad : Bool) : Int × Nat × Bool :=
  let x := nP (uR len bs t) t bad
  let y := oP x.1 (x.2.2 || decide (x.1 < 0))
  (y.1, x.2.1, y.2)
def soP (len : Nat) (bs : Nat → Int) (t : Nat) (bad : Bool) : Int × Nat × Bool :=
  let x := nP (sR len bs t) t bad
  let y := oP x.1 x.2.2
  (y.1, x.2.1, y.2)
set_option maxRecDepth 10000 in
set_option maxHeartbeats 1000000 in
theorem puo_any (rb : Nat) (ao : Option Addr) (len cap t : Nat) (bs : Nat → Int) (bad : Bool) (w : World) (h : PD w rb (.slice ao len cap) (t : Int) bad) (hr : Row w ao len bs) (hbs : ∀ i, 0 ≤ bs i ∧ bs i < 256) (hl : len ≤ 1048576) (ht : t ≤ 1048576) :
    Calls Tryd.prog 55 #[.pointer (some ⟨rb, 0, none⟩)] w fun e w' => PE (uoP len bs t bad) w w' rb (.slice ao len cap) e := by
  have HU : Hid _ := ⟨punsigned_any rb ao len cap t bs bad w h hr hbs hl ht⟩
  have HX : Hid (uoP len bs t bad = ((oP (nP (uR len bs t) t bad).1 ((nP (uR len bs t) t bad).2.2 || decide ((nP (uR len bs t) t bad).1 < 0))).1, (nP (uR len bs t) t bad).2.1, (oP (nP (uR len bs t) t bad).1 ((nP (uR len bs t) t bad).2.2 || decide ((nP (uR len bs t) t bad).1 < 0))).2)) := ⟨rfl⟩
  generalize nP (uR len bs t) t bad = x at *
  obtain ⟨n, t1, b1⟩ := x
  generalize uoP len bs t bad = X at *
  clear h hr hbs hl ht
  dsimp only at HX
  have HP : Hid (∀ w2 b2, PD w2 rb (.slice ao len cap) (t1 : Int) b2 → Calls Tryd.prog 75 #[.pointer (some ⟨rb, 0, none⟩), .int .i64 n] w2 fun e w' => e = .returned (.int .i64 (oP n b2).1) ∧ PD w' rb (.slice ao len cap) (t1 : Int) (oP n b2).2 ∧ Turn (fun k => k = rb) w2 w') := ⟨fun w2 b2 h2 => poffset_any rb _ _ n b2 w2 h2⟩
  go_enter Tryd.func55, Tryd.ntmps55
  go_upto_region 2 with (go_at_call 74; (with_reducible refine HU.out.mono ?_); rintro e w1 ⟨he, h1, t1'⟩; dsimp only at he h1; subst he; have H1 : Hid _ := ⟨h1⟩; have HT1 : Hid _ := ⟨t1'⟩; clear h1 t1')
  have c2 := H1.out.cell 2 rfl
  cases b1 with
  | true =>
    go_wp2_with (first
      | (refine wpList_part (g := rb) (off := 2) (val := .bool true) (new := rdC (.slice ao len cap) (t1 : Int) true) rfl rfl (by rfl) (by rfl) H1.out (by rw [sizeBool]; rfl) (by show 2 + 1 ≤ 3; omega) (bool_cells true) rfl ?_; have H2 : Hid _ := ⟨H1.out.setR (rdC (.slice ao len cap) (t1 : Int) true)⟩; have HT2 : Hid _ := ⟨HT1.out.trans (turn_set w1 rb (rdC (.slice ao len cap) (t1 : Int) true))⟩; clear c2; generalize w1.setRow rb (rdC (.slice ao len cap) (t1 : Int) true) = w2 at *)
      | (go_at_call 75; (with_reducible refine (HP.out _ _ H2.out).mono ?_); rintro e w3 ⟨he, h3, t3⟩; subst he; have H3 : Hid _ := ⟨h3⟩; have HT3 : Hid _ := ⟨t3⟩; clear h3 t3))
    go_ret
    unfold PE
    rw [HX.out]
    exact ⟨rfl, H3.out, HT2.out.trans HT3.out⟩
  | false =>
    cases hn : decide (n < 0) with
    | true =>
      have hn' : n < 0 := by simpa using hn
      rw [hn] at HX
      clear hn
      go_wp2_with (first
        | (refine wpList_part (g := rb) (off := 2) (val := .bool true) (new := rdC (.slice ao len cap) (t1 : Int) true) rfl rfl (by rfl) (by rfl) H1.out (by rw [sizeBool]; rfl) (by show 2 + 1 ≤ 3; omega) (bool_cells true) rfl ?_; have H2 : Hid _ := ⟨H1.out.setR (rdC (.slice ao len cap) (t1 : Int) true)⟩; have HT2 : Hid _ := ⟨HT1.out.trans (turn_set w1 rb (rdC (.slice ao len cap) (t1 : Int) true))⟩; clear c2; generalize w1.setRow rb (rdC (.slice ao len cap) (t1 : Int) true) = w2 at *)
        | (go_at_call 75; (with_reducible refine (HP.out _ _ H2.out).mono ?_); rintro e w3 ⟨he, h3, t3⟩; subst he; have H3 : Hid _ := ⟨h3⟩; have HT3 : Hid _ := ⟨t3⟩; clear h3 t3))
      go_ret
      unfold PE
      rw [HX.out]
      exact ⟨rfl, H3.out, HT2.out.trans HT3.out⟩
    | false =>
      have hn' : ¬ n < 0 := by simpa using hn
      rw [hn] at HX
      clear hn
      go_wp2_with (first
        | (refine wpList_part (g := rb) (off := 2) (val := .bool false) (new := rdC (.slice ao len cap) (t1 : Int) false) rfl rfl (by rfl) (by rfl) H1.out (by rw [sizeBool]; rfl) (by show 2 + 1 ≤ 3; omega) (bool_cells false) rfl ?_; have H2 : Hid _ := ⟨H1.out.setR (rdC (.slice ao len cap) (t1 : Int) false)⟩; have HT2 : Hid _ := ⟨HT1.out.trans (turn_set w1 rb (rdC (.slice ao len cap) (t1 : Int) false))⟩; clear c2; generalize w1.setRow rb (rdC (.slice ao len cap) (t1 : Int) false) = w2 at *)
        | (go_at_call 75; (with_reducible refine (HP.out _ _ H2.out).mono ?_); rintro e w3 ⟨he, h3, t3⟩; subst he; have H3 : Hid _ := ⟨h3⟩; have HT3 : Hid _ := ⟨t3⟩; clear h3 t3))
      go_ret
      unfold PE
      rw [HX.out]
      exact ⟨rfl, H3.out, HT2.out.trans HT3.out⟩
theorem pso_any (rb : Nat) (ao : Option Addr) (len cap t : Nat) (bs : Nat → Int) (bad : Bool) (w : World) (h : PD w rb (.slice ao len cap) (t : Int) bad) (hr : Row w ao len bs) (hbs : ∀ i, 0 ≤ bs i ∧ bs i < 256) (hl : len ≤ 1048576) (ht : t ≤ 1048576) :
    Calls Tryd.prog 76 #[.pointer (some ⟨rb, 0, none⟩)] w fun e w' => PE (soP len bs t bad) w w' rb (.slice ao len cap) e := by
  have HU : Hid _ := ⟨psigned_any rb ao len cap t bs bad w h hr hbs hl ht⟩
  have HX : Hid (soP len bs t bad = ((oP (nP (sR len bs t) t bad).1 (nP (sR len bs t) t bad).2.2).1, (nP (sR len bs t) t bad).2.1, (oP (nP (sR len bs t) t bad).1 (nP (sR len bs t) t bad).2.2).2)) := ⟨rfl⟩
  generalize nP (sR len bs t) t bad = x at *
  obtain ⟨n, t1, b1⟩ := x
  generalize soP len bs t bad = X at *
  clear h hr hbs hl ht
  dsimp only at HX
  have HP : Hid (∀ w2 b2, PD w2 rb (.slice ao len cap) (t1 : Int) b2 → Calls Tryd.prog 75 #[.pointer (some ⟨rb, 0, none⟩), .int .i64 n] w2 fun e w' => e = .returned (.int .i64 (oP n b2).1) ∧ PD w' rb (.slice ao len cap) (t1 : Int) (oP n b2).2 ∧ Turn (fun k => k = rb) w2 w') := ⟨fun w2 b2 h2 => poffset_any rb _ _ n b2 w2 h2⟩
  go_enter Tryd.func76, Tryd.ntmps76
  go_wp2_with (first
    | (go_at_call 89; (with_reducible refine HU.out.mono ?_); rintro e w1 ⟨he, h1, t1'⟩; dsimp only at he h1; subst he; have H1 : Hid _ := ⟨h1⟩; have HT1 : Hid _ := ⟨t1'⟩; clear h1 t1')
    | (go_at_call 75; (with_reducible refine (HP.out _ _ H1.out).mono ?_); rintro e w3 ⟨he, h3, t3⟩; subst he; have H3 : Hid _ := ⟨h3⟩; have HT3 : Hid _ := ⟨t3⟩; clear h3 t3))
  go_ret
  unfold PE
  rw [HX.out]
  exact ⟨rfl, H3.out, HT1.out.trans HT3.out⟩

/-- Where the reading of an op is: the reader, its bytes, the block of what is told. -/
structure PP (w0 W : World) (rb : Nat) (ao : Option Addr) (len cap : Nat) (bs : Nat → Int) (t : Int) (bad : Bool) (g : Nat) : Prop where
  rd : PD W rb (.slice ao len cap) t bad
  row : Row W ao len bs
  tu : Turn (fun k => k = rb) w0 W
  blk : Bk W g 75 zeroO
  ne : g ≠ rb
  new : w0.heap.size ≤ g
  na : 0 < len → ∀ b off, ao = some ⟨b, off, none⟩ → b ≠ rb
theorem PP.go {w0 W W' : World} {rb : Nat} {ao : Option Addr} {len cap : Nat} {bs : Nat → Int} {t t' : Int} {bad bad' : Bool} {g : Nat} (h : PP w0 W rb ao len cap bs t bad g) (hr : PD W' rb (.slice ao len cap) t' bad') (ht : Turn (fun k => k = rb) W W') : PP w0 W' rb ao len cap bs t' bad' g :=
  ⟨hr, h.row.turn ht fun h0 b off e hk => h.na h0 b off e hk, h.tu.trans ht, h.blk.of (ht.block g h.blk.lt h.ne), h.ne, h.new, h.na⟩
theorem pp_start {w : World} {rb : Nat} {ao : Option Addr} {len cap : Nat} {bs : Nat → Int} {t : Int} {bad : Bool} (hd : PD w rb (.slice ao len cap) t bad) (hr : Row w ao len bs) (hna : 0 < len → ∀ b off, ao = some ⟨b, off, none⟩ → b ≠ rb) :
    PP w (w.alloc (.cells zeroO 75)) rb ao len cap bs t bad w.heap.size :=
  ⟨hd.bel ((Below.refl _ _).alloc (Nat.le_refl _) _) hd.lt, hr.alloc _, (Turn.refl _ _).alloc _, Bk.new _ _ _, by have := hd.lt; omega, Nat.le_refl _, hna⟩
/-- What is told is laid down. -/
theorem PP.put {w0 W : World} {rb : Nat} {ao : Option Addr} {len cap : Nat} {bs : Nat → Int} {t : Int} {bad : Bool} {g : Nat} (h : PP w0 W rb ao len cap bs t bad g) (C : Array Value) :
    PD (W.setRow g C) rb (.slice ao len cap) t bad ∧ Turn (fun k => k = rb) w0 (W.setRow g C) ∧ Bk (W.setRow g C) g 75 C :=
  ⟨h.rd.setO (Ne.symm h.ne) C, h.tu.trans' (turn_set W g C) (fun i hi e => by have := h.new; omega), h.blk.setR C⟩
/-- An op and whether there is such one: what lowOp leaves. -/
structure LO where
  o : Oq
  known : Bool
  t : Nat
  bad : Bool
def LE (x : LO) (w w' : World) (rb : Nat) (v : Value) (e : Ending) : Prop := e = .returned (.tuple #[x.o.val, .bool x.known]) ∧ PD w' rb v (x.t : Int) x.bad ∧ Turn (fun k => k = rb) w w'
abbrev oqA (k r n : Int) : Array Value := #[.int .i64 k, .int .i64 r, .int .i64 n]
theorem oqA_one (k r n : Int) : ∀ u ∈ (Value.agg (oqA k r n)).cells.toList, u.oneCell' = true := by
  intro u hu
  simp [Value.cells] at hu
  rcases hu with rfl | rfl | rfl <;> rfl
def uX (len : Nat) (bs : Nat → Int) (t : Nat) (bad : Bool) : Int × Nat × Bool := nP (uR len bs t) t bad
def gX (len : Nat) (bs : Nat → Int) (t : Nat) (bad : Bool) (s : Nat) : Int × Nat × Bool := nP (gN len bs t s) t bad
theorem nP_le {len : Nat} {m : Option (Int × Nat)} {t : Nat} {bad : Bool} (ht : t ≤ 1048576) (hm : ∀ n e, m = some (n, e) → e ≤ 1048576) : (nP m t bad).2.1 ≤ 1048576 := by
  unfold nP
  cases m with
  | none => exact ht
  | some p => exact hm p.1 p.2 rfl

set_option maxRecDepth 10000 in
set_option maxHeartbeats 1000000 in
theorem low_0 (rb : Nat) (ao : Option Addr) (len cap t : Nat) (bs : Nat → Int) (bad : Bool) (w : World) (h : PD w rb (.slice ao len cap) (t : Int) bad) (hr : Row w ao len bs) (hna : 0 < len → ∀ b off, ao = some ⟨b, off, none⟩ → b ≠ rb) (hbs : ∀ i, 0 ≤ bs i ∧ bs i < 256) (hl : len ≤ 1048576) (ht : t ≤ 1048576) :
    Calls Tryd.prog 56 #[.pointer (some ⟨rb, 0, none⟩), .int .i64 0] w fun e w' => LE ⟨⟨0, 0, 0⟩, true, t, bad⟩ w w' rb (.slice ao len cap) e := by
  have P0 := pp_start h hr hna
  go_enter Tryd.func56, Tryd.ntmps56
  go_upto_region 1 with fail
  change Code.wp _ _ _ _ (w.alloc (.cells zeroO 75))
  have HP0 : Hid _ := ⟨P0⟩
  clear P0 h hr hna
  generalize w.alloc (.cells zeroO 75) = W0 at *
  generalize w.heap.size = g at *
  go_wp2_with (first
    | (refine wpList_part (g := g) (off := 0) (val := .agg (oqA 0 0 0)) (new := oqA 0 0 0) rfl rfl (by rfl) (by rfl) HP0.out.blk (by rw [sizeOp]; rfl) (by show 0 + 3 ≤ 3; omega) (oqA_one _ _ _) rfl ?_; have HZ : Hid _ := ⟨HP0.out.put (oqA 0 0 0)⟩; generalize W0.setRow g (oqA 0 0 0) = WZ at *))
  (try simp only [Exit.inBlock, Exit.then])
  refine bodyPost_ret (results_ct rfl rfl (load_op (o := ⟨0, 0, 0⟩) HZ.out.2.2)) rfl ?_
  exact ⟨rfl, HZ.out.1, HZ.out.2.1⟩

set_option maxRecDepth 10000 in
set_option maxHeartbeats 1000000 in
theorem low_10 (rb : Nat) (ao : Option Addr) (len cap t : Nat) (bs : Nat → Int) (bad : Bool) (w : World) (h : PD w rb (.slice ao len cap) (t : Int) bad) (hr : Row w ao len bs) (hna : 0 < len → ∀ b off, ao = some ⟨b, off, none⟩ → b ≠ rb) (hbs : ∀ i, 0 ≤ bs i ∧ bs i < 256) (hl : len ≤ 1048576) (ht : t ≤ 1048576) :
    Calls Tryd.prog 56 #[.pointer (some ⟨rb, 0, none⟩), .int .i64 10] w fun e w' => LE ⟨⟨9, 0, 0⟩, true, t, bad⟩ w w' rb (.slice ao len cap) e := by
  have P0 := pp_start h hr hna
  go_enter Tryd.func56, Tryd.ntmps56
  go_upto_region 1 with fail
  change Code.wp _ _ _ _ (w.alloc (.cells zeroO 75))
  have HP0 : Hid _ := ⟨P0⟩
  clear P0 h hr hna
  generalize w.alloc (.cells zeroO 75) = W0 at *
  generalize w.heap.size = g at *
  go_wp2_with (first
    | (refine wpList_part (g := g) (off := 0) (val := .agg (oqA 9 0 0)) (new := oqA 9 0 0) rfl rfl (by rfl) (by rfl) HP0.out.blk (by rw [sizeOp]; rfl) (by show 0 + 3 ≤ 3; omega) (oqA_one _ _ _) rfl ?_; have HZ : Hid _ := ⟨HP0.out.put (oqA 9 0 0)⟩; generalize W0.setRow g (oqA 9 0 0) = WZ at *))
  (try simp only [Exit.inBlock, Exit.then])
  refine bodyPost_ret (results_ct rfl rfl (load_op (o := ⟨9, 0, 0⟩) HZ.out.2.2)) rfl ?_
  exact ⟨rfl, HZ.out.1, HZ.out.2.1⟩

set_option maxRecDepth 10000 in
set_option maxHeartbeats 1000000 in
theorem low_11 (rb : Nat) (ao : Option Addr) (len cap t : Nat) (bs : Nat → Int) (bad : Bool) (w : World) (h : PD w rb (.slice ao len cap) (t : Int) bad) (hr : Row w ao len bs) (hna : 0 < len → ∀ b off, ao = some ⟨b, off, none⟩ → b ≠ rb) (hbs : ∀ i, 0 ≤ bs i ∧ bs i < 256) (hl : len ≤ 1048576) (ht : t ≤ 1048576) :
    Calls Tryd.prog 56 #[.pointer (some ⟨rb, 0, none⟩), .int .i64 11] w fun e w' => LE ⟨⟨10, 0, 0⟩, true, t, bad⟩ w w' rb (.slice ao len cap) e := by
  have P0 := pp_start h hr hna
  go_enter Tryd.func56, Tryd.ntmps56
  go_upto_region 1 with fail
  change Code.wp _ _ _ _ (w.alloc (.cells zeroO 75))
  have HP0 : Hid _ := ⟨P0⟩
  clear P0 h hr hna
  generalize w.alloc (.cells zeroO 75) = W0 at *
  generalize w.heap.size = g at *
  go_wp2_with (first
    | (refine wpList_part (g := g) (off := 0) (val := .agg (oqA 10 0 0)) (new := oqA 10 0 0) rfl rfl (by rfl) (by rfl) HP0.out.blk (by rw [sizeOp]; rfl) (by show 0 + 3 ≤ 3; omega) (oqA_one _ _ _) rfl ?_; have HZ : Hid _ := ⟨HP0.out.put (oqA 10 0 0)⟩; generalize W0.setRow g (oqA 10 0 0) = WZ at *))
  (try simp only [Exit.inBlock, Exit.then])
  refine bodyPost_ret (results_ct rfl rfl (load_op (o := ⟨10, 0, 0⟩) HZ.out.2.2)) rfl ?_
  exact ⟨rfl, HZ.out.1, HZ.out.2.1⟩

set_option maxRecDepth 10000 in
set_option maxHeartbeats 1000000 in
theorem low_bad (rb : Nat) (ao : Option Addr) (len cap t : Nat) (bs : Nat → Int) (bad : Bool) (w : World) (h : PD w rb (.slice ao len cap) (t : Int) bad) (hr : Row w ao len bs) (hna : 0 < len → ∀ b off, ao = some ⟨b, off, none⟩ → b ≠ rb) (hbs : ∀ i, 0 ≤ bs i ∧ bs i < 256) (hl : len ≤ 1048576) (ht : t ≤ 1048576) (c : Int) (n0 : ¬ c = 0) (n2 : ¬ c = 2) (n3 : ¬ c = 3) (n4 : ¬ c = 4) (n5 : ¬ c = 5) (n6 : ¬ c = 6) (n7 : ¬ c = 7) (n8 : ¬ c = 8) (n10 : ¬ c = 10) (n11 : ¬ c = 11) (n12 : ¬ c = 12) (n13 : ¬ c = 13) (n14 : ¬ c = 14) (n17 : ¬ c = 17) :
    Calls Tryd.prog 56 #[.pointer (some ⟨rb, 0, none⟩), .int .i64 c] w fun e w' => LE ⟨⟨0, 0, 0⟩, false, t, bad⟩ w w' rb (.slice ao len cap) e := by
  have P0 := pp_start h hr hna
  have m0 : (c == 0) = false := by simpa using n0
  have m2 : (c == 2) = false := by simpa using n2
  have m3 : (c == 3) = false := by simpa using n3
  have m4 : (c == 4) = false := by simpa using n4
  have m5 : (c == 5) = false := by simpa using n5
  have m6 : (c == 6) = false := by simpa using n6
  have m7 : (c == 7) = false := by simpa using n7
  have m8 : (c == 8) = false := by simpa using n8
  have m10 : (c == 10) = false := by simpa using n10
  have m11 : (c == 11) = false := by simpa using n11
  have m12 : (c == 12) = false := by simpa using n12
  have m13 : (c == 13) = false := by simpa using n13
  have m14 : (c == 14) = false := by simpa using n14
  have m17 : (c == 17) = false := by simpa using n17
  go_enter Tryd.func56, Tryd.ntmps56
  go_upto_region 1 with fail
  change Code.wp _ _ _ _ (w.alloc (.cells zeroO 75))
  have HP0 : Hid _ := ⟨P0⟩
  clear P0 h hr hna
  generalize w.alloc (.cells zeroO 75) = W0 at *
  generalize w.heap.size = g at *
  go_wp2_with (first
    | (refine wpList_part (g := g) (off := 0) (val := .agg (oqA 0 0 0)) (new := oqA 0 0 0) rfl rfl (by rfl) (by rfl) HP0.out.blk (by rw [sizeOp]; rfl) (by show 0 + 3 ≤ 3; omega) (oqA_one _ _ _) rfl ?_; have HZ : Hid _ := ⟨HP0.out.put (oqA 0 0 0)⟩; generalize W0.setRow g (oqA 0 0 0) = WZ at *))
  (try simp only [Exit.inBlock, Exit.then])
  refine bodyPost_ret (results_ct rfl rfl (load_op (o := ⟨0, 0, 0⟩) HZ.out.2.2)) rfl ?_
  exact ⟨rfl, HZ.out.1, HZ.out.2.1⟩

set_option maxRecDepth 10000 in
set_option maxHeartbeats 1000000 in
theorem low_2 (rb : Nat) (ao : Option Addr) (len cap t : Nat) (bs : Nat → Int) (bad : Bool) (w : World) (h : PD w rb (.slice ao len cap) (t : Int) bad) (hr : Row w ao len bs) (hna : 0 < len → ∀ b off, ao = some ⟨b, off, none⟩ → b ≠ rb) (hbs : ∀ i, 0 ≤ bs i ∧ bs i < 256) (hl : len ≤ 1048576) (ht : t ≤ 1048576) :
    Calls Tryd.prog 56 #[.pointer (some ⟨rb, 0, none⟩), .int .i64 2] w fun e w' => LE ⟨⟨1, 0, (nP (gN len bs t 1) t bad).1⟩, true, (nP (gN len bs t 1) t bad).2.1, (nP (gN len bs t 1) t bad).2.2⟩ w w' rb (.slice ao len cap) e := by
  have P0 := pp_start h hr hna
  obtain ⟨X, hX⟩ : ∃ X, nP (gN len bs t 1) t bad = X := ⟨_, rfl⟩
  rw [hX]
  have HC1 : Hid (∀ W, PP w W rb ao len cap bs (t : Int) bad w.heap.size → Calls Tryd.prog 54 #[.pointer (some ⟨rb, 0, none⟩), .int .i64 1] W fun e w' => PE X W w' rb (.slice ao len cap) e) := ⟨fun W hP => hX ▸ pfixed_any rb ao len cap t 1 bs bad W hP.rd hP.row hbs hl ht (by omega)⟩
  clear hX
  obtain ⟨xn, xt, xb⟩ := X
  dsimp only
  go_enter Tryd.func56, Tryd.ntmps56
  go_upto_region 1 with fail
  change Code.wp _ _ _ _ (w.alloc (.cells zeroO 75))
  have HP0 : Hid _ := ⟨P0⟩
  clear P0 h hr hna
  generalize w.alloc (.cells zeroO 75) = W0 at *
  generalize w.heap.size = g at *
  go_wp2_with (first
    | (go_at_call 54; (with_reducible refine (HC1.out _ HP0.out).mono ?_); rintro e w1 ⟨he, h1, t1⟩; subst he; have HP1 : Hid _ := ⟨HP0.out.go h1 t1⟩; clear h1 t1)
    | (refine wpList_part (g := g) (off := 0) (val := .agg (oqA 1 0 xn)) (new := oqA 1 0 xn) rfl rfl (by rfl) (by rfl) HP1.out.blk (by rw [sizeOp]; rfl) (by show 0 + 3 ≤ 3; omega) (oqA_one _ _ _) rfl ?_; have HZ : Hid _ := ⟨HP1.out.put (oqA 1 0 xn)⟩; generalize w1.setRow g (oqA 1 0 xn) = WZ at *))
  (try simp only [Exit.inBlock, Exit.then])
  refine bodyPost_ret (results_ct rfl rfl (load_op (o := ⟨1, 0, xn⟩) HZ.out.2.2)) rfl ?_
  exact ⟨rfl, HZ.out.1, HZ.out.2.1⟩

set_option maxRecDepth 10000 in
set_option maxHeartbeats 1000000 in
theorem low_3 (rb : Nat) (ao : Option Addr) (len cap t : Nat) (bs : Nat → Int) (bad : Bool) (w : World) (h : PD w rb (.slice ao len cap) (t : Int) bad) (hr : Row w ao len bs) (hna : 0 < len → ∀ b off, ao = some ⟨b, off, none⟩ → b ≠ rb) (hbs : ∀ i, 0 ≤ bs i ∧ bs i < 256) (hl : len ≤ 1048576) (ht : t ≤ 1048576) :
    Calls Tryd.prog 56 #[.pointer (some ⟨rb, 0, none⟩), .int .i64 3] w fun e w' => LE ⟨⟨1, 0, (nP (gN len bs t 2) t bad).1⟩, true, (nP (gN len bs t 2) t bad).2.1, (nP (gN len bs t 2) t bad).2.2⟩ w w' rb (.slice ao len cap) e := by
  have P0 := pp_start h hr hna
  obtain ⟨X, hX⟩ : ∃ X, nP (gN len bs t 2) t bad = X := ⟨_, rfl⟩
  rw [hX]
  have HC1 : Hid (∀ W, PP w W rb ao len cap bs (t : Int) bad w.heap.size → Calls Tryd.prog 54 #[.pointer (some ⟨rb, 0, none⟩), .int .i64 2] W fun e w' => PE X W w' rb (.slice ao len cap) e) := ⟨fun W hP => hX ▸ pfixed_any rb ao len cap t 2 bs bad W hP.rd hP.row hbs hl ht (by omega)⟩
  clear hX
  obtain ⟨xn, xt, xb⟩ := X
  dsimp only
  go_enter Tryd.func56, Tryd.ntmps56
  go_upto_region 1 with fail
  change Code.wp _ _ _ _ (w.alloc (.cells zeroO 75))
  have HP0 : Hid _ := ⟨P0⟩
  clear P0 h hr hna
  generalize w.alloc (.cells zeroO 75) = W0 at *
  generalize w.heap.size = g at *
  go_wp2_with (first
    | (go_at_call 54; (with_reducible refine (HC1.out _ HP0.out).mono ?_); rintro e w1 ⟨he, h1, t1⟩; subst he; have HP1 : Hid _ := ⟨HP0.out.go h1 t1⟩; clear h1 t1)
    | (refine wpList_part (g := g) (off := 0) (val := .agg (oqA 1 0 xn)) (new := oqA 1 0 xn) rfl rfl (by rfl) (by rfl) HP1.out.blk (by rw [sizeOp]; rfl) (by show 0 + 3 ≤ 3; omega) (oqA_one _ _ _) rfl ?_; have HZ : Hid _ := ⟨HP1.out.put (oqA 1 0 xn)⟩; generalize w1.setRow g (oqA 1 0 xn) = WZ at *))
  (try simp only [Exit.inBlock, Exit.then])
  refine bodyPost_ret (results_ct rfl rfl (load_op (o := ⟨1, 0, xn⟩) HZ.out.2.2)) rfl ?_
  exact ⟨rfl, HZ.out.1, HZ.out.2.1⟩

set_option maxRecDepth 10000 in
set_option maxHeartbeats 1000000 in
theorem low_4 (rb : Nat) (ao : Option Addr) (len cap t : Nat) (bs : Nat → Int) (bad : Bool) (w : World) (h : PD w rb (.slice ao len cap) (t : Int) bad) (hr : Row w ao len bs) (hna : 0 < len → ∀ b off, ao = some ⟨b, off, none⟩ → b ≠ rb) (hbs : ∀ i, 0 ≤ bs i ∧ bs i < 256) (hl : len ≤ 1048576) (ht : t ≤ 1048576) :
    Calls Tryd.prog 56 #[.pointer (some ⟨rb, 0, none⟩), .int .i64 4] w fun e w' => LE ⟨⟨1, 0, (nP (gN len bs t 4) t bad).1⟩, true, (nP (gN len bs t 4) t bad).2.1, (nP (gN len bs t 4) t bad).2.2⟩ w w' rb (.slice ao len cap) e := by
  have P0 := pp_start h hr hna
  obtain ⟨X, hX⟩ : ∃ X, nP (gN len bs t 4) t bad = X := ⟨_, rfl⟩
  rw [hX]
  have HC1 : Hid (∀ W, PP w W rb ao len cap bs (t : Int) bad w.heap.size → Calls Tryd.prog 54 #[.pointer (some ⟨rb, 0, none⟩), .int .i64 4] W fun e w' => PE X W w' rb (.slice ao len cap) e) := ⟨fun W hP => hX ▸ pfixed_any rb ao len cap t 4 bs bad W hP.rd hP.row hbs hl ht (by omega)⟩
  clear hX
  obtain ⟨xn, xt, xb⟩ := X
  dsimp only
  go_enter Tryd.func56, Tryd.ntmps56
  go_upto_region 1 with fail
  change Code.wp _ _ _ _ (w.alloc (.cells zeroO 75))
  have HP0 : Hid _ := ⟨P0⟩
  clear P0 h hr hna
  generalize w.alloc (.cells zeroO 75) = W0 at *
  generalize w.heap.size = g at *
  go_wp2_with (first
    | (go_at_call 54; (with_reducible refine (HC1.out _ HP0.out).mono ?_); rintro e w1 ⟨he, h1, t1⟩; subst he; have HP1 : Hid _ := ⟨HP0.out.go h1 t1⟩; clear h1 t1)
    | (refine wpList_part (g := g) (off := 0) (val := .agg (oqA 1 0 xn)) (new := oqA 1 0 xn) rfl rfl (by rfl) (by rfl) HP1.out.blk (by rw [sizeOp]; rfl) (by show 0 + 3 ≤ 3; omega) (oqA_one _ _ _) rfl ?_; have HZ : Hid _ := ⟨HP1.out.put (oqA 1 0 xn)⟩; generalize w1.setRow g (oqA 1 0 xn) = WZ at *))
  (try simp only [Exit.inBlock, Exit.then])
  refine bodyPost_ret (results_ct rfl rfl (load_op (o := ⟨1, 0, xn⟩) HZ.out.2.2)) rfl ?_
  exact ⟨rfl, HZ.out.1, HZ.out.2.1⟩

set_option maxRecDepth 10000 in
set_option maxHeartbeats 1000000 in
theorem low_6 (rb : Nat) (ao : Option Addr) (len cap t : Nat) (bs : Nat → Int) (bad : Bool) (w : World) (h : PD w rb (.slice ao len cap) (t : Int) bad) (hr : Row w ao len bs) (hna : 0 < len → ∀ b off, ao = some ⟨b, off, none⟩ → b ≠ rb) (hbs : ∀ i, 0 ≤ bs i ∧ bs i < 256) (hl : len ≤ 1048576) (ht : t ≤ 1048576) :
    Calls Tryd.prog 56 #[.pointer (some ⟨rb, 0, none⟩), .int .i64 6] w fun e w' => LE ⟨⟨6, (nP (uR len bs t) t bad).1, 0⟩, true, (nP (uR len bs t) t bad).2.1, (nP (uR len bs t) t bad).2.2⟩ w w' rb (.slice ao len cap) e := by
  have P0 := pp_start h hr hna
  obtain ⟨X, hX⟩ : ∃ X, nP (uR len bs t) t bad = X := ⟨_, rfl⟩
  rw [hX]
  have HC1 : Hid (∀ W, PP w W rb ao len cap bs (t : Int) bad w.heap.size → Calls Tryd.prog 74 #[.pointer (some ⟨rb, 0, none⟩)] W fun e w' => PE X W w' rb (.slice ao len cap) e) := ⟨fun W hP => hX ▸ punsigned_any rb ao len cap t bs bad W hP.rd hP.row hbs hl ht⟩
  clear hX
  obtain ⟨xn, xt, xb⟩ := X
  dsimp only
  go_enter Tryd.func56, Tryd.ntmps56
  go_upto_region 1 with fail
  change Code.wp _ _ _ _ (w.alloc (.cells zeroO 75))
  have HP0 : Hid _ := ⟨P0⟩
  clear P0 h hr hna
  generalize w.alloc (.cells zeroO 75) = W0 at *
  generalize w.heap.size = g at *
  go_wp2_with (first
    | (go_at_call 74; (with_reducible refine (HC1.out _ HP0.out).mono ?_); rintro e w1 ⟨he, h1, t1⟩; subst he; have HP1 : Hid _ := ⟨HP0.out.go h1 t1⟩; clear h1 t1)
    | (refine wpList_part (g := g) (off := 0) (val := .agg (oqA 6 xn 0)) (new := oqA 6 xn 0) rfl rfl (by rfl) (by rfl) HP1.out.blk (by rw [sizeOp]; rfl) (by show 0 + 3 ≤ 3; omega) (oqA_one _ _ _) rfl ?_; have HZ : Hid _ := ⟨HP1.out.put (oqA 6 xn 0)⟩; generalize w1.setRow g (oqA 6 xn 0) = WZ at *))
  (try simp only [Exit.inBlock, Exit.then])
  refine bodyPost_ret (results_ct rfl rfl (load_op (o := ⟨6, xn, 0⟩) HZ.out.2.2)) rfl ?_
  exact ⟨rfl, HZ.out.1, HZ.out.2.1⟩

set_option maxRecDepth 10000 in
set_option maxHeartbeats 1000000 in
theorem low_7 (rb : Nat) (ao : Option Addr) (len cap t : Nat) (bs : Nat → Int) (bad : Bool) (w : World) (h : PD w rb (.slice ao len cap) (t : Int) bad) (hr : Row w ao len bs) (hna : 0 < len → ∀ b off, ao = some ⟨b, off, none⟩ → b ≠ rb) (hbs : ∀ i, 0 ≤ bs i ∧ bs i < 256) (hl : len ≤ 1048576) (ht : t ≤ 1048576) :
    Calls Tryd.prog 56 #[.pointer (some ⟨rb, 0, none⟩), .int .i64 7] w fun e w' => LE ⟨⟨7, (nP (uR len bs t) t bad).1, 0⟩, true, (nP (uR len bs t) t bad).2.1, (nP (uR len bs t) t bad).2.2⟩ w w' rb (.slice ao len cap) e := by
  have P0 := pp_start h hr hna
  obtain ⟨X, hX⟩ : ∃ X, nP (uR len bs t) t bad = X := ⟨_, rfl⟩
  rw [hX]
  have HC1 : Hid (∀ W, PP w W rb ao len cap bs (t : Int) bad w.heap.size → Calls Tryd.prog 74 #[.pointer (some ⟨rb, 0, none⟩)] W fun e w' => PE X W w' rb (.slice ao len cap) e) := ⟨fun W hP => hX ▸ punsigned_any rb ao len cap t bs bad W hP.rd hP.row hbs hl ht⟩
  clear hX
  obtain ⟨xn, xt, xb⟩ := X
  dsimp only
  go_enter Tryd.func56, Tryd.ntmps56
  go_upto_region 1 with fail
  change Code.wp _ _ _ _ (w.alloc (.cells zeroO 75))
  have HP0 : Hid _ := ⟨P0⟩
  clear P0 h hr hna
  generalize w.alloc (.cells zeroO 75) = W0 at *
  generalize w.heap.size = g at *
  go_wp2_with (first
    | (go_at_call 74; (with_reducible refine (HC1.out _ HP0.out).mono ?_); rintro e w1 ⟨he, h1, t1⟩; subst he; have HP1 : Hid _ := ⟨HP0.out.go h1 t1⟩; clear h1 t1)
    | (refine wpList_part (g := g) (off := 0) (val := .agg (oqA 7 xn 0)) (new := oqA 7 xn 0) rfl rfl (by rfl) (by rfl) HP1.out.blk (by rw [sizeOp]; rfl) (by show 0 + 3 ≤ 3; omega) (oqA_one _ _ _) rfl ?_; have HZ : Hid _ := ⟨HP1.out.put (oqA 7 xn 0)⟩; generalize w1.setRow g (oqA 7 xn 0) = WZ at *))
  (try simp only [Exit.inBlock, Exit.then])
  refine bodyPost_ret (results_ct rfl rfl (load_op (o := ⟨7, xn, 0⟩) HZ.out.2.2)) rfl ?_
  exact ⟨rfl, HZ.out.1, HZ.out.2.1⟩

set_option maxRecDepth 10000 in
set_option maxHeartbeats 1000000 in
theorem low_8 (rb : Nat) (ao : Option Addr) (len cap t : Nat) (bs : Nat → Int) (bad : Bool) (w : World) (h : PD w rb (.slice ao len cap) (t : Int) bad) (hr : Row w ao len bs) (hna : 0 < len → ∀ b off, ao = some ⟨b, off, none⟩ → b ≠ rb) (hbs : ∀ i, 0 ≤ bs i ∧ bs i < 256) (hl : len ≤ 1048576) (ht : t ≤ 1048576) :
    Calls Tryd.prog 56 #[.pointer (some ⟨rb, 0, none⟩), .int .i64 8] w fun e w' => LE ⟨⟨8, (nP (uR len bs t) t bad).1, 0⟩, true, (nP (uR len bs t) t bad).2.1, (nP (uR len bs t) t bad).2.2⟩ w w' rb (.slice ao len cap) e := by
  have P0 := pp_start h hr hna
  obtain ⟨X, hX⟩ : ∃ X, nP (uR len bs t) t bad = X := ⟨_, rfl⟩
  rw [hX]
  have HC1 : Hid (∀ W, PP w W rb ao len cap bs (t : Int) bad w.heap.size → Calls Tryd.prog 74 #[.pointer (some ⟨rb, 0, none⟩)] W fun e w' => PE X W w' rb (.slice ao len cap) e) := ⟨fun W hP => hX ▸ punsigned_any rb ao len cap t bs bad W hP.rd hP.row hbs hl ht⟩
  clear hX
  obtain ⟨xn, xt, xb⟩ := X
  dsimp only
  go_enter Tryd.func56, Tryd.ntmps56
  go_upto_region 1 with fail
  change Code.wp _ _ _ _ (w.alloc (.cells zeroO 75))
  have HP0 : Hid _ := ⟨P0⟩
  clear P0 h hr hna
  generalize w.alloc (.cells zeroO 75) = W0 at *
  generalize w.heap.size = g at *
  go_wp2_with (first
    | (go_at_call 74; (with_reducible refine (HC1.out _ HP0.out).mono ?_); rintro e w1 ⟨he, h1, t1⟩; subst he; have HP1 : Hid _ := ⟨HP0.out.go h1 t1⟩; clear h1 t1)
    | (refine wpList_part (g := g) (off := 0) (val := .agg (oqA 8 xn 0)) (new := oqA 8 xn 0) rfl rfl (by rfl) (by rfl) HP1.out.blk (by rw [sizeOp]; rfl) (by show 0 + 3 ≤ 3; omega) (oqA_one _ _ _) rfl ?_; have HZ : Hid _ := ⟨HP1.out.put (oqA 8 xn 0)⟩; generalize w1.setRow g (oqA 8 xn 0) = WZ at *))
  (try simp only [Exit.inBlock, Exit.then])
  refine bodyPost_ret (results_ct rfl rfl (load_op (o := ⟨8, xn, 0⟩) HZ.out.2.2)) rfl ?_
  exact ⟨rfl, HZ.out.1, HZ.out.2.1⟩

set_option maxRecDepth 10000 in
set_option maxHeartbeats 1000000 in
theorem low_13 (rb : Nat) (ao : Option Addr) (len cap t : Nat) (bs : Nat → Int) (bad : Bool) (w : World) (h : PD w rb (.slice ao len cap) (t : Int) bad) (hr : Row w ao len bs) (hna : 0 < len → ∀ b off, ao = some ⟨b, off, none⟩ → b ≠ rb) (hbs : ∀ i, 0 ≤ bs i ∧ bs i < 256) (hl : len ≤ 1048576) (ht : t ≤ 1048576) :
    Calls Tryd.prog 56 #[.pointer (some ⟨rb, 0, none⟩), .int .i64 13] w fun e w' => LE ⟨⟨4, (nP (uR len bs t) t bad).1, 0⟩, true, (nP (uR len bs t) t bad).2.1, (nP (uR len bs t) t bad).2.2⟩ w w' rb (.slice ao len cap) e := by
  have P0 := pp_start h hr hna
  obtain ⟨X, hX⟩ : ∃ X, nP (uR len bs t) t bad = X := ⟨_, rfl⟩
  rw [hX]
  have HC1 : Hid (∀ W, PP w W rb ao len cap bs (t : Int) bad w.heap.size → Calls Tryd.prog 74 #[.pointer (some ⟨rb, 0, none⟩)] W fun e w' => PE X W w' rb (.slice ao len cap) e) := ⟨fun W hP => hX ▸ punsigned_any rb ao len cap t bs bad W hP.rd hP.row hbs hl ht⟩
  clear hX
  obtain ⟨xn, xt, xb⟩ := X
  dsimp only
  go_enter Tryd.func56, Tryd.ntmps56
  go_upto_region 1 with fail
  change Code.wp _ _ _ _ (w.alloc (.cells zeroO 75))
  have HP0 : Hid _ := ⟨P0⟩
  clear P0 h hr hna
  generalize w.alloc (.cells zeroO 75) = W0 at *
  generalize w.heap.size = g at *
  go_wp2_with (first
    | (go_at_call 74; (with_reducible refine (HC1.out _ HP0.out).mono ?_); rintro e w1 ⟨he, h1, t1⟩; subst he; have HP1 : Hid _ := ⟨HP0.out.go h1 t1⟩; clear h1 t1)
    | (refine wpList_part (g := g) (off := 0) (val := .agg (oqA 4 xn 0)) (new := oqA 4 xn 0) rfl rfl (by rfl) (by rfl) HP1.out.blk (by rw [sizeOp]; rfl) (by show 0 + 3 ≤ 3; omega) (oqA_one _ _ _) rfl ?_; have HZ : Hid _ := ⟨HP1.out.put (oqA 4 xn 0)⟩; generalize w1.setRow g (oqA 4 xn 0) = WZ at *))
  (try simp only [Exit.inBlock, Exit.then])
  refine bodyPost_ret (results_ct rfl rfl (load_op (o := ⟨4, xn, 0⟩) HZ.out.2.2)) rfl ?_
  exact ⟨rfl, HZ.out.1, HZ.out.2.1⟩

set_option maxRecDepth 10000 in
set_option maxHeartbeats 1000000 in
theorem low_14 (rb : Nat) (ao : Option Addr) (len cap t : Nat) (bs : Nat → Int) (bad : Bool) (w : World) (h : PD w rb (.slice ao len cap) (t : Int) bad) (hr : Row w ao len bs) (hna : 0 < len → ∀ b off, ao = some ⟨b, off, none⟩ → b ≠ rb) (hbs : ∀ i, 0 ≤ bs i ∧ bs i < 256) (hl : len ≤ 1048576) (ht : t ≤ 1048576) :
    Calls Tryd.prog 56 #[.pointer (some ⟨rb, 0, none⟩), .int .i64 14] w fun e w' => LE ⟨⟨3, 0, (nP (uR len bs t) t bad).1⟩, true, (nP (uR len bs t) t bad).2.1, (nP (uR len bs t) t bad).2.2⟩ w w' rb (.slice ao len cap) e := by
  have P0 := pp_start h hr hna
  obtain ⟨X, hX⟩ : ∃ X, nP (uR len bs t) t bad = X := ⟨_, rfl⟩
  rw [hX]
  have HC1 : Hid (∀ W, PP w W rb ao len cap bs (t : Int) bad w.heap.size → Calls Tryd.prog 74 #[.pointer (some ⟨rb, 0, none⟩)] W fun e w' => PE X W w' rb (.slice ao len cap) e) := ⟨fun W hP => hX ▸ punsigned_any rb ao len cap t bs bad W hP.rd hP.row hbs hl ht⟩
  clear hX
  obtain ⟨xn, xt, xb⟩ := X
  dsimp only
  go_enter Tryd.func56, Tryd.ntmps56
  go_upto_region 1 with fail
  change Code.wp _ _ _ _ (w.alloc (.cells zeroO 75))
  have HP0 : Hid _ := ⟨P0⟩
  clear P0 h hr hna
  generalize w.alloc (.cells zeroO 75) = W0 at *
  generalize w.heap.size = g at *
  go_wp2_with (first
    | (go_at_call 74; (with_reducible refine (HC1.out _ HP0.out).mono ?_); rintro e w1 ⟨he, h1, t1⟩; subst he; have HP1 : Hid _ := ⟨HP0.out.go h1 t1⟩; clear h1 t1)
    | (refine wpList_part (g := g) (off := 0) (val := .agg (oqA 3 0 xn)) (new := oqA 3 0 xn) rfl rfl (by rfl) (by rfl) HP1.out.blk (by rw [sizeOp]; rfl) (by show 0 + 3 ≤ 3; omega) (oqA_one _ _ _) rfl ?_; have HZ : Hid _ := ⟨HP1.out.put (oqA 3 0 xn)⟩; generalize w1.setRow g (oqA 3 0 xn) = WZ at *))
  (try simp only [Exit.inBlock, Exit.then])
  refine bodyPost_ret (results_ct rfl rfl (load_op (o := ⟨3, 0, xn⟩) HZ.out.2.2)) rfl ?_
  exact ⟨rfl, HZ.out.1, HZ.out.2.1⟩


theorem uR_le {len : Nat} {bs : Nat → Int} {t e : Nat} {n : Int} (h : uR len bs t = some (n, e)) : e ≤ len := by
  unfold uR at h
  cases hc : cN len bs t with
  | none => rw [hc] at h; cases h
  | some j =>
    rw [hc] at h
    have hn := (cN_some hc).2.2.1
    dsimp only at h
    split at h
    · cases h
    · cases h; exact hn
theorem ux_le {len : Nat} {bs : Nat → Int} {t : Nat} {bad : Bool} (hl : len ≤ 1048576) (ht : t ≤ 1048576) : (nP (uR len bs t) t bad).2.1 ≤ 1048576 :=
  nP_le (len := len) ht fun n e h => Nat.le_trans (uR_le h) hl

set_option maxRecDepth 10000 in
set_option maxHeartbeats 1000000 in
theorem low_5 (rb : Nat) (ao : Option Addr) (len cap t : Nat) (bs : Nat → Int) (bad : Bool) (w : World) (h : PD w rb (.slice ao len cap) (t : Int) bad) (hr : Row w ao len bs) (hna : 0 < len → ∀ b off, ao = some ⟨b, off, none⟩ → b ≠ rb) (hbs : ∀ i, 0 ≤ bs i ∧ bs i < 256) (hl : len ≤ 1048576) (ht : t ≤ 1048576) :
    Calls Tryd.prog 56 #[.pointer (some ⟨rb, 0, none⟩), .int .i64 5] w fun e w' => LE ⟨⟨5, (nP (uR len bs t) t bad).1, (uoP len bs (nP (uR len bs t) t bad).2.1 (nP (uR len bs t) t bad).2.2).1⟩, true, (uoP len bs (nP (uR len bs t) t bad).2.1 (nP (uR len bs t) t bad).2.2).2.1, (uoP len bs (nP (uR len bs t) t bad).2.1 (nP (uR len bs t) t bad).2.2).2.2⟩ w w' rb (.slice ao len cap) e := by
  have P0 := pp_start h hr hna
  have hxt := ux_le (bs := bs) (bad := bad) hl ht
  obtain ⟨X, hX⟩ : ∃ X, nP (uR len bs t) t bad = X := ⟨_, rfl⟩
  rw [hX] at hxt ⊢
  have HC1 : Hid (∀ W, PP w W rb ao len cap bs (t : Int) bad w.heap.size → Calls Tryd.prog 74 #[.pointer (some ⟨rb, 0, none⟩)] W fun e w' => PE X W w' rb (.slice ao len cap) e) := ⟨fun W hP => hX ▸ punsigned_any rb ao len cap t bs bad W hP.rd hP.row hbs hl ht⟩
  clear hX
  obtain ⟨xn, xt, xb⟩ := X
  dsimp only at hxt ⊢
  obtain ⟨Y, hY⟩ : ∃ Y, uoP len bs xt xb = Y := ⟨_, rfl⟩
  rw [hY]
  have HC2 : Hid (∀ W, PP w W rb ao len cap bs (xt : Int) xb w.heap.size → Calls Tryd.prog 55 #[.pointer (some ⟨rb, 0, none⟩)] W fun e w' => PE Y W w' rb (.slice ao len cap) e) := ⟨fun W hP => hY ▸ puo_any rb ao len cap xt bs xb W hP.rd hP.row hbs hl hxt⟩
  clear hY hxt
  obtain ⟨yn, yt, yb⟩ := Y
  dsimp only
  go_enter Tryd.func56, Tryd.ntmps56
  go_upto_region 1 with fail
  change Code.wp _ _ _ _ (w.alloc (.cells zeroO 75))
  have HP0 : Hid _ := ⟨P0⟩
  clear P0 h hr hna
  generalize w.alloc (.cells zeroO 75) = W0 at *
  generalize w.heap.size = g at *
  go_wp2_with (first
    | (go_at_call 74; (with_reducible refine (HC1.out _ HP0.out).mono ?_); rintro e w1 ⟨he, h1, t1⟩; subst he; have HP1 : Hid _ := ⟨HP0.out.go h1 t1⟩; clear h1 t1)
    | (go_at_call 55; (with_reducible refine (HC2.out _ HP1.out).mono ?_); rintro e w2 ⟨he, h2, t2⟩; subst he; have HP2 : Hid _ := ⟨HP1.out.go h2 t2⟩; clear h2 t2)
    | (refine wpList_part (g := g) (off := 0) (val := .agg (oqA 5 xn yn)) (new := oqA 5 xn yn) rfl rfl (by rfl) (by rfl) HP2.out.blk (by rw [sizeOp]; rfl) (by show 0 + 3 ≤ 3; omega) (oqA_one _ _ _) rfl ?_; have HZ : Hid _ := ⟨HP2.out.put (oqA 5 xn yn)⟩; generalize w2.setRow g (oqA 5 xn yn) = WZ at *))
  (try simp only [Exit.inBlock, Exit.then])
  refine bodyPost_ret (results_ct rfl rfl (load_op (o := ⟨5, xn, yn⟩) HZ.out.2.2)) rfl ?_
  exact ⟨rfl, HZ.out.1, HZ.out.2.1⟩

set_option maxRecDepth 10000 in
set_option maxHeartbeats 1000000 in
theorem low_12 (rb : Nat) (ao : Option Addr) (len cap t : Nat) (bs : Nat → Int) (bad : Bool) (w : World) (h : PD w rb (.slice ao len cap) (t : Int) bad) (hr : Row w ao len bs) (hna : 0 < len → ∀ b off, ao = some ⟨b, off, none⟩ → b ≠ rb) (hbs : ∀ i, 0 ≤ bs i ∧ bs i < 256) (hl : len ≤ 1048576) (ht : t ≤ 1048576) :
    Calls Tryd.prog 56 #[.pointer (some ⟨rb, 0, none⟩), .int .i64 12] w fun e w' => LE ⟨⟨2, (nP (uR len bs t) t bad).1, (uX len bs (nP (uR len bs t) t bad).2.1 (nP (uR len bs t) t bad).2.2).1⟩, true, (uX len bs (nP (uR len bs t) t bad).2.1 (nP (uR len bs t) t bad).2.2).2.1, (uX len bs (nP (uR len bs t) t bad).2.1 (nP (uR len bs t) t bad).2.2).2.2⟩ w w' rb (.slice ao len cap) e := by
  have P0 := pp_start h hr hna
  have hxt := ux_le (bs := bs) (bad := bad) hl ht
  obtain ⟨X, hX⟩ : ∃ X, nP (uR len bs t) t bad = X := ⟨_, rfl⟩
  rw [hX] at hxt ⊢
  have HC1 : Hid (∀ W, PP w W rb ao len cap bs (t : Int) bad w.heap.size → Calls Tryd.prog 74 #[.pointer (some ⟨rb, 0, none⟩)] W fun e w' => PE X W w' rb (.slice ao len cap) e) := ⟨fun W hP => hX ▸ punsigned_any rb ao len cap t bs bad W hP.rd hP.row hbs hl ht⟩
  clear hX
  obtain ⟨xn, xt, xb⟩ := X
  dsimp only at hxt ⊢
  obtain ⟨Y, hY⟩ : ∃ Y, uX len bs xt xb = Y := ⟨_, rfl⟩
  rw [hY]
  have HC2 : Hid (∀ W, PP w W rb ao len cap bs (xt : Int) xb w.heap.size → Calls Tryd.prog 74 #[.pointer (some ⟨rb, 0, none⟩)] W fun e w' => PE Y W w' rb (.slice ao len cap) e) := ⟨fun W hP => hY ▸ punsigned_any rb ao len cap xt bs xb W hP.rd hP.row hbs hl hxt⟩
  clear hY hxt
  obtain ⟨yn, yt, yb⟩ := Y
  dsimp only
  have tk : True := trivial
  go_enter Tryd.func56, Tryd.ntmps56
  go_upto_region 1 with fail
  change Code.wp _ _ _ _ (w.alloc (.cells zeroO 75))
  have HP0 : Hid _ := ⟨P0⟩
  clear P0 h hr hna
  generalize w.alloc (.cells zeroO 75) = W0 at *
  generalize w.heap.size = g at *
  go_wp2_with (first
    | (go_at_call 74; have _t := tk; (with_reducible refine (HC1.out _ HP0.out).mono ?_); rintro e w1 ⟨he, h1, t1⟩; subst he; clear tk _t; have HP1 : Hid _ := ⟨HP0.out.go h1 t1⟩; clear h1 t1)
    | (go_at_call 74; (with_reducible refine (HC2.out _ HP1.out).mono ?_); rintro e w2 ⟨he, h2, t2⟩; subst he; have HP2 : Hid _ := ⟨HP1.out.go h2 t2⟩; clear h2 t2)
    | (refine wpList_part (g := g) (off := 0) (val := .agg (oqA 2 xn yn)) (new := oqA 2 xn yn) rfl rfl (by rfl) (by rfl) HP2.out.blk (by rw [sizeOp]; rfl) (by show 0 + 3 ≤ 3; omega) (oqA_one _ _ _) rfl ?_; have HZ : Hid _ := ⟨HP2.out.put (oqA 2 xn yn)⟩; generalize w2.setRow g (oqA 2 xn yn) = WZ at *))
  (try simp only [Exit.inBlock, Exit.then])
  refine bodyPost_ret (results_ct rfl rfl (load_op (o := ⟨2, xn, yn⟩) HZ.out.2.2)) rfl ?_
  exact ⟨rfl, HZ.out.1, HZ.out.2.1⟩

set_option maxRecDepth 10000 in
set_option maxHeartbeats 1000000 in
theorem low_17 (rb : Nat) (ao : Option Addr) (len cap t : Nat) (bs : Nat → Int) (bad : Bool) (w : World) (h : PD w rb (.slice ao len cap) (t : Int) bad) (hr : Row w ao len bs) (hna : 0 < len → ∀ b off, ao = some ⟨b, off, none⟩ → b ≠ rb) (hbs : ∀ i, 0 ≤ bs i ∧ bs i < 256) (hl : len ≤ 1048576) (ht : t ≤ 1048576) :
    Calls Tryd.prog 56 #[.pointer (some ⟨rb, 0, none⟩), .int .i64 17] w fun e w' => LE ⟨⟨5, (nP (uR len bs t) t bad).1, (soP len bs (nP (uR len bs t) t bad).2.1 (nP (uR len bs t) t bad).2.2).1⟩, true, (soP len bs (nP (uR len bs t) t bad).2.1 (nP (uR len bs t) t bad).2.2).2.1, (soP len bs (nP (uR len bs t) t bad).2.1 (nP (uR len bs t) t bad).2.2).2.2⟩ w w' rb (.slice ao len cap) e := by
  have P0 := pp_start h hr hna
  have hxt := ux_le (bs := bs) (bad := bad) hl ht
  obtain ⟨X, hX⟩ : ∃ X, nP (uR len bs t) t bad = X := ⟨_, rfl⟩
  rw [hX] at hxt ⊢
  have HC1 : Hid (∀ W, PP w W rb ao len cap bs (t : Int) bad w.heap.size → Calls Tryd.prog 74 #[.pointer (some ⟨rb, 0, none⟩)] W fun e w' => PE X W w' rb (.slice ao len cap) e) := ⟨fun W hP => hX ▸ punsigned_any rb ao len cap t bs bad W hP.rd hP.row hbs hl ht⟩
  clear hX
  obtain ⟨xn, xt, xb⟩ := X
  dsimp only at hxt ⊢
  obtain ⟨Y, hY⟩ : ∃ Y, soP len bs xt xb = Y := ⟨_, rfl⟩
  rw [hY]
  have HC2 : Hid (∀ W, PP w W rb ao len cap bs (xt : Int) xb w.heap.size → Calls Tryd.prog 76 #[.pointer (some ⟨rb, 0, none⟩)] W fun e w' => PE Y W w' rb (.slice ao len cap) e) := ⟨fun W hP => hY ▸ pso_any rb ao len cap xt bs xb W hP.rd hP.row hbs hl hxt⟩
  clear hY hxt
  obtain ⟨yn, yt, yb⟩ := Y
  dsimp only
  go_enter Tryd.func56, Tryd.ntmps56
  go_upto_region 1 with fail
  change Code.wp _ _ _ _ (w.alloc (.cells zeroO 75))
  have HP0 : Hid _ := ⟨P0⟩
  clear P0 h hr hna
  generalize w.alloc (.cells zeroO 75) = W0 at *
  generalize w.heap.size = g at *
  go_wp2_with (first
    | (go_at_call 74; (with_reducible refine (HC1.out _ HP0.out).mono ?_); rintro e w1 ⟨he, h1, t1⟩; subst he; have HP1 : Hid _ := ⟨HP0.out.go h1 t1⟩; clear h1 t1)
    | (go_at_call 76; (with_reducible refine (HC2.out _ HP1.out).mono ?_); rintro e w2 ⟨he, h2, t2⟩; subst he; have HP2 : Hid _ := ⟨HP1.out.go h2 t2⟩; clear h2 t2)
    | (refine wpList_part (g := g) (off := 0) (val := .agg (oqA 5 xn yn)) (new := oqA 5 xn yn) rfl rfl (by rfl) (by rfl) HP2.out.blk (by rw [sizeOp]; rfl) (by show 0 + 3 ≤ 3; omega) (oqA_one _ _ _) rfl ?_; have HZ : Hid _ := ⟨HP2.out.put (oqA 5 xn yn)⟩; generalize w2.setRow g (oqA 5 xn yn) = WZ at *))
  (try simp only [Exit.inBlock, Exit.then])
  refine bodyPost_ret (results_ct rfl rfl (load_op (o := ⟨5, xn, yn⟩) HZ.out.2.2)) rfl ?_
  exact ⟨rfl, HZ.out.1, HZ.out.2.1⟩

/-- The op of a low byte. -/
def lowP (len : Nat) (bs : Nat → Int) (c : Int) (t : Nat) (bad : Bool) : LO :=
  if c = 0 then ⟨⟨0, 0, 0⟩, true, t, bad⟩
  else if c = 2 then ⟨⟨1, 0, (nP (gN len bs t 1) t bad).1⟩, true, (nP (gN len bs t 1) t bad).2.1, (nP (gN len bs t 1) t bad).2.2⟩
  else if c = 3 then ⟨⟨1, 0, (nP (gN len bs t 2) t bad).1⟩, true, (nP (gN len bs t 2) t bad).2.1, (nP (gN len bs t 2) t bad).2.2⟩
  else if c = 4 then ⟨⟨1, 0, (nP (gN len bs t 4) t bad).1⟩, true, (nP (gN len bs t 4) t bad).2.1, (nP (gN len bs t 4) t bad).2.2⟩
  else if c = 5 then ⟨⟨5, (nP (uR len bs t) t bad).1, (uoP len bs (nP (uR len bs t) t bad).2.1 (nP (uR len bs t) t bad).2.2).1⟩, true, (uoP len bs (nP (uR len bs t) t bad).2.1 (nP (uR len bs t) t bad).2.2).2.1, (uoP len bs (nP (uR len bs t) t bad).2.1 (nP (uR len bs t) t bad).2.2).2.2⟩
  else if c = 6 then ⟨⟨6, (nP (uR len bs t) t bad).1, 0⟩, true, (nP (uR len bs t) t bad).2.1, (nP (uR len bs t) t bad).2.2⟩
  else if c = 7 then ⟨⟨7, (nP (uR len bs t) t bad).1, 0⟩, true, (nP (uR len bs t) t bad).2.1, (nP (uR len bs t) t bad).2.2⟩
  else if c = 8 then ⟨⟨8, (nP (uR len bs t) t bad).1, 0⟩, true, (nP (uR len bs t) t bad).2.1, (nP (uR len bs t) t bad).2.2⟩
  else if c = 10 then ⟨⟨9, 0, 0⟩, true, t, bad⟩
  else if c = 11 then ⟨⟨10, 0, 0⟩, true, t, bad⟩
  else if c = 12 then ⟨⟨2, (nP (uR len bs t) t bad).1, (uX len bs (nP (uR len bs t) t bad).2.1 (nP (uR len bs t) t bad).2.2).1⟩, true, (uX len bs (nP (uR len bs t) t bad).2.1 (nP (uR len bs t) t bad).2.2).2.1, (uX len bs (nP (uR len bs t) t bad).2.1 (nP (uR len bs t) t bad).2.2).2.2⟩
  else if c = 13 then ⟨⟨4, (nP (uR len bs t) t bad).1, 0⟩, true, (nP (uR len bs t) t bad).2.1, (nP (uR len bs t) t bad).2.2⟩
  else if c = 14 then ⟨⟨3, 0, (nP (uR len bs t) t bad).1⟩, true, (nP (uR len bs t) t bad).2.1, (nP (uR len bs t) t bad).2.2⟩
  else if c = 17 then ⟨⟨5, (nP (uR len bs t) t bad).1, (soP len bs (nP (uR len bs t) t bad).2.1 (nP (uR len bs t) t bad).2.2).1⟩, true, (soP len bs (nP (uR len bs t) t bad).2.1 (nP (uR len bs t) t bad).2.2).2.1, (soP len bs (nP (uR len bs t) t bad).2.1 (nP (uR len bs t) t bad).2.2).2.2⟩
  else ⟨⟨0, 0, 0⟩, false, t, bad⟩
theorem low_any (rb : Nat) (ao : Option Addr) (len cap t : Nat) (bs : Nat → Int) (bad : Bool) (w : World) (h : PD w rb (.slice ao len cap) (t : Int) bad) (hr : Row w ao len bs) (hna : 0 < len → ∀ b off, ao = some ⟨b, off, none⟩ → b ≠ rb) (hbs : ∀ i, 0 ≤ bs i ∧ bs i < 256) (hl : len ≤ 1048576) (ht : t ≤ 1048576) (c : Int) :
    Calls Tryd.prog 56 #[.pointer (some ⟨rb, 0, none⟩), .int .i64 c] w fun e w' => LE (lowP len bs c t bad) w w' rb (.slice ao len cap) e := by
  unfold lowP
  by_cases c0 : c = 0
  · subst c0; rw [if_pos rfl]; exact low_0 rb ao len cap t bs bad w h hr hna hbs hl ht
  rw [if_neg c0]
  by_cases c2 : c = 2
  · subst c2; rw [if_pos rfl]; exact low_2 rb ao len cap t bs bad w h hr hna hbs hl ht
  rw [if_neg c2]
  by_cases c3 : c = 3
  · subst c3; rw [if_pos rfl]; exact low_3 rb ao len cap t bs bad w h hr hna hbs hl ht
  rw [if_neg c3]
  by_cases c4 : c = 4
  · subst c4; rw [if_pos rfl]; exact low_4 rb ao len cap t bs bad w h hr hna hbs hl ht
  rw [if_neg c4]
  by_cases c5 : c = 5
  · subst c5; rw [if_pos rfl]; exact low_5 rb ao len cap t bs bad w h hr hna hbs hl ht
  rw [if_neg c5]
  by_cases c6 : c = 6
  · subst c6; rw [if_pos rfl]; exact low_6 rb ao len cap t bs bad w h hr hna hbs hl ht
  rw [if_neg c6]
  by_cases c7 : c = 7
  · subst c7; rw [if_pos rfl]; exact low_7 rb ao len cap t bs bad w h hr hna hbs hl ht
  rw [if_neg c7]
  by_cases c8 : c = 8
  · subst c8; rw [if_pos rfl]; exact low_8 rb ao len cap t bs bad w h hr hna hbs hl ht
  rw [if_neg c8]
  by_cases c10 : c = 10
  · subst c10; rw [if_pos rfl]; exact low_10 rb ao len cap t bs bad w h hr hna hbs hl ht
  rw [if_neg c10]
  by_cases c11 : c = 11
  · subst c11; rw [if_pos rfl]; exact low_11 rb ao len cap t bs bad w h hr hna hbs hl ht
  rw [if_neg c11]
  by_cases c12 : c = 12
  · subst c12; rw [if_pos rfl]; exact low_12 rb ao len cap t bs bad w h hr hna hbs hl ht
  rw [if_neg c12]
  by_cases c13 : c = 13
  · subst c13; rw [if_pos rfl]; exact low_13 rb ao len cap t bs bad w h hr hna hbs hl ht
  rw [if_neg c13]
  by_cases c14 : c = 14
  · subst c14; rw [if_pos rfl]; exact low_14 rb ao len cap t bs bad w h hr hna hbs hl ht
  rw [if_neg c14]
  by_cases c17 : c = 17
  · subst c17; rw [if_pos rfl]; exact low_17 rb ao len cap t bs bad w h hr hna hbs hl ht
  rw [if_neg c17]
  exact low_bad rb ao len cap t bs bad w h hr hna hbs hl ht c c0 c2 c3 c4 c5 c6 c7 c8 c10 c11 c12 c13 c14 c17
end Go.Proofs.YtgldijohpfihaaaDoor
