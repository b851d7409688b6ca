/- The program's opOf: an event's op. -/
import Derived.Test.YtpbnldfekadalaaDoorCEvO
namespace Go.Proofs.YtpbnldfekadalaaDoor
open Go.ChangeShapes Go.WideShapes Go.ChangeAt Go.RowKit
set_option linter.unusedVariables false
set_option linter.unusedSimpArgs false

theorem wrap_neg (a n : Int) : wrap64 (a + wrap64 (-n)) = wrap64 (a + -n) := by unfold wrap64; omega
theorem Oq.far_neg (q : Oq) (n : Int) : q.far (wrap64 (-n)) = q.far (-n) := by unfold Oq.far; rw [wrap_neg]
theorem OE.bel {o : Option Oq} {w w1 w' : World} {e : Ending} (h : OE o w1 e w') (hb : Below w.heap.size w w1) : OE o w e w' := by
  obtain ⟨q, h1, h2, h3⟩ := h
  exact ⟨q, h1, h2, hb.trans (h3.mono hb.size)⟩
theorem val_one (q : Oq) : ∀ u ∈ q.val.cells.toList, u.oneCell' = true := fun u hu => by
  simp [Value.cells] at hu
  rcases hu with rfl | rfl | rfl <;> rfl
theorem opE_s {s : List UInt8} (a : List Int) (n : Int) : opE s a n = opE s a n := rfl
set_option maxRecDepth 20000 in
set_option maxHeartbeats 2000000 in
theorem opOf_0 (p : Int) (s : ByteArray) (ao : Option Addr) (c : Nat) (l : List Int) (n : Int) (w : World) (hs : s.toList = nm0) (h : Ia w ao l) (hl : l.length ≤ 140737488355328) :
    Calls Tryd.prog 24 #[.agg #[.int .i64 p, .string s, .slice ao l.length c], .int .i64 n] w (OE (opE s.toList l n) w) := by
  have m0 : (s.toList == nm0) = true := by rw [hs]; decide
  have e0 : opE s.toList l n = two 2 l := by unfold opE; rw [m0]; rfl
  rw [e0]
  clear e0 hs
  have HB0 : Below w.heap.size w (w.alloc (.cells #[.int .i64 p, .string s, .slice ao l.length c] 27)) := bel_new _ _ _
  have HB1 : Below w.heap.size w ((w.alloc (.cells #[.int .i64 p, .string s, .slice ao l.length c] 27)).alloc (.cells #[.int .i64 0, .int .i64 0, .int .i64 0] 64)) := HB0.alloc HB0.size _
  have HB2 : Below (w.alloc (.cells #[.int .i64 p, .string s, .slice ao l.length c] 27)).heap.size (w.alloc (.cells #[.int .i64 p, .string s, .slice ao l.length c] 27)) ((w.alloc (.cells #[.int .i64 p, .string s, .slice ao l.length c] 27)).alloc (.cells #[.int .i64 0, .int .i64 0, .int .i64 0] 64)) := bel_new _ _ _
  have K0 := (Bk.new w #[.int .i64 p, .string s, .slice ao l.length c] 27).bel HB2 (Bk.new w _ _).lt
  have K1 := Bk.new (w.alloc (.cells #[.int .i64 p, .string s, .slice ao l.length c] 27)) #[.int .i64 0, .int .i64 0, .int .i64 0] 64
  rw [show (w.alloc (.cells #[.int .i64 p, .string s, .slice ao l.length c] 27)).heap.size = w.heap.size + 1 by simp] at K1
  have HI : Hid _ := ⟨h.bel HB1⟩
  have Hb1 : Hid (w.heap.size ≤ w.heap.size + 1) := ⟨Nat.le_succ _⟩
  have HBw : Hid _ := ⟨HB1⟩
  clear h HB0 HB1 HB2
  go_enter Tryd.func24, Tryd.ntmps24
  go_upto_region 3 with (fail)
  generalize ((w.alloc (.cells #[.int .i64 p, .string s, .slice ao l.length c] 27)).alloc (.cells #[.int .i64 0, .int .i64 0, .int .i64 0] 64)) = W at *
  generalize hb1 : w.heap.size + 1 = b1 at *
  generalize hb0 : w.heap.size = b0 at *
  have d2 := K0.cell 2 rfl
  go_wp2_with (first
    | (go_at_call 30; (with_reducible refine (withBoth_any 2 ao c l W HI.out hl).mono ?_); rintro e u ⟨q, he, hq, hb⟩; subst he; have HQ : Hid _ := ⟨hq⟩; have K2 := K1.bel hb K1.lt; have HBu : Hid (Below b0 w u) := ⟨HBw.out.trans (hb.mono (by have := HBw.out.size; omega))⟩; clear hq hb)
    | (refine wpList_part (g := b1) (off := 0) (val := q.val) rfl rfl (by rfl) (by rfl) K2 (by rw [sizeOp]; rfl) (by show 0 + 3 ≤ 3; omega) (val_one _) rfl ?_))
  (try simp only [Exit.inBlock, Exit.then])
  have K3 := K2.setR #[.int .i64 q.k, .int .i64 q.r, .int .i64 q.n]
  refine bodyPost_ret (results_ctE rfl rfl (load_op (o := q) K3)) rfl ?_
  have B3 := HBu.out.trans (below_set u b1 #[.int .i64 q.k, .int .i64 q.r, .int .i64 q.n] Hb1.out)
  subst hb0
  exact ⟨q, rfl, HQ.out, B3⟩
set_option maxRecDepth 20000 in
set_option maxHeartbeats 2000000 in
theorem opOf_1 (p : Int) (s : ByteArray) (ao : Option Addr) (c : Nat) (l : List Int) (n : Int) (w : World) (hs : s.toList = nm1) (h : Ia w ao l) (hl : l.length ≤ 140737488355328) :
    Calls Tryd.prog 24 #[.agg #[.int .i64 p, .string s, .slice ao l.length c], .int .i64 n] w (OE (opE s.toList l n) w) := by
  have m0 : (s.toList == nm0) = false := by rw [hs]; decide
  have m1 : (s.toList == nm1) = true := by rw [hs]; decide
  have e0 : opE s.toList l n = one 3 l := by unfold opE; rw [m0, m1]; rfl
  rw [e0]
  clear e0 hs
  have HB0 : Below w.heap.size w (w.alloc (.cells #[.int .i64 p, .string s, .slice ao l.length c] 27)) := bel_new _ _ _
  have HB1 : Below w.heap.size w ((w.alloc (.cells #[.int .i64 p, .string s, .slice ao l.length c] 27)).alloc (.cells #[.int .i64 0, .int .i64 0, .int .i64 0] 64)) := HB0.alloc HB0.size _
  have HB2 : Below (w.alloc (.cells #[.int .i64 p, .string s, .slice ao l.length c] 27)).heap.size (w.alloc (.cells #[.int .i64 p, .string s, .slice ao l.length c] 27)) ((w.alloc (.cells #[.int .i64 p, .string s, .slice ao l.length c] 27)).alloc (.cells #[.int .i64 0, .int .i64 0, .int .i64 0] 64)) := bel_new _ _ _
  have K0 := (Bk.new w #[.int .i64 p, .string s, .slice ao l.length c] 27).bel HB2 (Bk.new w _ _).lt
  have K1 := Bk.new (w.alloc (.cells #[.int .i64 p, .string s, .slice ao l.length c] 27)) #[.int .i64 0, .int .i64 0, .int .i64 0] 64
  rw [show (w.alloc (.cells #[.int .i64 p, .string s, .slice ao l.length c] 27)).heap.size = w.heap.size + 1 by simp] at K1
  have HI : Hid _ := ⟨h.bel HB1⟩
  have Hb1 : Hid (w.heap.size ≤ w.heap.size + 1) := ⟨Nat.le_succ _⟩
  have HBw : Hid _ := ⟨HB1⟩
  clear h HB0 HB1 HB2
  go_enter Tryd.func24, Tryd.ntmps24
  go_upto_region 5 with (fail)
  generalize ((w.alloc (.cells #[.int .i64 p, .string s, .slice ao l.length c] 27)).alloc (.cells #[.int .i64 0, .int .i64 0, .int .i64 0] 64)) = W at *
  generalize hb1 : w.heap.size + 1 = b1 at *
  generalize hb0 : w.heap.size = b0 at *
  have d2 := K0.cell 2 rfl
  go_wp2_with (first
    | (go_at_call 31; (with_reducible refine (withN_any 3 ao c l W HI.out hl).mono ?_); rintro e u ⟨q, he, hq, hb⟩; subst he; have HQ : Hid _ := ⟨hq⟩; have K2 := K1.bel hb K1.lt; have HBu : Hid (Below b0 w u) := ⟨HBw.out.trans (hb.mono (by have := HBw.out.size; omega))⟩; clear hq hb)
    | (refine wpList_part (g := b1) (off := 0) (val := q.val) rfl rfl (by rfl) (by rfl) K2 (by rw [sizeOp]; rfl) (by show 0 + 3 ≤ 3; omega) (val_one _) rfl ?_))
  (try simp only [Exit.inBlock, Exit.then])
  have K3 := K2.setR #[.int .i64 q.k, .int .i64 q.r, .int .i64 q.n]
  refine bodyPost_ret (results_ctE rfl rfl (load_op (o := q) K3)) rfl ?_
  have B3 := HBu.out.trans (below_set u b1 #[.int .i64 q.k, .int .i64 q.r, .int .i64 q.n] Hb1.out)
  subst hb0
  exact ⟨q, rfl, HQ.out, B3⟩
set_option maxRecDepth 20000 in
set_option maxHeartbeats 2000000 in
theorem opOf_2 (p : Int) (s : ByteArray) (ao : Option Addr) (c : Nat) (l : List Int) (n : Int) (w : World) (hs : s.toList = nm2) (h : Ia w ao l) (hl : l.length ≤ 140737488355328) :
    Calls Tryd.prog 24 #[.agg #[.int .i64 p, .string s, .slice ao l.length c], .int .i64 n] w (OE (opE s.toList l n) w) := by
  have m0 : (s.toList == nm0) = false := by rw [hs]; decide
  have m1 : (s.toList == nm1) = false := by rw [hs]; decide
  have m2 : (s.toList == nm2) = true := by rw [hs]; decide
  have e0 : opE s.toList l n = reg 4 l := by unfold opE; rw [m0, m1, m2]; rfl
  rw [e0]
  clear e0 hs
  have HB0 : Below w.heap.size w (w.alloc (.cells #[.int .i64 p, .string s, .slice ao l.length c] 27)) := bel_new _ _ _
  have HB1 : Below w.heap.size w ((w.alloc (.cells #[.int .i64 p, .string s, .slice ao l.length c] 27)).alloc (.cells #[.int .i64 0, .int .i64 0, .int .i64 0] 64)) := HB0.alloc HB0.size _
  have HB2 : Below (w.alloc (.cells #[.int .i64 p, .string s, .slice ao l.length c] 27)).heap.size (w.alloc (.cells #[.int .i64 p, .string s, .slice ao l.length c] 27)) ((w.alloc (.cells #[.int .i64 p, .string s, .slice ao l.length c] 27)).alloc (.cells #[.int .i64 0, .int .i64 0, .int .i64 0] 64)) := bel_new _ _ _
  have K0 := (Bk.new w #[.int .i64 p, .string s, .slice ao l.length c] 27).bel HB2 (Bk.new w _ _).lt
  have K1 := Bk.new (w.alloc (.cells #[.int .i64 p, .string s, .slice ao l.length c] 27)) #[.int .i64 0, .int .i64 0, .int .i64 0] 64
  rw [show (w.alloc (.cells #[.int .i64 p, .string s, .slice ao l.length c] 27)).heap.size = w.heap.size + 1 by simp] at K1
  have HI : Hid _ := ⟨h.bel HB1⟩
  have Hb1 : Hid (w.heap.size ≤ w.heap.size + 1) := ⟨Nat.le_succ _⟩
  have HBw : Hid _ := ⟨HB1⟩
  clear h HB0 HB1 HB2
  go_enter Tryd.func24, Tryd.ntmps24
  go_upto_region 7 with (fail)
  generalize ((w.alloc (.cells #[.int .i64 p, .string s, .slice ao l.length c] 27)).alloc (.cells #[.int .i64 0, .int .i64 0, .int .i64 0] 64)) = W at *
  generalize hb1 : w.heap.size + 1 = b1 at *
  generalize hb0 : w.heap.size = b0 at *
  have d2 := K0.cell 2 rfl
  go_wp2_with (first
    | (go_at_call 32; (with_reducible refine (withR_any 4 ao c l W HI.out hl).mono ?_); rintro e u ⟨q, he, hq, hb⟩; subst he; have HQ : Hid _ := ⟨hq⟩; have K2 := K1.bel hb K1.lt; have HBu : Hid (Below b0 w u) := ⟨HBw.out.trans (hb.mono (by have := HBw.out.size; omega))⟩; clear hq hb)
    | (refine wpList_part (g := b1) (off := 0) (val := q.val) rfl rfl (by rfl) (by rfl) K2 (by rw [sizeOp]; rfl) (by show 0 + 3 ≤ 3; omega) (val_one _) rfl ?_))
  (try simp only [Exit.inBlock, Exit.then])
  have K3 := K2.setR #[.int .i64 q.k, .int .i64 q.r, .int .i64 q.n]
  refine bodyPost_ret (results_ctE rfl rfl (load_op (o := q) K3)) rfl ?_
  have B3 := HBu.out.trans (below_set u b1 #[.int .i64 q.k, .int .i64 q.r, .int .i64 q.n] Hb1.out)
  subst hb0
  exact ⟨q, rfl, HQ.out, B3⟩
set_option maxRecDepth 20000 in
set_option maxHeartbeats 2000000 in
theorem opOf_3 (p : Int) (s : ByteArray) (ao : Option Addr) (c : Nat) (l : List Int) (n : Int) (w : World) (hs : s.toList = nm3) (h : Ia w ao l) (hl : l.length ≤ 140737488355328) :
    Calls Tryd.prog 24 #[.agg #[.int .i64 p, .string s, .slice ao l.length c], .int .i64 n] w (OE (opE s.toList l n) w) := by
  have m0 : (s.toList == nm0) = false := by rw [hs]; decide
  have m1 : (s.toList == nm1) = false := by rw [hs]; decide
  have m2 : (s.toList == nm2) = false := by rw [hs]; decide
  have m3 : (s.toList == nm3) = true := by rw [hs]; decide
  have e0 : opE s.toList l n = two 5 l := by unfold opE; rw [m0, m1, m2, m3]; rfl
  rw [e0]
  clear e0 hs
  have HB0 : Below w.heap.size w (w.alloc (.cells #[.int .i64 p, .string s, .slice ao l.length c] 27)) := bel_new _ _ _
  have HB1 : Below w.heap.size w ((w.alloc (.cells #[.int .i64 p, .string s, .slice ao l.length c] 27)).alloc (.cells #[.int .i64 0, .int .i64 0, .int .i64 0] 64)) := HB0.alloc HB0.size _
  have HB2 : Below (w.alloc (.cells #[.int .i64 p, .string s, .slice ao l.length c] 27)).heap.size (w.alloc (.cells #[.int .i64 p, .string s, .slice ao l.length c] 27)) ((w.alloc (.cells #[.int .i64 p, .string s, .slice ao l.length c] 27)).alloc (.cells #[.int .i64 0, .int .i64 0, .int .i64 0] 64)) := bel_new _ _ _
  have K0 := (Bk.new w #[.int .i64 p, .string s, .slice ao l.length c] 27).bel HB2 (Bk.new w _ _).lt
  have K1 := Bk.new (w.alloc (.cells #[.int .i64 p, .string s, .slice ao l.length c] 27)) #[.int .i64 0, .int .i64 0, .int .i64 0] 64
  rw [show (w.alloc (.cells #[.int .i64 p, .string s, .slice ao l.length c] 27)).heap.size = w.heap.size + 1 by simp] at K1
  have HI : Hid _ := ⟨h.bel HB1⟩
  have Hb1 : Hid (w.heap.size ≤ w.heap.size + 1) := ⟨Nat.le_succ _⟩
  have HBw : Hid _ := ⟨HB1⟩
  clear h HB0 HB1 HB2
  go_enter Tryd.func24, Tryd.ntmps24
  go_upto_region 9 with (fail)
  generalize ((w.alloc (.cells #[.int .i64 p, .string s, .slice ao l.length c] 27)).alloc (.cells #[.int .i64 0, .int .i64 0, .int .i64 0] 64)) = W at *
  generalize hb1 : w.heap.size + 1 = b1 at *
  generalize hb0 : w.heap.size = b0 at *
  have d2 := K0.cell 2 rfl
  go_wp2_with (first
    | (go_at_call 30; (with_reducible refine (withBoth_any 5 ao c l W HI.out hl).mono ?_); rintro e u ⟨q, he, hq, hb⟩; subst he; have HQ : Hid _ := ⟨hq⟩; have K2 := K1.bel hb K1.lt; have HBu : Hid (Below b0 w u) := ⟨HBw.out.trans (hb.mono (by have := HBw.out.size; omega))⟩; clear hq hb)
    | (refine wpList_part (g := b1) (off := 0) (val := q.val) rfl rfl (by rfl) (by rfl) K2 (by rw [sizeOp]; rfl) (by show 0 + 3 ≤ 3; omega) (val_one _) rfl ?_))
  (try simp only [Exit.inBlock, Exit.then])
  have K3 := K2.setR #[.int .i64 q.k, .int .i64 q.r, .int .i64 q.n]
  refine bodyPost_ret (results_ctE rfl rfl (load_op (o := q) K3)) rfl ?_
  have B3 := HBu.out.trans (below_set u b1 #[.int .i64 q.k, .int .i64 q.r, .int .i64 q.n] Hb1.out)
  subst hb0
  exact ⟨q, rfl, HQ.out, B3⟩
set_option maxRecDepth 20000 in
set_option maxHeartbeats 2000000 in
theorem opOf_4 (p : Int) (s : ByteArray) (ao : Option Addr) (c : Nat) (l : List Int) (n : Int) (w : World) (hs : s.toList = nm4) (h : Ia w ao l) (hl : l.length ≤ 140737488355328) :
    Calls Tryd.prog 24 #[.agg #[.int .i64 p, .string s, .slice ao l.length c], .int .i64 n] w (OE (opE s.toList l n) w) := by
  have m0 : (s.toList == nm0) = false := by rw [hs]; decide
  have m1 : (s.toList == nm1) = false := by rw [hs]; decide
  have m2 : (s.toList == nm2) = false := by rw [hs]; decide
  have m3 : (s.toList == nm3) = false := by rw [hs]; decide
  have m4 : (s.toList == nm4) = true := by rw [hs]; decide
  have e0 : opE s.toList l n = (two 5 l).map (·.far (-n)) := by unfold opE; rw [m0, m1, m2, m3, m4]; rfl
  rw [e0]
  clear e0 hs
  have HB0 : Below w.heap.size w (w.alloc (.cells #[.int .i64 p, .string s, .slice ao l.length c] 27)) := bel_new _ _ _
  have HB1 : Below w.heap.size w ((w.alloc (.cells #[.int .i64 p, .string s, .slice ao l.length c] 27)).alloc (.cells #[.int .i64 0, .int .i64 0, .int .i64 0] 64)) := HB0.alloc HB0.size _
  have HB2 : Below (w.alloc (.cells #[.int .i64 p, .string s, .slice ao l.length c] 27)).heap.size (w.alloc (.cells #[.int .i64 p, .string s, .slice ao l.length c] 27)) ((w.alloc (.cells #[.int .i64 p, .string s, .slice ao l.length c] 27)).alloc (.cells #[.int .i64 0, .int .i64 0, .int .i64 0] 64)) := bel_new _ _ _
  have K0 := (Bk.new w #[.int .i64 p, .string s, .slice ao l.length c] 27).bel HB2 (Bk.new w _ _).lt
  have K1 := Bk.new (w.alloc (.cells #[.int .i64 p, .string s, .slice ao l.length c] 27)) #[.int .i64 0, .int .i64 0, .int .i64 0] 64
  rw [show (w.alloc (.cells #[.int .i64 p, .string s, .slice ao l.length c] 27)).heap.size = w.heap.size + 1 by simp] at K1
  have HI : Hid _ := ⟨h.bel HB1⟩
  have Hb1 : Hid (w.heap.size ≤ w.heap.size + 1) := ⟨Nat.le_succ _⟩
  have HBw : Hid _ := ⟨HB1⟩
  clear h HB0 HB1 HB2
  go_enter Tryd.func24, Tryd.ntmps24
  go_upto_region 11 with (fail)
  generalize ((w.alloc (.cells #[.int .i64 p, .string s, .slice ao l.length c] 27)).alloc (.cells #[.int .i64 0, .int .i64 0, .int .i64 0] 64)) = W at *
  generalize hb1 : w.heap.size + 1 = b1 at *
  generalize hb0 : w.heap.size = b0 at *
  have d2 := K0.cell 2 rfl
  obtain ⟨B, hB⟩ : ∃ B, (two 5 l).isSome = B := ⟨_, rfl⟩
  have eB : ((two 5 l).map (·.far (-n))).isSome = B := by rw [← hB]; cases two 5 l <;> rfl
  go_upto_region 12 with (go_at_call 30; (with_reducible refine (withBoth_any 5 ao c l W HI.out hl).mono ?_); rintro e u ⟨q, he, hq, hb⟩; subst he; have HQ : Hid _ := ⟨hq⟩; have K2 := K1.bel hb K1.lt; have HBu : Hid (Below b0 w u) := ⟨HBw.out.trans (hb.mono (by have := HBw.out.size; omega))⟩; clear hq hb)
  have HBv : Hid (Below b0 w (u.alloc (.cells #[.int .i64 q.k, .int .i64 q.r, .int .i64 q.n] 64))) := ⟨HBu.out.alloc (by have := HBu.out.size; omega) _⟩
  have K3 := K2.bel (bel_new u #[.int .i64 q.k, .int .i64 q.r, .int .i64 q.n] 64) K2.lt
  have N3 := Bk.new u #[.int .i64 q.k, .int .i64 q.r, .int .i64 q.n] 64
  have l0 := N3.cell 0 rfl
  have l1 := N3.cell 1 rfl
  have l2 := N3.cell 2 rfl
  clear K0 K1 K2 d2 HBu N3
  generalize (u.alloc (.cells #[.int .i64 q.k, .int .i64 q.r, .int .i64 q.n] 64)) = V at *
  generalize u.heap.size = b2 at *
  go_wp2_with (first
    | (go_at_call 33; (with_reducible refine (farther_any q (wrap64 (-n)) V).mono ?_); rintro e x ⟨he, hb⟩; subst he; have K4 := K3.bel hb K3.lt; have HBx : Hid (Below b0 w x) := ⟨HBv.out.trans (hb.mono (by have := HBv.out.size; omega))⟩; clear hb)
    | (refine wpList_part (g := b1) (off := 0) (val := (q.far (wrap64 (-n))).val) rfl rfl (by rfl) (by rfl) K4 (by rw [sizeOp]; rfl) (by show 0 + 3 ≤ 3; omega) (val_one _) rfl ?_))
  (try simp only [Exit.inBlock, Exit.then])
  have K5 := K4.setR #[.int .i64 (q.far (wrap64 (-n))).k, .int .i64 (q.far (wrap64 (-n))).r, .int .i64 (q.far (wrap64 (-n))).n]
  refine bodyPost_ret (results_ctE rfl rfl (load_op (o := q.far (wrap64 (-n))) K5)) rfl ?_
  have B5 := HBx.out.trans (below_set x b1 #[.int .i64 (q.far (wrap64 (-n))).k, .int .i64 (q.far (wrap64 (-n))).r, .int .i64 (q.far (wrap64 (-n))).n] Hb1.out)
  subst hb0
  refine ⟨q.far (wrap64 (-n)), ?_, fun x hx => ?_, B5⟩
  · rw [eB, ← hB]; rfl
  · cases ho : two 5 l with
    | none => rw [ho] at hx; cases hx
    | some z =>
      rw [ho] at hx
      simp only [Option.map_some, Option.some.injEq] at hx
      rw [← hx, HQ.out z ho, Oq.far_neg]
set_option maxRecDepth 20000 in
set_option maxHeartbeats 2000000 in
theorem opOf_5 (p : Int) (s : ByteArray) (ao : Option Addr) (c : Nat) (l : List Int) (n : Int) (w : World) (hs : s.toList = nm5) (h : Ia w ao l) (hl : l.length ≤ 140737488355328) :
    Calls Tryd.prog 24 #[.agg #[.int .i64 p, .string s, .slice ao l.length c], .int .i64 n] w (OE (opE s.toList l n) w) := by
  have m0 : (s.toList == nm0) = false := by rw [hs]; decide
  have m1 : (s.toList == nm1) = false := by rw [hs]; decide
  have m2 : (s.toList == nm2) = false := by rw [hs]; decide
  have m3 : (s.toList == nm3) = false := by rw [hs]; decide
  have m4 : (s.toList == nm4) = false := by rw [hs]; decide
  have m5 : (s.toList == nm5) = true := by rw [hs]; decide
  have e0 : opE s.toList l n = (one 3 l).map (·.far n) := by unfold opE; rw [m0, m1, m2, m3, m4, m5]; rfl
  rw [e0]
  clear e0 hs
  have HB0 : Below w.heap.size w (w.alloc (.cells #[.int .i64 p, .string s, .slice ao l.length c] 27)) := bel_new _ _ _
  have HB1 : Below w.heap.size w ((w.alloc (.cells #[.int .i64 p, .string s, .slice ao l.length c] 27)).alloc (.cells #[.int .i64 0, .int .i64 0, .int .i64 0] 64)) := HB0.alloc HB0.size _
  have HB2 : Below (w.alloc (.cells #[.int .i64 p, .string s, .slice ao l.length c] 27)).heap.size (w.alloc (.cells #[.int .i64 p, .string s, .slice ao l.length c] 27)) ((w.alloc (.cells #[.int .i64 p, .string s, .slice ao l.length c] 27)).alloc (.cells #[.int .i64 0, .int .i64 0, .int .i64 0] 64)) := bel_new _ _ _
  have K0 := (Bk.new w #[.int .i64 p, .string s, .slice ao l.length c] 27).bel HB2 (Bk.new w _ _).lt
  have K1 := Bk.new (w.alloc (.cells #[.int .i64 p, .string s, .slice ao l.length c] 27)) #[.int .i64 0, .int .i64 0, .int .i64 0] 64
  rw [show (w.alloc (.cells #[.int .i64 p, .string s, .slice ao l.length c] 27)).heap.size = w.heap.size + 1 by simp] at K1
  have HI : Hid _ := ⟨h.bel HB1⟩
  have Hb1 : Hid (w.heap.size ≤ w.heap.size + 1) := ⟨Nat.le_succ _⟩
  have HBw : Hid _ := ⟨HB1⟩
  clear h HB0 HB1 HB2
  go_enter Tryd.func24, Tryd.ntmps24
  go_upto_region 14 with (fail)
  generalize ((w.alloc (.cells #[.int .i64 p, .string s, .slice ao l.length c] 27)).alloc (.cells #[.int .i64 0, .int .i64 0, .int .i64 0] 64)) = W at *
  generalize hb1 : w.heap.size + 1 = b1 at *
  generalize hb0 : w.heap.size = b0 at *
  have d2 := K0.cell 2 rfl
  obtain ⟨B, hB⟩ : ∃ B, (one 3 l).isSome = B := ⟨_, rfl⟩
  have eB : ((one 3 l).map (·.far n)).isSome = B := by rw [← hB]; cases one 3 l <;> rfl
  go_upto_region 15 with (go_at_call 31; (with_reducible refine (withN_any 3 ao c l W HI.out hl).mono ?_); rintro e u ⟨q, he, hq, hb⟩; subst he; have HQ : Hid _ := ⟨hq⟩; have K2 := K1.bel hb K1.lt; have HBu : Hid (Below b0 w u) := ⟨HBw.out.trans (hb.mono (by have := HBw.out.size; omega))⟩; clear hq hb)
  have HBv : Hid (Below b0 w (u.alloc (.cells #[.int .i64 q.k, .int .i64 q.r, .int .i64 q.n] 64))) := ⟨HBu.out.alloc (by have := HBu.out.size; omega) _⟩
  have K3 := K2.bel (bel_new u #[.int .i64 q.k, .int .i64 q.r, .int .i64 q.n] 64) K2.lt
  have N3 := Bk.new u #[.int .i64 q.k, .int .i64 q.r, .int .i64 q.n] 64
  have l0 := N3.cell 0 rfl
  have l1 := N3.cell 1 rfl
  have l2 := N3.cell 2 rfl
  clear K0 K1 K2 d2 HBu N3
  generalize (u.alloc (.cells #[.int .i64 q.k, .int .i64 q.r, .int .i64 q.n] 64)) = V at *
  generalize u.heap.size = b2 at *
  go_wp2_with (first
    | (go_at_call 33; (with_reducible refine (farther_any q n V).mono ?_); rintro e x ⟨he, hb⟩; subst he; have K4 := K3.bel hb K3.lt; have HBx : Hid (Below b0 w x) := ⟨HBv.out.trans (hb.mono (by have := HBv.out.size; omega))⟩; clear hb)
    | (refine wpList_part (g := b1) (off := 0) (val := (q.far n).val) rfl rfl (by rfl) (by rfl) K4 (by rw [sizeOp]; rfl) (by show 0 + 3 ≤ 3; omega) (val_one _) rfl ?_))
  (try simp only [Exit.inBlock, Exit.then])
  have K5 := K4.setR #[.int .i64 (q.far n).k, .int .i64 (q.far n).r, .int .i64 (q.far n).n]
  refine bodyPost_ret (results_ctE rfl rfl (load_op (o := q.far n) K5)) rfl ?_
  have B5 := HBx.out.trans (below_set x b1 #[.int .i64 (q.far n).k, .int .i64 (q.far n).r, .int .i64 (q.far n).n] Hb1.out)
  subst hb0
  refine ⟨q.far n, ?_, fun x hx => ?_, B5⟩
  · rw [eB, ← hB]; rfl
  · cases ho : one 3 l with
    | none => rw [ho] at hx; cases hx
    | some z =>
      rw [ho] at hx
      simp only [Option.map_some, Option.some.injEq] at hx
      rw [← hx, HQ.out z ho]
set_option maxRecDepth 20000 in
set_option maxHeartbeats 2000000 in
theorem opOf_6 (p : Int) (s : ByteArray) (ao : Option Addr) (c : Nat) (l : List Int) (n : Int) (w : World) (hs : s.toList = nm6) (h : Ia w ao l) (hl : l.length ≤ 140737488355328) :
    Calls Tryd.prog 24 #[.agg #[.int .i64 p, .string s, .slice ao l.length c], .int .i64 n] w (OE (opE s.toList l n) w) := by
  have m0 : (s.toList == nm0) = false := by rw [hs]; decide
  have m1 : (s.toList == nm1) = false := by rw [hs]; decide
  have m2 : (s.toList == nm2) = false := by rw [hs]; decide
  have m3 : (s.toList == nm3) = false := by rw [hs]; decide
  have m4 : (s.toList == nm4) = false := by rw [hs]; decide
  have m5 : (s.toList == nm5) = false := by rw [hs]; decide
  have m6 : (s.toList == nm6) = true := by rw [hs]; decide
  have e0 : opE s.toList l n = reg 6 l := by unfold opE; rw [m0, m1, m2, m3, m4, m5, m6]; rfl
  rw [e0]
  clear e0 hs
  have HB0 : Below w.heap.size w (w.alloc (.cells #[.int .i64 p, .string s, .slice ao l.length c] 27)) := bel_new _ _ _
  have HB1 : Below w.heap.size w ((w.alloc (.cells #[.int .i64 p, .string s, .slice ao l.length c] 27)).alloc (.cells #[.int .i64 0, .int .i64 0, .int .i64 0] 64)) := HB0.alloc HB0.size _
  have HB2 : Below (w.alloc (.cells #[.int .i64 p, .string s, .slice ao l.length c] 27)).heap.size (w.alloc (.cells #[.int .i64 p, .string s, .slice ao l.length c] 27)) ((w.alloc (.cells #[.int .i64 p, .string s, .slice ao l.length c] 27)).alloc (.cells #[.int .i64 0, .int .i64 0, .int .i64 0] 64)) := bel_new _ _ _
  have K0 := (Bk.new w #[.int .i64 p, .string s, .slice ao l.length c] 27).bel HB2 (Bk.new w _ _).lt
  have K1 := Bk.new (w.alloc (.cells #[.int .i64 p, .string s, .slice ao l.length c] 27)) #[.int .i64 0, .int .i64 0, .int .i64 0] 64
  rw [show (w.alloc (.cells #[.int .i64 p, .string s, .slice ao l.length c] 27)).heap.size = w.heap.size + 1 by simp] at K1
  have HI : Hid _ := ⟨h.bel HB1⟩
  have Hb1 : Hid (w.heap.size ≤ w.heap.size + 1) := ⟨Nat.le_succ _⟩
  have HBw : Hid _ := ⟨HB1⟩
  clear h HB0 HB1 HB2
  go_enter Tryd.func24, Tryd.ntmps24
  go_upto_region 17 with (fail)
  generalize ((w.alloc (.cells #[.int .i64 p, .string s, .slice ao l.length c] 27)).alloc (.cells #[.int .i64 0, .int .i64 0, .int .i64 0] 64)) = W at *
  generalize hb1 : w.heap.size + 1 = b1 at *
  generalize hb0 : w.heap.size = b0 at *
  have d2 := K0.cell 2 rfl
  go_wp2_with (first
    | (go_at_call 32; (with_reducible refine (withR_any 6 ao c l W HI.out hl).mono ?_); rintro e u ⟨q, he, hq, hb⟩; subst he; have HQ : Hid _ := ⟨hq⟩; have K2 := K1.bel hb K1.lt; have HBu : Hid (Below b0 w u) := ⟨HBw.out.trans (hb.mono (by have := HBw.out.size; omega))⟩; clear hq hb)
    | (refine wpList_part (g := b1) (off := 0) (val := q.val) rfl rfl (by rfl) (by rfl) K2 (by rw [sizeOp]; rfl) (by show 0 + 3 ≤ 3; omega) (val_one _) rfl ?_))
  (try simp only [Exit.inBlock, Exit.then])
  have K3 := K2.setR #[.int .i64 q.k, .int .i64 q.r, .int .i64 q.n]
  refine bodyPost_ret (results_ctE rfl rfl (load_op (o := q) K3)) rfl ?_
  have B3 := HBu.out.trans (below_set u b1 #[.int .i64 q.k, .int .i64 q.r, .int .i64 q.n] Hb1.out)
  subst hb0
  exact ⟨q, rfl, HQ.out, B3⟩
set_option maxRecDepth 20000 in
set_option maxHeartbeats 2000000 in
theorem opOf_7 (p : Int) (s : ByteArray) (ao : Option Addr) (c : Nat) (l : List Int) (n : Int) (w : World) (hs : s.toList = nm7) (h : Ia w ao l) (hl : l.length ≤ 140737488355328) :
    Calls Tryd.prog 24 #[.agg #[.int .i64 p, .string s, .slice ao l.length c], .int .i64 n] w (OE (opE s.toList l n) w) := by
  have m0 : (s.toList == nm0) = false := by rw [hs]; decide
  have m1 : (s.toList == nm1) = false := by rw [hs]; decide
  have m2 : (s.toList == nm2) = false := by rw [hs]; decide
  have m3 : (s.toList == nm3) = false := by rw [hs]; decide
  have m4 : (s.toList == nm4) = false := by rw [hs]; decide
  have m5 : (s.toList == nm5) = false := by rw [hs]; decide
  have m6 : (s.toList == nm6) = false := by rw [hs]; decide
  have m7 : (s.toList == nm7) = true := by rw [hs]; decide
  have e0 : opE s.toList l n = reg 7 l := by unfold opE; rw [m0, m1, m2, m3, m4, m5, m6, m7]; rfl
  rw [e0]
  clear e0 hs
  have HB0 : Below w.heap.size w (w.alloc (.cells #[.int .i64 p, .string s, .slice ao l.length c] 27)) := bel_new _ _ _
  have HB1 : Below w.heap.size w ((w.alloc (.cells #[.int .i64 p, .string s, .slice ao l.length c] 27)).alloc (.cells #[.int .i64 0, .int .i64 0, .int .i64 0] 64)) := HB0.alloc HB0.size _
  have HB2 : Below (w.alloc (.cells #[.int .i64 p, .string s, .slice ao l.length c] 27)).heap.size (w.alloc (.cells #[.int .i64 p, .string s, .slice ao l.length c] 27)) ((w.alloc (.cells #[.int .i64 p, .string s, .slice ao l.length c] 27)).alloc (.cells #[.int .i64 0, .int .i64 0, .int .i64 0] 64)) := bel_new _ _ _
  have K0 := (Bk.new w #[.int .i64 p, .string s, .slice ao l.length c] 27).bel HB2 (Bk.new w _ _).lt
  have K1 := Bk.new (w.alloc (.cells #[.int .i64 p, .string s, .slice ao l.length c] 27)) #[.int .i64 0, .int .i64 0, .int .i64 0] 64
  rw [show (w.alloc (.cells #[.int .i64 p, .string s, .slice ao l.length c] 27)).heap.size = w.heap.size + 1 by simp] at K1
  have HI : Hid _ := ⟨h.bel HB1⟩
  have Hb1 : Hid (w.heap.size ≤ w.heap.size + 1) := ⟨Nat.le_succ _⟩
  have HBw : Hid _ := ⟨HB1⟩
  clear h HB0 HB1 HB2
  go_enter Tryd.func24, Tryd.ntmps24
  go_upto_region 19 with (fail)
  generalize ((w.alloc (.cells #[.int .i64 p, .string s, .slice ao l.length c] 27)).alloc (.cells #[.int .i64 0, .int .i64 0, .int .i64 0] 64)) = W at *
  generalize hb1 : w.heap.size + 1 = b1 at *
  generalize hb0 : w.heap.size = b0 at *
  have d2 := K0.cell 2 rfl
  go_wp2_with (first
    | (go_at_call 32; (with_reducible refine (withR_any 7 ao c l W HI.out hl).mono ?_); rintro e u ⟨q, he, hq, hb⟩; subst he; have HQ : Hid _ := ⟨hq⟩; have K2 := K1.bel hb K1.lt; have HBu : Hid (Below b0 w u) := ⟨HBw.out.trans (hb.mono (by have := HBw.out.size; omega))⟩; clear hq hb)
    | (refine wpList_part (g := b1) (off := 0) (val := q.val) rfl rfl (by rfl) (by rfl) K2 (by rw [sizeOp]; rfl) (by show 0 + 3 ≤ 3; omega) (val_one _) rfl ?_))
  (try simp only [Exit.inBlock, Exit.then])
  have K3 := K2.setR #[.int .i64 q.k, .int .i64 q.r, .int .i64 q.n]
  refine bodyPost_ret (results_ctE rfl rfl (load_op (o := q) K3)) rfl ?_
  have B3 := HBu.out.trans (below_set u b1 #[.int .i64 q.k, .int .i64 q.r, .int .i64 q.n] Hb1.out)
  subst hb0
  exact ⟨q, rfl, HQ.out, B3⟩
set_option maxRecDepth 20000 in
set_option maxHeartbeats 2000000 in
theorem opOf_8 (p : Int) (s : ByteArray) (ao : Option Addr) (c : Nat) (l : List Int) (n : Int) (w : World) (hs : s.toList = nm8) (h : Ia w ao l) (hl : l.length ≤ 140737488355328) :
    Calls Tryd.prog 24 #[.agg #[.int .i64 p, .string s, .slice ao l.length c], .int .i64 n] w (OE (opE s.toList l n) w) := by
  have m0 : (s.toList == nm0) = false := by rw [hs]; decide
  have m1 : (s.toList == nm1) = false := by rw [hs]; decide
  have m2 : (s.toList == nm2) = false := by rw [hs]; decide
  have m3 : (s.toList == nm3) = false := by rw [hs]; decide
  have m4 : (s.toList == nm4) = false := by rw [hs]; decide
  have m5 : (s.toList == nm5) = false := by rw [hs]; decide
  have m6 : (s.toList == nm6) = false := by rw [hs]; decide
  have m7 : (s.toList == nm7) = false := by rw [hs]; decide
  have m8 : (s.toList == nm8) = true := by rw [hs]; decide
  have e0 : opE s.toList l n = reg 8 l := by unfold opE; rw [m0, m1, m2, m3, m4, m5, m6, m7, m8]; rfl
  rw [e0]
  clear e0 hs
  have HB0 : Below w.heap.size w (w.alloc (.cells #[.int .i64 p, .string s, .slice ao l.length c] 27)) := bel_new _ _ _
  have HB1 : Below w.heap.size w ((w.alloc (.cells #[.int .i64 p, .string s, .slice ao l.length c] 27)).alloc (.cells #[.int .i64 0, .int .i64 0, .int .i64 0] 64)) := HB0.alloc HB0.size _
  have HB2 : Below (w.alloc (.cells #[.int .i64 p, .string s, .slice ao l.length c] 27)).heap.size (w.alloc (.cells #[.int .i64 p, .string s, .slice ao l.length c] 27)) ((w.alloc (.cells #[.int .i64 p, .string s, .slice ao l.length c] 27)).alloc (.cells #[.int .i64 0, .int .i64 0, .int .i64 0] 64)) := bel_new _ _ _
  have K0 := (Bk.new w #[.int .i64 p, .string s, .slice ao l.length c] 27).bel HB2 (Bk.new w _ _).lt
  have K1 := Bk.new (w.alloc (.cells #[.int .i64 p, .string s, .slice ao l.length c] 27)) #[.int .i64 0, .int .i64 0, .int .i64 0] 64
  rw [show (w.alloc (.cells #[.int .i64 p, .string s, .slice ao l.length c] 27)).heap.size = w.heap.size + 1 by simp] at K1
  have HI : Hid _ := ⟨h.bel HB1⟩
  have Hb1 : Hid (w.heap.size ≤ w.heap.size + 1) := ⟨Nat.le_succ _⟩
  have HBw : Hid _ := ⟨HB1⟩
  clear h HB0 HB1 HB2
  go_enter Tryd.func24, Tryd.ntmps24
  go_upto_region 21 with (fail)
  generalize ((w.alloc (.cells #[.int .i64 p, .string s, .slice ao l.length c] 27)).alloc (.cells #[.int .i64 0, .int .i64 0, .int .i64 0] 64)) = W at *
  generalize hb1 : w.heap.size + 1 = b1 at *
  generalize hb0 : w.heap.size = b0 at *
  have d2 := K0.cell 2 rfl
  go_wp2_with (first
    | (go_at_call 32; (with_reducible refine (withR_any 8 ao c l W HI.out hl).mono ?_); rintro e u ⟨q, he, hq, hb⟩; subst he; have HQ : Hid _ := ⟨hq⟩; have K2 := K1.bel hb K1.lt; have HBu : Hid (Below b0 w u) := ⟨HBw.out.trans (hb.mono (by have := HBw.out.size; omega))⟩; clear hq hb)
    | (refine wpList_part (g := b1) (off := 0) (val := q.val) rfl rfl (by rfl) (by rfl) K2 (by rw [sizeOp]; rfl) (by show 0 + 3 ≤ 3; omega) (val_one _) rfl ?_))
  (try simp only [Exit.inBlock, Exit.then])
  have K3 := K2.setR #[.int .i64 q.k, .int .i64 q.r, .int .i64 q.n]
  refine bodyPost_ret (results_ctE rfl rfl (load_op (o := q) K3)) rfl ?_
  have B3 := HBu.out.trans (below_set u b1 #[.int .i64 q.k, .int .i64 q.r, .int .i64 q.n] Hb1.out)
  subst hb0
  exact ⟨q, rfl, HQ.out, B3⟩
set_option maxRecDepth 20000 in
set_option maxHeartbeats 2000000 in
theorem opOf_9 (p : Int) (s : ByteArray) (ao : Option Addr) (c : Nat) (l : List Int) (n : Int) (w : World) (hs : s.toList = nm9) (h : Ia w ao l) (hl : l.length ≤ 140737488355328) :
    Calls Tryd.prog 24 #[.agg #[.int .i64 p, .string s, .slice ao l.length c], .int .i64 n] w (OE (opE s.toList l n) w) := by
  have m0 : (s.toList == nm0) = false := by rw [hs]; decide
  have m1 : (s.toList == nm1) = false := by rw [hs]; decide
  have m2 : (s.toList == nm2) = false := by rw [hs]; decide
  have m3 : (s.toList == nm3) = false := by rw [hs]; decide
  have m4 : (s.toList == nm4) = false := by rw [hs]; decide
  have m5 : (s.toList == nm5) = false := by rw [hs]; decide
  have m6 : (s.toList == nm6) = false := by rw [hs]; decide
  have m7 : (s.toList == nm7) = false := by rw [hs]; decide
  have m8 : (s.toList == nm8) = false := by rw [hs]; decide
  have m9 : (s.toList == nm9) = true := by rw [hs]; decide
  have e0 : opE s.toList l n = non 9 l := by unfold opE; rw [m0, m1, m2, m3, m4, m5, m6, m7, m8, m9]; rfl
  rw [e0]
  clear e0 hs
  obtain ⟨B, hB⟩ : ∃ B, ((l.length : Int) == 0) = B := ⟨_, rfl⟩
  have eB : (non 9 l).isSome = B := by
    rw [← hB]
    unfold non
    by_cases h0 : l.length = 0
    · rw [if_pos h0, h0]; rfl
    · rw [if_neg h0]; simp [h0]
  have eN : ∀ x, non 9 l = some x → (⟨9, 0, 0⟩ : Oq) = x := fun x hx => by
    unfold non at hx
    by_cases h0 : l.length = 0
    · rw [if_pos h0] at hx; simpa using hx
    · rw [if_neg h0] at hx; cases hx
  generalize non 9 l = O at *
  generalize l.length = m at *
  clear h
  go_enter Tryd.func24, Tryd.ntmps24
  go_wp2
  go_region
  go_wp2
  (try simp only [Exit.inBlock, Exit.then])
  have L := load_newd (w.alloc (.cells #[.int .i64 p, .string s, .slice ao m c] 27)) 9 0 0
  rw [show (w.alloc (.cells #[.int .i64 p, .string s, .slice ao m c] 27)).heap.size = w.heap.size + 1 by simp] at L
  refine bodyPost_ret (results_ctE rfl rfl L) rfl ?_
  exact ⟨⟨9, 0, 0⟩, by rw [eB]; rfl, eN, ((bel_new _ _ _).alloc (bel_new _ _ _).size _).drew⟩
set_option maxRecDepth 20000 in
set_option maxHeartbeats 2000000 in
theorem opOf_10 (p : Int) (s : ByteArray) (ao : Option Addr) (c : Nat) (l : List Int) (n : Int) (w : World) (hs : s.toList = nm10) (h : Ia w ao l) (hl : l.length ≤ 140737488355328) :
    Calls Tryd.prog 24 #[.agg #[.int .i64 p, .string s, .slice ao l.length c], .int .i64 n] w (OE (opE s.toList l n) w) := by
  have m0 : (s.toList == nm0) = false := by rw [hs]; decide
  have m1 : (s.toList == nm1) = false := by rw [hs]; decide
  have m2 : (s.toList == nm2) = false := by rw [hs]; decide
  have m3 : (s.toList == nm3) = false := by rw [hs]; decide
  have m4 : (s.toList == nm4) = false := by rw [hs]; decide
  have m5 : (s.toList == nm5) = false := by rw [hs]; decide
  have m6 : (s.toList == nm6) = false := by rw [hs]; decide
  have m7 : (s.toList == nm7) = false := by rw [hs]; decide
  have m8 : (s.toList == nm8) = false := by rw [hs]; decide
  have m9 : (s.toList == nm9) = false := by rw [hs]; decide
  have m10 : (s.toList == nm10) = true := by rw [hs]; decide
  have e0 : opE s.toList l n = non 10 l := by unfold opE; rw [m0, m1, m2, m3, m4, m5, m6, m7, m8, m9, m10]; rfl
  rw [e0]
  clear e0 hs
  obtain ⟨B, hB⟩ : ∃ B, ((l.length : Int) == 0) = B := ⟨_, rfl⟩
  have eB : (non 10 l).isSome = B := by
    rw [← hB]
    unfold non
    by_cases h0 : l.length = 0
    · rw [if_pos h0, h0]; rfl
    · rw [if_neg h0]; simp [h0]
  have eN : ∀ x, non 10 l = some x → (⟨10, 0, 0⟩ : Oq) = x := fun x hx => by
    unfold non at hx
    by_cases h0 : l.length = 0
    · rw [if_pos h0] at hx; simpa using hx
    · rw [if_neg h0] at hx; cases hx
  generalize non 10 l = O at *
  generalize l.length = m at *
  clear h
  go_enter Tryd.func24, Tryd.ntmps24
  go_wp2
  go_region
  go_wp2
  (try simp only [Exit.inBlock, Exit.then])
  have L := load_newd (w.alloc (.cells #[.int .i64 p, .string s, .slice ao m c] 27)) 10 0 0
  rw [show (w.alloc (.cells #[.int .i64 p, .string s, .slice ao m c] 27)).heap.size = w.heap.size + 1 by simp] at L
  refine bodyPost_ret (results_ctE rfl rfl L) rfl ?_
  exact ⟨⟨10, 0, 0⟩, by rw [eB]; rfl, eN, ((bel_new _ _ _).alloc (bel_new _ _ _).size _).drew⟩
set_option maxRecDepth 20000 in
set_option maxHeartbeats 2000000 in
theorem opOf_11 (p : Int) (s : ByteArray) (ao : Option Addr) (c : Nat) (l : List Int) (n : Int) (w : World) (hs : (s.toList == nm0) = false ∧ (s.toList == nm1) = false ∧ (s.toList == nm2) = false ∧ (s.toList == nm3) = false ∧ (s.toList == nm4) = false ∧ (s.toList == nm5) = false ∧ (s.toList == nm6) = false ∧ (s.toList == nm7) = false ∧ (s.toList == nm8) = false ∧ (s.toList == nm9) = false ∧ (s.toList == nm10) = false) (h : Ia w ao l) (hl : l.length ≤ 140737488355328) :
    Calls Tryd.prog 24 #[.agg #[.int .i64 p, .string s, .slice ao l.length c], .int .i64 n] w (OE (opE s.toList l n) w) := by
  rw [opE_none hs]
  obtain ⟨m0, m1, m2, m3, m4, m5, m6, m7, m8, m9, m10⟩ := hs
  generalize l.length = m at *
  clear h
  go_enter Tryd.func24, Tryd.ntmps24
  go_wp2
  (try simp only [Exit.inBlock, Exit.then])
  have L := load_new (w.alloc (.cells #[.int .i64 p, .string s, .slice ao m c] 27)) 0 0 0
  rw [show (w.alloc (.cells #[.int .i64 p, .string s, .slice ao m c] 27)).heap.size = w.heap.size + 1 by simp] at L
  refine bodyPost_ret (results_ctE rfl rfl L) rfl ?_
  exact ⟨⟨0, 0, 0⟩, rfl, (fun x hx => (by cases hx)), (bel_new _ _ _).alloc (bel_new _ _ _).size _⟩
theorem opOf_any (p : Int) (s : ByteArray) (ao : Option Addr) (c : Nat) (l : List Int) (n : Int) (w : World) (h : Ia w ao l) (hl : l.length ≤ 140737488355328) :
    Calls Tryd.prog 24 #[.agg #[.int .i64 p, .string s, .slice ao l.length c], .int .i64 n] w (OE (opE s.toList l n) w) := by
  rcases nm_some s.toList with e | e | e | e | e | e | e | e | e | e | e | e
  · exact opOf_0 p s ao c l n w e h hl
  · exact opOf_1 p s ao c l n w e h hl
  · exact opOf_2 p s ao c l n w e h hl
  · exact opOf_3 p s ao c l n w e h hl
  · exact opOf_4 p s ao c l n w e h hl
  · exact opOf_5 p s ao c l n w e h hl
  · exact opOf_6 p s ao c l n w e h hl
  · exact opOf_7 p s ao c l n w e h hl
  · exact opOf_8 p s ao c l n w e h hl
  · exact opOf_9 p s ao c l n w e h hl
  · exact opOf_10 p s ao c l n w e h hl
  · exact opOf_11 p s ao c l n w e h hl
end Go.Proofs.YtpbnldfekadalaaDoor
