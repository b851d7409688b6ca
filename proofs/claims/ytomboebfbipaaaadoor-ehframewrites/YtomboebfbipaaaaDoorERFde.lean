/- The document's function's entry. -/
import Derived.Test.YtomboebfbipaaaaDoorERRec
import Derived.Test.YtomboebfbipaaaaDoorEFde
namespace Go.Proofs.YtomboebfbipaaaaDoor
open Go.ChangeShapes Go.WideShapes Go.ChangeAt Go.RowKit Go.Maps
set_option linter.unusedVariables false
set_option linter.unusedSimpArgs false

/-- The document's record of an entry at a place, its common entry's place known. -/
def fdeR (addr enc : Int) (place pos : Nat) (x : Fe) : Option (List Int) :=
  if putE enc x.beg (addr + (pos : Int) + 8) 0 ≠ 0 then none else if putE (enc % 16) x.size 0 0 ≠ 0 then none
  else some (recB ((pos : Int) + 4 - (place : Int)) (putL enc x.beg (addr + (pos : Int) + 8) 0 ++ putL (enc % 16) x.size 0 0 ++ [0]) x.ops)
theorem fde_both (addr enc : Int) (place : Nat) (x : Fe) (L : List Int) : fdeM addr enc place x L = (fdeR addr enc place L.length x).map (fun r => L ++ r) := by
  unfold fdeM fdeR
  rw [show addr + ((L.length : Int) + 4) + 4 = addr + (L.length : Int) + 8 by omega]
  split
  · rfl
  · split <;> rfl
def RFdeEnd (m : Option (List Int)) (w : World) (e : Ending) (w' : World) : Prop :=
  match m with
  | none => e = .returned (.tuple #[.slice none 0 0, .int .i64 11]) ∧ Below w.heap.size w w'
  | some R => ∃ v, e = .returned (.tuple #[v, .int .i64 0]) ∧ Own w' w.heap.size v R ∧ Below w.heap.size w w'

set_option maxHeartbeats 4000000 in
set_option maxRecDepth 10000 in
theorem rfde_any (x : Fe) (enc addr : Int) (place pos : Nat) (a : Option Addr) (cp : Nat) (w : World) (he0 : 0 ≤ enc) (he1 : enc ≤ 255) (h0 : 0 ≤ addr) (h1 : addr ≤ 576460752303423488) (hpos : pos ≤ 1000000000000000) (hp : place ≤ pos) (hp2 : pos - place < 4294967200) (hl : x.ops.length ≤ 3992) (hI : IsOq w a cp x.ops) :
    Calls Tryd.prog 44 #[.agg #[.int .i64 x.cie, .int .i64 x.beg, .int .i64 x.size, .slice a x.ops.length cp], .int .i64 enc, .int .i64 (pos : Int), .int .i64 (place : Int), .int .i64 addr] w (RFdeEnd (fdeR addr enc place pos x) w) := by
  have HP1 : Hid _ := ⟨fun w => rput14 enc x.beg (addr + (pos : Int) + 8) 0 w (by omega)⟩
  have HP2 : Hid _ := ⟨fun w => rput14 (enc % 16) x.size 0 0 w (by omega)⟩
  have HL1 : Hid _ := ⟨fun h => putL_len (enc := enc) (v := x.beg) (at' := addr + (pos : Int) + 8) (data := 0) h⟩
  have HL2 : Hid _ := ⟨fun h => putL_len (enc := enc % 16) (v := x.size) (at' := 0) (data := 0) h⟩
  have HF4 : Hid _ := ⟨four_any ((pos : Int) + 4 - (place : Int)) (by omega) (by omega)⟩
  have hm : enc.tmod 16 = enc % 16 := Int.tmod_eq_emod_of_nonneg he0
  unfold fdeR
  have p0 : addr + (pos : Int) ≤ 9223372036854775807 := by omega
  have p1 : addr + (pos : Int) + 8 ≤ 9223372036854775807 := by omega
  have p0' : -9223372036854775808 ≤ addr + (pos : Int) := by omega
  have p1' : -9223372036854775808 ≤ addr + (pos : Int) + 8 := by omega
  have p2' : -9223372036854775808 ≤ (pos : Int) + 4 := by omega
  have p2 : (pos : Int) + 4 ≤ 9223372036854775807 := by omega
  have p3 : -9223372036854775808 ≤ (pos : Int) + 4 - (place : Int) := by omega
  have p4 : (pos : Int) + 4 - (place : Int) ≤ 9223372036854775807 := by omega
  clear hpos hp hp2 h0 h1
  generalize putL enc x.beg (addr + (pos : Int) + 8) 0 = l1 at *
  generalize putL (enc % 16) x.size 0 0 = l2 at *
  generalize putE enc x.beg (addr + (pos : Int) + 8) 0 = E1 at *
  generalize putE (enc % 16) x.size 0 0 = E2 at *
  have hb0 : Below w.heap.size w (w.alloc (.cells #[.int .i64 x.cie, .int .i64 x.beg, .int .i64 x.size, .slice a x.ops.length cp] 79)) := (Below.refl _ _).alloc (Nat.le_refl _) _
  have K0 := Bk.new w #[.int .i64 x.cie, .int .i64 x.beg, .int .i64 x.size, .slice a x.ops.length cp] 79
  have HI : Hid _ := ⟨hI⟩
  have HZ : Hid ((w.alloc (.cells #[.int .i64 x.cie, .int .i64 x.beg, .int .i64 x.size, .slice a x.ops.length cp] 79)).heap.size = w.heap.size + 1) := ⟨by simp⟩
  clear hI
  go_enter Tryd.func44, Tryd.ntmps44
  go_upto_region 1 with (fail)
  have HB0 : Hid _ := ⟨hb0⟩
  have HK0 : Hid _ := ⟨K0⟩
  have k1 := K0.cell 1 rfl
  clear K0 hb0
  generalize (w.alloc (.cells #[.int .i64 x.cie, .int .i64 x.beg, .int .i64 x.size, .slice a x.ops.length cp] 79)) = w0 at *
  go_upto_region 2 with (go_at_call 7; (with_reducible refine (HP1.out _).mono ?_); rintro e w1 ⟨u1, he, ho1, hb1⟩; subst he; have H1 : Hid (Own w1 w0.heap.size u1 l1 ∧ Below w0.heap.size w0 w1) := ⟨ho1, hb1⟩; clear ho1 hb1)
  have HPs : Hid (((pos : Int) + 4 ≤ 9223372036854775807 ∧ -9223372036854775808 ≤ (pos : Int) + 4 ∧ -9223372036854775808 ≤ (pos : Int) + 4 - (place : Int) ∧ (pos : Int) + 4 - (place : Int) ≤ 9223372036854775807) ∧ x.ops.length ≤ 3992) := ⟨⟨p2, p2', p3, p4⟩, hl⟩
  clear k1 p0 p0' p1 p1' p2 p2' p3 p4 hl he0 he1
  by_cases e1 : E1 = 0
  rotate_left
  · have n1 : (E1 != 0) = true := by simpa using e1
    have n2 : (E1 == 0) = false := by simpa using e1
    rw [if_pos e1]
    go_wp2
    go_ret2
    exact ⟨rfl, HB0.out.trans (H1.out.2.mono HB0.out.size)⟩
  subst e1
  have K1 := HK0.out.bel H1.out.2 HK0.out.lt
  have k2 := K1.cell 2 rfl
  clear K1
  go_upto_region 5 with (go_at_call 7; (with_reducible refine (HP2.out _).mono ?_); rintro e w2 ⟨u2, he, ho2, hb2⟩; subst he; have H2 : Hid (Own w2 w0.heap.size u1 l1 ∧ Own w2 w0.heap.size u2 l2 ∧ Below w0.heap.size w0 w2) := ⟨H1.out.1.bel hb2, ho2.lowE H1.out.2.size, H1.out.2.trans (hb2.mono H1.out.2.size)⟩; clear ho2 hb2)
  clear k2 H1
  by_cases e2 : E2 = 0
  rotate_left
  · have n1 : (E2 != 0) = true := by simpa using e2
    have n2 : (E2 == 0) = false := by simpa using e2
    rw [if_neg (by simp), if_pos e2]
    go_wp2
    go_ret2
    exact ⟨rfl, HB0.out.trans (H2.out.2.2.mono HB0.out.size)⟩
  subst e2
  rw [if_neg (by simp), if_neg (by simp)]
  have b1 := (HL1.out (by trivial)).2
  have b2 := (HL2.out (by trivial)).2
  have K2 := HK0.out.bel H2.out.2.2 HK0.out.lt
  have k3 := K2.cell 3 rfl
  have HWr : Hid _ := ⟨rwrite_any a cp x.ops w2 (by have := HPs.out.2; omega) (HI.out.ops.bel (HB0.out.trans (H2.out.2.2.mono HB0.out.size)))⟩
  have hwl := writB_len x.ops
  clear K2
  generalize hWB : writB x.ops = WB at *
  go_upto_region 8 with (go_at_call 63; (with_reducible refine HWr.out.mono ?_); rintro e w3 ⟨u3, he, ho3, hb3⟩; subst he; have H3 : Hid (Own w3 w0.heap.size u1 l1 ∧ Own w3 w0.heap.size u2 l2 ∧ Own w3 w0.heap.size u3 WB ∧ Below w0.heap.size w0 w3) := ⟨H2.out.1.bel hb3, H2.out.2.1.bel hb3, ho3.lowE H2.out.2.2.size, H2.out.2.2.trans (hb3.mono H2.out.2.2.size)⟩; clear ho3 hb3)
  clear k3 H2 HWr
  obtain ⟨p2, p2', p3, p4⟩ := HPs.out.1
  have HRc : Hid (∀ v w4, Own w4 w3.heap.size v (pl ((pos : Int) + 4 - (place : Int)) 4 ++ l1 ++ l2 ++ [0] ++ WB) → w3.heap.size ≤ w4.heap.size → Calls Tryd.prog 65 #[v] w4 fun e w' => ∃ u, e = .returned u ∧ Own w' w3.heap.size u (recB ((pos : Int) + 4 - (place : Int)) (l1 ++ l2 ++ [0]) x.ops) ∧ Below w3.heap.size w4 w') := ⟨fun v w4 ho hs => by
    have := rrec_any ho hs (by simp only [List.length_append, pl_len, List.length_cons, List.length_nil]; omega)
    rw [show pl ((pos : Int) + 4 - (place : Int)) 4 ++ l1 ++ l2 ++ [0] ++ WB = pl ((pos : Int) + 4 - (place : Int)) 4 ++ (l1 ++ l2 ++ [0]) ++ writB x.ops by rw [hWB]; simp only [List.append_assoc], rec_both] at this
    exact this⟩
  have hl1 : l1.length ≤ 10 := b1
  have hl2 : l2.length ≤ 10 := b2
  have hlw : WB.length ≤ 900000 := by have := HPs.out.2; omega
  clear b1 b2 hwl
  go_upto_region 9 with (first
    | (go_at_call 64; (with_reducible refine (HF4.out _).mono ?_); rintro e w4 ⟨u4, he, ho4, hb4⟩; subst he; have H4 : Hid (Own w4 w3.heap.size u4 (pl ((pos : Int) + 4 - (place : Int)) 4) ∧ Below w3.heap.size w3 w4) := ⟨ho4, hb4⟩; clear ho4 hb4)
    | (at_builtin; refine append_bt _ rfl _ _ rfl w3.heap.size _ _ rfl H4.out.1 _ l1 rfl (H3.out.1.bel H4.out.2).bt (by rw [pl_len]; omega) H4.out.2.size ?_; intro v5 w5 ho hb; have H5 : Hid (Own w5 w3.heap.size v5 (pl ((pos : Int) + 4 - (place : Int)) 4 ++ l1) ∧ Below w3.heap.size w3 w5) := ⟨ho, H4.out.2.trans hb⟩; clear ho hb))
  clear H4 p2 p2' p3 p4
  go_upto_region 10 with (first
    | (at_builtin; refine append_bt w5 rfl _ _ rfl w3.heap.size _ _ rfl H5.out.1 _ l2 rfl (H3.out.2.1.bel H5.out.2).bt (by simp only [List.length_append, pl_len]; omega) H5.out.2.size ?_; intro v6 w6 ho hb; have H6 : Hid (Own w6 w3.heap.size v6 (pl ((pos : Int) + 4 - (place : Int)) 4 ++ l1 ++ l2) ∧ Below w3.heap.size w3 w6 ∧ Below w6.heap.size w6 (w6.alloc (.cells #[.int .u8 0] 5))) := ⟨ho, H5.out.2.trans hb, (Below.refl _ _).alloc (Nat.le_refl _) _⟩; clear ho hb)
    | (at_builtin; refine append_bt _ rfl _ _ rfl w3.heap.size _ _ rfl (H6.out.1.bel H6.out.2.2) _ [0] rfl (own_lit w6 0).bt (by simp only [List.length_append, pl_len, List.length_cons, List.length_nil]; omega) (Nat.le_trans H6.out.2.1.size H6.out.2.2.size) ?_; intro v7 w7 ho hb; have H7 : Hid (Own w7 w3.heap.size v7 (pl ((pos : Int) + 4 - (place : Int)) 4 ++ l1 ++ l2 ++ [0]) ∧ Below w3.heap.size w3 w7) := ⟨ho, (H6.out.2.1.trans (H6.out.2.2.mono H6.out.2.1.size)).trans hb⟩; clear ho hb))
  go_wp2_with (first
    | (at_builtin; refine append_bt w7 rfl _ _ rfl w3.heap.size _ _ rfl H7.out.1 _ WB rfl (H3.out.2.2.1.bel H7.out.2).bt (by simp only [List.length_append, pl_len, List.length_cons, List.length_nil]; omega) H7.out.2.size ?_; intro v8 w8 ho hb; have H8 : Hid (Own w8 w3.heap.size v8 (pl ((pos : Int) + 4 - (place : Int)) 4 ++ l1 ++ l2 ++ [0] ++ WB) ∧ Below w3.heap.size w3 w8) := ⟨ho, H7.out.2.trans hb⟩; clear ho hb)
    | (go_at_call 65; (with_reducible refine (HRc.out _ _ H8.out.1 H8.out.2.size).mono ?_); rintro e w9 ⟨u9, he, ho, hb⟩; subst he; have H9 : Hid (Own w9 w3.heap.size u9 (recB ((pos : Int) + 4 - (place : Int)) (l1 ++ l2 ++ [0]) x.ops) ∧ Below w3.heap.size w3 w9) := ⟨ho, H8.out.2.trans hb⟩; clear ho hb))
  go_ret2
  exact ⟨u9, rfl, (by have := H9.out.1.lowE (Nat.le_trans HB0.out.size H3.out.2.2.2.size); rwa [List.append_assoc l1 l2] at this), HB0.out.trans ((H3.out.2.2.2.trans (H9.out.2.mono H3.out.2.2.2.size)).mono HB0.out.size)⟩
end Go.Proofs.YtomboebfbipaaaaDoor
