/- The contract of appendEntry. -/
import Derived.Test.YtpdcbokcoaienaaDoorSLeb
import Derived.Test.YtpdcbokcoaienaaDoorSLoc
import Derived.LoopN
namespace Go.Proofs.YtpdcbokcoaienaaDoor
open Go.ChangeShapes Go.WideShapes Go.ChangeAt Go.RowKit Go.Maps
set_option linter.unusedVariables false
set_option linter.unusedSimpArgs false

/-- The table of the fields' sizes lies in memory. -/
structure Fz (w : World) : Prop where
  z : 0 < w.heap.size
  c0 : w.cell? ⟨0, 0, none⟩ = some (.int .i64 4)
  c1 : w.cell? ⟨0, 1, none⟩ = some (.int .i64 1)
  c2 : w.cell? ⟨0, 2, none⟩ = some (.int .i64 1)
  c3 : w.cell? ⟨0, 3, none⟩ = some (.int .i64 2)
  c4 : w.cell? ⟨0, 4, none⟩ = some (.int .i64 8)
  c5 : w.cell? ⟨0, 5, none⟩ = some (.int .i64 8)
theorem Fz.turn {w w' : World} (h : Fz w) {S : Nat → Prop} (ht : Turn S w w') (h0 : ¬ S 0) : Fz w' := by
  have e : ∀ o, w'.cell? ⟨0, o, none⟩ = w.cell? ⟨0, o, none⟩ := fun o => World.cell?_of_block (ht.block 0 h.z h0)
  exact ⟨Nat.lt_of_lt_of_le h.z ht.size, (e _).trans h.c0, (e _).trans h.c1, (e _).trans h.c2, (e _).trans h.c3, (e _).trans h.c4, (e _).trans h.c5⟩
theorem Fz.bel {w w' : World} (h : Fz w) {B : Nat} (hb : Below B w w') (hB : 0 < B) : Fz w' := by
  have e : ∀ o, w'.cell? ⟨0, o, none⟩ = w.cell? ⟨0, o, none⟩ := fun o => hb.cell (p := ⟨0, o, none⟩) hB
  exact ⟨Nat.lt_of_lt_of_le h.z hb.size, (e _).trans h.c0, (e _).trans h.c1, (e _).trans h.c2, (e _).trans h.c3, (e _).trans h.c4, (e _).trans h.c5⟩

theorem Step.trans {w w1 w2 : World} {v v1 v2 : Value} (h : Step w w1 v v1) (g : Step w1 w2 v1 v2) : Step w w2 v v2 := by
  refine ⟨h.turn.trans' g.turn (fun i hi e => ?_), fun k hk => ?_⟩
  · rcases h.at' i e with h1 | h1
    · exact h1
    · omega
  · rcases g.at' k hk with h1 | h1
    · exact h.at' k h1
    · right; exact Nat.le_trans h.turn.size h1
theorem Step.after {w w1 w2 : World} {v v2 : Value} (h : Below w.heap.size w w1) (g : Step w1 w2 v v2) : Step w w2 v v2 :=
  ⟨(Turn.of_below h _).trans g.turn, fun k hk => by
    rcases g.at' k hk with h1 | h1
    · exact .inl h1
    · right; exact Nat.le_trans h.size h1⟩
theorem Step.refl (w : World) (v : Value) : Step w w v v := ⟨Turn.refl _ _, fun k hk => .inl hk⟩
theorem Own.bel {w w' : World} {base : Nat} {v : Value} {xs : List Int} (h : Own w base v xs) (hb : Below w.heap.size w w') : Own w' base v xs :=
  (Turn.of_below hb (fun _ => False)).row h (fun _ _ e => e)

/-- A number's low bytes. -/
def le (m : Nat) (n : Int) : List Int := (List.range m).map fun j => n / 2 ^ (8 * j) % 256
theorem le_len (m : Nat) (n : Int) : (le m n).length = m := by simp [le]
theorem le_part (m : Nat) (n : Int) : part n m m = (le m n).map (Value.int .u8) := by
  unfold part le
  rw [List.map_map]
  apply List.map_congr_left
  intro j hj
  simp [List.mem_range.1 hj]

/-- A row of m bytes that a call made, behind a row of the call's own. -/
theorem append_rowS {ops : Array Oper} {rest : List Oper} {o : Oper} {a : Act} {Q : Exit → Act → World → Prop} (w : World) (hgd : o.guard = none) (s x : Operand)
    (ho : o.op = .call { callee := .builtin .append, args := #[s, x], argTypes := #[24, 24] })
    (base : Nat) (v : Value) (xs : List Int) (hs : a.eval s = v) (hown : Own w base v xs) (g m c : Nat) (ys : List Int) (hm : ys.length = m) (hx : a.eval x = .slice (some ⟨g, 0, none⟩) m c)
    (hc : ∀ i, i < m → w.cell? ⟨g, i, none⟩ = some (.int .u8 (ys.getD i 0)))
    (hn : xs.length + m ≤ 140737488355328) (hbase : base ≤ w.heap.size)
    (h : ∀ v' w', Own w' base v' (xs ++ ys) → Step w w' v v' → wpList Tryd.prog ops Q rest (a.put o.dst v') w') :
    wpList Tryd.prog ops Q (o :: rest) a w := by
  obtain ⟨i0, hi, hz0, hz1, hz2⟩ := info_parts info5
  refine wpList_append_own_at _ hgd s x 24 ho base 5 i0 (.int .u8 0) 1 1 Tryd.underlying24 hi hz0 hz1 hz2 rfl (by decide) v xs.length _ hs hown ⟨g, 0, none⟩ m c (ys.map (Value.int .u8)) hx (by simp [hm]) ?_ ?_ (by unfold maxLen; omega) (by omega) hbase ?_
  · intro j u hj
    have hjl : j < m := by
      have := (List.getElem?_eq_some_iff.1 hj).1
      simpa [hm] using this
    rw [addr_add, Nat.zero_add, hc j hjl]
    have hjl2 : j < ys.length := by omega
    simp [hjl2] at hj ⊢
    exact hj
  · intro u hu
    simp at hu
    obtain ⟨z, _, rfl⟩ := hu
    rfl
  · intro v' w' hown' hgrow _ hat
    refine h v' w' ?_ ⟨(Turn.refl _ w).grown hgrow (fun k _ e => e), fun k hk => ?_⟩
    · unfold Own
      rw [List.map_append, List.length_append, hm]
      exact hown'
    · rcases hat with e | e
      · rw [e] at hk; exact .inl hk
      · rw [e] at hk
        simp at hk
        right; omega

/-- Put's answer, as it is used. -/
theorem put_use (n : Int) (m : Nat) (w : World) (M : Int) (hM : M = m)
    (h : Calls Tryd.prog 42 #[.int .i64 n, .int .i64 M] w fun e w' => e = .returned (.tuple #[.slice (some ⟨w.heap.size, 0, none⟩) m m, .int .i64 0]) ∧ w'.ownsRow w.heap.size 5 1 (.slice (some ⟨w.heap.size, 0, none⟩) m m) m (part n m m) ∧ Below w.heap.size w w') :
    Calls Tryd.prog 42 #[.int .i64 n, .int .i64 M] w fun e w' => e = .returned (.tuple #[.slice (some ⟨w.heap.size, 0, none⟩) m m, .int .i64 0]) ∧ (∀ i, i < m → w'.cell? ⟨w.heap.size, i, none⟩ = some (.int .u8 ((le m n).getD i 0))) ∧ Below w.heap.size w w' := by
  refine h.mono ?_
  rintro e w' ⟨rfl, ho, hb⟩
  refine ⟨rfl, fun i hi => ?_, hb⟩
  have := ho.cellAt i (by omega)
  rw [this, le_part]
  have hl : i < (le m n).length := by rw [le_len]; exact hi
  simp [hl]

theorem fits_low (n : Int) (b : Nat) (hb : 1 ≤ b) (hb2 : b ≤ 63) (h0 : 0 ≤ n) (h1 : n < 2 ^ b) : fitsB n b false = true := by
  unfold fitsB
  have e : (b : Int).toNat = b := by omega
  rw [e]
  simp [h0, h1]
  omega
theorem fits_64 (n : Int) (h0 : 0 ≤ n) (h1 : n < 9223372036854775808) : fitsB n 64 false = true := by
  unfold fitsB
  simp [h0]
  omega

/-- An entry's bytes. -/
def entB (s : Sym) (a n : Int) : List Int := le 4 a ++ (le 1 (16 * s.b + s.t) ++ (le 1 0 ++ (le 2 n ++ (le 8 s.v ++ le 8 s.z))))
theorem entB_len (s : Sym) (a n : Int) : (entB s a n).length = 24 := by simp [entB, le_len]

theorem ix6_0 (a b c d e f : Int) (w : World) : (Instr.index 78 (.agg #[.int .i64 a, .int .i64 b, .int .i64 c, .int .i64 d, .int .i64 e, .int .i64 f]) (.int .i64 0)).run Tryd.prog w = .ok (.int .i64 a) w := by kernel_rfl
theorem ix6_1 (a b c d e f : Int) (w : World) : (Instr.index 78 (.agg #[.int .i64 a, .int .i64 b, .int .i64 c, .int .i64 d, .int .i64 e, .int .i64 f]) (.int .i64 1)).run Tryd.prog w = .ok (.int .i64 b) w := by kernel_rfl
theorem ix6_2 (a b c d e f : Int) (w : World) : (Instr.index 78 (.agg #[.int .i64 a, .int .i64 b, .int .i64 c, .int .i64 d, .int .i64 e, .int .i64 f]) (.int .i64 2)).run Tryd.prog w = .ok (.int .i64 c) w := by kernel_rfl
theorem ix6_3 (a b c d e f : Int) (w : World) : (Instr.index 78 (.agg #[.int .i64 a, .int .i64 b, .int .i64 c, .int .i64 d, .int .i64 e, .int .i64 f]) (.int .i64 3)).run Tryd.prog w = .ok (.int .i64 d) w := by kernel_rfl
theorem ix6_4 (a b c d e f : Int) (w : World) : (Instr.index 78 (.agg #[.int .i64 a, .int .i64 b, .int .i64 c, .int .i64 d, .int .i64 e, .int .i64 f]) (.int .i64 4)).run Tryd.prog w = .ok (.int .i64 e) w := by kernel_rfl
theorem ix6_5 (a b c d e f : Int) (w : World) : (Instr.index 78 (.agg #[.int .i64 a, .int .i64 b, .int .i64 c, .int .i64 d, .int .i64 e, .int .i64 f]) (.int .i64 5)).run Tryd.prog w = .ok (.int .i64 f) w := by kernel_rfl

/-- What may stand in an entry. -/
structure EntOk (s : Sym) (a n : Int) : Prop where
  a0 : 0 ≤ a
  a1 : a < 4294967296
  n0 : 0 ≤ n
  n1 : n < 65536
  v0 : 0 ≤ s.v
  v1 : s.v < 9223372036854775808
  z0 : 0 ≤ s.z
  z1 : s.z < 9223372036854775808
  b0 : 0 ≤ s.b
  b1 : s.b ≤ 2
  t0 : 0 ≤ s.t
  t1 : s.t ≤ 10

set_option maxHeartbeats 4000000 in
set_option maxRecDepth 10000 in
theorem appendEntry_any (vb : Value) (xs : List Int) (base : Nat) (s : Sym) (a n : Int) (w : World) (hown : Own w base vb xs) (hbase : base ≤ w.heap.size) (hb1 : 0 < base) (hx : xs.length ≤ 1048576) (hf : Fz w) (ok : EntOk s a n) :
    Calls Tryd.prog 20 #[vb, s.val, .int .i64 a, .int .i64 n] w fun e w' => ∃ v, e = .returned v ∧ Own w' base v (xs ++ entB s a n) ∧ Step w w' vb v := by
  have P4 : Hid (∀ w', Calls Tryd.prog 42 #[.int .i64 a, .int .i64 4] w' _) := ⟨fun w' => put_use a 4 w' 4 rfl (put_4 a w' (.inr (fits_low a 32 (by omega) (by omega) ok.a0 (by have := ok.a1; omega))))⟩
  have P1 : Hid (∀ w', Calls Tryd.prog 42 #[.int .i64 (16 * s.b + s.t), .int .i64 1] w' _) := ⟨fun w' => put_use (16 * s.b + s.t) 1 w' 1 rfl (put_1 _ w' (.inr (fits_low _ 8 (by omega) (by omega) (by have := ok.b0; have := ok.t0; omega) (by have := ok.b1; have := ok.t1; omega))))⟩
  have P0 : Hid (∀ w', Calls Tryd.prog 42 #[.int .i64 0, .int .i64 1] w' _) := ⟨fun w' => put_use 0 1 w' 1 rfl (put_1 _ w' (.inr (fits_low _ 8 (by omega) (by omega) (by omega) (by omega))))⟩
  have P2 : Hid (∀ w', Calls Tryd.prog 42 #[.int .i64 n, .int .i64 2] w' _) := ⟨fun w' => put_use n 2 w' 2 rfl (put_2 _ w' (.inr (fits_low _ 16 (by omega) (by omega) ok.n0 (by have := ok.n1; omega))))⟩
  have PV : Hid (∀ w', Calls Tryd.prog 42 #[.int .i64 s.v, .int .i64 8] w' _) := ⟨fun w' => put_use s.v 8 w' 8 rfl (put_8 _ w' (.inr (fits_64 _ ok.v0 ok.v1)))⟩
  have PZ : Hid (∀ w', Calls Tryd.prog 42 #[.int .i64 s.z, .int .i64 8] w' _) := ⟨fun w' => put_use s.z 8 w' 8 rfl (put_8 _ w' (.inr (fits_64 _ ok.z0 ok.z1)))⟩
  have hbt : -9223372036854775808 ≤ 16 * s.b + s.t ∧ 16 * s.b + s.t ≤ 9223372036854775807 := by have := ok.b0; have := ok.t0; have := ok.b1; have := ok.t1; omega
  have hb16 : -9223372036854775808 ≤ 16 * s.b ∧ 16 * s.b ≤ 9223372036854775807 := by have := ok.b0; have := ok.b1; omega
  have e0 : 0 ≤ (0 : Int) := by omega
  obtain ⟨nm, sc, v, z, bd, ty⟩ := s
  dsimp only [Sym.val, entB] at *
  have HO : Hid _ := ⟨hown⟩
  have HF : Hid _ := ⟨hf⟩
  clear hown hf ok
  go_enter Tryd.func20, Tryd.ntmps20
  go_wp2
  generalize hW : ((w.alloc (.cells #[.string nm, .string sc, .int .i64 v, .int .i64 z, .int .i64 bd, .int .i64 ty] 43)).alloc (.cells #[.int .i64 a, .int .i64 (16 * bd + ty), .int .i64 0, .int .i64 n, .int .i64 v, .int .i64 z] 78)) = W0
  have HB0 : Hid (Below w.heap.size w W0) := ⟨by rw [← hW]; exact ((Below.refl _ _).alloc (Nat.le_refl _) _).alloc (by simp) _⟩
  have o0 := HO.out.bel HB0.out
  have f0 := HF.out.bel HB0.out HF.out.z
  have hb0 : base ≤ W0.heap.size := Nat.le_trans hbase HB0.out.size
  clear hW
  have i0 := ix6_0 a (16 * bd + ty) 0 n v z
  have i1 := ix6_1 a (16 * bd + ty) 0 n v z
  have i2 := ix6_2 a (16 * bd + ty) 0 n v z
  have i3 := ix6_3 a (16 * bd + ty) 0 n v z
  have i4 := ix6_4 a (16 * bd + ty) 0 n v z
  have i5 := ix6_5 a (16 * bd + ty) 0 n v z
  refine wp_loop_rounds 7 ?_
  have c0 := f0.c0
  rw [rounds_succ]
  go_wp2_with (first
    | (go_at_call 42; (with_reducible refine (P4.out _).mono ?_); rintro e p0 ⟨rfl, hc0, hp0⟩; have q0 := o0.bel hp0)
    | (at_builtin; refine append_rowS _ rfl _ _ rfl base _ _ rfl q0 _ 4 _ (le 4 a) (le_len _ _) rfl hc0 (by (try simp only [List.length_append, le_len]); omega) (Nat.le_trans hb0 hp0.size) ?_; intro v1 W1 o1 s1)
    | go_in)
  have S1 := Step.after hp0 s1
  have f1 : Fz W1 := f0.turn S1.turn (fun e => by have := (o0.lt 0 e).1; omega)
  have hb1 : base ≤ W1.heap.size := Nat.le_trans hb0 S1.turn.size
  clear c0 hc0 q0 s1
  have c1 := f1.c1
  rw [rounds_succ]
  go_wp2_with (first
    | (go_at_call 42; (with_reducible refine (P1.out _).mono ?_); rintro e p1 ⟨rfl, hc1, hp1⟩; have q1 := o1.bel hp1)
    | (at_builtin; refine append_rowS _ rfl _ _ rfl base _ _ rfl q1 _ 1 _ (le 1 (16 * bd + ty)) (le_len _ _) rfl hc1 (by (try simp only [List.length_append, le_len]); omega) (Nat.le_trans hb1 hp1.size) ?_; intro v2 W2 o2 s2)
    | go_in)
  have S2 := Step.after hp1 s2
  have f2 : Fz W2 := f1.turn S2.turn (fun e => by have := (o1.lt 0 e).1; omega)
  have hb2 : base ≤ W2.heap.size := Nat.le_trans hb1 S2.turn.size
  clear c1 hc1 q1 s2
  have c2 := f2.c2
  rw [rounds_succ]
  go_wp2_with (first
    | (go_at_call 42; (with_reducible refine (P0.out _).mono ?_); rintro e p2 ⟨rfl, hc2, hp2⟩; have q2 := o2.bel hp2)
    | (at_builtin; refine append_rowS _ rfl _ _ rfl base _ _ rfl q2 _ 1 _ (le 1 0) (le_len _ _) rfl hc2 (by (try simp only [List.length_append, le_len]); omega) (Nat.le_trans hb2 hp2.size) ?_; intro v3 W3 o3 s3)
    | go_in)
  have S3 := Step.after hp2 s3
  have f3 : Fz W3 := f2.turn S3.turn (fun e => by have := (o2.lt 0 e).1; omega)
  have hb3 : base ≤ W3.heap.size := Nat.le_trans hb2 S3.turn.size
  clear c2 hc2 q2 s3
  have c3 := f3.c3
  rw [rounds_succ]
  go_wp2_with (first
    | (go_at_call 42; (with_reducible refine (P2.out _).mono ?_); rintro e p3 ⟨rfl, hc3, hp3⟩; have q3 := o3.bel hp3)
    | (at_builtin; refine append_rowS _ rfl _ _ rfl base _ _ rfl q3 _ 2 _ (le 2 n) (le_len _ _) rfl hc3 (by (try simp only [List.length_append, le_len]); omega) (Nat.le_trans hb3 hp3.size) ?_; intro v4 W4 o4 s4)
    | go_in)
  have S4 := Step.after hp3 s4
  have f4 : Fz W4 := f3.turn S4.turn (fun e => by have := (o3.lt 0 e).1; omega)
  have hb4 : base ≤ W4.heap.size := Nat.le_trans hb3 S4.turn.size
  clear c3 hc3 q3 s4
  have c4 := f4.c4
  rw [rounds_succ]
  go_wp2_with (first
    | (go_at_call 42; (with_reducible refine (PV.out _).mono ?_); rintro e p4 ⟨rfl, hc4, hp4⟩; have q4 := o4.bel hp4)
    | (at_builtin; refine append_rowS _ rfl _ _ rfl base _ _ rfl q4 _ 8 _ (le 8 v) (le_len _ _) rfl hc4 (by (try simp only [List.length_append, le_len]); omega) (Nat.le_trans hb4 hp4.size) ?_; intro v5 W5 o5 s5)
    | go_in)
  have S5 := Step.after hp4 s5
  have f5 : Fz W5 := f4.turn S5.turn (fun e => by have := (o4.lt 0 e).1; omega)
  have hb5 : base ≤ W5.heap.size := Nat.le_trans hb4 S5.turn.size
  clear c4 hc4 q4 s5
  have c5 := f5.c5
  rw [rounds_succ]
  go_wp2_with (first
    | (go_at_call 42; (with_reducible refine (PZ.out _).mono ?_); rintro e p5 ⟨rfl, hc5, hp5⟩; have q5 := o5.bel hp5)
    | (at_builtin; refine append_rowS _ rfl _ _ rfl base _ _ rfl q5 _ 8 _ (le 8 z) (le_len _ _) rfl hc5 (by (try simp only [List.length_append, le_len]); omega) (Nat.le_trans hb5 hp5.size) ?_; intro v6 W6 o6 s6)
    | go_in)
  have S6 := Step.after hp5 s6
  have f6 : Fz W6 := f5.turn S6.turn (fun e => by have := (o5.lt 0 e).1; omega)
  have hb6 : base ≤ W6.heap.size := Nat.le_trans hb5 S6.turn.size
  clear c5 hc5 q5 s6
  rw [rounds_succ]
  go_wp2
  go_ret
  simp only [List.append_assoc] at o6
  exact ⟨v6, rfl, o6, Step.after HB0.out (((((S1.trans S2).trans S3).trans S4).trans S5).trans S6)⟩
end Go.Proofs.YtpdcbokcoaienaaDoor
