/- The state machine in memory; its moves. The state machine reads numbers. -/
import Derived.Test.YtbhdledlahbokaaLCmdX
namespace Go.Proofs.Ytbhdledlahbokaa
open Go.ChangeShapes Go.WideShapes Go.ChangeAt Go.RowKit
set_option linter.unusedVariables false
set_option linter.unusedSimpArgs false

def sC (vb : Value) (m : Ms) (c : Nat) : Array Value := #[vb, .int .i64 (m.at' : Int), .int .i64 m.row.at', .int .i64 m.row.fi, .int .i64 m.row.li, .int .i64 m.row.co, .int .i64 m.start, .int .i64 m.rows, .int .i64 m.seqs, .bool m.ended, .chan (some c)]
def evV : Ev → Value
  | .row r => .agg #[.int .i64 r.at', .int .i64 r.fi, .int .i64 r.li, .int .i64 r.co, .bool false, .int .i64 0, .int .i64 0]
  | .fin st sz => .agg #[.int .i64 0, .int .i64 0, .int .i64 0, .int .i64 0, .bool true, .int .i64 st, .int .i64 sz]
/-- Nothing but two blocks has turned. -/
structure Fr (b : Nat × Nat) (w0 w : World) : Prop where
  os : w.os = w0.os
  tape : w.tape = w0.tape
  output : w.output = w0.output
  size : w0.heap.size ≤ w.heap.size
  block : ∀ k, k < w0.heap.size → k ≠ b.1 → k ≠ b.2 → w.heap[k]? = w0.heap[k]?
theorem Fr.refl (b : Nat × Nat) (w : World) : Fr b w w := ⟨rfl, rfl, rfl, Nat.le_refl _, fun _ _ _ _ => rfl⟩
theorem Fr.trans {b : Nat × Nat} {u v w : World} (h1 : Fr b u v) (h2 : Fr b v w) : Fr b u w :=
  ⟨h2.os.trans h1.os, h2.tape.trans h1.tape, h2.output.trans h1.output, Nat.le_trans h1.size h2.size, fun k hk ha hb => (h2.block k (Nat.lt_of_lt_of_le hk h1.size) ha hb).trans (h1.block k hk ha hb)⟩
theorem Fr.of_bel {b : Nat × Nat} {u v : World} (h : Below u.heap.size u v) : Fr b u v := ⟨h.os, h.tape, h.output, h.size, fun k hk _ _ => h.block k hk⟩
/-- The state lies in block sb, its channel in block c. -/
structure SA (base : Nat × Nat) (w0 w : World) (sb c : Nat) (vb : Value) (m : Ms) (cap : Nat) : Prop where
  bel : Fr base w0 w
  bk : Bk w sb 108 (sC vb m c)
  ch : w.heap[c]? = some (.chan cap (m.evs.map evV).toArray false m.evs.length 0 false)
  sbB : base.1 = sb
  cB : base.2 = c
section
variable {base : Nat × Nat} {w0 w w' : World} {sb c : Nat} {vb : Value} {m m' : Ms} {cap : Nat}
theorem SA.belw (h : SA base w0 w sb c vb m cap) (hb : Below w.heap.size w w') : SA base w0 w' sb c vb m cap :=
  ⟨h.bel.trans (.of_bel hb), h.bk.bel hb h.bk.lt, (hb.block c (Array.getElem?_eq_some_iff.1 h.ch).1).trans h.ch, h.sbB, h.cB⟩
theorem SA.ne (h : SA base w0 w sb c vb m cap) : sb ≠ c := fun e => by
  have h1 := h.bk.hp
  rw [e, h.ch] at h1
  cases h1
theorem SA.cell (h : SA base w0 w sb c vb m cap) (j : Nat) {x : Value} (hj : (sC vb m c)[j]? = some x) : w.cell? ⟨sb, j, none⟩ = some x := h.bk.cell j hj
theorem SA.c0 (h : SA base w0 w sb c vb m cap) : w.cell? ⟨sb, 0, none⟩ = some (vb) := h.bk.cell 0 rfl
theorem SA.c1 (h : SA base w0 w sb c vb m cap) : w.cell? ⟨sb, 1, none⟩ = some (.int .i64 (m.at' : Int)) := h.bk.cell 1 rfl
theorem SA.c2 (h : SA base w0 w sb c vb m cap) : w.cell? ⟨sb, 2, none⟩ = some (.int .i64 m.row.at') := h.bk.cell 2 rfl
theorem SA.c3 (h : SA base w0 w sb c vb m cap) : w.cell? ⟨sb, 3, none⟩ = some (.int .i64 m.row.fi) := h.bk.cell 3 rfl
theorem SA.c4 (h : SA base w0 w sb c vb m cap) : w.cell? ⟨sb, 4, none⟩ = some (.int .i64 m.row.li) := h.bk.cell 4 rfl
theorem SA.c5 (h : SA base w0 w sb c vb m cap) : w.cell? ⟨sb, 5, none⟩ = some (.int .i64 m.row.co) := h.bk.cell 5 rfl
theorem SA.c6 (h : SA base w0 w sb c vb m cap) : w.cell? ⟨sb, 6, none⟩ = some (.int .i64 m.start) := h.bk.cell 6 rfl
theorem SA.c7 (h : SA base w0 w sb c vb m cap) : w.cell? ⟨sb, 7, none⟩ = some (.int .i64 m.rows) := h.bk.cell 7 rfl
theorem SA.c8 (h : SA base w0 w sb c vb m cap) : w.cell? ⟨sb, 8, none⟩ = some (.int .i64 m.seqs) := h.bk.cell 8 rfl
theorem SA.c9 (h : SA base w0 w sb c vb m cap) : w.cell? ⟨sb, 9, none⟩ = some (.bool m.ended) := h.bk.cell 9 rfl
theorem SA.c10 (h : SA base w0 w sb c vb m cap) : w.cell? ⟨sb, 10, none⟩ = some (.chan (some c)) := h.bk.cell 10 rfl
/-- A cell of the state is written. -/
theorem SA.set (h : SA base w0 w sb c vb m cap) (j : Nat) (v : Value) (he : (sC vb m c).setIfInBounds j v = sC vb m' c) (hv : m'.evs = m.evs) : SA base w0 (w.setCell ⟨sb, j, none⟩ v) sb c vb m' cap := by
  have hw : w.setCell ⟨sb, j, none⟩ v = w.setRow sb (sC vb m' c) := by
    rw [setCell_eq_setRow w sb j _ _ _ _ h.bk.hp, he]
  rw [hw]
  refine ⟨h.bel.trans ⟨rfl, rfl, rfl, by simp, fun k hk ha _ => setRow_other w sb k _ (by rw [← h.sbB]; exact ha)⟩, h.bk.setR _, ?_, h.sbB, h.cB⟩
  rw [setRow_other w sb c _ (Ne.symm h.ne), hv]
  exact h.ch
end

theorem moved_ok (a b : Int) (w : World) (ha : -4611686018427387904 ≤ a ∧ a ≤ 4611686018427387904) (hb : -4611686018427387904 ≤ b ∧ b ≤ 4611686018427387904) (h : 0 ≤ a + b ∧ a + b ≤ 4611686018427387904) :
    Calls Try.prog 95 #[.int .i64 a, .int .i64 b] w fun e w' => e = .returned (.tuple #[.int .i64 (a + b), .bool true]) ∧ w' = w := by
  have HA : Hid _ := ⟨add_any a b w (by omega) (by omega)⟩
  have e1 : addE a b = 0 := by unfold addE; rw [if_neg (by omega)]
  have e2 : addV a b = a + b := by unfold addV; rw [e1]; rfl
  rw [e1, e2] at HA
  have HI : Hid _ := ⟨within_any (a + b) 0 4611686018427387904 w⟩
  have e3 : inB (a + b) 0 4611686018427387904 = true := by unfold inB; simp; omega
  rw [e3] at HI
  clear e1 e2 e3 ha hb h
  generalize a + b = y at *
  go_enter Try.func95, Try.ntmps95
  go_wp2_with (first
    | (go_at_call 97; (with_reducible refine HA.out.mono ?_); rintro e wn ⟨he, hwn⟩; subst he; subst wn)
    | (go_at_call 45; (with_reducible refine HI.out.mono ?_); rintro e wn ⟨he, hwn⟩; subst he; subst wn))
  go_ret2
  exact ⟨rfl, rfl⟩

section
variable {base : Nat × Nat} {w0 w : World} {sb c : Nat} {vb : Value} {m : Ms} {cap : Nat}
theorem moveAt_ok (h : SA base w0 w sb c vb m cap) (n : Int) (hi : 0 ≤ m.row.at' ∧ m.row.at' ≤ 4611686018427387904) (hn : 0 ≤ n ∧ m.row.at' + n ≤ 4611686018427387904) :
    Calls Try.prog 87 #[.pointer (some ⟨sb, 0, none⟩), .int .i64 n] w fun e w' => e = .returned (.bool true) ∧ SA base w0 w' sb c vb { m with row := { m.row with at' := m.row.at' + n } } cap := by
  have HM : Hid (∀ W, Calls Try.prog 95 #[.int .i64 m.row.at', .int .i64 n] W fun e w' => e = .returned (.tuple #[.int .i64 (m.row.at' + n), .bool true]) ∧ w' = W) := ⟨fun W => moved_ok _ _ W (by omega) (by omega) (by omega)⟩
  have d2 := h.c2
  have f2 := h.bk.fro 2
  have HN : Hid _ := ⟨h.set (m' := { m with row := { m.row with at' := m.row.at' + n } }) 2 (.int .i64 (m.row.at' + n)) rfl rfl⟩
  clear h hi hn
  generalize m.row.at' + n = y at *
  go_enter Try.func87, Try.ntmps87
  go_wp2_with (go_at_call 95; (with_reducible refine (HM.out _).mono ?_); rintro e wn ⟨he, hwn⟩; subst he; subst wn)
  go_ret
  exact ⟨rfl, HN.out⟩
theorem moveLine_ok (h : SA base w0 w sb c vb m cap) (n : Int) (hi : 0 ≤ m.row.li ∧ m.row.li ≤ 4611686018427387904) (hb : -4611686018427387904 ≤ n ∧ n ≤ 4611686018427387904) (hn : 0 ≤ m.row.li + n ∧ m.row.li + n ≤ 4611686018427387904) :
    Calls Try.prog 88 #[.pointer (some ⟨sb, 0, none⟩), .int .i64 n] w fun e w' => e = .returned (.bool true) ∧ SA base w0 w' sb c vb { m with row := { m.row with li := m.row.li + n } } cap := by
  have HM : Hid (∀ W, Calls Try.prog 95 #[.int .i64 m.row.li, .int .i64 n] W fun e w' => e = .returned (.tuple #[.int .i64 (m.row.li + n), .bool true]) ∧ w' = W) := ⟨fun W => moved_ok _ _ W (by omega) (by omega) (by omega)⟩
  have d2 := h.c4
  have f2 := h.bk.fro 4
  have HN : Hid _ := ⟨h.set (m' := { m with row := { m.row with li := m.row.li + n } }) 4 (.int .i64 (m.row.li + n)) rfl rfl⟩
  clear h hi hn hb
  generalize m.row.li + n = y at *
  go_enter Try.func88, Try.ntmps88
  go_wp2_with (go_at_call 95; (with_reducible refine (HM.out _).mono ?_); rintro e wn ⟨he, hwn⟩; subst he; subst wn)
  go_ret
  exact ⟨rfl, HN.out⟩
theorem advanceMost_ok (h : SA base w0 w sb c vb m cap) (hi : 0 ≤ m.row.at') (hn : m.row.at' + 17 ≤ 4611686018427387904) :
    Calls Try.prog 86 #[.pointer (some ⟨sb, 0, none⟩)] w fun e w' => e = .returned (.bool true) ∧ SA base w0 w' sb c vb { m with row := { m.row with at' := m.row.at' + 17 } } cap := by
  have HM : Hid _ := ⟨moveAt_ok h 17 (by omega) (by omega)⟩
  clear h hi hn
  go_enter Try.func86, Try.ntmps86
  go_wp2_with (go_at_call 87; (with_reducible refine HM.out.mono ?_); rintro e w1 ⟨he, hs1⟩; subst he; have H1 : Hid _ := ⟨hs1⟩; clear hs1)
  go_ret
  exact ⟨rfl, H1.out⟩
end

theorem emod_mul256 (n A : Int) (hA : 0 < A) : n % (A * 256) = n % A + A * (n / A % 256) := by
  have e1 := Int.emod_add_mul_ediv n A
  have r0 := Int.emod_nonneg n (Int.ne_of_gt hA)
  have r1 := Int.emod_lt_of_pos n hA
  have e2 : n / A = n / A % 256 + 256 * (n / A / 256) := by omega
  have q0 : 0 ≤ n / A % 256 := by omega
  have q1 : n / A % 256 ≤ 255 := by omega
  have m0 := Int.mul_nonneg (Int.le_of_lt hA) q0
  have m1 := Int.mul_le_mul_of_nonneg_left q1 (Int.le_of_lt hA)
  have e3 : A * (n / A) = A * (n / A % 256) + A * 256 * (n / A / 256) := by
    rw [Int.mul_assoc, ← Int.mul_add, ← e2]
  have e4 : n = (n % A + A * (n / A % 256)) + A * 256 * (n / A / 256) := by omega
  have e5 : n % (A * 256) = ((n % A + A * (n / A % 256)) + A * 256 * (n / A / 256)) % (A * 256) := congrArg (· % (A * 256)) e4
  rw [e5, Int.add_mul_emod_self_left, Int.emod_eq_of_lt (by omega) (by omega)]

/-- The bytes of a number at a place are that number again. -/
theorem bacc_pl (n : Int) (bs : Nat → Int) (a s : Nat) (h : At bs a (pl n s)) : bacc bs a s = n % 2 ^ (8 * s) := by
  induction s with
  | zero => simp [bacc, Int.emod_one]
  | succ s ih =>
    have h1 : At bs a (pl n s) := by
      intro i hi
      rw [pl_len] at hi
      have := h i (by rw [pl_len]; omega)
      rw [this, pl_succ]
      simp [List.getElem?_append_left (show i < (pl n s).length by rw [pl_len]; exact hi)]
    have h2 : bs (a + s) = n / 2 ^ (8 * s) % 256 := by
      have := h s (by rw [pl_len]; omega)
      rw [this, pl_succ]
      simp [pl_len]
    show bacc bs a s + bs (a + s) * 2 ^ (8 * s) = _
    rw [ih h1, h2]
    have hp := pow_pos_i (8 * s)
    have e : (2 : Int) ^ (8 * (s + 1)) = 2 ^ (8 * s) * 256 := by
      rw [show 8 * (s + 1) = 8 * s + 8 from by omega, Int.pow_add]; rfl
    rw [e, emod_mul256 n _ hp, Int.mul_comm (n / 2 ^ (8 * s) % 256)]


/-- The bytes that are read. -/
structure By (base : Nat × Nat) (w0 : World) (ao : Option Addr) (len cp : Nat) (bs : Nat → Int) : Prop where
  row : ∀ W, Fr base w0 W → Row W ao len bs
  byte : ∀ i, 0 ≤ bs i ∧ bs i < 256
  short : len ≤ 1048576
  fit : len ≤ cp
  top : cp ≤ 9223372036854775807
section
variable {base : Nat × Nat} {w0 : World} {ao : Option Addr} {len cp : Nat} {bs : Nat → Int}
theorem readU_at (hB : By base w0 ao len cp bs) {a : Nat} {n : Int} (hn : 0 ≤ n ∧ n ≤ 4611686018427387904) (hat : At bs a (ulB n)) (hin : a + (ulB n).length ≤ len) (W : World) (hW : Fr base w0 W) :
    Calls Try.prog 48 #[.slice ao len cp, .int .i64 (a : Int)] W fun e w' => e = .returned (.tuple #[.int .i64 n, .int .i64 ((a + (ulB n).length : Nat) : Int), .int .i64 0]) ∧ Below W.heap.size W w' := by
  have e : (n % 18446744073709551616).toNat = n.toNat := by omega
  have hat' : At bs a (ul n.toNat) := by unfold ulB at hat; rwa [e] at hat
  have hl : (ulB n).length = (ul n.toNat).length := by unfold ulB; rw [e]
  obtain ⟨h1, h2, h3⟩ := ul_read n.toNat bs a hat'
  have hN : Num len bs a (ul n.toNat).length := ⟨ul_len_pos _, ul_len10 _ (by omega), by omega, h2, h3⟩
  have R := readU_num ao len cp a (ul n.toNat).length bs W (hB.row W hW) hB.byte (by have := hB.short; omega) hN (fun h10 => ul_ten n.toNat (by omega) bs a hat' h10)
  have hv : wrap64 (uacc bs a (ul n.toNat).length) = n := by rw [h1]; unfold wrap64; omega
  rw [hv] at R
  rw [hl]
  exact R
theorem readS_at (hB : By base w0 ao len cp bs) {a : Nat} {n : Int} (hn : -2147483648 ≤ n ∧ n ≤ 2147483648) (hat : At bs a (sl n)) (hin : a + (sl n).length ≤ len) (W : World) (hW : Fr base w0 W) :
    Calls Try.prog 94 #[.slice ao len cp, .int .i64 (a : Int)] W fun e w' => e = .returned (.tuple #[.int .i64 n, .int .i64 ((a + (sl n).length : Nat) : Int), .int .i64 0]) ∧ Below W.heap.size W w' := by
  obtain ⟨h1, h2, h3⟩ := sl_read n.natAbs n (Nat.le_refl _) bs a hat
  have hl5 := sl_len 5 n (by omega) (by omega)
  have hN : Num len bs a (sl n).length := ⟨sl_len_pos _, by omega, hin, h2, h3⟩
  have R := readS_num ao len cp a (sl n).length bs W (hB.row W hW) hB.byte (by have := hB.short; omega) hN (fun h10 => by omega)
  have hv : sval bs a (sl n).length = n := by
    unfold sval
    rw [show min (7 * (sl n).length) 64 = 7 * (sl n).length by omega]
    exact h1
  rw [hv] at R
  exact R
theorem get8_at (hB : By base w0 ao len cp bs) {a : Nat} {n : Int} (hn : 0 ≤ n ∧ n ≤ 4611686018427387904) (hat : At bs a (pl n 8)) (hin : a + 8 ≤ len) (W : World) (hW : Fr base w0 W) :
    Calls Try.prog 54 #[.slice ao len cp, .int .i64 (a : Int), .int .i64 8, .bool false] W fun e w' => e = .returned (.tuple #[.int .i64 n, .int .i64 0]) ∧ Below W.heap.size W w' := by
  have R := get_ok ao len cp a 8 false bs W (hB.row W hW) hB.byte (by have := hB.short; omega) (by omega) hin
  have hv : gval bs a 8 false = n := by
    unfold gval
    rw [if_neg (by decide), bacc_pl n bs a 8 hat]
    unfold wrap64
    rw [show (2 : Int) ^ (8 * 8) = 18446744073709551616 by decide]
    omega
  rw [hv] at R
  exact R
theorem get4_at (hB : By base w0 ao len cp bs) {a : Nat} {n : Int} (hn : 0 ≤ n ∧ n ≤ 4294967295) (hat : At bs a (pl n 4)) (hin : a + 4 ≤ len) (W : World) (hW : Fr base w0 W) :
    Calls Try.prog 54 #[.slice ao len cp, .int .i64 (a : Int), .int .i64 4, .bool false] W fun e w' => e = .returned (.tuple #[.int .i64 n, .int .i64 0]) ∧ Below W.heap.size W w' := by
  have R := get_ok ao len cp a 4 false bs W (hB.row W hW) hB.byte (by have := hB.short; omega) (by omega) hin
  have hv : gval bs a 4 false = n := by
    unfold gval
    rw [if_neg (by decide), bacc_pl n bs a 4 hat]
    unfold wrap64
    rw [show (2 : Int) ^ (8 * 4) = 4294967296 by decide]
    omega
  rw [hv] at R
  exact R

variable {w : World} {sb c : Nat} {m : Ms} {cap : Nat}
set_option maxHeartbeats 1000000 in
theorem uleb_ok (h : SA base w0 w sb c (.slice ao len cp) m cap) (hB : By base w0 ao len cp bs) {n : Int} (hn : 0 ≤ n ∧ n ≤ 4611686018427387904) (hat : At bs m.at' (ulB n)) (hin : m.at' + (ulB n).length ≤ len) :
    Calls Try.prog 93 #[.pointer (some ⟨sb, 0, none⟩)] w fun e w' => e = .returned (.tuple #[.int .i64 n, .bool true]) ∧ SA base w0 w' sb c (.slice ao len cp) { m with at' := m.at' + (ulB n).length } cap := by
  have HR : Hid _ := ⟨readU_at hB hn hat hin⟩
  have HS : Hid _ := ⟨h⟩
  clear h hB hn hat hin
  generalize m.at' + (ulB n).length = T at *
  go_enter Try.func93, Try.ntmps93
  go_wp2
  have HSd : Hid (SA base w0 w.drew sb c (.slice ao len cp) m cap) := ⟨HS.out.belw (Below.refl _ _).drew⟩
  have c0 := HSd.out.c0
  have c1 := HSd.out.c1
  have HB0 : Hid (Fr base w0 w.drew) := ⟨HSd.out.bel⟩
  go_region_held3 (fun v' => v'.cell? ⟨sb, 0, none⟩ = some (.slice ao len cp) ∧ v'.cell? ⟨sb, 1, none⟩ = some (.int .i64 (m.at' : Int)))
    ((refine ⟨?_, ?_⟩) <;> (with_reducible assumption))
    ((go_at_call 48; (with_reducible refine (HR.out _ HB0.out).mono ?_); rintro e u ⟨rfl, hu⟩; have HSu : Hid _ := ⟨HSd.out.belw hu⟩; have x0 := HSu.out.c0; have x1 := HSu.out.c1))
  have f1 := HSu.out.bk.fro 1
  have HN : Hid _ := ⟨HSu.out.set (m' := { m with at' := T }) 1 (.int .i64 (T : Int)) rfl rfl⟩
  clear c0 c1
  go_wp2
  go_ret2
  exact ⟨rfl, HN.out⟩
theorem advance_ok (h : SA base w0 w sb c (.slice ao len cp) m cap) (hB : By base w0 ao len cp bs) {n : Int} (hn : 0 ≤ n ∧ n ≤ 4611686018427387904) (hat : At bs m.at' (ulB n)) (hin : m.at' + (ulB n).length ≤ len) (h0 : 0 ≤ m.row.at') (h1 : m.row.at' + n ≤ 4611686018427387904) :
    Calls Try.prog 81 #[.pointer (some ⟨sb, 0, none⟩)] w fun e w' => e = .returned (.bool true) ∧ SA base w0 w' sb c (.slice ao len cp) { m with at' := m.at' + (ulB n).length, row := { m.row with at' := m.row.at' + n } } cap := by
  have HU : Hid _ := ⟨uleb_ok h hB hn hat hin⟩
  have hn0 : 0 ≤ n := hn.1
  have HM : Hid (∀ W, SA base w0 W sb c (.slice ao len cp) { m with at' := m.at' + (ulB n).length } cap → Calls Try.prog 87 #[.pointer (some ⟨sb, 0, none⟩), .int .i64 n] W fun e w' => e = .returned (.bool true) ∧ SA base w0 w' sb c (.slice ao len cp) { m with at' := m.at' + (ulB n).length, row := { m.row with at' := m.row.at' + n } } cap) := ⟨fun W hW => moveAt_ok hW n ⟨h0, by dsimp only; omega⟩ ⟨hn.1, h1⟩⟩
  clear h hB hn hat hin h0 h1
  go_enter Try.func81, Try.ntmps81
  go_wp2_with (first
    | (go_at_call 93; (with_reducible refine HU.out.mono ?_); rintro e w1 ⟨he, hs1⟩; subst he; have H1 : Hid _ := ⟨hs1⟩; clear hs1)
    | (go_at_call 87; (with_reducible refine (HM.out _ H1.out).mono ?_); rintro e w2 ⟨he, hs2⟩; subst he; have H2 : Hid _ := ⟨hs2⟩; clear hs2))
  go_ret
  exact ⟨rfl, H2.out⟩
theorem setFile_ok (h : SA base w0 w sb c (.slice ao len cp) m cap) (hB : By base w0 ao len cp bs) {n : Int} (hn : 0 ≤ n ∧ n ≤ 4611686018427387904) (hat : At bs m.at' (ulB n)) (hin : m.at' + (ulB n).length ≤ len) :
    Calls Try.prog 83 #[.pointer (some ⟨sb, 0, none⟩)] w fun e w' => e = .returned (.bool true) ∧ SA base w0 w' sb c (.slice ao len cp) { m with at' := m.at' + (ulB n).length, row := { m.row with fi := n } } cap := by
  have HU : Hid _ := ⟨uleb_ok h hB hn hat hin⟩
  clear h hB hn hat hin
  go_enter Try.func83, Try.ntmps83
  go_wp2_with (go_at_call 93; (with_reducible refine HU.out.mono ?_); rintro e w1 ⟨he, hs1⟩; subst he; have H1 : Hid _ := ⟨hs1⟩; have d3 := hs1.c3; have f3 := hs1.bk.fro 3; clear hs1)
  go_ret
  exact ⟨rfl, H1.out.set 3 (.int .i64 n) rfl rfl⟩
theorem setColumn_ok (h : SA base w0 w sb c (.slice ao len cp) m cap) (hB : By base w0 ao len cp bs) {n : Int} (hn : 0 ≤ n ∧ n ≤ 4611686018427387904) (hat : At bs m.at' (ulB n)) (hin : m.at' + (ulB n).length ≤ len) :
    Calls Try.prog 84 #[.pointer (some ⟨sb, 0, none⟩)] w fun e w' => e = .returned (.bool true) ∧ SA base w0 w' sb c (.slice ao len cp) { m with at' := m.at' + (ulB n).length, row := { m.row with co := n } } cap := by
  have HU : Hid _ := ⟨uleb_ok h hB hn hat hin⟩
  clear h hB hn hat hin
  go_enter Try.func84, Try.ntmps84
  go_wp2_with (go_at_call 93; (with_reducible refine HU.out.mono ?_); rintro e w1 ⟨he, hs1⟩; subst he; have H1 : Hid _ := ⟨hs1⟩; have d3 := hs1.c5; have f3 := hs1.bk.fro 5; clear hs1)
  go_ret
  exact ⟨rfl, H1.out.set 5 (.int .i64 n) rfl rfl⟩
set_option maxHeartbeats 1000000 in
theorem advanceLine_ok (h : SA base w0 w sb c (.slice ao len cp) m cap) (hB : By base w0 ao len cp bs) {n : Int} (hn : -2147483648 ≤ n ∧ n ≤ 2147483648) (hat : At bs m.at' (sl n)) (hin : m.at' + (sl n).length ≤ len) (hl : 0 ≤ m.row.li ∧ m.row.li ≤ 4611686018427387904) (hi : 0 ≤ m.row.li + n ∧ m.row.li + n ≤ 4611686018427387904) :
    Calls Try.prog 82 #[.pointer (some ⟨sb, 0, none⟩)] w fun e w' => e = .returned (.bool true) ∧ SA base w0 w' sb c (.slice ao len cp) { m with at' := m.at' + (sl n).length, row := { m.row with li := m.row.li + n } } cap := by
  have HR : Hid _ := ⟨readS_at hB hn hat hin⟩
  have HS : Hid _ := ⟨h⟩
  generalize m.at' + (sl n).length = T at *
  have HM : Hid (∀ W, SA base w0 W sb c (.slice ao len cp) { m with at' := T } cap → Calls Try.prog 88 #[.pointer (some ⟨sb, 0, none⟩), .int .i64 n] W fun e w' => e = .returned (.bool true) ∧ SA base w0 w' sb c (.slice ao len cp) { m with at' := T, row := { m.row with li := m.row.li + n } } cap) := ⟨fun W hW => moveLine_ok hW n hl (by omega) hi⟩
  clear h hB hn hat hin hl hi
  go_enter Try.func82, Try.ntmps82
  go_wp2
  have HSd : Hid (SA base w0 w.drew sb c (.slice ao len cp) m cap) := ⟨HS.out.belw (Below.refl _ _).drew⟩
  have c0 := HSd.out.c0
  have c1 := HSd.out.c1
  have HB0 : Hid (Fr base w0 w.drew) := ⟨HSd.out.bel⟩
  go_region_held3 (fun v' => v'.cell? ⟨sb, 0, none⟩ = some (.slice ao len cp) ∧ v'.cell? ⟨sb, 1, none⟩ = some (.int .i64 (m.at' : Int)))
    ((refine ⟨?_, ?_⟩) <;> (with_reducible assumption))
    ((go_at_call 94; (with_reducible refine (HR.out _ HB0.out).mono ?_); rintro e u ⟨rfl, hu⟩; have HSu : Hid _ := ⟨HSd.out.belw hu⟩; have x0 := HSu.out.c0; have x1 := HSu.out.c1))
  have f1 := HSu.out.bk.fro 1
  have HN : Hid _ := ⟨HSu.out.set (m' := { m with at' := T }) 1 (.int .i64 (T : Int)) rfl rfl⟩
  clear c0 c1
  go_wp2_with (go_at_call 88; (with_reducible refine (HM.out _ HN.out).mono ?_); rintro e w2 ⟨he, hs2⟩; subst he; have H2 : Hid _ := ⟨hs2⟩; clear hs2)
  go_ret
  exact ⟨rfl, H2.out⟩
set_option maxHeartbeats 1000000 in
theorem setStart_ok (h : SA base w0 w sb c (.slice ao len cp) m cap) (hB : By base w0 ao len cp bs) {n : Int} (hn : 0 ≤ n ∧ n ≤ 4611686018427387904) (hat : At bs m.at' (pl n 8)) (hin : m.at' + 8 ≤ len) (h0 : m.rows = 0) (h1 : m.row.at' = 0) :
    Calls Try.prog 92 #[.pointer (some ⟨sb, 0, none⟩)] w fun e w' => e = .returned (.bool true) ∧ SA base w0 w' sb c (.slice ao len cp) { m with at' := m.at' + 8, start := n } cap := by
  have HR : Hid _ := ⟨get8_at hB hn hat hin⟩
  have HS : Hid _ := ⟨h⟩
  have hT : wrap64 ((m.at' : Int) + 8) = ((m.at' + 8 : Nat) : Int) := by have := hB.short; unfold wrap64; omega
  clear h hB hn hat hin
  generalize m.at' + 8 = T at *
  go_enter Try.func92, Try.ntmps92
  go_wp2
  have HSd : Hid (SA base w0 w.drew sb c (.slice ao len cp) m cap) := ⟨HS.out.belw (Below.refl _ _).drew⟩
  have c0 := HSd.out.c0
  have c1 := HSd.out.c1
  have HB0 : Hid (Fr base w0 w.drew) := ⟨HSd.out.bel⟩
  go_region_held3 (fun v' => v'.cell? ⟨sb, 0, none⟩ = some (.slice ao len cp) ∧ v'.cell? ⟨sb, 1, none⟩ = some (.int .i64 (m.at' : Int)))
    ((refine ⟨?_, ?_⟩) <;> (with_reducible assumption))
    ((go_at_call 54; (with_reducible refine (HR.out _ HB0.out).mono ?_); rintro e u ⟨rfl, hu⟩; have HSu : Hid _ := ⟨HSd.out.belw hu⟩; have x0 := HSu.out.c0; have x1 := HSu.out.c1))
  have f1 := HSu.out.bk.fro 1
  have HN : Hid _ := ⟨HSu.out.set (m' := { m with at' := T }) 1 (.int .i64 (T : Int)) rfl rfl⟩
  clear c0 c1
  go_upto_region 3 with (fail)
  generalize u.setCell ⟨sb, 1, none⟩ (.int .i64 (T : Int)) = w2 at *
  have HN2 : Hid _ := ⟨HN.out.set (m' := { m with at' := T, start := n }) 6 (.int .i64 n) rfl rfl⟩
  have d6 := HN.out.c6
  have f6 := HN.out.bk.fro 6
  clear x0 x1
  go_upto_region 4 with (fail)
  generalize w2.setCell ⟨sb, 6, none⟩ (.int .i64 n) = w3 at *
  have d7 := HN2.out.c7
  have d2 := HN2.out.c2
  dsimp only at d7 d2
  rw [h0] at d7
  rw [h1] at d2
  clear d6 f6
  go_wp2
  go_ret
  exact ⟨rfl, HN2.out⟩
end
end Go.Proofs.Ytbhdledlahbokaa
