/- Tables in memory; the program's Check. The program's Check: rows, sequences, programs. The program's Check: sequences, programs. -/
import Derived.Test.YtbhdledlahbokaaLPlain
import Derived.Lib.BytesEntry
import Derived.Laws.StandIn
namespace Go.Proofs.Ytbhdledlahbokaa
open Go.ChangeShapes Go.WideShapes Go.ChangeAt Go.RowKit
set_option linter.unusedVariables false
set_option linter.unusedSimpArgs false

theorem up_belL {w w' : World} {b o : Nat} {v : Value} (h : w.cell? ⟨b, o, none⟩ = some v) (hb : Below w.heap.size w w') : w'.cell? ⟨b, o, none⟩ = some v := by
  rw [hb.cell (p := ⟨b, o, none⟩) (World.block_lt_of_cell? w ⟨b, o, none⟩ h)]; exact h
/-- Names that lie in memory. -/
def Strs (w : World) (ao : Option Addr) (l : List ByteArray) : Prop :=
  l.length = 0 ∨ ∃ b off, ao = some ⟨b, off, none⟩ ∧ ∀ i, i < l.length → w.cell? ⟨b, off + i, none⟩ = some (.string (l.getD i ByteArray.empty))
theorem Strs.bel {w w' : World} {ao : Option Addr} {l : List ByteArray} (h : Strs w ao l) (hb : Below w.heap.size w w') : Strs w' ao l := by
  rcases h with h | ⟨b, off, e, h⟩
  · exact .inl h
  · exact .inr ⟨b, off, e, fun i hi => up_belL (h i hi) hb⟩
/-- A row that lies in memory. -/
structure LrAt (w : World) (b off : Nat) (r : Lr) : Prop where
  c0 : w.cell? ⟨b, off, none⟩ = some (.int .i64 r.at')
  c1 : w.cell? ⟨b, off + 1, none⟩ = some (.int .i64 r.fi)
  c2 : w.cell? ⟨b, off + 2, none⟩ = some (.int .i64 r.li)
  c3 : w.cell? ⟨b, off + 3, none⟩ = some (.int .i64 r.co)
theorem LrAt.bel {w w' : World} {b off : Nat} {r : Lr} (h : LrAt w b off r) (hb : Below w.heap.size w w') : LrAt w' b off r := ⟨up_belL h.c0 hb, up_belL h.c1 hb, up_belL h.c2 hb, up_belL h.c3 hb⟩
def Lrs (w : World) (ao : Option Addr) (l : List Lr) : Prop := l.length = 0 ∨ ∃ b off, ao = some ⟨b, off, none⟩ ∧ ∀ i, i < l.length → LrAt w b (off + i * 4) (l.getD i Lr.zero)
theorem Lrs.bel {w w' : World} {ao : Option Addr} {l : List Lr} (h : Lrs w ao l) (hb : Below w.heap.size w w') : Lrs w' ao l := by
  rcases h with h | ⟨b, off, e, h⟩
  · exact .inl h
  · exact .inr ⟨b, off, e, fun i hi => (h i hi).bel hb⟩
/-- A sequence that lies in memory. -/
def SqAt (w : World) (b off : Nat) (q : Sq) : Prop := ∃ a c, w.cell? ⟨b, off, none⟩ = some (.int .i64 q.st) ∧ w.cell? ⟨b, off + 1, none⟩ = some (.int .i64 q.sz) ∧ w.cell? ⟨b, off + 2, none⟩ = some (.slice a q.rows.length c) ∧ Lrs w a q.rows
theorem SqAt.bel {w w' : World} {b off : Nat} {q : Sq} (h : SqAt w b off q) (hb : Below w.heap.size w w') : SqAt w' b off q := by
  obtain ⟨a, c, h1, h2, h3, h4⟩ := h
  exact ⟨a, c, up_belL h1 hb, up_belL h2 hb, up_belL h3 hb, h4.bel hb⟩
def Sqs (w : World) (ao : Option Addr) (l : List Sq) : Prop := l.length = 0 ∨ ∃ b off, ao = some ⟨b, off, none⟩ ∧ ∀ i, i < l.length → SqAt w b (off + i * 3) (l.getD i Sq.zero)
theorem Sqs.bel {w w' : World} {ao : Option Addr} {l : List Sq} (h : Sqs w ao l) (hb : Below w.heap.size w w') : Sqs w' ao l := by
  rcases h with h | ⟨b, off, e, h⟩
  · exact .inl h
  · exact .inr ⟨b, off, e, fun i hi => (h i hi).bel hb⟩

theorem within_any (n lo hi : Int) (w : World) : Calls Try.prog 45 #[.int .i64 n, .int .i64 lo, .int .i64 hi] w fun e w' => e = .returned (.bool (inB n lo hi)) ∧ w' = w := by
  unfold inB
  by_cases h1 : lo ≤ n
  · by_cases h2 : n ≤ hi
    · go_enter Try.func45, Try.ntmps45
      go_wp2
      go_ret
      exact ⟨ret_bool (by simp [h1, h2]), rfl⟩
    · go_enter Try.func45, Try.ntmps45
      go_wp2
      go_ret
      exact ⟨ret_bool (by simp [h1, h2]), rfl⟩
  · go_enter Try.func45, Try.ntmps45
    go_wp2
    go_ret
    exact ⟨ret_bool (by simp; omega), rfl⟩

theorem index_zero : ∀ (l : List UInt8), decide (0 ≤ Lib.indexByte l ((0 : Int).toNat.toUInt8)) = l.any (· == 0)
  | [] => rfl
  | x :: l => by
    have h1 := index_zero l
    have h2 := Lib.indexByte_ge l ((0 : Int).toNat.toUInt8)
    show decide (0 ≤ (if (x == (0 : Int).toNat.toUInt8) = true then (0 : Int) else if (Lib.indexByte l ((0 : Int).toNat.toUInt8) == -1) = true then -1 else Lib.indexByte l ((0 : Int).toNat.toUInt8) + 1)) = _
    rw [List.any_cons, ← h1]
    have e0 : (0 : Int).toNat.toUInt8 = (0 : UInt8) := rfl
    rw [e0] at *
    cases hx : (x == (0 : UInt8))
    · simp only [Bool.false_or, Bool.false_eq_true, if_false]
      by_cases hm : Lib.indexByte l (0 : UInt8) = -1
      · simp [hm]
      · have : (Lib.indexByte l (0 : UInt8) == -1) = false := by simpa using hm
        rw [this]
        simp only [Bool.false_eq_true, if_false, decide_eq_decide]
        omega
    · simp
set_option maxRecDepth 100000 in
theorem indexByteS_any (s : ByteArray) (w : World) :
    Calls Try.prog 65 #[.string s, .int .u8 0] w fun e w' => e = .returned (.int .i64 (Lib.indexByte s.data.toList ((0 : Int).toNat.toUInt8))) ∧ w' = w := by
  have R := Lib.run_indexByteString (P := Try.prog) s 0 w
  go_enter Try.func65, Try.ntmps65
  go_wp2
  rw [run_callFunc_extern Try.func76 (by kernel_rfl) (by kernel_rfl) (by kernel_rfl) (e := Extern.BytealgIndexByte.indexByte) (by kernel_rfl), R]
  simp only [Result.andThen]
  rw [Oper.upon_value]
  go_wp2
  go_ret
  exact ⟨rfl, rfl⟩
theorem indexByteT_any (s : ByteArray) (w : World) :
    Calls Try.prog 46 #[.string s, .int .u8 0] w fun e w' => e = .returned (.int .i64 (Lib.indexByte s.data.toList ((0 : Int).toNat.toUInt8))) ∧ w' = w := by
  go_enter Try.func46, Try.ntmps46
  go_wp2_with (go_at_call 65; refine (indexByteS_any _ _).mono ?_; rintro e w' ⟨rfl, rfl⟩)
  go_ret
  exact ⟨rfl, rfl⟩

theorem all_snoc {α : Type} (p : α → Bool) (l : List α) (d : α) (k : Nat) (hk : k < l.length) : (l.take (k + 1)).all p = ((l.take k).all p && p (l.getD k d)) := by
  rw [List.take_succ_eq_append_getElem hk, List.all_append]
  simp [hk]
theorem all_stop {α : Type} (p : α → Bool) (l : List α) (d : α) (k : Nat) (hk : k < l.length) (h : p (l.getD k d) = false) : l.all p = false := by
  rw [List.all_eq_false]
  exact ⟨l.getD k d, by simp [hk], by rw [h]; decide⟩

set_option maxHeartbeats 1000000 in
theorem areFiles_any (ao : Option Addr) (c : Nat) (l : List ByteArray) (w : World) (hr : Strs w ao l) (hl : l.length ≤ 140737488355328) :
    Calls Try.prog 27 #[.slice ao l.length c] w fun e w' => e = .returned (.bool (filesB l)) ∧ w' = w := by
  obtain ⟨B, hB⟩ : ∃ B, filesB l = B := ⟨_, rfl⟩
  rw [hB]
  have HB : Hid _ := ⟨hB⟩
  have HR : Hid _ := ⟨hr⟩
  clear hB hr
  by_cases h4 : 255 < l.length
  · have h4' : (255 : Int) < (l.length : Int) := by omega
    have : B = false := by rw [← HB.out]; unfold filesB; simp; omega
    subst this
    go_enter Try.func27, Try.ntmps27
    go_wp2
    go_ret
    exact ⟨rfl, rfl⟩
  have h4' : ¬ (255 : Int) < (l.length : Int) := by omega
  have HB2 : Hid (l.all fileB = B) := ⟨by rw [← HB.out]; unfold filesB; simp; omega⟩
  clear HB
  go_enter Try.func27, Try.ntmps27
  go_wp2
  go_loopw [10] (fun iv wr => ∃ k : Nat, k ≤ l.length ∧ iv = .int .i64 k ∧ Hid (wr = w ∧ (l.take k).all fileB = true)) (fun iv _ => l.length - (intOf iv).toNat)
  case atStart => exact ⟨0, by omega, rfl, ⟨rfl, by simp⟩⟩
  case round =>
    obtain ⟨k, hk, rfl, HW⟩ := hrel
    obtain ⟨hwr, _⟩ := HW.out
    subst hwr
    by_cases hlt : k < l.length
    · obtain ⟨b, off, rfl, hat⟩ : ∃ b off, ao = some ⟨b, off, none⟩ ∧ ∀ j, j < l.length → wr.cell? ⟨b, off + j, none⟩ = some (.string (l.getD j ByteArray.empty)) := by
        rcases HR.out with h | h
        · omega
        · exact h
      have q1 : (k : Int) < (l.length : Int) := by omega
      have q0 : (0 : Int) ≤ (k : Int) := by omega
      have c0 := hat k hlt
      clear hat
      have HS : Hid _ := ⟨all_snoc fileB l ByteArray.empty k hlt⟩
      have HT : Hid _ := ⟨all_stop fileB l ByteArray.empty k hlt⟩
      generalize l.getD k ByteArray.empty = s at *
      cases h1 : inB (s.size : Int) 1 255
      · have HI : Hid _ := ⟨within_any (s.size : Int) 1 255 wr⟩
        rw [h1] at HI
        have : B = false := by rw [← HB2.out]; exact HT.out (by unfold fileB; rw [h1]; rfl)
        subst this
        go_wp2_with (go_at_call 45; (with_reducible refine HI.out.mono ?_); rintro e wn ⟨he, hwn⟩; subst he; subst wn)
        go_ret
        exact ⟨rfl, rfl⟩
      · have HI : Hid _ := ⟨within_any (s.size : Int) 1 255 wr⟩
        rw [h1] at HI
        have HX : Hid _ := ⟨indexByteT_any s wr⟩
        have hz := index_zero s.data.toList
        cases h2 : zeroB s
        · have hn : ¬ (0 ≤ Lib.indexByte s.data.toList ((0 : Int).toNat.toUInt8)) := by
            unfold zeroB at h2; rw [h2] at hz; simpa using hz
          generalize Lib.indexByte s.data.toList ((0 : Int).toNat.toUInt8) = z at *
          have HK : Hid ((l.take (k + 1)).all fileB = true) := ⟨by rw [HS.out, HW.out.2]; unfold fileB; rw [h1, h2]; rfl⟩
          clear hz
          go_wp2_with (first
            | (go_at_call 45; (with_reducible refine HI.out.mono ?_); rintro e wn ⟨he, hwn⟩; subst he; subst wn)
            | (go_at_call 46; (with_reducible refine HX.out.mono ?_); rintro e wn ⟨he, hwn⟩; subst he; subst wn))
          go_roundw
          case rel => exact ⟨k + 1, hlt, by go_num, ⟨(by first | rfl | trivial), HK.out⟩⟩
          case measure => simp [intOf]; omega
        · have hn : 0 ≤ Lib.indexByte s.data.toList ((0 : Int).toNat.toUInt8) := by
            unfold zeroB at h2; rw [h2] at hz; simpa using hz
          generalize Lib.indexByte s.data.toList ((0 : Int).toNat.toUInt8) = z at *
          have : B = false := by rw [← HB2.out]; exact HT.out (by unfold fileB; rw [h1, h2]; rfl)
          subst this
          clear hz
          go_wp2_with (first
            | (go_at_call 45; (with_reducible refine HI.out.mono ?_); rintro e wn ⟨he, hwn⟩; subst he; subst wn)
            | (go_at_call 46; (with_reducible refine HX.out.mono ?_); rintro e wn ⟨he, hwn⟩; subst he; subst wn))
          go_ret
          exact ⟨rfl, rfl⟩
    · obtain rfl : k = l.length := by omega
      have : B = true := by rw [← HB2.out]; have := HW.out.2; rwa [List.take_of_length_le (Nat.le_refl _)] at this
      subst this
      go_wp2
      go_ret
      exact ⟨rfl, rfl⟩

theorem lr_in {l : List Lr} {i : Nat} (h : i < l.length) : l.getD i Lr.zero ∈ l := by simp [h]
theorem take_at {α : Type} (l : List α) (d : α) (k : Nat) (hk : k < l.length) : l.take (k + 1) = l.take k ++ [l.getD k d] := by
  rw [List.take_succ_eq_append_getElem hk]; simp [hk]
theorem rowsF_at (size n : Int) (l : List Lr) (k : Nat) (hk : k < l.length) : rowsF size n 0 (l.take (k + 1)) = (rowsF size n 0 (l.take k) && rowB1 (lastAt 0 (l.take k)) size n (l.getD k Lr.zero)) := by
  rw [take_at l Lr.zero k hk, rowsF_append]
  simp [rowsF]
theorem rowsF_stop (size n : Int) (l : List Lr) (k : Nat) (hk : k < l.length) (h : rowB1 (lastAt 0 (l.take k)) size n (l.getD k Lr.zero) = false) : rowsF size n 0 l = false := by
  have e : l = l.take (k + 1) ++ l.drop (k + 1) := (List.take_append_drop _ _).symm
  rw [e, rowsF_append, rowsF_at size n l k hk, h]
  simp
theorem lastAt_at (l : List Lr) (k : Nat) (hk : k < l.length) : lastAt 0 (l.take (k + 1)) = (l.getD k Lr.zero).at' := by
  rw [take_at l Lr.zero k hk]; simp [lastAt]

set_option maxHeartbeats 2000000 in
theorem areRows_any (ao : Option Addr) (c : Nat) (l : List Lr) (size n : Int) (w : World) (hr : Lrs w ao l) (hl : l.length ≤ 140737488355328) :
    Calls Try.prog 47 #[.slice ao l.length c, .int .i64 size, .int .i64 n] w fun e w' => e = .returned (.bool (rowsB l size n)) ∧ Below w.heap.size w w' := by
  obtain ⟨B, hB⟩ : ∃ B, rowsB l size n = B := ⟨_, rfl⟩
  rw [hB]
  have HB : Hid _ := ⟨hB⟩
  have HR : Hid _ := ⟨hr⟩
  have HI0 : Hid _ := ⟨within_any (l.length : Int) 1 4000 w⟩
  clear hB hr
  cases h0 : inB (l.length : Int) 1 4000
  · rw [h0] at HI0
    have : B = false := by rw [← HB.out]; unfold rowsB; rw [h0]; rfl
    subst this
    go_enter Try.func47, Try.ntmps47
    go_wp2_with (go_at_call 45; (with_reducible refine HI0.out.mono ?_); rintro e wn ⟨he, hwn⟩; subst he; subst wn)
    go_ret
    exact ⟨rfl, Below.refl _ _⟩
  rw [h0] at HI0
  have HB2 : Hid (rowsF size n 0 l = B) := ⟨by rw [← HB.out]; unfold rowsB; rw [h0]; rfl⟩
  clear HB h0
  go_enter Try.func47, Try.ntmps47
  go_wp2_with (go_at_call 45; (with_reducible refine HI0.out.mono ?_); rintro e wn ⟨he, hwn⟩; subst he; subst wn)
  clear HI0
  go_loopw [16, 7] (fun iv lv wr => ∃ k : Nat, k ≤ l.length ∧ iv = .int .i64 k ∧ lv = .int .i64 (lastAt 0 (l.take k)) ∧ Hid (Below w.heap.size w wr ∧ rowsF size n 0 (l.take k) = true)) (fun iv _ _ => l.length - (intOf iv).toNat)
  case atStart => exact ⟨0, by omega, rfl, rfl, ⟨Below.refl _ _, by simp [rowsF]⟩⟩
  case round =>
    obtain ⟨k, hk, rfl, rfl, HW⟩ := hrel
    by_cases hlt : k < l.length
    · obtain ⟨b, off, rfl, hat⟩ : ∃ b off, ao = some ⟨b, off, none⟩ ∧ ∀ j, j < l.length → LrAt wr b (off + j * 4) (l.getD j Lr.zero) := by
        rcases HR.out.bel HW.out.1 with h | h
        · omega
        · exact h
      have q1 : (k : Int) < (l.length : Int) := by omega
      have q0 : (0 : Int) ≤ (k : Int) := by omega
      obtain ⟨c0, c1, c2, c3⟩ := hat k hlt
      clear hat
      have HS : Hid _ := ⟨rowsF_at size n l k hlt⟩
      have HT : Hid _ := ⟨rowsF_stop size n l k hlt⟩
      have HL : Hid _ := ⟨lastAt_at l k hlt⟩
      generalize l.getD k Lr.zero = r at *
      generalize lastAt 0 (l.take k) = least at *
      have HI1 : Hid (∀ w, Calls Try.prog 45 #[.int .i64 r.at', .int .i64 least, .int .i64 size] w fun e w' => e = .returned (.bool (inB r.at' least size)) ∧ w' = w) := ⟨fun w => within_any _ _ _ w⟩
      have HI2 : Hid (∀ w, Calls Try.prog 45 #[.int .i64 r.fi, .int .i64 1, .int .i64 n] w fun e w' => e = .returned (.bool (inB r.fi 1 n)) ∧ w' = w) := ⟨fun w => within_any _ _ _ w⟩
      have HI3 : Hid (∀ w, Calls Try.prog 45 #[.int .i64 r.li, .int .i64 0, .int .i64 2147483647] w fun e w' => e = .returned (.bool (inB r.li 0 2147483647)) ∧ w' = w) := ⟨fun w => within_any _ _ _ w⟩
      have HI4 : Hid (∀ w, Calls Try.prog 45 #[.int .i64 r.co, .int .i64 0, .int .i64 65535] w fun e w' => e = .returned (.bool (inB r.co 0 65535)) ∧ w' = w) := ⟨fun w => within_any _ _ _ w⟩
      have HZ : Hid (rowB1 least size n r = (inB r.at' least size && (inB r.fi 1 n && (inB r.li 0 2147483647 && inB r.co 0 65535)))) := ⟨rfl⟩
      generalize inB r.at' least size = x1 at *
      generalize inB r.fi 1 n = x2 at *
      generalize inB r.li 0 2147483647 = x3 at *
      generalize inB r.co 0 65535 = x4 at *
      obtain ⟨y, hy⟩ : ∃ y, (x1 && (x2 && (x3 && x4))) = y := ⟨_, rfl⟩
      cases y
      · have : B = false := by rw [← HB2.out]; exact HT.out (by rw [HZ.out, hy])
        subst this
        cases x1 <;> cases x2 <;> cases x3 <;> cases x4 <;> simp only [Bool.false_and, Bool.true_and, Bool.and_false, Bool.and_true, Bool.true_eq_false] at hy <;>
        · go_wp2_with (go_at_call 45; first
            | ((with_reducible refine (HI1.out _).mono ?_); rintro e wn ⟨he, hwn⟩; subst he; subst wn)
            | ((with_reducible refine (HI2.out _).mono ?_); rintro e wn ⟨he, hwn⟩; subst he; subst wn)
            | ((with_reducible refine (HI3.out _).mono ?_); rintro e wn ⟨he, hwn⟩; subst he; subst wn)
            | ((with_reducible refine (HI4.out _).mono ?_); rintro e wn ⟨he, hwn⟩; subst he; subst wn))
          go_ret
          exact ⟨rfl, HW.out.1.alloc HW.out.1.size _⟩
      · have HK : Hid (rowsF size n 0 (l.take (k + 1)) = true) := ⟨by rw [HS.out, HW.out.2, HZ.out, hy]; rfl⟩
        cases x1 <;> cases x2 <;> cases x3 <;> cases x4 <;> simp only [Bool.false_and, Bool.true_and, Bool.and_false, Bool.and_true, Bool.false_eq_true] at hy
        go_wp2_with (go_at_call 45; first
            | ((with_reducible refine (HI1.out _).mono ?_); rintro e wn ⟨he, hwn⟩; subst he; subst wn)
            | ((with_reducible refine (HI2.out _).mono ?_); rintro e wn ⟨he, hwn⟩; subst he; subst wn)
            | ((with_reducible refine (HI3.out _).mono ?_); rintro e wn ⟨he, hwn⟩; subst he; subst wn)
            | ((with_reducible refine (HI4.out _).mono ?_); rintro e wn ⟨he, hwn⟩; subst he; subst wn))
        go_roundw
        case rel => exact ⟨k + 1, hlt, by go_num, by rw [HL.out], ⟨HW.out.1.alloc HW.out.1.size _, HK.out⟩⟩
        case measure => simp [intOf]; omega
    · obtain rfl : k = l.length := by omega
      have : B = true := by rw [← HB2.out]; have := HW.out.2; rwa [List.take_of_length_le (Nat.le_refl _)] at this
      subst this
      go_wp2
      go_ret
      exact ⟨rfl, HW.out.1⟩

theorem sq_in {l : List Sq} {i : Nat} (h : i < l.length) : l.getD i Sq.zero ∈ l := by simp [h]
/-- No slice is longer than any can be. -/
def Short (l : List Sq) : Prop := ∀ q ∈ l, q.rows.length ≤ 140737488355328

set_option maxHeartbeats 2000000 in
theorem areSeqs_any (ao : Option Addr) (c : Nat) (l : List Sq) (n : Int) (w : World) (hr : Sqs w ao l) (hl : l.length ≤ 140737488355328) (hs : Short l) :
    Calls Try.prog 28 #[.slice ao l.length c, .int .i64 n] w fun e w' => e = .returned (.bool (seqsB l n)) ∧ Below w.heap.size w w' := by
  obtain ⟨B, hB⟩ : ∃ B, seqsB l n = B := ⟨_, rfl⟩
  rw [hB]
  have HB : Hid _ := ⟨hB⟩
  have HR : Hid _ := ⟨hr⟩
  have HSh : Hid _ := ⟨hs⟩
  clear hB hr hs
  by_cases h4 : 64 < l.length
  · have h4' : (64 : Int) < (l.length : Int) := by omega
    have : B = false := by rw [← HB.out]; unfold seqsB; simp; omega
    subst this
    go_enter Try.func28, Try.ntmps28
    go_wp2
    go_ret
    exact ⟨rfl, Below.refl _ _⟩
  have h4' : ¬ (64 : Int) < (l.length : Int) := by omega
  have HB2 : Hid (l.all (seqB n) = B) := ⟨by rw [← HB.out]; unfold seqsB; simp; omega⟩
  clear HB
  go_enter Try.func28, Try.ntmps28
  go_wp2
  go_loopw [12] (fun iv wr => ∃ k : Nat, k ≤ l.length ∧ iv = .int .i64 k ∧ Hid (Below w.heap.size w wr ∧ (l.take k).all (seqB n) = true)) (fun iv _ => l.length - (intOf iv).toNat)
  case atStart => exact ⟨0, by omega, rfl, ⟨Below.refl _ _, by simp⟩⟩
  case round =>
    obtain ⟨k, hk, rfl, HW⟩ := hrel
    by_cases hlt : k < l.length
    · obtain ⟨b, off, rfl, hat⟩ : ∃ b off, ao = some ⟨b, off, none⟩ ∧ ∀ j, j < l.length → SqAt wr b (off + j * 3) (l.getD j Sq.zero) := by
        rcases HR.out.bel HW.out.1 with h | h
        · omega
        · exact h
      have q1 : (k : Int) < (l.length : Int) := by omega
      have q0 : (0 : Int) ≤ (k : Int) := by omega
      obtain ⟨ra, rc, c0, c1, c2, hLr⟩ := hat k hlt
      clear hat
      have HS : Hid _ := ⟨all_snoc (seqB n) l Sq.zero k hlt⟩
      have HT : Hid _ := ⟨all_stop (seqB n) l Sq.zero k hlt⟩
      have hsh := HSh.out _ (sq_in hlt)
      generalize l.getD k Sq.zero = q at *
      have HRw : Hid (∀ W, Below wr.heap.size wr W → Calls Try.prog 47 #[.slice ra q.rows.length rc, .int .i64 q.sz, .int .i64 n] W fun e w' => e = .returned (.bool (rowsB q.rows q.sz n)) ∧ Below W.heap.size W w') := ⟨fun W hW => areRows_any ra rc q.rows q.sz n W (hLr.bel hW) hsh⟩
      clear hLr hsh
      have HI1 : Hid (∀ w, Calls Try.prog 45 #[.int .i64 q.st, .int .i64 0, .int .i64 4611686018427387904] w fun e w' => e = .returned (.bool (inB q.st 0 4611686018427387904)) ∧ w' = w) := ⟨fun w => within_any _ _ _ w⟩
      have HI2 : Hid (∀ w, Calls Try.prog 45 #[.int .i64 q.sz, .int .i64 0, .int .i64 1048576] w fun e w' => e = .returned (.bool (inB q.sz 0 1048576)) ∧ w' = w) := ⟨fun w => within_any _ _ _ w⟩
      have HZ : Hid (seqB n q = (inB q.st 0 4611686018427387904 && (inB q.sz 0 1048576 && rowsB q.rows q.sz n))) := ⟨rfl⟩
      generalize inB q.st 0 4611686018427387904 = x1 at *
      generalize inB q.sz 0 1048576 = x2 at *
      generalize rowsB q.rows q.sz n = x3 at *
      obtain ⟨y, hy⟩ : ∃ y, (x1 && (x2 && x3)) = y := ⟨_, rfl⟩
      cases y
      · have : B = false := by rw [← HB2.out]; exact HT.out (by rw [HZ.out, hy])
        subst this
        cases x1
        · go_wp2_with (go_at_call 45; ((with_reducible refine (HI1.out _).mono ?_); rintro e wn ⟨he, hwn⟩; subst he; subst wn))
          go_ret
          exact ⟨rfl, HW.out.1.alloc HW.out.1.size _⟩
        cases x2
        · go_wp2_with (go_at_call 45; first
            | ((with_reducible refine (HI1.out _).mono ?_); rintro e wn ⟨he, hwn⟩; subst he; subst wn)
            | ((with_reducible refine (HI2.out _).mono ?_); rintro e wn ⟨he, hwn⟩; subst he; subst wn))
          go_ret
          exact ⟨rfl, HW.out.1.alloc HW.out.1.size _⟩
        cases x3
        · go_wp2_with (first
            | (go_at_call 45; first
              | ((with_reducible refine (HI1.out _).mono ?_); rintro e wn ⟨he, hwn⟩; subst he; subst wn)
              | ((with_reducible refine (HI2.out _).mono ?_); rintro e wn ⟨he, hwn⟩; subst he; subst wn))
            | (go_at_call 47; (with_reducible refine (HRw.out _ ((Below.refl _ _).alloc (Nat.le_refl _) _)).mono ?_); rintro e w3 ⟨he, hb3⟩; subst he; have H3 : Hid _ := ⟨hb3⟩; clear hb3))
          go_ret
          exact ⟨rfl, (HW.out.1.alloc HW.out.1.size _).trans (H3.out.mono (by have := HW.out.1.size; simp; omega))⟩
        · simp at hy
      · have HK : Hid ((l.take (k + 1)).all (seqB n) = true) := ⟨by rw [HS.out, HW.out.2, HZ.out, hy]; rfl⟩
        cases x1 <;> cases x2 <;> cases x3 <;> simp only [Bool.false_and, Bool.true_and, Bool.and_false, Bool.and_true, Bool.false_eq_true] at hy
        go_wp2_with (first
            | (go_at_call 45; first
              | ((with_reducible refine (HI1.out _).mono ?_); rintro e wn ⟨he, hwn⟩; subst he; subst wn)
              | ((with_reducible refine (HI2.out _).mono ?_); rintro e wn ⟨he, hwn⟩; subst he; subst wn))
            | (go_at_call 47; (with_reducible refine (HRw.out _ ((Below.refl _ _).alloc (Nat.le_refl _) _)).mono ?_); rintro e w3 ⟨he, hb3⟩; subst he; have H3 : Hid _ := ⟨hb3⟩; clear hb3))
        go_roundw
        case rel => exact ⟨k + 1, hlt, by go_num, ⟨(HW.out.1.alloc HW.out.1.size _).trans (H3.out.mono (by have := HW.out.1.size; simp; omega)), HK.out⟩⟩
        case measure => simp [intOf]; omega
    · obtain rfl : k = l.length := by omega
      have : B = true := by rw [← HB2.out]; have := HW.out.2; rwa [List.take_of_length_le (Nat.le_refl _)] at this
      subst this
      go_wp2
      go_ret
      exact ⟨rfl, HW.out.1⟩

/-- A program that lies in memory. -/
structure PgIn (w : World) (fa sa : Option Addr) (p : Pg) : Prop where
  fs : Strs w fa p.files
  sq : Sqs w sa p.seqs
  fl : p.files.length ≤ 140737488355328
  sl : p.seqs.length ≤ 140737488355328
  sh : Short p.seqs
theorem PgIn.bel {w w' : World} {fa sa : Option Addr} {p : Pg} (h : PgIn w fa sa p) (hb : Below w.heap.size w w') : PgIn w' fa sa p := ⟨h.fs.bel hb, h.sq.bel hb, h.fl, h.sl, h.sh⟩

theorem check_any (fa sa : Option Addr) (fc sc : Nat) (p : Pg) (w : World) (h : PgIn w fa sa p) :
    Calls Try.prog 12 #[.agg #[.slice fa p.files.length fc, .slice sa p.seqs.length sc]] w fun e w' => e = .returned (.int .i64 (checkE p)) ∧ Below w.heap.size w w' := by
  have HF : Hid (∀ W, Below w.heap.size w W → Calls Try.prog 27 #[.slice fa p.files.length fc] W fun e w' => e = .returned (.bool (filesB p.files)) ∧ w' = W) := ⟨fun W hW => areFiles_any fa fc p.files W (h.fs.bel hW) h.fl⟩
  have HQ : Hid (∀ W, Below w.heap.size w W → Calls Try.prog 28 #[.slice sa p.seqs.length sc, .int .i64 (p.files.length : Int)] W fun e w' => e = .returned (.bool (seqsB p.seqs (p.files.length : Int))) ∧ Below W.heap.size W w') := ⟨fun W hW => areSeqs_any sa sc p.seqs _ W (h.sq.bel hW) h.sl h.sh⟩
  obtain ⟨E, hE⟩ : ∃ E, checkE p = E := ⟨_, rfl⟩
  rw [hE]
  have HE : Hid (E = if (filesB p.files && seqsB p.seqs (p.files.length : Int)) then 0 else 150) := ⟨by rw [← hE]; rfl⟩
  clear hE h
  generalize filesB p.files = x1 at *
  generalize seqsB p.seqs (p.files.length : Int) = x2 at *
  cases x1
  · have : E = 150 := by rw [HE.out]; rfl
    subst this
    go_enter Try.func12, Try.ntmps12
    go_wp2_with (go_at_call 27; (with_reducible refine (HF.out _ ((Below.refl _ _).alloc (Nat.le_refl _) _)).mono ?_); rintro e wn ⟨he, hwn⟩; subst he; subst wn)
    go_ret
    exact ⟨rfl, (Below.refl _ _).alloc (Nat.le_refl _) _⟩
  cases x2
  · have : E = 150 := by rw [HE.out]; rfl
    subst this
    go_enter Try.func12, Try.ntmps12
    go_wp2_with (first
      | (go_at_call 27; (with_reducible refine (HF.out _ ((Below.refl _ _).alloc (Nat.le_refl _) _)).mono ?_); rintro e wn ⟨he, hwn⟩; subst he; subst wn)
      | (go_at_call 28; (with_reducible refine (HQ.out _ ((Below.refl _ _).alloc (Nat.le_refl _) _)).mono ?_); rintro e w3 ⟨he, hb3⟩; subst he; have H3 : Hid _ := ⟨hb3⟩; clear hb3))
    go_ret
    exact ⟨rfl, ((Below.refl _ _).alloc (Nat.le_refl _) _).trans (H3.out.mono (by simp))⟩
  · have : E = 0 := by rw [HE.out]; rfl
    subst this
    go_enter Try.func12, Try.ntmps12
    go_wp2_with (first
      | (go_at_call 27; (with_reducible refine (HF.out _ ((Below.refl _ _).alloc (Nat.le_refl _) _)).mono ?_); rintro e wn ⟨he, hwn⟩; subst he; subst wn)
      | (go_at_call 28; (with_reducible refine (HQ.out _ ((Below.refl _ _).alloc (Nat.le_refl _) _)).mono ?_); rintro e w3 ⟨he, hb3⟩; subst he; have H3 : Hid _ := ⟨hb3⟩; clear hb3))
    go_ret
    exact ⟨rfl, ((Below.refl _ _).alloc (Nat.le_refl _) _).trans (H3.out.mono (by simp))⟩
end Go.Proofs.Ytbhdledlahbokaa
