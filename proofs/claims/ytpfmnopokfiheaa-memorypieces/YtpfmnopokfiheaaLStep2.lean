/- The law's step, by the kinds of calls: Load, Read, Fetch, Put, Write. -/
import Derived.Test.YtpfmnopokfiheaaLStep
import Derived.Test.YtpfmnopokfiheaaLGive
namespace Go.Proofs.Ytpfmnopokfiheaa
open Go.ChangeShapes Go.WideShapes Go.ChangeAt Go.RowKit Go.Maps
set_option linter.unusedVariables false
set_option linter.unusedSimpArgs false

theorem SX.same {w w' : World} {mb gb : Nat} {pl : Nat → Nat} {L : List Pz} {rb : Nat} {lv : Value} {pb : Nat → Nat} (h : Pr w mb gb pl L rb lv pb L) (hL : L.length ≤ 1024) (hb : Below w.heap.size w w') : SX w w' mb gb pl L rb lv pb :=
  ⟨pl, lv, pb, L, h.below hb, hL, Turn.of_below hb _, fun _ h => .inl h⟩

set_option maxRecDepth 20000 in
set_option maxHeartbeats 4000000 in
theorem step_load (mb gb : Nat) (pl : Nat → Nat) (L : List Pz) (rb : Nat) (lv : Value) (pb : Nat → Nat) (a : Nat) (n may x : Int) (ao : Option Addr) (len cap : Nat) (w : World) (h : Pr w mb gb pl L rb lv pb L) (hL : L.length ≤ 1024) (ha : a < 18446744073709551616) :
    Calls Try.prog 9 #[.pointer (some ⟨mb, 0, none⟩), .pointer (some ⟨rb, 0, none⟩), opV 6 a n may x (.slice ao len cap)] w fun e w' => e = .returned (.bool true) ∧ SX w w' mb gb pl L rb lv pb := by
  have HS : Hid _ := ⟨st2_start h 6 a n may x (.slice ao len cap) 33⟩
  obtain ⟨E, hE⟩ : ∃ E, loE L a n = E := ⟨_, rfl⟩
  obtain ⟨V, hV⟩ : ∃ V, loV L a n = V := ⟨_, rfl⟩
  have hEE : (E == E) = true := by simp
  have hVV : (V == V) = true := by simp
  obtain ⟨S, hSS⟩ : ∃ S, PB mb gb pl L rb lv pb L = S := ⟨_, rfl⟩
  have HL : Hid (L.length ≤ 1024) := ⟨hL⟩
  have HM : Hid (∀ B W, St2 w S W mb gb pl L rb lv pb L B 6 a n may x (.slice ao len cap) → Calls Try.prog 23 #[.pointer (some ⟨mb, 0, none⟩), .int .u64 (a : Int), .int .i64 n] W fun e w' => e = .returned (.tuple #[.int .u64 V, .int .i64 E]) ∧ St2 w S w' mb gb pl L rb lv pb L B 6 a n may x (.slice ao len cap)) := ⟨fun B W hs => by
    rw [← hE, ← hV]
    refine (mload_be mb gb a pl L n W hs.pr.m ha).mono ?_
    rintro e w' ⟨rfl, hb⟩
    exact ⟨rfl, hs.bel hb⟩⟩
  have HR : Hid (∀ B W, St2 w S W mb gb pl L rb lv pb L B 6 a n may x (.slice ao len cap) → Calls Try.prog 33 #[.pointer (some ⟨rb, 0, none⟩), .int .u64 (a : Int), .int .i64 n] W fun e w' => e = .returned (.tuple #[.int .u64 V, .int .i64 E]) ∧ St2 w S w' mb gb pl L rb lv pb L B 6 a n may x (.slice ao len cap)) := ⟨fun B W hs => by
    rw [← hE, ← hV]
    refine (rload_be rb a lv pb L n W hs.pr.r ha (by omega)).mono ?_
    rintro e w' ⟨rfl, hb⟩
    exact ⟨rfl, hs.bel hb⟩⟩
  rw [hSS] at HS
  clear h hL ha hE hV
  unfold opV
  go_enter Try.func9, Try.ntmps9
  go_upto_region 12 with (fail)
  obtain ⟨B, hB⟩ : ∃ B, w.heap.size = B := ⟨_, rfl⟩
  generalize hW : w.alloc (.cells #[.int .i64 6, .int .u64 (a : Int), .int .i64 n, .int .i64 may, .int .u64 x, .slice ao len cap] 33) = W at *
  rw [hB] at HS ⊢
  clear hB hW
  have c1 := HS.out.op.c1
  have c2 := HS.out.op.c2
  go_wp2_with (first
    | (go_at_call 23; (with_reducible refine (HM.out _ _ HS.out).mono ?_); rintro e w1 ⟨he, h1⟩; subst he; have HS1 : Hid _ := ⟨h1⟩; have x1 := h1.op.c1; have x2 := h1.op.c2; clear h1)
    | (go_at_call 33; (with_reducible refine (HR.out _ _ HS1.out).mono ?_); rintro e w2 ⟨he, h2⟩; subst he; have HS2 : Hid _ := ⟨h2⟩; clear h2)
    | (go_at_call 18; (with_reducible refine (num_any _ _).mono ?_); rintro e wn ⟨he, hwn⟩; subst he; subst wn))
  go_ret
  exact ⟨rfl, by subst hSS; exact HS2.out.sx HL.out⟩

set_option maxRecDepth 20000 in
set_option maxHeartbeats 4000000 in
theorem step_read (mb gb : Nat) (pl : Nat → Nat) (L : List Pz) (rb : Nat) (lv : Value) (pb : Nat → Nat) (a : Nat) (n may x : Int) (ao : Option Addr) (len cap : Nat) (w : World) (h : Pr w mb gb pl L rb lv pb L) (hL : L.length ≤ 1024) (ha : a < 18446744073709551616) :
    Calls Try.prog 9 #[.pointer (some ⟨mb, 0, none⟩), .pointer (some ⟨rb, 0, none⟩), opV 3 a n may x (.slice ao len cap)] w fun e w' => e = .returned (.bool true) ∧ SX w w' mb gb pl L rb lv pb := by
  have HS : Hid _ := ⟨st2_start h 3 a n may x (.slice ao len cap) 33⟩
  obtain ⟨S, hSS⟩ : ∃ S, PB mb gb pl L rb lv pb L = S := ⟨_, rfl⟩
  have HL : Hid (L.length ≤ 1024) := ⟨hL⟩
  have HM : Hid (∀ B W, St2 w S W mb gb pl L rb lv pb L B 3 a n may x (.slice ao len cap) → Calls Try.prog 32 #[.pointer (some ⟨mb, 0, none⟩), .pointer (some ⟨rb, 0, none⟩), .agg #[.int .i64 3, .int .u64 (a : Int), .int .i64 n, .int .i64 may, .int .u64 x, .slice ao len cap]] W fun e w' => e = .returned (.bool true) ∧ St2 w S w' mb gb pl L rb lv pb L B 3 a n may x (.slice ao len cap)) := ⟨fun B W hs => by
    refine (reads_read mb gb pl L rb lv pb a n may x ao len cap W hs.pr hL ha).mono ?_
    rintro e w' ⟨rfl, hb⟩
    exact ⟨rfl, hs.bel hb⟩⟩
  rw [hSS] at HS
  clear h hL ha
  unfold opV
  go_enter Try.func9, Try.ntmps9
  go_upto_region 10 with (fail)
  obtain ⟨B, hB⟩ : ∃ B, w.heap.size = B := ⟨_, rfl⟩
  generalize hW : w.alloc (.cells #[.int .i64 3, .int .u64 (a : Int), .int .i64 n, .int .i64 may, .int .u64 x, .slice ao len cap] 33) = W at *
  rw [hB] at HS ⊢
  clear hB hW
  obtain ⟨c0, c1, c2, c3, c4, c5⟩ := HS.out.op
  go_wp2_with (first
    | (go_at_call 32; (with_reducible refine (HM.out _ _ HS.out).mono ?_); rintro e w1 ⟨he, h1⟩; subst he; have HS1 : Hid _ := ⟨h1⟩; clear h1))
  go_ret
  exact ⟨rfl, by subst hSS; exact HS1.out.sx HL.out⟩

set_option maxRecDepth 20000 in
set_option maxHeartbeats 4000000 in
theorem step_fetch (mb gb : Nat) (pl : Nat → Nat) (L : List Pz) (rb : Nat) (lv : Value) (pb : Nat → Nat) (a : Nat) (n may x : Int) (ao : Option Addr) (len cap : Nat) (w : World) (h : Pr w mb gb pl L rb lv pb L) (hL : L.length ≤ 1024) (ha : a < 18446744073709551616) :
    Calls Try.prog 9 #[.pointer (some ⟨mb, 0, none⟩), .pointer (some ⟨rb, 0, none⟩), opV 5 a n may x (.slice ao len cap)] w fun e w' => e = .returned (.bool true) ∧ SX w w' mb gb pl L rb lv pb := by
  have HS : Hid _ := ⟨st2_start h 5 a n may x (.slice ao len cap) 33⟩
  obtain ⟨S, hSS⟩ : ∃ S, PB mb gb pl L rb lv pb L = S := ⟨_, rfl⟩
  have HL : Hid (L.length ≤ 1024) := ⟨hL⟩
  have HM : Hid (∀ B W, St2 w S W mb gb pl L rb lv pb L B 5 a n may x (.slice ao len cap) → Calls Try.prog 32 #[.pointer (some ⟨mb, 0, none⟩), .pointer (some ⟨rb, 0, none⟩), .agg #[.int .i64 5, .int .u64 (a : Int), .int .i64 n, .int .i64 may, .int .u64 x, .slice ao len cap]] W fun e w' => e = .returned (.bool true) ∧ St2 w S w' mb gb pl L rb lv pb L B 5 a n may x (.slice ao len cap)) := ⟨fun B W hs => by
    refine (reads_fetch mb gb pl L rb lv pb a n may x ao len cap W hs.pr hL ha).mono ?_
    rintro e w' ⟨rfl, hb⟩
    exact ⟨rfl, hs.bel hb⟩⟩
  rw [hSS] at HS
  clear h hL ha
  unfold opV
  go_enter Try.func9, Try.ntmps9
  go_upto_region 10 with (fail)
  obtain ⟨B, hB⟩ : ∃ B, w.heap.size = B := ⟨_, rfl⟩
  generalize hW : w.alloc (.cells #[.int .i64 5, .int .u64 (a : Int), .int .i64 n, .int .i64 may, .int .u64 x, .slice ao len cap] 33) = W at *
  rw [hB] at HS ⊢
  clear hB hW
  obtain ⟨c0, c1, c2, c3, c4, c5⟩ := HS.out.op
  go_wp2_with (first
    | (go_at_call 32; (with_reducible refine (HM.out _ _ HS.out).mono ?_); rintro e w1 ⟨he, h1⟩; subst he; have HS1 : Hid _ := ⟨h1⟩; clear h1))
  go_ret
  exact ⟨rfl, by subst hSS; exact HS1.out.sx HL.out⟩
end Go.Proofs.Ytpfmnopokfiheaa
