/- The law's step, by the kinds of calls: Map, Unmap, Protect, Store. -/
import Derived.Test.YtpfmnopokfiheaaLNum
import Derived.Deep.RegionHeld3
namespace Go.Proofs.Ytpfmnopokfiheaa
open Go.ChangeShapes Go.WideShapes Go.ChangeAt Go.RowKit Go.Maps
set_option linter.unusedVariables false
set_option linter.unusedSimpArgs false

set_option maxRecDepth 20000 in
set_option maxHeartbeats 4000000 in
theorem step_map (mb gb : Nat) (pl : Nat → Nat) (L : List Pz) (rb : Nat) (lv : Value) (pb : Nat → Nat) (a : Nat) (n may x : Int) (ao : Option Addr) (len cap : Nat) (w : World) (h : Pr w mb gb pl L rb lv pb L) (hL : L.length ≤ 1024) (ha : a < 18446744073709551616) (hn : -9223372036854775808 ≤ n ∧ n ≤ 9223372036854775807) :
    Calls Try.prog 9 #[.pointer (some ⟨mb, 0, none⟩), .pointer (some ⟨rb, 0, none⟩), opV 0 a n may x (.slice ao len cap)] w fun e w' => e = .returned (.bool true) ∧ SX w w' mb gb pl L rb lv pb := by
  have HS : Hid _ := ⟨st2_start h 0 a n may x (.slice ao len cap) 33⟩
  obtain ⟨E, hE⟩ : ∃ E, mapE L a n may = E := ⟨_, rfl⟩
  obtain ⟨L', hL'⟩ : ∃ L', mapL L a n may = L' := ⟨_, rfl⟩
  obtain ⟨S, hSS⟩ : ∃ S, PB mb gb pl L rb lv pb L = S := ⟨_, rfl⟩
  have hEE : (E == E) = true := by simp
  have HL : Hid (L'.length ≤ 1024) := ⟨by rw [← hL']; exact mapL_len hL⟩
  have HM : Hid (∀ B W, St2 w S W mb gb pl L rb lv pb L B 0 a n may x (.slice ao len cap) → Calls Try.prog 25 #[.pointer (some ⟨mb, 0, none⟩), .int .u64 (a : Int), .int .i64 n, .int .i64 may] W fun e w' => e = .returned (.int .i64 E) ∧ ∃ pl', St2 w S w' mb gb pl' L' rb lv pb L B 0 a n may x (.slice ao len cap)) := ⟨fun B W hs => by
    refine (map_ok mb gb a pl L n may W hs.pr.m ha hn hL).mono ?_
    rintro e w' ⟨rfl, hx⟩
    rw [hE, hL'] at *
    exact ⟨rfl, hs.nx hx⟩⟩
  have HR : Hid (∀ B W pl', St2 w S W mb gb pl' L' rb lv pb L B 0 a n may x (.slice ao len cap) → Calls Try.prog 29 #[.pointer (some ⟨rb, 0, none⟩), .int .u64 (a : Int), .int .i64 n, .int .i64 may] W fun e w' => e = .returned (.int .i64 E) ∧ ∃ lv' pb', St2 w S w' mb gb pl' L' rb lv' pb' L' B 0 a n may x (.slice ao len cap)) := ⟨fun B W pl' hs => by
    refine (rmap_any rb a lv pb L n may W hs.pr.r ha hn hL).mono ?_
    rintro e w' ⟨rfl, hx⟩
    rw [hE, hL'] at *
    exact ⟨rfl, hs.rx hx⟩⟩
  rw [hSS] at HS
  clear h hL ha hn hE hL'
  unfold opV
  go_enter Try.func9, Try.ntmps9
  go_upto_region 3 with (fail)
  obtain ⟨B, hB⟩ : ∃ B, w.heap.size = B := ⟨_, rfl⟩
  generalize hW : w.alloc (.cells #[.int .i64 0, .int .u64 (a : Int), .int .i64 n, .int .i64 may, .int .u64 x, .slice ao len cap] 33) = W at *
  rw [hB] at HS ⊢
  clear hB hW
  have HD : Hid _ := ⟨HS.out.bel (Below.refl _ _).drew⟩
  have c1 := HS.out.op.c1
  have c2 := HS.out.op.c2
  have c3 := HS.out.op.c3
  have d1 : W.drew.cell? ⟨B, 1, none⟩ = _ := c1
  have d2 : W.drew.cell? ⟨B, 2, none⟩ = _ := c2
  have d3 : W.drew.cell? ⟨B, 3, none⟩ = _ := c3
  go_region_held3 (fun v => v.cell? ⟨B, 1, none⟩ = some (.int .u64 (a : Int)) ∧ v.cell? ⟨B, 2, none⟩ = some (.int .i64 n) ∧ v.cell? ⟨B, 3, none⟩ = some (.int .i64 may))
    ((refine ⟨?_, ?_, ?_⟩) <;> (with_reducible assumption))
    (first
      | (go_at_call 25; (with_reducible refine (HM.out _ _ HD.out).mono ?_); rintro e w1 ⟨he, pl', h1⟩; subst he; have HS1 : Hid _ := ⟨h1⟩; have x1 := h1.op.c1; have x2 := h1.op.c2; have x3 := h1.op.c3; clear h1)
      | (go_at_call 29; (with_reducible refine (HR.out _ _ _ HS1.out).mono ?_); rintro e w2 ⟨he, lv', pb', h2⟩; subst he; have HS2 : Hid _ := ⟨h2⟩; have y1 := h2.op.c1; have y2 := h2.op.c2; have y3 := h2.op.c3; clear h2)
      | (go_at_call 18; (with_reducible refine (num_any _ _).mono ?_); rintro e wn ⟨he, hwn⟩; subst he; subst wn))
  all_goals
    go_wp2
    go_ret
    exact ⟨rfl, by subst hSS; exact HS2.out.sx HL.out⟩

set_option maxRecDepth 20000 in
set_option maxHeartbeats 4000000 in
theorem step_unmap (mb gb : Nat) (pl : Nat → Nat) (L : List Pz) (rb : Nat) (lv : Value) (pb : Nat → Nat) (a : Nat) (n may x : Int) (ao : Option Addr) (len cap : Nat) (w : World) (h : Pr w mb gb pl L rb lv pb L) (hL : L.length ≤ 1024) (ha : a < 18446744073709551616) (hn : -9223372036854775808 ≤ n ∧ n ≤ 9223372036854775807) :
    Calls Try.prog 9 #[.pointer (some ⟨mb, 0, none⟩), .pointer (some ⟨rb, 0, none⟩), opV 1 a n may x (.slice ao len cap)] w fun e w' => e = .returned (.bool true) ∧ SX w w' mb gb pl L rb lv pb := by
  have HS : Hid _ := ⟨st2_start h 1 a n may x (.slice ao len cap) 33⟩
  obtain ⟨E, hE⟩ : ∃ E, thrE L a n 0 = E := ⟨_, rfl⟩
  obtain ⟨L', hL'⟩ : ∃ L', unmL L a n = L' := ⟨_, rfl⟩
  obtain ⟨S, hSS⟩ : ∃ S, PB mb gb pl L rb lv pb L = S := ⟨_, rfl⟩
  have hEE : (E == E) = true := by simp
  have HL : Hid (L'.length ≤ 1024) := ⟨by rw [← hL']; exact unmL_len hL⟩
  have HM : Hid (∀ B W, St2 w S W mb gb pl L rb lv pb L B 1 a n may x (.slice ao len cap) → Calls Try.prog 26 #[.pointer (some ⟨mb, 0, none⟩), .int .u64 (a : Int), .int .i64 n] W fun e w' => e = .returned (.int .i64 E) ∧ ∃ pl', St2 w S w' mb gb pl' L' rb lv pb L B 1 a n may x (.slice ao len cap)) := ⟨fun B W hs => by
    refine (unmap_ok mb gb a pl L n W hs.pr.m ha hn (by omega)).mono ?_
    rintro e w' ⟨rfl, hx⟩
    rw [hE, hL'] at *
    exact ⟨rfl, hs.nx hx⟩⟩
  have HR : Hid (∀ B W pl', St2 w S W mb gb pl' L' rb lv pb L B 1 a n may x (.slice ao len cap) → Calls Try.prog 30 #[.pointer (some ⟨rb, 0, none⟩), .int .u64 (a : Int), .int .i64 n] W fun e w' => e = .returned (.int .i64 E) ∧ ∃ lv' pb', St2 w S w' mb gb pl' L' rb lv' pb' L' B 1 a n may x (.slice ao len cap)) := ⟨fun B W pl' hs => by
    refine (runmap_any rb a lv pb L n W hs.pr.r ha hn hL).mono ?_
    rintro e w' ⟨rfl, hx⟩
    rw [hE, hL'] at *
    exact ⟨rfl, hs.rx hx⟩⟩
  rw [hSS] at HS
  clear h hL ha hn hE hL'
  unfold opV
  go_enter Try.func9, Try.ntmps9
  go_upto_region 5 with (fail)
  obtain ⟨B, hB⟩ : ∃ B, w.heap.size = B := ⟨_, rfl⟩
  generalize hW : w.alloc (.cells #[.int .i64 1, .int .u64 (a : Int), .int .i64 n, .int .i64 may, .int .u64 x, .slice ao len cap] 33) = W at *
  rw [hB] at HS ⊢
  clear hB hW
  have HD : Hid _ := ⟨HS.out.bel (Below.refl _ _).drew⟩
  have c1 := HS.out.op.c1
  have c2 := HS.out.op.c2
  have c3 := HS.out.op.c3
  have d1 : W.drew.cell? ⟨B, 1, none⟩ = _ := c1
  have d2 : W.drew.cell? ⟨B, 2, none⟩ = _ := c2
  have d3 : W.drew.cell? ⟨B, 3, none⟩ = _ := c3
  go_region_held3 (fun v => v.cell? ⟨B, 1, none⟩ = some (.int .u64 (a : Int)) ∧ v.cell? ⟨B, 2, none⟩ = some (.int .i64 n) ∧ v.cell? ⟨B, 3, none⟩ = some (.int .i64 may))
    ((refine ⟨?_, ?_, ?_⟩) <;> (with_reducible assumption))
    (first
      | (go_at_call 26; (with_reducible refine (HM.out _ _ HD.out).mono ?_); rintro e w1 ⟨he, pl', h1⟩; subst he; have HS1 : Hid _ := ⟨h1⟩; have x1 := h1.op.c1; have x2 := h1.op.c2; have x3 := h1.op.c3; clear h1)
      | (go_at_call 30; (with_reducible refine (HR.out _ _ _ HS1.out).mono ?_); rintro e w2 ⟨he, lv', pb', h2⟩; subst he; have HS2 : Hid _ := ⟨h2⟩; have y1 := h2.op.c1; have y2 := h2.op.c2; have y3 := h2.op.c3; clear h2)
      | (go_at_call 18; (with_reducible refine (num_any _ _).mono ?_); rintro e wn ⟨he, hwn⟩; subst he; subst wn))
  all_goals
    go_wp2
    go_ret
    exact ⟨rfl, by subst hSS; exact HS2.out.sx HL.out⟩

set_option maxRecDepth 20000 in
set_option maxHeartbeats 4000000 in
theorem step_protect (mb gb : Nat) (pl : Nat → Nat) (L : List Pz) (rb : Nat) (lv : Value) (pb : Nat → Nat) (a : Nat) (n may x : Int) (ao : Option Addr) (len cap : Nat) (w : World) (h : Pr w mb gb pl L rb lv pb L) (hL : L.length ≤ 1024) (ha : a < 18446744073709551616) (hn : -9223372036854775808 ≤ n ∧ n ≤ 9223372036854775807) :
    Calls Try.prog 9 #[.pointer (some ⟨mb, 0, none⟩), .pointer (some ⟨rb, 0, none⟩), opV 2 a n may x (.slice ao len cap)] w fun e w' => e = .returned (.bool true) ∧ SX w w' mb gb pl L rb lv pb := by
  have HS : Hid _ := ⟨st2_start h 2 a n may x (.slice ao len cap) 33⟩
  obtain ⟨E, hE⟩ : ∃ E, thrE L a n may = E := ⟨_, rfl⟩
  obtain ⟨L', hL'⟩ : ∃ L', proL L a n may = L' := ⟨_, rfl⟩
  obtain ⟨S, hSS⟩ : ∃ S, PB mb gb pl L rb lv pb L = S := ⟨_, rfl⟩
  have hEE : (E == E) = true := by simp
  have HL : Hid (L'.length ≤ 1024) := ⟨by rw [← hL']; exact by rw [k_len (proL_k L a n may)]; exact hL⟩
  have HM : Hid (∀ B W, St2 w S W mb gb pl L rb lv pb L B 2 a n may x (.slice ao len cap) → Calls Try.prog 27 #[.pointer (some ⟨mb, 0, none⟩), .int .u64 (a : Int), .int .i64 n, .int .i64 may] W fun e w' => e = .returned (.int .i64 E) ∧ ∃ pl', St2 w S w' mb gb pl' L' rb lv pb L B 2 a n may x (.slice ao len cap)) := ⟨fun B W hs => by
    refine (protect_ok mb gb a pl L n may W hs.pr.m ha hn (by omega)).mono ?_
    rintro e w' ⟨rfl, hm, ht⟩
    have hx := nx_k (proL_k L a n may) hm ht
    rw [hE, hL'] at *
    exact ⟨rfl, hs.nx hx⟩⟩
  have HR : Hid (∀ B W pl', St2 w S W mb gb pl' L' rb lv pb L B 2 a n may x (.slice ao len cap) → Calls Try.prog 31 #[.pointer (some ⟨rb, 0, none⟩), .int .u64 (a : Int), .int .i64 n, .int .i64 may] W fun e w' => e = .returned (.int .i64 E) ∧ ∃ lv' pb', St2 w S w' mb gb pl' L' rb lv' pb' L' B 2 a n may x (.slice ao len cap)) := ⟨fun B W pl' hs => by
    refine (rprotect_any rb a lv pb L n may W hs.pr.r ha hn (by omega)).mono ?_
    rintro e w' ⟨rfl, hm, ht⟩
    have hx := rx_k (proL_k L a n may) hm ht
    rw [hE, hL'] at *
    exact ⟨rfl, hs.rx hx⟩⟩
  rw [hSS] at HS
  clear h hL ha hn hE hL'
  unfold opV
  go_enter Try.func9, Try.ntmps9
  go_upto_region 7 with (fail)
  obtain ⟨B, hB⟩ : ∃ B, w.heap.size = B := ⟨_, rfl⟩
  generalize hW : w.alloc (.cells #[.int .i64 2, .int .u64 (a : Int), .int .i64 n, .int .i64 may, .int .u64 x, .slice ao len cap] 33) = W at *
  rw [hB] at HS ⊢
  clear hB hW
  have HD : Hid _ := ⟨HS.out.bel (Below.refl _ _).drew⟩
  have c1 := HS.out.op.c1
  have c2 := HS.out.op.c2
  have c3 := HS.out.op.c3
  have d1 : W.drew.cell? ⟨B, 1, none⟩ = _ := c1
  have d2 : W.drew.cell? ⟨B, 2, none⟩ = _ := c2
  have d3 : W.drew.cell? ⟨B, 3, none⟩ = _ := c3
  go_region_held3 (fun v => v.cell? ⟨B, 1, none⟩ = some (.int .u64 (a : Int)) ∧ v.cell? ⟨B, 2, none⟩ = some (.int .i64 n) ∧ v.cell? ⟨B, 3, none⟩ = some (.int .i64 may))
    ((refine ⟨?_, ?_, ?_⟩) <;> (with_reducible assumption))
    (first
      | (go_at_call 27; (with_reducible refine (HM.out _ _ HD.out).mono ?_); rintro e w1 ⟨he, pl', h1⟩; subst he; have HS1 : Hid _ := ⟨h1⟩; have x1 := h1.op.c1; have x2 := h1.op.c2; have x3 := h1.op.c3; clear h1)
      | (go_at_call 31; (with_reducible refine (HR.out _ _ _ HS1.out).mono ?_); rintro e w2 ⟨he, lv', pb', h2⟩; subst he; have HS2 : Hid _ := ⟨h2⟩; have y1 := h2.op.c1; have y2 := h2.op.c2; have y3 := h2.op.c3; clear h2)
      | (go_at_call 18; (with_reducible refine (num_any _ _).mono ?_); rintro e wn ⟨he, hwn⟩; subst he; subst wn))
  all_goals
    go_wp2
    go_ret
    exact ⟨rfl, by subst hSS; exact HS2.out.sx HL.out⟩

set_option maxRecDepth 20000 in
set_option maxHeartbeats 4000000 in
theorem step_store (mb gb : Nat) (pl : Nat → Nat) (L : List Pz) (rb : Nat) (lv : Value) (pb : Nat → Nat) (a : Nat) (n may x : Int) (ao : Option Addr) (len cap : Nat) (w : World) (h : Pr w mb gb pl L rb lv pb L) (hL : L.length ≤ 1024) (ha : a < 18446744073709551616) (hn : -9223372036854775808 ≤ n ∧ n ≤ 9223372036854775807) (hx0 : 0 ≤ x ∧ x < 18446744073709551616) :
    Calls Try.prog 9 #[.pointer (some ⟨mb, 0, none⟩), .pointer (some ⟨rb, 0, none⟩), opV 7 a n may x (.slice ao len cap)] w fun e w' => e = .returned (.bool true) ∧ SX w w' mb gb pl L rb lv pb := by
  have HS : Hid _ := ⟨st2_start h 7 a n may x (.slice ao len cap) 33⟩
  obtain ⟨E, hE⟩ : ∃ E, stoE L a n = E := ⟨_, rfl⟩
  obtain ⟨L', hL'⟩ : ∃ L', stoL L a n x = L' := ⟨_, rfl⟩
  obtain ⟨S, hSS⟩ : ∃ S, PB mb gb pl L rb lv pb L = S := ⟨_, rfl⟩
  have hEE : (E == E) = true := by simp
  have HL : Hid (L'.length ≤ 1024) := ⟨by rw [← hL']; exact by rw [k_len (stoL_k L a n x)]; exact hL⟩
  have HM : Hid (∀ B W, St2 w S W mb gb pl L rb lv pb L B 7 a n may x (.slice ao len cap) → Calls Try.prog 21 #[.pointer (some ⟨mb, 0, none⟩), .int .u64 (a : Int), .int .i64 n, .int .u64 x] W fun e w' => e = .returned (.int .i64 E) ∧ ∃ pl', St2 w S w' mb gb pl' L' rb lv pb L B 7 a n may x (.slice ao len cap)) := ⟨fun B W hs => by
    refine (mstore_nx mb gb a pl L n x W hs.pr.m ha).mono ?_
    rintro e w' ⟨rfl, hx⟩
    rw [hE, hL'] at *
    exact ⟨rfl, hs.nx hx⟩⟩
  have HR : Hid (∀ B W pl', St2 w S W mb gb pl' L' rb lv pb L B 7 a n may x (.slice ao len cap) → Calls Try.prog 34 #[.pointer (some ⟨rb, 0, none⟩), .int .u64 (a : Int), .int .i64 n, .int .u64 x] W fun e w' => e = .returned (.int .i64 E) ∧ ∃ lv' pb', St2 w S w' mb gb pl' L' rb lv' pb' L' B 7 a n may x (.slice ao len cap)) := ⟨fun B W pl' hs => by
    refine (rstore_rx rb a lv pb L n x W hs.pr.r ha (by omega) hx0).mono ?_
    rintro e w' ⟨rfl, hx⟩
    rw [hE, hL'] at *
    exact ⟨rfl, hs.rx hx⟩⟩
  rw [hSS] at HS
  clear h hL ha hn hx0 hE hL'
  unfold opV
  go_enter Try.func9, Try.ntmps9
  go_upto_region 16 with (fail)
  obtain ⟨B, hB⟩ : ∃ B, w.heap.size = B := ⟨_, rfl⟩
  generalize hW : w.alloc (.cells #[.int .i64 7, .int .u64 (a : Int), .int .i64 n, .int .i64 may, .int .u64 x, .slice ao len cap] 33) = W at *
  rw [hB] at HS ⊢
  clear hB hW
  have HD : Hid _ := ⟨HS.out.bel (Below.refl _ _).drew⟩
  have c1 := HS.out.op.c1
  have c2 := HS.out.op.c2
  have c3 := HS.out.op.c4
  have d1 : W.drew.cell? ⟨B, 1, none⟩ = _ := c1
  have d2 : W.drew.cell? ⟨B, 2, none⟩ = _ := c2
  have d3 : W.drew.cell? ⟨B, 4, none⟩ = _ := c3
  go_region_held3 (fun v => v.cell? ⟨B, 1, none⟩ = some (.int .u64 (a : Int)) ∧ v.cell? ⟨B, 2, none⟩ = some (.int .i64 n) ∧ v.cell? ⟨B, 4, none⟩ = some (.int .u64 x))
    ((refine ⟨?_, ?_, ?_⟩) <;> (with_reducible assumption))
    (first
      | (go_at_call 21; (with_reducible refine (HM.out _ _ HD.out).mono ?_); rintro e w1 ⟨he, pl', h1⟩; subst he; have HS1 : Hid _ := ⟨h1⟩; have x1 := h1.op.c1; have x2 := h1.op.c2; have x3 := h1.op.c4; clear h1)
      | (go_at_call 34; (with_reducible refine (HR.out _ _ _ HS1.out).mono ?_); rintro e w2 ⟨he, lv', pb', h2⟩; subst he; have HS2 : Hid _ := ⟨h2⟩; have y1 := h2.op.c1; have y2 := h2.op.c2; have y3 := h2.op.c4; clear h2)
      | (go_at_call 18; (with_reducible refine (num_any _ _).mono ?_); rintro e wn ⟨he, hwn⟩; subst he; subst wn))
  all_goals
    go_wp2
    go_ret
    exact ⟨rfl, by subst hSS; exact HS2.out.sx HL.out⟩
end Go.Proofs.Ytpfmnopokfiheaa
