/- The law's reads: what both Memories answer to Read and to Fetch is the same. -/
import Derived.Test.YtpfmnopokfiheaaLPair
namespace Go.Proofs.Ytpfmnopokfiheaa
open Go.ChangeShapes Go.WideShapes Go.ChangeAt Go.RowKit Go.Maps
set_option linter.unusedVariables false
set_option linter.unusedSimpArgs false

theorem rdX_in {L : List Pz} (h : Mz L) (a : Nat) (n : Int) : (∀ y ∈ rdX L a n, 0 ≤ y ∧ y < 256) ∧ (rdX L a n).length ≤ 1048576 := by
  unfold rdX
  split
  · exact ⟨fun y hy => (by cases hy), by simp⟩
  · split
    · refine ⟨rdB_byte h _ _ _, ?_⟩
      rw [rdB_len h]
      have := pcs_sum (L := L) (may := 4) (n.toNat + 1) (a / 4096) (a % 4096) n.toNat
      unfold pcsA
      omega
    · exact ⟨fun y hy => (by cases hy), by simp⟩
theorem ftX_in {L : List Pz} (h : Mz L) (a : Nat) (n : Int) : (∀ y ∈ ftX L a n, 0 ≤ y ∧ y < 256) ∧ (ftX L a n).length ≤ 1048576 := by
  unfold ftX
  split
  · exact ⟨fun y hy => (by cases hy), by simp⟩
  · refine ⟨rdB_byte h _ _ _, ?_⟩
    rw [rdB_len h]
    have := pcs_sum (L := L) (may := 1) (n.toNat + 1) (a / 4096) (a % 4096) n.toNat
    unfold pcsA
    omega
theorem Own.bel {w w' : World} {base : Nat} {v : Value} {xs : List Int} (h : Own w base v xs) (hb : Below w.heap.size w w') : Own w' base v xs := (Turn.of_below hb (fun _ => False)).row h (fun _ _ h => h)

set_option maxRecDepth 20000 in
set_option maxHeartbeats 4000000 in
theorem reads_read (mb gb : Nat) (pl : Nat → Nat) (L : List Pz) (rb : Nat) (lv : Value) (pb : Nat → Nat) (a : Nat) (n may x : Int) (ao : Option Addr) (len cap : Nat) (w : World) (h : Pr w mb gb pl L rb lv pb L) (hL : L.length ≤ 1024) (ha : a < 18446744073709551616) :
    Calls Try.prog 32 #[.pointer (some ⟨mb, 0, none⟩), .pointer (some ⟨rb, 0, none⟩), opV 3 a n may x (.slice ao len cap)] w fun e w' => e = .returned (.bool true) ∧ Below w.heap.size w w' := by
  obtain ⟨xs, hxs⟩ : ∃ xs, rdX L a n = xs := ⟨_, rfl⟩
  obtain ⟨E, hE⟩ : ∃ E, rdE L a n = E := ⟨_, rfl⟩
  have hEE : (E == E) = true := by simp
  have HX : Hid ((∀ y ∈ xs, 0 ≤ y ∧ y < 256) ∧ xs.length ≤ 1048576) := ⟨by rw [← hxs]; exact rdX_in h.m.mz a n⟩
  obtain ⟨Y, hY⟩ : ∃ Y, strOfNums xs = Y := ⟨_, rfl⟩
  have hyy : (Y.toList == Y.toList) = true := by simp
  have HM : Hid (∀ W, Below w.heap.size w W → Calls Try.prog 20 #[.pointer (some ⟨mb, 0, none⟩), .int .u64 (a : Int), .int .i64 n] W fun e w' => BE xs E W e w') := ⟨fun W hb => by
    rw [← hxs, ← hE]
    exact mread_be mb gb a pl L n W (h.m.below hb) ha⟩
  have HR : Hid (∀ W, Below w.heap.size w W → Calls Try.prog 54 #[.pointer (some ⟨rb, 0, none⟩), .int .u64 (a : Int), .int .i64 n] W fun e w' => BE xs E W e w') := ⟨fun W hb => by
    rw [← hxs, ← hE]
    exact rread_be rb a lv pb L n W (h.r.below hb) ha (by omega)⟩
  have HW0 : Hid (Below w.heap.size w (w.alloc (.cells #[.int .i64 3, .int .u64 (a : Int), .int .i64 n, .int .i64 may, .int .u64 x, .slice ao len cap] 33))) := ⟨(Below.refl _ _).alloc (Nat.le_refl _) _⟩
  have HO0 : Hid (OpC (w.alloc (.cells #[.int .i64 3, .int .u64 (a : Int), .int .i64 n, .int .i64 may, .int .u64 x, .slice ao len cap] 33)) w.heap.size 3 a n may x (.slice ao len cap)) := ⟨⟨by simp, by simp, by simp, by simp, by simp, by simp⟩⟩
  have HLt : Hid (w.heap.size < (w.alloc (.cells #[.int .i64 3, .int .u64 (a : Int), .int .i64 n, .int .i64 may, .int .u64 x, .slice ao len cap] 33)).heap.size) := ⟨by simp⟩
  clear h hL ha hxs hE
  unfold opV
  go_enter Try.func32, Try.ntmps32
  go_upto_region 6 with (fail)
  obtain ⟨B, hB⟩ : ∃ B, w.heap.size = B := ⟨_, rfl⟩
  generalize w.alloc (.cells #[.int .i64 3, .int .u64 (a : Int), .int .i64 n, .int .i64 may, .int .u64 x, .slice ao len cap] 33) = W at *
  have HB : Hid (w.heap.size = B) := ⟨hB⟩
  rw [hB] at HO0 HLt ⊢
  clear hB
  have c1 := HO0.out.c1
  have c2 := HO0.out.c2
  go_upto_region 10 with (first
    | (go_at_call 20; (with_reducible refine (HM.out _ HW0.out).mono ?_); rintro e w1 ⟨v1, he, ho1, hb1⟩; subst he; have H1 : Hid (Own w1 W.heap.size v1 xs ∧ Below W.heap.size W w1 ∧ Below w.heap.size w w1) := ⟨ho1, hb1, HW0.out.trans (hb1.mono HW0.out.size)⟩; have O1 := HO0.out.bel HLt.out hb1; have x1 := O1.c1; have x2 := O1.c2; clear O1 ho1 hb1)
    | (go_at_call 54; (with_reducible refine (HR.out _ H1.out.2.2).mono ?_); rintro e w2 ⟨v2, he, ho2, hb2⟩; subst he; have H2 : Hid (Own w2 W.heap.size v1 xs ∧ Own w2 w1.heap.size v2 xs ∧ Below w.heap.size w w2) := ⟨H1.out.1.bel hb2, ho2, H1.out.2.2.trans (hb2.mono H1.out.2.2.size)⟩; clear ho2 hb2))
  obtain ⟨o1, o2, b2⟩ := H2.out
  have q1 := o1.conv
  have q2 := o2.conv
  rw [hY] at q1 q2
  obtain ⟨a1, g1, k1, hv1, hs1⟩ := o1.spoilt HX.out.1
  subst hv1
  have HSp : Hid (Calls Try.prog 37 #[.slice a1 xs.length k1] w2 fun e w' => e = .returned (.tuple #[]) ∧ Below w.heap.size w w') := ⟨by
    refine (spoil_any a1 xs.length k1 g1 w2 (by have := HX.out.2; omega) (hs1.imp id fun hh => ⟨hh.1, hh.2.1⟩)).mono ?_
    rintro e w' ⟨rfl, ht⟩
    refine ⟨rfl, b2.trans (ht.below b2.size ?_)⟩
    rintro j ⟨rfl, h0⟩
    rcases hs1 with hh | ⟨_, _, hh⟩
    · omega
    · have := HW0.out.size; omega⟩
  clear o1 o2 b2 hs1 H2 H1 HX
  generalize xs.length = nl at *
  go_wp2_with (first
    | (go_at_call 18; (with_reducible refine (num_any _ _).mono ?_); rintro e wn ⟨he, hwn⟩; subst he; subst wn)
    | (go_at_call 37; (with_reducible refine HSp.out.mono ?_); rintro e w3 ⟨he, hb3⟩; subst he))
  go_ret
  exact ⟨rfl, hb3⟩

set_option maxRecDepth 20000 in
set_option maxHeartbeats 4000000 in
theorem reads_fetch (mb gb : Nat) (pl : Nat → Nat) (L : List Pz) (rb : Nat) (lv : Value) (pb : Nat → Nat) (a : Nat) (n may x : Int) (ao : Option Addr) (len cap : Nat) (w : World) (h : Pr w mb gb pl L rb lv pb L) (hL : L.length ≤ 1024) (ha : a < 18446744073709551616) :
    Calls Try.prog 32 #[.pointer (some ⟨mb, 0, none⟩), .pointer (some ⟨rb, 0, none⟩), opV 5 a n may x (.slice ao len cap)] w fun e w' => e = .returned (.bool true) ∧ Below w.heap.size w w' := by
  obtain ⟨xs, hxs⟩ : ∃ xs, ftX L a n = xs := ⟨_, rfl⟩
  obtain ⟨E, hE⟩ : ∃ E, ftE L a n = E := ⟨_, rfl⟩
  have hEE : (E == E) = true := by simp
  have HX : Hid ((∀ y ∈ xs, 0 ≤ y ∧ y < 256) ∧ xs.length ≤ 1048576) := ⟨by rw [← hxs]; exact ftX_in h.m.mz a n⟩
  obtain ⟨Y, hY⟩ : ∃ Y, strOfNums xs = Y := ⟨_, rfl⟩
  have hyy : (Y.toList == Y.toList) = true := by simp
  have HM : Hid (∀ W, Below w.heap.size w W → Calls Try.prog 22 #[.pointer (some ⟨mb, 0, none⟩), .int .u64 (a : Int), .int .i64 n] W fun e w' => BE xs E W e w') := ⟨fun W hb => by
    rw [← hxs, ← hE]
    exact mfetch_be mb gb a pl L n W (h.m.below hb) ha⟩
  have HR : Hid (∀ W, Below w.heap.size w W → Calls Try.prog 55 #[.pointer (some ⟨rb, 0, none⟩), .int .u64 (a : Int), .int .i64 n] W fun e w' => BE xs E W e w') := ⟨fun W hb => by
    rw [← hxs, ← hE]
    exact rfetch_be rb a lv pb L n W (h.r.below hb) ha (by omega)⟩
  have HW0 : Hid (Below w.heap.size w (w.alloc (.cells #[.int .i64 5, .int .u64 (a : Int), .int .i64 n, .int .i64 may, .int .u64 x, .slice ao len cap] 33))) := ⟨(Below.refl _ _).alloc (Nat.le_refl _) _⟩
  have HO0 : Hid (OpC (w.alloc (.cells #[.int .i64 5, .int .u64 (a : Int), .int .i64 n, .int .i64 may, .int .u64 x, .slice ao len cap] 33)) w.heap.size 5 a n may x (.slice ao len cap)) := ⟨⟨by simp, by simp, by simp, by simp, by simp, by simp⟩⟩
  have HLt : Hid (w.heap.size < (w.alloc (.cells #[.int .i64 5, .int .u64 (a : Int), .int .i64 n, .int .i64 may, .int .u64 x, .slice ao len cap] 33)).heap.size) := ⟨by simp⟩
  clear h hL ha hxs hE
  unfold opV
  go_enter Try.func32, Try.ntmps32
  go_upto_region 8 with (fail)
  obtain ⟨B, hB⟩ : ∃ B, w.heap.size = B := ⟨_, rfl⟩
  generalize w.alloc (.cells #[.int .i64 5, .int .u64 (a : Int), .int .i64 n, .int .i64 may, .int .u64 x, .slice ao len cap] 33) = W at *
  have HB : Hid (w.heap.size = B) := ⟨hB⟩
  rw [hB] at HO0 HLt ⊢
  clear hB
  have c1 := HO0.out.c1
  have c2 := HO0.out.c2
  go_upto_region 10 with (first
    | (go_at_call 22; (with_reducible refine (HM.out _ HW0.out).mono ?_); rintro e w1 ⟨v1, he, ho1, hb1⟩; subst he; have H1 : Hid (Own w1 W.heap.size v1 xs ∧ Below W.heap.size W w1 ∧ Below w.heap.size w w1) := ⟨ho1, hb1, HW0.out.trans (hb1.mono HW0.out.size)⟩; have O1 := HO0.out.bel HLt.out hb1; have x1 := O1.c1; have x2 := O1.c2; clear O1 ho1 hb1)
    | (go_at_call 55; (with_reducible refine (HR.out _ H1.out.2.2).mono ?_); rintro e w2 ⟨v2, he, ho2, hb2⟩; subst he; have H2 : Hid (Own w2 W.heap.size v1 xs ∧ Own w2 w1.heap.size v2 xs ∧ Below w.heap.size w w2) := ⟨H1.out.1.bel hb2, ho2, H1.out.2.2.trans (hb2.mono H1.out.2.2.size)⟩; clear ho2 hb2))
  obtain ⟨o1, o2, b2⟩ := H2.out
  have q1 := o1.conv
  have q2 := o2.conv
  rw [hY] at q1 q2
  obtain ⟨a1, g1, k1, hv1, hs1⟩ := o1.spoilt HX.out.1
  subst hv1
  have HSp : Hid (Calls Try.prog 37 #[.slice a1 xs.length k1] w2 fun e w' => e = .returned (.tuple #[]) ∧ Below w.heap.size w w') := ⟨by
    refine (spoil_any a1 xs.length k1 g1 w2 (by have := HX.out.2; omega) (hs1.imp id fun hh => ⟨hh.1, hh.2.1⟩)).mono ?_
    rintro e w' ⟨rfl, ht⟩
    refine ⟨rfl, b2.trans (ht.below b2.size ?_)⟩
    rintro j ⟨rfl, h0⟩
    rcases hs1 with hh | ⟨_, _, hh⟩
    · omega
    · have := HW0.out.size; omega⟩
  clear o1 o2 b2 hs1 H2 H1 HX
  generalize xs.length = nl at *
  go_wp2_with (first
    | (go_at_call 18; (with_reducible refine (num_any _ _).mono ?_); rintro e wn ⟨he, hwn⟩; subst he; subst wn)
    | (go_at_call 37; (with_reducible refine HSp.out.mono ?_); rintro e w3 ⟨he, hb3⟩; subst he))
  go_ret
  exact ⟨rfl, hb3⟩
end Go.Proofs.Ytpfmnopokfiheaa
