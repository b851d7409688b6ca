/- The law's reads: what both Memories answer to Read and to Fetch is the same. A step that writes: its bytes twice, as they came in and in a row of the step's own. The law's step, by the kinds of calls: Map, Unmap, Protect, Store. The law's step, by the kinds of calls: Load, Read, Fetch, Put, Write. The law's step, by the kinds of calls: Put, Write. -/
import Derived.Test.YtpfmnopokfiheaaLBase
import Derived.Deep.RegionHeld3
namespace Go.Proofs.Ytpfmnopokfiheaa
open Go.ChangeShapes Go.WideShapes Go.ChangeAt Go.RowKit Go.Maps
set_option linter.unusedVariables false
set_option linter.unusedSimpArgs false

theorem rdX_in {L : List Pz} (h : Mz L) (a : Nat) (n : Int) : (∀ y ∈ rdX L a n, 0 ≤ y ∧ y < 256) ∧ (rdX L a n).length ≤ 1048576 := by
  unfold rdX
  split
  · exact ⟨fun y hy => (by cases hy), by simp⟩
  · split
    · refine ⟨rdB_byte h _ _ _, ?_⟩
      rw [rdB_len h]
      have := pcs_sum (L := L) (may := 4) (n.toNat + 1) (a / 4096) (a % 4096) n.toNat
      unfold pcsA
      omega
    · exact ⟨fun y hy => (by cases hy), by simp⟩
theorem ftX_in {L : List Pz} (h : Mz L) (a : Nat) (n : Int) : (∀ y ∈ ftX L a n, 0 ≤ y ∧ y < 256) ∧ (ftX L a n).length ≤ 1048576 := by
  unfold ftX
  split
  · exact ⟨fun y hy => (by cases hy), by simp⟩
  · refine ⟨rdB_byte h _ _ _, ?_⟩
    rw [rdB_len h]
    have := pcs_sum (L := L) (may := 1) (n.toNat + 1) (a / 4096) (a % 4096) n.toNat
    unfold pcsA
    omega
theorem Own.bel {w w' : World} {base : Nat} {v : Value} {xs : List Int} (h : Own w base v xs) (hb : Below w.heap.size w w') : Own w' base v xs := (Turn.of_below hb (fun _ => False)).row h (fun _ _ h => h)

set_option maxRecDepth 20000 in
set_option maxHeartbeats 4000000 in
theorem reads_read (mb gb : Nat) (pl : Nat → Nat) (L : List Pz) (rb : Nat) (lv : Value) (pb : Nat → Nat) (a : Nat) (n may x : Int) (ao : Option Addr) (len cap : Nat) (w : World) (h : Pr w mb gb pl L rb lv pb L) (hL : L.length ≤ 1024) (ha : a < 18446744073709551616) :
    Calls Try.prog 32 #[.pointer (some ⟨mb, 0, none⟩), .pointer (some ⟨rb, 0, none⟩), opV 3 a n may x (.slice ao len cap)] w fun e w' => e = .returned (.bool true) ∧ Below w.heap.size w w' := by
  obtain ⟨xs, hxs⟩ : ∃ xs, rdX L a n = xs := ⟨_, rfl⟩
  obtain ⟨E, hE⟩ : ∃ E, rdE L a n = E := ⟨_, rfl⟩
  have hEE : (E == E) = true := by simp
  have HX : Hid ((∀ y ∈ xs, 0 ≤ y ∧ y < 256) ∧ xs.length ≤ 1048576) := ⟨by rw [← hxs]; exact rdX_in h.m.mz a n⟩
  obtain ⟨Y, hY⟩ : ∃ Y, strOfNums xs = Y := ⟨_, rfl⟩
  have hyy : (Y.toList == Y.toList) = true := by simp
  have HM : Hid (∀ W, Below w.heap.size w W → Calls Try.prog 20 #[.pointer (some ⟨mb, 0, none⟩), .int .u64 (a : Int), .int .i64 n] W fun e w' => BE xs E W e w') := ⟨fun W hb => by
    rw [← hxs, ← hE]
    exact mread_be mb gb a pl L n W (h.m.below hb) ha⟩
  have HR : Hid (∀ W, Below w.heap.size w W → Calls Try.prog 54 #[.pointer (some ⟨rb, 0, none⟩), .int .u64 (a : Int), .int .i64 n] W fun e w' => BE xs E W e w') := ⟨fun W hb => by
    rw [← hxs, ← hE]
    exact rread_be rb a lv pb L n W (h.r.below hb) ha (by omega)⟩
  have HW0 : Hid (Below w.heap.size w (w.alloc (.cells #[.int .i64 3, .int .u64 (a : Int), .int .i64 n, .int .i64 may, .int .u64 x, .slice ao len cap] 33))) := ⟨(Below.refl _ _).alloc (Nat.le_refl _) _⟩
  have HO0 : Hid (OpC (w.alloc (.cells #[.int .i64 3, .int .u64 (a : Int), .int .i64 n, .int .i64 may, .int .u64 x, .slice ao len cap] 33)) w.heap.size 3 a n may x (.slice ao len cap)) := ⟨⟨by simp, by simp, by simp, by simp, by simp, by simp⟩⟩
  have HLt : Hid (w.heap.size < (w.alloc (.cells #[.int .i64 3, .int .u64 (a : Int), .int .i64 n, .int .i64 may, .int .u64 x, .slice ao len cap] 33)).heap.size) := ⟨by simp⟩
  clear h hL ha hxs hE
  unfold opV
  go_enter Try.func32, Try.ntmps32
  go_upto_region 6 with (fail)
  obtain ⟨B, hB⟩ : ∃ B, w.heap.size = B := ⟨_, rfl⟩
  generalize w.alloc (.cells #[.int .i64 3, .int .u64 (a : Int), .int .i64 n, .int .i64 may, .int .u64 x, .slice ao len cap] 33) = W at *
  have HB : Hid (w.heap.size = B) := ⟨hB⟩
  rw [hB] at HO0 HLt ⊢
  clear hB
  have c1 := HO0.out.c1
  have c2 := HO0.out.c2
  go_upto_region 10 with (first
    | (go_at_call 20; (with_reducible refine (HM.out _ HW0.out).mono ?_); rintro e w1 ⟨v1, he, ho1, hb1⟩; subst he; have H1 : Hid (Own w1 W.heap.size v1 xs ∧ Below W.heap.size W w1 ∧ Below w.heap.size w w1) := ⟨ho1, hb1, HW0.out.trans (hb1.mono HW0.out.size)⟩; have O1 := HO0.out.bel HLt.out hb1; have x1 := O1.c1; have x2 := O1.c2; clear O1 ho1 hb1)
    | (go_at_call 54; (with_reducible refine (HR.out _ H1.out.2.2).mono ?_); rintro e w2 ⟨v2, he, ho2, hb2⟩; subst he; have H2 : Hid (Own w2 W.heap.size v1 xs ∧ Own w2 w1.heap.size v2 xs ∧ Below w.heap.size w w2) := ⟨H1.out.1.bel hb2, ho2, H1.out.2.2.trans (hb2.mono H1.out.2.2.size)⟩; clear ho2 hb2))
  obtain ⟨o1, o2, b2⟩ := H2.out
  have q1 := o1.conv
  have q2 := o2.conv
  rw [hY] at q1 q2
  obtain ⟨a1, g1, k1, hv1, hs1⟩ := o1.spoilt HX.out.1
  subst hv1
  have HSp : Hid (Calls Try.prog 37 #[.slice a1 xs.length k1] w2 fun e w' => e = .returned (.tuple #[]) ∧ Below w.heap.size w w') := ⟨by
    refine (spoil_any a1 xs.length k1 g1 w2 (by have := HX.out.2; omega) (hs1.imp id fun hh => ⟨hh.1, hh.2.1⟩)).mono ?_
    rintro e w' ⟨rfl, ht⟩
    refine ⟨rfl, b2.trans (ht.below b2.size ?_)⟩
    rintro j ⟨rfl, h0⟩
    rcases hs1 with hh | ⟨_, _, hh⟩
    · omega
    · have := HW0.out.size; omega⟩
  clear o1 o2 b2 hs1 H2 H1 HX
  generalize xs.length = nl at *
  go_wp2_with (first
    | (go_at_call 18; (with_reducible refine (num_any _ _).mono ?_); rintro e wn ⟨he, hwn⟩; subst he; subst wn)
    | (go_at_call 37; (with_reducible refine HSp.out.mono ?_); rintro e w3 ⟨he, hb3⟩; subst he))
  go_ret
  exact ⟨rfl, hb3⟩

set_option maxRecDepth 20000 in
set_option maxHeartbeats 4000000 in
theorem reads_fetch (mb gb : Nat) (pl : Nat → Nat) (L : List Pz) (rb : Nat) (lv : Value) (pb : Nat → Nat) (a : Nat) (n may x : Int) (ao : Option Addr) (len cap : Nat) (w : World) (h : Pr w mb gb pl L rb lv pb L) (hL : L.length ≤ 1024) (ha : a < 18446744073709551616) :
    Calls Try.prog 32 #[.pointer (some ⟨mb, 0, none⟩), .pointer (some ⟨rb, 0, none⟩), opV 5 a n may x (.slice ao len cap)] w fun e w' => e = .returned (.bool true) ∧ Below w.heap.size w w' := by
  obtain ⟨xs, hxs⟩ : ∃ xs, ftX L a n = xs := ⟨_, rfl⟩
  obtain ⟨E, hE⟩ : ∃ E, ftE L a n = E := ⟨_, rfl⟩
  have hEE : (E == E) = true := by simp
  have HX : Hid ((∀ y ∈ xs, 0 ≤ y ∧ y < 256) ∧ xs.length ≤ 1048576) := ⟨by rw [← hxs]; exact ftX_in h.m.mz a n⟩
  obtain ⟨Y, hY⟩ : ∃ Y, strOfNums xs = Y := ⟨_, rfl⟩
  have hyy : (Y.toList == Y.toList) = true := by simp
  have HM : Hid (∀ W, Below w.heap.size w W → Calls Try.prog 22 #[.pointer (some ⟨mb, 0, none⟩), .int .u64 (a : Int), .int .i64 n] W fun e w' => BE xs E W e w') := ⟨fun W hb => by
    rw [← hxs, ← hE]
    exact mfetch_be mb gb a pl L n W (h.m.below hb) ha⟩
  have HR : Hid (∀ W, Below w.heap.size w W → Calls Try.prog 55 #[.pointer (some ⟨rb, 0, none⟩), .int .u64 (a : Int), .int .i64 n] W fun e w' => BE xs E W e w') := ⟨fun W hb => by
    rw [← hxs, ← hE]
    exact rfetch_be rb a lv pb L n W (h.r.below hb) ha (by omega)⟩
  have HW0 : Hid (Below w.heap.size w (w.alloc (.cells #[.int .i64 5, .int .u64 (a : Int), .int .i64 n, .int .i64 may, .int .u64 x, .slice ao len cap] 33))) := ⟨(Below.refl _ _).alloc (Nat.le_refl _) _⟩
  have HO0 : Hid (OpC (w.alloc (.cells #[.int .i64 5, .int .u64 (a : Int), .int .i64 n, .int .i64 may, .int .u64 x, .slice ao len cap] 33)) w.heap.size 5 a n may x (.slice ao len cap)) := ⟨⟨by simp, by simp, by simp, by simp, by simp, by simp⟩⟩
  have HLt : Hid (w.heap.size < (w.alloc (.cells #[.int .i64 5, .int .u64 (a : Int), .int .i64 n, .int .i64 may, .int .u64 x, .slice ao len cap] 33)).heap.size) := ⟨by simp⟩
  clear h hL ha hxs hE
  unfold opV
  go_enter Try.func32, Try.ntmps32
  go_upto_region 8 with (fail)
  obtain ⟨B, hB⟩ : ∃ B, w.heap.size = B := ⟨_, rfl⟩
  generalize w.alloc (.cells #[.int .i64 5, .int .u64 (a : Int), .int .i64 n, .int .i64 may, .int .u64 x, .slice ao len cap] 33) = W at *
  have HB : Hid (w.heap.size = B) := ⟨hB⟩
  rw [hB] at HO0 HLt ⊢
  clear hB
  have c1 := HO0.out.c1
  have c2 := HO0.out.c2
  go_upto_region 10 with (first
    | (go_at_call 22; (with_reducible refine (HM.out _ HW0.out).mono ?_); rintro e w1 ⟨v1, he, ho1, hb1⟩; subst he; have H1 : Hid (Own w1 W.heap.size v1 xs ∧ Below W.heap.size W w1 ∧ Below w.heap.size w w1) := ⟨ho1, hb1, HW0.out.trans (hb1.mono HW0.out.size)⟩; have O1 := HO0.out.bel HLt.out hb1; have x1 := O1.c1; have x2 := O1.c2; clear O1 ho1 hb1)
    | (go_at_call 55; (with_reducible refine (HR.out _ H1.out.2.2).mono ?_); rintro e w2 ⟨v2, he, ho2, hb2⟩; subst he; have H2 : Hid (Own w2 W.heap.size v1 xs ∧ Own w2 w1.heap.size v2 xs ∧ Below w.heap.size w w2) := ⟨H1.out.1.bel hb2, ho2, H1.out.2.2.trans (hb2.mono H1.out.2.2.size)⟩; clear ho2 hb2))
  obtain ⟨o1, o2, b2⟩ := H2.out
  have q1 := o1.conv
  have q2 := o2.conv
  rw [hY] at q1 q2
  obtain ⟨a1, g1, k1, hv1, hs1⟩ := o1.spoilt HX.out.1
  subst hv1
  have HSp : Hid (Calls Try.prog 37 #[.slice a1 xs.length k1] w2 fun e w' => e = .returned (.tuple #[]) ∧ Below w.heap.size w w') := ⟨by
    refine (spoil_any a1 xs.length k1 g1 w2 (by have := HX.out.2; omega) (hs1.imp id fun hh => ⟨hh.1, hh.2.1⟩)).mono ?_
    rintro e w' ⟨rfl, ht⟩
    refine ⟨rfl, b2.trans (ht.below b2.size ?_)⟩
    rintro j ⟨rfl, h0⟩
    rcases hs1 with hh | ⟨_, _, hh⟩
    · omega
    · have := HW0.out.size; omega⟩
  clear o1 o2 b2 hs1 H2 H1 HX
  generalize xs.length = nl at *
  go_wp2_with (first
    | (go_at_call 18; (with_reducible refine (num_any _ _).mono ?_); rintro e wn ⟨he, hwn⟩; subst he; subst wn)
    | (go_at_call 37; (with_reducible refine HSp.out.mono ?_); rintro e w3 ⟨he, hb3⟩; subst he))
  go_ret
  exact ⟨rfl, hb3⟩

theorem St2.nxk {w0 : World} {S : Nat → Prop} {w w' : World} {mb gb : Nat} {pl : Nat → Nat} {L L' : List Pz} {rb : Nat} {lv : Value} {pb : Nat → Nat} {M : List Pz} {B : Nat} {k : Int} {a : Nat} {n may x : Int} {bv : Value} (h : St2 w0 S w mb gb pl L rb lv pb M B k a n may x bv) (hk : L'.map (fun p => p.k) = L.map (fun p => p.k)) (h1 : MA w' mb gb pl L') (h2 : Turn (MS mb gb pl L) w w') : St2 w0 S w' mb gb pl L' rb lv pb M B k a n may x bv := by
  refine ⟨⟨h1, h.pr.r.turn h2 fun b hb hm => h.pr.ap b hm hb, fun b hb hr => h.pr.ap b (MS_k hk hb) hr⟩, h.op.turn h.lt h2 fun hb => h.nb (.inl hb), Nat.lt_of_lt_of_le h.lt h2.size, fun hb => h.nb (hb.imp (MS_k hk) id), h.tu.trans' h2 fun i hi hs => ?_, fun b hb => h.new b (hb.imp (MS_k hk) id)⟩
  rcases h.new i (.inl hs) with h5 | h5
  · exact h5
  · omega
theorem St2.rxk {w0 : World} {S : Nat → Prop} {w w' : World} {mb gb : Nat} {pl : Nat → Nat} {L : List Pz} {rb : Nat} {lv : Value} {pb : Nat → Nat} {M M' : List Pz} {B : Nat} {k : Int} {a : Nat} {n may x : Int} {bv : Value} (h : St2 w0 S w mb gb pl L rb lv pb M B k a n may x bv) (hk : M'.map (fun p => p.k) = M.map (fun p => p.k)) (h1 : RA w' rb lv pb M') (h2 : Turn (RS rb lv pb M) w w') : St2 w0 S w' mb gb pl L rb lv pb M' B k a n may x bv := by
  refine ⟨⟨h.pr.m.turn h2 fun b hb hm => h.pr.ap b hb hm, h1, fun b hb hr => h.pr.ap b hb (RS_k hk hr)⟩, h.op.turn h.lt h2 fun hb => h.nb (.inr hb), Nat.lt_of_lt_of_le h.lt h2.size, fun hb => h.nb (hb.imp id (RS_k hk)), h.tu.trans' h2 fun i hi hs => ?_, fun b hb => h.new b (hb.imp id (RS_k hk))⟩
  rcases h.new i (.inr hs) with h5 | h5
  · exact h5
  · omega
/-- Behind a turn of a block that is none of theirs. -/
theorem St2.other {w0 : World} {S : Nat → Prop} {w w' : World} {mb gb : Nat} {pl : Nat → Nat} {L : List Pz} {rb : Nat} {lv : Value} {pb : Nat → Nat} {M : List Pz} {B : Nat} {k : Int} {a : Nat} {n may x : Int} {bv : Value} (h : St2 w0 S w mb gb pl L rb lv pb M B k a n may x bv) {R : Nat → Prop} (ht : Turn R w w') (h1 : ∀ b, PB mb gb pl L rb lv pb M b → ¬ R b) (h2 : ¬ R B) (h3 : ∀ b, R b → w0.heap.size ≤ b) : St2 w0 S w' mb gb pl L rb lv pb M B k a n may x bv :=
  ⟨h.pr.turn ht h1, h.op.turn h.lt ht h2, Nat.lt_of_lt_of_le h.lt ht.size, h.nb, h.tu.trans' ht fun i hi hs => by have := h3 i hs; omega, h.new⟩

theorem Row.turn {w w' : World} {ao : Option Addr} {len : Nat} {bs : Nat → Int} (h : Row w ao len bs) {S : Nat → Prop} (ht : Turn S w w') (hs : 0 < len → ∀ b off, ao = some ⟨b, off, none⟩ → ¬ S b) : Row w' ao len bs := by
  rcases h with h | ⟨b, off, e, h⟩
  · exact .inl h
  · by_cases h0 : len = 0
    · exact .inl h0
    · refine .inr ⟨b, off, e, fun i hi => ?_⟩
      have hl := World.block_lt_of_cell? w ⟨b, off + i, none⟩ (h i hi)
      exact (World.cell?_of_block (ht.block b hl (hs (by omega) b off e))).trans (h i hi)
theorem Row.bel {w w' : World} {ao : Option Addr} {len : Nat} {bs : Nat → Int} (h : Row w ao len bs) (hb : Below w.heap.size w w') : Row w' ao len bs := h.below hb (Nat.le_refl _)

/-- Where a step that writes is. -/
structure St3 (w0 : World) (S : Nat → Prop) (w : World) (mb gb : Nat) (pl : Nat → Nat) (L : List Pz) (rb : Nat) (lv : Value) (pb : Nat → Nat) (M : List Pz) (B : Nat) (k : Int) (a : Nat) (n may x : Int) (ao : Option Addr) (len cap : Nat) (bs : Nat → Int) (g gc : Nat) : Prop where
  st : St2 w0 S w mb gb pl L rb lv pb M B k a n may x (.slice ao len cap)
  own : Own w w0.heap.size (.slice (some ⟨g, 0, none⟩) len gc) (lst bs len)
  ng : ¬ PB mb gb pl L rb lv pb M g
  gB : g ≠ B
  row : Row w ao len bs
  na : 0 < len → ∀ b off, ao = some ⟨b, off, none⟩ → ¬ PB mb gb pl L rb lv pb M b
theorem own_at {w : World} {base g len gc : Nat} {xs : List Int} (h : Own w base (.slice (some ⟨g, 0, none⟩) len gc) xs) : base ≤ g ∧ len = xs.length ∧ len ≤ gc ∧ gc ≤ 9223372036854775807 ∧ g < w.heap.size := by
  rcases h.2 with ⟨hv, _⟩ | ⟨g', cap', cur, hv, h1, h2, h3, h4, _⟩
  · cases hv
  · simp only [Value.slice.injEq, Option.some.injEq, Addr.mk.injEq] at hv
    obtain ⟨⟨rfl, _⟩, rfl, rfl⟩ := hv
    unfold maxLen at h4
    exact ⟨h1, rfl, h3, by omega, (Array.getElem?_eq_some_iff.1 h2).1⟩
theorem St3.nxk {w0 : World} {S : Nat → Prop} {w w' : World} {mb gb : Nat} {pl : Nat → Nat} {L L' : List Pz} {rb : Nat} {lv : Value} {pb : Nat → Nat} {M : List Pz} {B : Nat} {k : Int} {a : Nat} {n may x : Int} {ao : Option Addr} {len cap : Nat} {bs : Nat → Int} {g gc : Nat} (h : St3 w0 S w mb gb pl L rb lv pb M B k a n may x ao len cap bs g gc) (hk : L'.map (fun p => p.k) = L.map (fun p => p.k)) (h1 : MA w' mb gb pl L') (h2 : Turn (MS mb gb pl L) w w') : St3 w0 S w' mb gb pl L' rb lv pb M B k a n may x ao len cap bs g gc :=
  ⟨h.st.nxk hk h1 h2, h2.row h.own (fun j hj hm => by simp [Value.ownBlock] at hj; subst hj; exact h.ng (.inl hm)), fun hb => h.ng (hb.imp (MS_k hk) id), h.gB, h.row.turn h2 fun h0 b off e hm => h.na h0 b off e (.inl hm), fun h0 b off e hb => h.na h0 b off e (hb.imp (MS_k hk) id)⟩
theorem St3.rxk {w0 : World} {S : Nat → Prop} {w w' : World} {mb gb : Nat} {pl : Nat → Nat} {L : List Pz} {rb : Nat} {lv : Value} {pb : Nat → Nat} {M M' : List Pz} {B : Nat} {k : Int} {a : Nat} {n may x : Int} {ao : Option Addr} {len cap : Nat} {bs : Nat → Int} {g gc : Nat} (h : St3 w0 S w mb gb pl L rb lv pb M B k a n may x ao len cap bs g gc) (hk : M'.map (fun p => p.k) = M.map (fun p => p.k)) (h1 : RA w' rb lv pb M') (h2 : Turn (RS rb lv pb M) w w') : St3 w0 S w' mb gb pl L rb lv pb M' B k a n may x ao len cap bs g gc :=
  ⟨h.st.rxk hk h1 h2, h2.row h.own (fun j hj hm => by simp [Value.ownBlock] at hj; subst hj; exact h.ng (.inr hm)), fun hb => h.ng (hb.imp id (RS_k hk)), h.gB, h.row.turn h2 fun h0 b off e hm => h.na h0 b off e (.inr hm), fun h0 b off e hb => h.na h0 b off e (hb.imp id (RS_k hk))⟩
theorem lst_byte {bs : Nat → Int} (h : ∀ i, 0 ≤ bs i ∧ bs i < 256) (len : Nat) : ∀ y ∈ lst bs len, 0 ≤ y ∧ y < 256 := by
  intro y hy
  unfold lst at hy
  obtain ⟨i, _, rfl⟩ := List.mem_map.1 hy
  exact h i
theorem lst_getD (bs : Nat → Int) {len i : Nat} (h : i < len) : (lst bs len).getD i 0 = bs i := by simp [lst, h]
theorem St3.src {w0 : World} {S : Nat → Prop} {w : World} {mb gb : Nat} {pl : Nat → Nat} {L : List Pz} {rb : Nat} {lv : Value} {pb : Nat → Nat} {M : List Pz} {B : Nat} {k : Int} {a : Nat} {n may x : Int} {ao : Option Addr} {len cap : Nat} {bs : Nat → Int} {g gc : Nat} (h : St3 w0 S w mb gb pl L rb lv pb M B k a n may x ao len cap bs g gc) (hb : ∀ i, 0 ≤ bs i ∧ bs i < 256) : Src w mb gb pl L (.slice (some ⟨g, 0, none⟩) len gc) (lst bs len) := by
  obtain ⟨_, _, h3, h4, _⟩ := own_at h.own
  refine ⟨⟨_, gc, by rw [lst_len], by rw [lst_len]; exact h3, h4, ?_⟩, lst_byte hb len⟩
  by_cases h0 : len = 0
  · left; rw [lst_len]; exact h0
  · right
    obtain ⟨g', gc', hv, _, _, hc⟩ := h.own.lies (by rw [lst_len]; omega)
    simp only [Value.slice.injEq, Option.some.injEq, Addr.mk.injEq] at hv
    obtain ⟨⟨rfl, _⟩, _, _⟩ := hv
    exact ⟨g, 0, rfl, fun hm => h.ng (.inl hm), fun i hi => by rw [Nat.zero_add]; exact hc i hi⟩
theorem St3.rsrc {w0 : World} {S : Nat → Prop} {w : World} {mb gb : Nat} {pl : Nat → Nat} {L : List Pz} {rb : Nat} {lv : Value} {pb : Nat → Nat} {M : List Pz} {B : Nat} {k : Int} {a : Nat} {n may x : Int} {ao : Option Addr} {len cap : Nat} {bs : Nat → Int} {g gc : Nat} (h : St3 w0 S w mb gb pl L rb lv pb M B k a n may x ao len cap bs g gc) (hb : ∀ i, 0 ≤ bs i ∧ bs i < 256) : RSrc w rb lv pb M ao (lst bs len) := by
  refine ⟨?_, lst_byte hb len⟩
  by_cases h0 : len = 0
  · left; subst h0; rfl
  · right
    rcases h.row with e | ⟨b, off, e, hc⟩
    · omega
    · refine ⟨b, off, e, fun hm => h.na (by omega) b off e (.inr hm), fun i hi => ?_⟩
      rw [lst_len] at hi
      rw [lst_getD bs hi]
      exact hc i hi
/-- The step's own row, written over. -/
theorem St3.spoil {w0 : World} {S : Nat → Prop} {w : World} {mb gb : Nat} {pl : Nat → Nat} {L : List Pz} {rb : Nat} {lv : Value} {pb : Nat → Nat} {M : List Pz} {B : Nat} {k : Int} {a : Nat} {n may x : Int} {ao : Option Addr} {len cap : Nat} {bs : Nat → Int} {g gc : Nat} (h : St3 w0 S w mb gb pl L rb lv pb M B k a n may x ao len cap bs g gc) (hb : ∀ i, 0 ≤ bs i ∧ bs i < 256) (hl : len ≤ 140737488355328) :
    Calls Try.prog 37 #[.slice (some ⟨g, 0, none⟩) len gc] w fun e w' => e = .returned (.tuple #[]) ∧ St2 w0 S w' mb gb pl L rb lv pb M B k a n may x (.slice ao len cap) := by
  refine (spoil_any (some ⟨g, 0, none⟩) len gc g w hl (.inr ⟨rfl, h.own.soft (lst_byte hb len)⟩)).mono ?_
  rintro e w' ⟨rfl, ht⟩
  refine ⟨rfl, h.st.other ht (fun b hb ⟨e, _⟩ => h.ng (e ▸ hb)) (fun ⟨e, _⟩ => h.gB e.symm) (fun b ⟨e, _⟩ => ?_)⟩
  have := (own_at h.own).1
  omega
/-- The step's own row is made. -/
theorem st3_start {w0 : World} {S : Nat → Prop} {w w' : World} {mb gb : Nat} {pl : Nat → Nat} {L : List Pz} {rb : Nat} {lv : Value} {pb : Nat → Nat} {M : List Pz} {B : Nat} {k : Int} {a : Nat} {n may x : Int} {ao : Option Addr} {len cap : Nat} {bs : Nat → Int} {g gc : Nat} (h : St2 w0 S w mb gb pl L rb lv pb M B k a n may x (.slice ao len cap)) (hr : Row w ao len bs) (hna : 0 < len → ∀ b off, ao = some ⟨b, off, none⟩ → ¬ PB mb gb pl L rb lv pb M b) (hb : Below w.heap.size w w') (ho : Own w' w.heap.size (.slice (some ⟨g, 0, none⟩) len gc) (lst bs len)) : St3 w0 S w' mb gb pl L rb lv pb M B k a n may x ao len cap bs g gc := by
  obtain ⟨h1, _⟩ := own_at ho
  refine ⟨h.bel hb, ?_, fun hp => by have := h.pr.lt hp; omega, by have := h.lt; omega, hr.bel hb, hna⟩
  refine ⟨ho.1, ?_⟩
  rcases ho.2 with hv | ⟨g', c', cur, hv, h2, h3⟩
  · exact .inl hv
  · exact .inr ⟨g', c', cur, hv, by have := h.tu.size; omega, h3⟩

set_option maxRecDepth 20000 in
set_option maxHeartbeats 4000000 in
theorem step_map (mb gb : Nat) (pl : Nat → Nat) (L : List Pz) (rb : Nat) (lv : Value) (pb : Nat → Nat) (a : Nat) (n may x : Int) (ao : Option Addr) (len cap : Nat) (w : World) (h : Pr w mb gb pl L rb lv pb L) (hL : L.length ≤ 1024) (ha : a < 18446744073709551616) (hn : -9223372036854775808 ≤ n ∧ n ≤ 9223372036854775807) :
    Calls Try.prog 9 #[.pointer (some ⟨mb, 0, none⟩), .pointer (some ⟨rb, 0, none⟩), opV 0 a n may x (.slice ao len cap)] w fun e w' => e = .returned (.bool true) ∧ SX w w' mb gb pl L rb lv pb := by
  have HS : Hid _ := ⟨st2_start h 0 a n may x (.slice ao len cap) 33⟩
  obtain ⟨E, hE⟩ : ∃ E, mapE L a n may = E := ⟨_, rfl⟩
  obtain ⟨L', hL'⟩ : ∃ L', mapL L a n may = L' := ⟨_, rfl⟩
  obtain ⟨S, hSS⟩ : ∃ S, PB mb gb pl L rb lv pb L = S := ⟨_, rfl⟩
  have hEE : (E == E) = true := by simp
  have HL : Hid (L'.length ≤ 1024) := ⟨by rw [← hL']; exact mapL_len hL⟩
  have HM : Hid (∀ B W, St2 w S W mb gb pl L rb lv pb L B 0 a n may x (.slice ao len cap) → Calls Try.prog 25 #[.pointer (some ⟨mb, 0, none⟩), .int .u64 (a : Int), .int .i64 n, .int .i64 may] W fun e w' => e = .returned (.int .i64 E) ∧ ∃ pl', St2 w S w' mb gb pl' L' rb lv pb L B 0 a n may x (.slice ao len cap)) := ⟨fun B W hs => by
    refine (map_ok mb gb a pl L n may W hs.pr.m ha hn hL).mono ?_
    rintro e w' ⟨rfl, hx⟩
    rw [hE, hL'] at *
    exact ⟨rfl, hs.nx hx⟩⟩
  have HR : Hid (∀ B W pl', St2 w S W mb gb pl' L' rb lv pb L B 0 a n may x (.slice ao len cap) → Calls Try.prog 29 #[.pointer (some ⟨rb, 0, none⟩), .int .u64 (a : Int), .int .i64 n, .int .i64 may] W fun e w' => e = .returned (.int .i64 E) ∧ ∃ lv' pb', St2 w S w' mb gb pl' L' rb lv' pb' L' B 0 a n may x (.slice ao len cap)) := ⟨fun B W pl' hs => by
    refine (rmap_any rb a lv pb L n may W hs.pr.r ha hn hL).mono ?_
    rintro e w' ⟨rfl, hx⟩
    rw [hE, hL'] at *
    exact ⟨rfl, hs.rx hx⟩⟩
  rw [hSS] at HS
  clear h hL ha hn hE hL'
  unfold opV
  go_enter Try.func9, Try.ntmps9
  go_upto_region 3 with (fail)
  obtain ⟨B, hB⟩ : ∃ B, w.heap.size = B := ⟨_, rfl⟩
  generalize hW : w.alloc (.cells #[.int .i64 0, .int .u64 (a : Int), .int .i64 n, .int .i64 may, .int .u64 x, .slice ao len cap] 33) = W at *
  rw [hB] at HS ⊢
  clear hB hW
  have HD : Hid _ := ⟨HS.out.bel (Below.refl _ _).drew⟩
  have c1 := HS.out.op.c1
  have c2 := HS.out.op.c2
  have c3 := HS.out.op.c3
  have d1 : W.drew.cell? ⟨B, 1, none⟩ = _ := c1
  have d2 : W.drew.cell? ⟨B, 2, none⟩ = _ := c2
  have d3 : W.drew.cell? ⟨B, 3, none⟩ = _ := c3
  go_region_held3 (fun v => v.cell? ⟨B, 1, none⟩ = some (.int .u64 (a : Int)) ∧ v.cell? ⟨B, 2, none⟩ = some (.int .i64 n) ∧ v.cell? ⟨B, 3, none⟩ = some (.int .i64 may))
    ((refine ⟨?_, ?_, ?_⟩) <;> (with_reducible assumption))
    (first
      | (go_at_call 25; (with_reducible refine (HM.out _ _ HD.out).mono ?_); rintro e w1 ⟨he, pl', h1⟩; subst he; have HS1 : Hid _ := ⟨h1⟩; have x1 := h1.op.c1; have x2 := h1.op.c2; have x3 := h1.op.c3; clear h1)
      | (go_at_call 29; (with_reducible refine (HR.out _ _ _ HS1.out).mono ?_); rintro e w2 ⟨he, lv', pb', h2⟩; subst he; have HS2 : Hid _ := ⟨h2⟩; have y1 := h2.op.c1; have y2 := h2.op.c2; have y3 := h2.op.c3; clear h2)
      | (go_at_call 18; (with_reducible refine (num_any _ _).mono ?_); rintro e wn ⟨he, hwn⟩; subst he; subst wn))
  all_goals
    go_wp2
    go_ret
    exact ⟨rfl, by subst hSS; exact HS2.out.sx HL.out⟩

set_option maxRecDepth 20000 in
set_option maxHeartbeats 4000000 in
theorem step_unmap (mb gb : Nat) (pl : Nat → Nat) (L : List Pz) (rb : Nat) (lv : Value) (pb : Nat → Nat) (a : Nat) (n may x : Int) (ao : Option Addr) (len cap : Nat) (w : World) (h : Pr w mb gb pl L rb lv pb L) (hL : L.length ≤ 1024) (ha : a < 18446744073709551616) (hn : -9223372036854775808 ≤ n ∧ n ≤ 9223372036854775807) :
    Calls Try.prog 9 #[.pointer (some ⟨mb, 0, none⟩), .pointer (some ⟨rb, 0, none⟩), opV 1 a n may x (.slice ao len cap)] w fun e w' => e = .returned (.bool true) ∧ SX w w' mb gb pl L rb lv pb := by
  have HS : Hid _ := ⟨st2_start h 1 a n may x (.slice ao len cap) 33⟩
  obtain ⟨E, hE⟩ : ∃ E, thrE L a n 0 = E := ⟨_, rfl⟩
  obtain ⟨L', hL'⟩ : ∃ L', unmL L a n = L' := ⟨_, rfl⟩
  obtain ⟨S, hSS⟩ : ∃ S, PB mb gb pl L rb lv pb L = S := ⟨_, rfl⟩
  have hEE : (E == E) = true := by simp
  have HL : Hid (L'.length ≤ 1024) := ⟨by rw [← hL']; exact unmL_len hL⟩
  have HM : Hid (∀ B W, St2 w S W mb gb pl L rb lv pb L B 1 a n may x (.slice ao len cap) → Calls Try.prog 26 #[.pointer (some ⟨mb, 0, none⟩), .int .u64 (a : Int), .int .i64 n] W fun e w' => e = .returned (.int .i64 E) ∧ ∃ pl', St2 w S w' mb gb pl' L' rb lv pb L B 1 a n may x (.slice ao len cap)) := ⟨fun B W hs => by
    refine (unmap_ok mb gb a pl L n W hs.pr.m ha hn (by omega)).mono ?_
    rintro e w' ⟨rfl, hx⟩
    rw [hE, hL'] at *
    exact ⟨rfl, hs.nx hx⟩⟩
  have HR : Hid (∀ B W pl', St2 w S W mb gb pl' L' rb lv pb L B 1 a n may x (.slice ao len cap) → Calls Try.prog 30 #[.pointer (some ⟨rb, 0, none⟩), .int .u64 (a : Int), .int .i64 n] W fun e w' => e = .returned (.int .i64 E) ∧ ∃ lv' pb', St2 w S w' mb gb pl' L' rb lv' pb' L' B 1 a n may x (.slice ao len cap)) := ⟨fun B W pl' hs => by
    refine (runmap_any rb a lv pb L n W hs.pr.r ha hn hL).mono ?_
    rintro e w' ⟨rfl, hx⟩
    rw [hE, hL'] at *
    exact ⟨rfl, hs.rx hx⟩⟩
  rw [hSS] at HS
  clear h hL ha hn hE hL'
  unfold opV
  go_enter Try.func9, Try.ntmps9
  go_upto_region 5 with (fail)
  obtain ⟨B, hB⟩ : ∃ B, w.heap.size = B := ⟨_, rfl⟩
  generalize hW : w.alloc (.cells #[.int .i64 1, .int .u64 (a : Int), .int .i64 n, .int .i64 may, .int .u64 x, .slice ao len cap] 33) = W at *
  rw [hB] at HS ⊢
  clear hB hW
  have HD : Hid _ := ⟨HS.out.bel (Below.refl _ _).drew⟩
  have c1 := HS.out.op.c1
  have c2 := HS.out.op.c2
  have c3 := HS.out.op.c3
  have d1 : W.drew.cell? ⟨B, 1, none⟩ = _ := c1
  have d2 : W.drew.cell? ⟨B, 2, none⟩ = _ := c2
  have d3 : W.drew.cell? ⟨B, 3, none⟩ = _ := c3
  go_region_held3 (fun v => v.cell? ⟨B, 1, none⟩ = some (.int .u64 (a : Int)) ∧ v.cell? ⟨B, 2, none⟩ = some (.int .i64 n) ∧ v.cell? ⟨B, 3, none⟩ = some (.int .i64 may))
    ((refine ⟨?_, ?_, ?_⟩) <;> (with_reducible assumption))
    (first
      | (go_at_call 26; (with_reducible refine (HM.out _ _ HD.out).mono ?_); rintro e w1 ⟨he, pl', h1⟩; subst he; have HS1 : Hid _ := ⟨h1⟩; have x1 := h1.op.c1; have x2 := h1.op.c2; have x3 := h1.op.c3; clear h1)
      | (go_at_call 30; (with_reducible refine (HR.out _ _ _ HS1.out).mono ?_); rintro e w2 ⟨he, lv', pb', h2⟩; subst he; have HS2 : Hid _ := ⟨h2⟩; have y1 := h2.op.c1; have y2 := h2.op.c2; have y3 := h2.op.c3; clear h2)
      | (go_at_call 18; (with_reducible refine (num_any _ _).mono ?_); rintro e wn ⟨he, hwn⟩; subst he; subst wn))
  all_goals
    go_wp2
    go_ret
    exact ⟨rfl, by subst hSS; exact HS2.out.sx HL.out⟩

set_option maxRecDepth 20000 in
set_option maxHeartbeats 4000000 in
theorem step_protect (mb gb : Nat) (pl : Nat → Nat) (L : List Pz) (rb : Nat) (lv : Value) (pb : Nat → Nat) (a : Nat) (n may x : Int) (ao : Option Addr) (len cap : Nat) (w : World) (h : Pr w mb gb pl L rb lv pb L) (hL : L.length ≤ 1024) (ha : a < 18446744073709551616) (hn : -9223372036854775808 ≤ n ∧ n ≤ 9223372036854775807) :
    Calls Try.prog 9 #[.pointer (some ⟨mb, 0, none⟩), .pointer (some ⟨rb, 0, none⟩), opV 2 a n may x (.slice ao len cap)] w fun e w' => e = .returned (.bool true) ∧ SX w w' mb gb pl L rb lv pb := by
  have HS : Hid _ := ⟨st2_start h 2 a n may x (.slice ao len cap) 33⟩
  obtain ⟨E, hE⟩ : ∃ E, thrE L a n may = E := ⟨_, rfl⟩
  obtain ⟨L', hL'⟩ : ∃ L', proL L a n may = L' := ⟨_, rfl⟩
  obtain ⟨S, hSS⟩ : ∃ S, PB mb gb pl L rb lv pb L = S := ⟨_, rfl⟩
  have hEE : (E == E) = true := by simp
  have HL : Hid (L'.length ≤ 1024) := ⟨by rw [← hL']; exact by rw [k_len (proL_k L a n may)]; exact hL⟩
  have HM : Hid (∀ B W, St2 w S W mb gb pl L rb lv pb L B 2 a n may x (.slice ao len cap) → Calls Try.prog 27 #[.pointer (some ⟨mb, 0, none⟩), .int .u64 (a : Int), .int .i64 n, .int .i64 may] W fun e w' => e = .returned (.int .i64 E) ∧ ∃ pl', St2 w S w' mb gb pl' L' rb lv pb L B 2 a n may x (.slice ao len cap)) := ⟨fun B W hs => by
    refine (protect_ok mb gb a pl L n may W hs.pr.m ha hn (by omega)).mono ?_
    rintro e w' ⟨rfl, hm, ht⟩
    have hx := nx_k (proL_k L a n may) hm ht
    rw [hE, hL'] at *
    exact ⟨rfl, hs.nx hx⟩⟩
  have HR : Hid (∀ B W pl', St2 w S W mb gb pl' L' rb lv pb L B 2 a n may x (.slice ao len cap) → Calls Try.prog 31 #[.pointer (some ⟨rb, 0, none⟩), .int .u64 (a : Int), .int .i64 n, .int .i64 may] W fun e w' => e = .returned (.int .i64 E) ∧ ∃ lv' pb', St2 w S w' mb gb pl' L' rb lv' pb' L' B 2 a n may x (.slice ao len cap)) := ⟨fun B W pl' hs => by
    refine (rprotect_any rb a lv pb L n may W hs.pr.r ha hn (by omega)).mono ?_
    rintro e w' ⟨rfl, hm, ht⟩
    have hx := rx_k (proL_k L a n may) hm ht
    rw [hE, hL'] at *
    exact ⟨rfl, hs.rx hx⟩⟩
  rw [hSS] at HS
  clear h hL ha hn hE hL'
  unfold opV
  go_enter Try.func9, Try.ntmps9
  go_upto_region 7 with (fail)
  obtain ⟨B, hB⟩ : ∃ B, w.heap.size = B := ⟨_, rfl⟩
  generalize hW : w.alloc (.cells #[.int .i64 2, .int .u64 (a : Int), .int .i64 n, .int .i64 may, .int .u64 x, .slice ao len cap] 33) = W at *
  rw [hB] at HS ⊢
  clear hB hW
  have HD : Hid _ := ⟨HS.out.bel (Below.refl _ _).drew⟩
  have c1 := HS.out.op.c1
  have c2 := HS.out.op.c2
  have c3 := HS.out.op.c3
  have d1 : W.drew.cell? ⟨B, 1, none⟩ = _ := c1
  have d2 : W.drew.cell? ⟨B, 2, none⟩ = _ := c2
  have d3 : W.drew.cell? ⟨B, 3, none⟩ = _ := c3
  go_region_held3 (fun v => v.cell? ⟨B, 1, none⟩ = some (.int .u64 (a : Int)) ∧ v.cell? ⟨B, 2, none⟩ = some (.int .i64 n) ∧ v.cell? ⟨B, 3, none⟩ = some (.int .i64 may))
    ((refine ⟨?_, ?_, ?_⟩) <;> (with_reducible assumption))
    (first
      | (go_at_call 27; (with_reducible refine (HM.out _ _ HD.out).mono ?_); rintro e w1 ⟨he, pl', h1⟩; subst he; have HS1 : Hid _ := ⟨h1⟩; have x1 := h1.op.c1; have x2 := h1.op.c2; have x3 := h1.op.c3; clear h1)
      | (go_at_call 31; (with_reducible refine (HR.out _ _ _ HS1.out).mono ?_); rintro e w2 ⟨he, lv', pb', h2⟩; subst he; have HS2 : Hid _ := ⟨h2⟩; have y1 := h2.op.c1; have y2 := h2.op.c2; have y3 := h2.op.c3; clear h2)
      | (go_at_call 18; (with_reducible refine (num_any _ _).mono ?_); rintro e wn ⟨he, hwn⟩; subst he; subst wn))
  all_goals
    go_wp2
    go_ret
    exact ⟨rfl, by subst hSS; exact HS2.out.sx HL.out⟩

set_option maxRecDepth 20000 in
set_option maxHeartbeats 4000000 in
theorem step_store (mb gb : Nat) (pl : Nat → Nat) (L : List Pz) (rb : Nat) (lv : Value) (pb : Nat → Nat) (a : Nat) (n may x : Int) (ao : Option Addr) (len cap : Nat) (w : World) (h : Pr w mb gb pl L rb lv pb L) (hL : L.length ≤ 1024) (ha : a < 18446744073709551616) (hn : -9223372036854775808 ≤ n ∧ n ≤ 9223372036854775807) (hx0 : 0 ≤ x ∧ x < 18446744073709551616) :
    Calls Try.prog 9 #[.pointer (some ⟨mb, 0, none⟩), .pointer (some ⟨rb, 0, none⟩), opV 7 a n may x (.slice ao len cap)] w fun e w' => e = .returned (.bool true) ∧ SX w w' mb gb pl L rb lv pb := by
  have HS : Hid _ := ⟨st2_start h 7 a n may x (.slice ao len cap) 33⟩
  obtain ⟨E, hE⟩ : ∃ E, stoE L a n = E := ⟨_, rfl⟩
  obtain ⟨L', hL'⟩ : ∃ L', stoL L a n x = L' := ⟨_, rfl⟩
  obtain ⟨S, hSS⟩ : ∃ S, PB mb gb pl L rb lv pb L = S := ⟨_, rfl⟩
  have hEE : (E == E) = true := by simp
  have HL : Hid (L'.length ≤ 1024) := ⟨by rw [← hL']; exact by rw [k_len (stoL_k L a n x)]; exact hL⟩
  have HM : Hid (∀ B W, St2 w S W mb gb pl L rb lv pb L B 7 a n may x (.slice ao len cap) → Calls Try.prog 21 #[.pointer (some ⟨mb, 0, none⟩), .int .u64 (a : Int), .int .i64 n, .int .u64 x] W fun e w' => e = .returned (.int .i64 E) ∧ ∃ pl', St2 w S w' mb gb pl' L' rb lv pb L B 7 a n may x (.slice ao len cap)) := ⟨fun B W hs => by
    refine (mstore_nx mb gb a pl L n x W hs.pr.m ha).mono ?_
    rintro e w' ⟨rfl, hx⟩
    rw [hE, hL'] at *
    exact ⟨rfl, hs.nx hx⟩⟩
  have HR : Hid (∀ B W pl', St2 w S W mb gb pl' L' rb lv pb L B 7 a n may x (.slice ao len cap) → Calls Try.prog 34 #[.pointer (some ⟨rb, 0, none⟩), .int .u64 (a : Int), .int .i64 n, .int .u64 x] W fun e w' => e = .returned (.int .i64 E) ∧ ∃ lv' pb', St2 w S w' mb gb pl' L' rb lv' pb' L' B 7 a n may x (.slice ao len cap)) := ⟨fun B W pl' hs => by
    refine (rstore_rx rb a lv pb L n x W hs.pr.r ha (by omega) hx0).mono ?_
    rintro e w' ⟨rfl, hx⟩
    rw [hE, hL'] at *
    exact ⟨rfl, hs.rx hx⟩⟩
  rw [hSS] at HS
  clear h hL ha hn hx0 hE hL'
  unfold opV
  go_enter Try.func9, Try.ntmps9
  go_upto_region 16 with (fail)
  obtain ⟨B, hB⟩ : ∃ B, w.heap.size = B := ⟨_, rfl⟩
  generalize hW : w.alloc (.cells #[.int .i64 7, .int .u64 (a : Int), .int .i64 n, .int .i64 may, .int .u64 x, .slice ao len cap] 33) = W at *
  rw [hB] at HS ⊢
  clear hB hW
  have HD : Hid _ := ⟨HS.out.bel (Below.refl _ _).drew⟩
  have c1 := HS.out.op.c1
  have c2 := HS.out.op.c2
  have c3 := HS.out.op.c4
  have d1 : W.drew.cell? ⟨B, 1, none⟩ = _ := c1
  have d2 : W.drew.cell? ⟨B, 2, none⟩ = _ := c2
  have d3 : W.drew.cell? ⟨B, 4, none⟩ = _ := c3
  go_region_held3 (fun v => v.cell? ⟨B, 1, none⟩ = some (.int .u64 (a : Int)) ∧ v.cell? ⟨B, 2, none⟩ = some (.int .i64 n) ∧ v.cell? ⟨B, 4, none⟩ = some (.int .u64 x))
    ((refine ⟨?_, ?_, ?_⟩) <;> (with_reducible assumption))
    (first
      | (go_at_call 21; (with_reducible refine (HM.out _ _ HD.out).mono ?_); rintro e w1 ⟨he, pl', h1⟩; subst he; have HS1 : Hid _ := ⟨h1⟩; have x1 := h1.op.c1; have x2 := h1.op.c2; have x3 := h1.op.c4; clear h1)
      | (go_at_call 34; (with_reducible refine (HR.out _ _ _ HS1.out).mono ?_); rintro e w2 ⟨he, lv', pb', h2⟩; subst he; have HS2 : Hid _ := ⟨h2⟩; have y1 := h2.op.c1; have y2 := h2.op.c2; have y3 := h2.op.c4; clear h2)
      | (go_at_call 18; (with_reducible refine (num_any _ _).mono ?_); rintro e wn ⟨he, hwn⟩; subst he; subst wn))
  all_goals
    go_wp2
    go_ret
    exact ⟨rfl, by subst hSS; exact HS2.out.sx HL.out⟩

theorem SX.same {w w' : World} {mb gb : Nat} {pl : Nat → Nat} {L : List Pz} {rb : Nat} {lv : Value} {pb : Nat → Nat} (h : Pr w mb gb pl L rb lv pb L) (hL : L.length ≤ 1024) (hb : Below w.heap.size w w') : SX w w' mb gb pl L rb lv pb :=
  ⟨pl, lv, pb, L, h.below hb, hL, Turn.of_below hb _, fun _ h => .inl h⟩

set_option maxRecDepth 20000 in
set_option maxHeartbeats 4000000 in
theorem step_load (mb gb : Nat) (pl : Nat → Nat) (L : List Pz) (rb : Nat) (lv : Value) (pb : Nat → Nat) (a : Nat) (n may x : Int) (ao : Option Addr) (len cap : Nat) (w : World) (h : Pr w mb gb pl L rb lv pb L) (hL : L.length ≤ 1024) (ha : a < 18446744073709551616) :
    Calls Try.prog 9 #[.pointer (some ⟨mb, 0, none⟩), .pointer (some ⟨rb, 0, none⟩), opV 6 a n may x (.slice ao len cap)] w fun e w' => e = .returned (.bool true) ∧ SX w w' mb gb pl L rb lv pb := by
  have HS : Hid _ := ⟨st2_start h 6 a n may x (.slice ao len cap) 33⟩
  obtain ⟨E, hE⟩ : ∃ E, loE L a n = E := ⟨_, rfl⟩
  obtain ⟨V, hV⟩ : ∃ V, loV L a n = V := ⟨_, rfl⟩
  have hEE : (E == E) = true := by simp
  have hVV : (V == V) = true := by simp
  obtain ⟨S, hSS⟩ : ∃ S, PB mb gb pl L rb lv pb L = S := ⟨_, rfl⟩
  have HL : Hid (L.length ≤ 1024) := ⟨hL⟩
  have HM : Hid (∀ B W, St2 w S W mb gb pl L rb lv pb L B 6 a n may x (.slice ao len cap) → Calls Try.prog 23 #[.pointer (some ⟨mb, 0, none⟩), .int .u64 (a : Int), .int .i64 n] W fun e w' => e = .returned (.tuple #[.int .u64 V, .int .i64 E]) ∧ St2 w S w' mb gb pl L rb lv pb L B 6 a n may x (.slice ao len cap)) := ⟨fun B W hs => by
    rw [← hE, ← hV]
    refine (mload_be mb gb a pl L n W hs.pr.m ha).mono ?_
    rintro e w' ⟨rfl, hb⟩
    exact ⟨rfl, hs.bel hb⟩⟩
  have HR : Hid (∀ B W, St2 w S W mb gb pl L rb lv pb L B 6 a n may x (.slice ao len cap) → Calls Try.prog 33 #[.pointer (some ⟨rb, 0, none⟩), .int .u64 (a : Int), .int .i64 n] W fun e w' => e = .returned (.tuple #[.int .u64 V, .int .i64 E]) ∧ St2 w S w' mb gb pl L rb lv pb L B 6 a n may x (.slice ao len cap)) := ⟨fun B W hs => by
    rw [← hE, ← hV]
    refine (rload_be rb a lv pb L n W hs.pr.r ha (by omega)).mono ?_
    rintro e w' ⟨rfl, hb⟩
    exact ⟨rfl, hs.bel hb⟩⟩
  rw [hSS] at HS
  clear h hL ha hE hV
  unfold opV
  go_enter Try.func9, Try.ntmps9
  go_upto_region 12 with (fail)
  obtain ⟨B, hB⟩ : ∃ B, w.heap.size = B := ⟨_, rfl⟩
  generalize hW : w.alloc (.cells #[.int .i64 6, .int .u64 (a : Int), .int .i64 n, .int .i64 may, .int .u64 x, .slice ao len cap] 33) = W at *
  rw [hB] at HS ⊢
  clear hB hW
  have c1 := HS.out.op.c1
  have c2 := HS.out.op.c2
  go_wp2_with (first
    | (go_at_call 23; (with_reducible refine (HM.out _ _ HS.out).mono ?_); rintro e w1 ⟨he, h1⟩; subst he; have HS1 : Hid _ := ⟨h1⟩; have x1 := h1.op.c1; have x2 := h1.op.c2; clear h1)
    | (go_at_call 33; (with_reducible refine (HR.out _ _ HS1.out).mono ?_); rintro e w2 ⟨he, h2⟩; subst he; have HS2 : Hid _ := ⟨h2⟩; clear h2)
    | (go_at_call 18; (with_reducible refine (num_any _ _).mono ?_); rintro e wn ⟨he, hwn⟩; subst he; subst wn))
  go_ret
  exact ⟨rfl, by subst hSS; exact HS2.out.sx HL.out⟩

set_option maxRecDepth 20000 in
set_option maxHeartbeats 4000000 in
theorem step_read (mb gb : Nat) (pl : Nat → Nat) (L : List Pz) (rb : Nat) (lv : Value) (pb : Nat → Nat) (a : Nat) (n may x : Int) (ao : Option Addr) (len cap : Nat) (w : World) (h : Pr w mb gb pl L rb lv pb L) (hL : L.length ≤ 1024) (ha : a < 18446744073709551616) :
    Calls Try.prog 9 #[.pointer (some ⟨mb, 0, none⟩), .pointer (some ⟨rb, 0, none⟩), opV 3 a n may x (.slice ao len cap)] w fun e w' => e = .returned (.bool true) ∧ SX w w' mb gb pl L rb lv pb := by
  have HS : Hid _ := ⟨st2_start h 3 a n may x (.slice ao len cap) 33⟩
  obtain ⟨S, hSS⟩ : ∃ S, PB mb gb pl L rb lv pb L = S := ⟨_, rfl⟩
  have HL : Hid (L.length ≤ 1024) := ⟨hL⟩
  have HM : Hid (∀ B W, St2 w S W mb gb pl L rb lv pb L B 3 a n may x (.slice ao len cap) → Calls Try.prog 32 #[.pointer (some ⟨mb, 0, none⟩), .pointer (some ⟨rb, 0, none⟩), .agg #[.int .i64 3, .int .u64 (a : Int), .int .i64 n, .int .i64 may, .int .u64 x, .slice ao len cap]] W fun e w' => e = .returned (.bool true) ∧ St2 w S w' mb gb pl L rb lv pb L B 3 a n may x (.slice ao len cap)) := ⟨fun B W hs => by
    refine (reads_read mb gb pl L rb lv pb a n may x ao len cap W hs.pr hL ha).mono ?_
    rintro e w' ⟨rfl, hb⟩
    exact ⟨rfl, hs.bel hb⟩⟩
  rw [hSS] at HS
  clear h hL ha
  unfold opV
  go_enter Try.func9, Try.ntmps9
  go_upto_region 10 with (fail)
  obtain ⟨B, hB⟩ : ∃ B, w.heap.size = B := ⟨_, rfl⟩
  generalize hW : w.alloc (.cells #[.int .i64 3, .int .u64 (a : Int), .int .i64 n, .int .i64 may, .int .u64 x, .slice ao len cap] 33) = W at *
  rw [hB] at HS ⊢
  clear hB hW
  obtain ⟨c0, c1, c2, c3, c4, c5⟩ := HS.out.op
  go_wp2_with (first
    | (go_at_call 32; (with_reducible refine (HM.out _ _ HS.out).mono ?_); rintro e w1 ⟨he, h1⟩; subst he; have HS1 : Hid _ := ⟨h1⟩; clear h1))
  go_ret
  exact ⟨rfl, by subst hSS; exact HS1.out.sx HL.out⟩

set_option maxRecDepth 20000 in
set_option maxHeartbeats 4000000 in
theorem step_fetch (mb gb : Nat) (pl : Nat → Nat) (L : List Pz) (rb : Nat) (lv : Value) (pb : Nat → Nat) (a : Nat) (n may x : Int) (ao : Option Addr) (len cap : Nat) (w : World) (h : Pr w mb gb pl L rb lv pb L) (hL : L.length ≤ 1024) (ha : a < 18446744073709551616) :
    Calls Try.prog 9 #[.pointer (some ⟨mb, 0, none⟩), .pointer (some ⟨rb, 0, none⟩), opV 5 a n may x (.slice ao len cap)] w fun e w' => e = .returned (.bool true) ∧ SX w w' mb gb pl L rb lv pb := by
  have HS : Hid _ := ⟨st2_start h 5 a n may x (.slice ao len cap) 33⟩
  obtain ⟨S, hSS⟩ : ∃ S, PB mb gb pl L rb lv pb L = S := ⟨_, rfl⟩
  have HL : Hid (L.length ≤ 1024) := ⟨hL⟩
  have HM : Hid (∀ B W, St2 w S W mb gb pl L rb lv pb L B 5 a n may x (.slice ao len cap) → Calls Try.prog 32 #[.pointer (some ⟨mb, 0, none⟩), .pointer (some ⟨rb, 0, none⟩), .agg #[.int .i64 5, .int .u64 (a : Int), .int .i64 n, .int .i64 may, .int .u64 x, .slice ao len cap]] W fun e w' => e = .returned (.bool true) ∧ St2 w S w' mb gb pl L rb lv pb L B 5 a n may x (.slice ao len cap)) := ⟨fun B W hs => by
    refine (reads_fetch mb gb pl L rb lv pb a n may x ao len cap W hs.pr hL ha).mono ?_
    rintro e w' ⟨rfl, hb⟩
    exact ⟨rfl, hs.bel hb⟩⟩
  rw [hSS] at HS
  clear h hL ha
  unfold opV
  go_enter Try.func9, Try.ntmps9
  go_upto_region 10 with (fail)
  obtain ⟨B, hB⟩ : ∃ B, w.heap.size = B := ⟨_, rfl⟩
  generalize hW : w.alloc (.cells #[.int .i64 5, .int .u64 (a : Int), .int .i64 n, .int .i64 may, .int .u64 x, .slice ao len cap] 33) = W at *
  rw [hB] at HS ⊢
  clear hB hW
  obtain ⟨c0, c1, c2, c3, c4, c5⟩ := HS.out.op
  go_wp2_with (first
    | (go_at_call 32; (with_reducible refine (HM.out _ _ HS.out).mono ?_); rintro e w1 ⟨he, h1⟩; subst he; have HS1 : Hid _ := ⟨h1⟩; clear h1))
  go_ret
  exact ⟨rfl, by subst hSS; exact HS1.out.sx HL.out⟩


set_option maxRecDepth 20000 in
set_option maxHeartbeats 4000000 in
theorem step_put (mb gb : Nat) (pl : Nat → Nat) (L : List Pz) (rb : Nat) (lv : Value) (pb : Nat → Nat) (a : Nat) (n may x : Int) (ao : Option Addr) (len cap : Nat) (bs : Nat → Int) (w : World) (h : Pr w mb gb pl L rb lv pb L) (hL : L.length ≤ 1024) (ha : a < 18446744073709551616) (hI : IsRow w ao len cap bs) (hl : len ≤ 140737488355328) (hna : 0 < len → ∀ b off, ao = some ⟨b, off, none⟩ → ¬ PB mb gb pl L rb lv pb L b) :
    Calls Try.prog 9 #[.pointer (some ⟨mb, 0, none⟩), .pointer (some ⟨rb, 0, none⟩), opV 8 a n may x (.slice ao len cap)] w fun e w' => e = .returned (.bool true) ∧ SX w w' mb gb pl L rb lv pb := by
  have HS : Hid _ := ⟨st2_start h 8 a n may x (.slice ao len cap) 33⟩
  have HR0 : Hid (Row (w.alloc (.cells #[.int .i64 8, .int .u64 (a : Int), .int .i64 n, .int .i64 may, .int .u64 x, .slice ao len cap] 33)) ao len bs) := ⟨hI.row.bel ((Below.refl _ _).alloc (Nat.le_refl _) _)⟩
  have HI : Hid ((∀ i, 0 ≤ bs i ∧ bs i < 256) ∧ (ao = none → len = 0 ∧ cap = 0) ∧ len ≤ 140737488355328) := ⟨hI.byte, hI.nil, hl⟩
  have HNA : Hid _ := ⟨hna⟩
  obtain ⟨E, hE⟩ : ∃ E, givE L 0 60 a len = E := ⟨_, rfl⟩
  obtain ⟨L', hL'⟩ : ∃ L', givL L 0 60 a (lst bs len) = L' := ⟨_, rfl⟩
  have hk' : L'.map (fun p => p.k) = L.map (fun p => p.k) := by rw [← hL']; exact givL_k _ _ _ _ _
  obtain ⟨S, hSS⟩ : ∃ S, PB mb gb pl L rb lv pb L = S := ⟨_, rfl⟩
  have hEE : (E == E) = true := by simp
  obtain ⟨Y, hY⟩ : ∃ Y, strOfNums (lst bs len) = Y := ⟨_, rfl⟩
  have hyy : (Y.toList == Y.toList) = true := by simp
  have HL : Hid (L'.length ≤ 1024) := ⟨by rw [k_len hk']; exact hL⟩
  have HM : Hid (∀ B W g gc, St3 w S W mb gb pl L rb lv pb L B 8 a n may x ao len cap bs g gc → Calls Try.prog 28 #[.pointer (some ⟨mb, 0, none⟩), .int .u64 (a : Int), .slice (some ⟨g, 0, none⟩) len gc] W fun e w' => e = .returned (.int .i64 E) ∧ St3 w S w' mb gb pl L' rb lv pb L B 8 a n may x ao len cap bs g gc) := ⟨fun B W g gc hs => by
    refine (put_any mb gb a pl L W hs.st.pr.m ha _ (lst bs len) (hs.src hI.byte)).mono ?_
    rintro e w' ⟨rfl, hm, ht⟩
    rw [lst_len, hE]
    rw [hL'] at hm
    exact ⟨rfl, hs.nxk hk' hm ht⟩⟩
  have HR : Hid (∀ B W g gc, St3 w S W mb gb pl L' rb lv pb L B 8 a n may x ao len cap bs g gc → Calls Try.prog 35 #[.pointer (some ⟨rb, 0, none⟩), .int .u64 (a : Int), .slice ao len cap] W fun e w' => e = .returned (.int .i64 E) ∧ St3 w S w' mb gb pl L' rb lv pb L' B 8 a n may x ao len cap bs g gc) := ⟨fun B W g gc hs => by
    have := rputs_any rb a cap ao (lst bs len) lv pb L W hs.st.pr.r ha (by omega) (by rw [lst_len]; omega) (hs.rsrc hI.byte)
    rw [lst_len, hE, hL'] at this
    refine this.mono ?_
    rintro e w' ⟨rfl, hm, ht⟩
    exact ⟨rfl, hs.rxk hk' hm ht⟩⟩
  rw [hSS] at HS
  clear h hL ha hI hl hna hE hL' hk'
  unfold opV
  go_enter Try.func9, Try.ntmps9
  go_upto_region 17 with (fail)
  obtain ⟨B, hB⟩ : ∃ B, w.heap.size = B := ⟨_, rfl⟩
  generalize hW : w.alloc (.cells #[.int .i64 8, .int .u64 (a : Int), .int .i64 n, .int .i64 may, .int .u64 x, .slice ao len cap] 33) = W at *
  rw [hB] at HS ⊢
  clear hB hW
  have HD : Hid (St2 w S (W.alloc (.cells #[] 5)) mb gb pl L rb lv pb L B 8 a n may x (.slice ao len cap)) := ⟨HS.out.bel ((Below.refl _ _).alloc (Nat.le_refl _) _)⟩
  have c5 : (W.alloc (.cells #[] 5)).cell? ⟨B, 5, none⟩ = _ := HD.out.op.c5
  go_upto_region 20 with (first
    | (at_builtin; refine append_row _ rfl _ _ rfl W.heap.size _ _ _ [] rfl (Own.empty W W.heap.size (Nat.le_refl _)) _ _ _ bs rfl (HR0.out.bel ((Below.refl _ _).alloc (Nat.le_refl _) _)) HI.out.2.1 len (by omega) (by have := HI.out.2.2; simp; omega) (by simp) ?_; intro g gc W3 hown hc1 hd1 hb1))
  rw [List.nil_append] at hown
  have H3 : Hid (St3 w S W3 mb gb pl L rb lv pb L B 8 a n may x ao len cap bs g gc) := ⟨st3_start HS.out HR0.out HNA.out (((Below.refl _ W).alloc (Nat.le_refl _) _).trans hb1) hown⟩
  clear hown hc1 hd1 hb1 c5
  have c0 := H3.out.st.op.c0
  have c1 := H3.out.st.op.c1
  go_upto_region 25 with (first
    | (go_at_call 28; (with_reducible refine (HM.out _ _ _ _ H3.out).mono ?_); rintro e w1 ⟨he, h1⟩; subst he; have HS1 : Hid _ := ⟨h1⟩; have x1 := h1.st.op.c1; have x5 := h1.st.op.c5; clear h1)
    | (go_at_call 35; (with_reducible refine (HR.out _ _ _ _ HS1.out).mono ?_); rintro e w2 ⟨he, h2⟩; subst he; have HS2 : Hid _ := ⟨h2⟩; have y5 := h2.st.op.c5; clear h2))
  have q1 := HS2.out.own.conv
  have q2 := conv_row w2 ao len cap bs HS2.out.row (fun e => (HI.out.2.1 e).1)
  rw [hY] at q1 q2
  have HSp : Hid _ := ⟨HS2.out.spoil HI.out.1 HI.out.2.2⟩
  go_wp2_with (first
    | (go_at_call 18; (with_reducible refine (num_any _ _).mono ?_); rintro e wn ⟨he, hwn⟩; subst he; subst wn)
    | (go_at_call 37; (with_reducible refine HSp.out.mono ?_); rintro e w3 ⟨he, h3⟩; subst he; have HS3 : Hid _ := ⟨h3⟩; clear h3))
  go_ret
  exact ⟨rfl, by subst hSS; exact HS3.out.sx HL.out⟩

set_option maxRecDepth 20000 in
set_option maxHeartbeats 4000000 in
theorem step_write (mb gb : Nat) (pl : Nat → Nat) (L : List Pz) (rb : Nat) (lv : Value) (pb : Nat → Nat) (k : Int) (a : Nat) (n may x : Int) (ao : Option Addr) (len cap : Nat) (bs : Nat → Int) (w : World) (h : Pr w mb gb pl L rb lv pb L) (hL : L.length ≤ 1024) (ha : a < 18446744073709551616) (hI : IsRow w ao len cap bs) (hl : len ≤ 140737488355328) (hna : 0 < len → ∀ b off, ao = some ⟨b, off, none⟩ → ¬ PB mb gb pl L rb lv pb L b) (k0 : (k == 0) = false) (k1 : (k == 1) = false) (k2 : (k == 2) = false) (k3 : (k == 3) = false) (k5 : (k == 5) = false) (k6 : (k == 6) = false) (k7 : (k == 7) = false) (k8 : (k == 8) = false) :
    Calls Try.prog 9 #[.pointer (some ⟨mb, 0, none⟩), .pointer (some ⟨rb, 0, none⟩), opV k a n may x (.slice ao len cap)] w fun e w' => e = .returned (.bool true) ∧ SX w w' mb gb pl L rb lv pb := by
  have HS : Hid _ := ⟨st2_start h k a n may x (.slice ao len cap) 33⟩
  have HR0 : Hid (Row (w.alloc (.cells #[.int .i64 k, .int .u64 (a : Int), .int .i64 n, .int .i64 may, .int .u64 x, .slice ao len cap] 33)) ao len bs) := ⟨hI.row.bel ((Below.refl _ _).alloc (Nat.le_refl _) _)⟩
  have HI : Hid ((∀ i, 0 ≤ bs i ∧ bs i < 256) ∧ (ao = none → len = 0 ∧ cap = 0) ∧ len ≤ 140737488355328) := ⟨hI.byte, hI.nil, hl⟩
  have HNA : Hid _ := ⟨hna⟩
  obtain ⟨E, hE⟩ : ∃ E, givE L 2 61 a len = E := ⟨_, rfl⟩
  obtain ⟨L', hL'⟩ : ∃ L', givL L 2 61 a (lst bs len) = L' := ⟨_, rfl⟩
  have hk' : L'.map (fun p => p.k) = L.map (fun p => p.k) := by rw [← hL']; exact givL_k _ _ _ _ _
  obtain ⟨S, hSS⟩ : ∃ S, PB mb gb pl L rb lv pb L = S := ⟨_, rfl⟩
  have hEE : (E == E) = true := by simp
  obtain ⟨Y, hY⟩ : ∃ Y, strOfNums (lst bs len) = Y := ⟨_, rfl⟩
  have hyy : (Y.toList == Y.toList) = true := by simp
  have HL : Hid (L'.length ≤ 1024) := ⟨by rw [k_len hk']; exact hL⟩
  have HM : Hid (∀ B W g gc, St3 w S W mb gb pl L rb lv pb L B k a n may x ao len cap bs g gc → Calls Try.prog 17 #[.pointer (some ⟨mb, 0, none⟩), .int .u64 (a : Int), .slice (some ⟨g, 0, none⟩) len gc] W fun e w' => e = .returned (.int .i64 E) ∧ St3 w S w' mb gb pl L' rb lv pb L B k a n may x ao len cap bs g gc) := ⟨fun B W g gc hs => by
    refine (write_any mb gb a pl L W hs.st.pr.m ha _ (lst bs len) (hs.src hI.byte)).mono ?_
    rintro e w' ⟨rfl, hm, ht⟩
    rw [lst_len, hE]
    rw [hL'] at hm
    exact ⟨rfl, hs.nxk hk' hm ht⟩⟩
  have HR : Hid (∀ B W g gc, St3 w S W mb gb pl L' rb lv pb L B k a n may x ao len cap bs g gc → Calls Try.prog 36 #[.pointer (some ⟨rb, 0, none⟩), .int .u64 (a : Int), .slice ao len cap] W fun e w' => e = .returned (.int .i64 E) ∧ St3 w S w' mb gb pl L' rb lv pb L' B k a n may x ao len cap bs g gc) := ⟨fun B W g gc hs => by
    have := rwrite_any rb a cap ao (lst bs len) lv pb L W hs.st.pr.r ha (by omega) (by rw [lst_len]; omega) (hs.rsrc hI.byte)
    rw [lst_len, hE, hL'] at this
    refine this.mono ?_
    rintro e w' ⟨rfl, hm, ht⟩
    exact ⟨rfl, hs.rxk hk' hm ht⟩⟩
  rw [hSS] at HS
  clear h hL ha hI hl hna hE hL' hk'
  unfold opV
  go_enter Try.func9, Try.ntmps9
  go_upto_region 17 with (fail)
  obtain ⟨B, hB⟩ : ∃ B, w.heap.size = B := ⟨_, rfl⟩
  generalize hW : w.alloc (.cells #[.int .i64 k, .int .u64 (a : Int), .int .i64 n, .int .i64 may, .int .u64 x, .slice ao len cap] 33) = W at *
  rw [hB] at HS ⊢
  clear hB hW
  have HD : Hid (St2 w S (W.alloc (.cells #[] 5)) mb gb pl L rb lv pb L B k a n may x (.slice ao len cap)) := ⟨HS.out.bel ((Below.refl _ _).alloc (Nat.le_refl _) _)⟩
  have c5 : (W.alloc (.cells #[] 5)).cell? ⟨B, 5, none⟩ = _ := HD.out.op.c5
  go_upto_region 20 with (first
    | (at_builtin; refine append_row _ rfl _ _ rfl W.heap.size _ _ _ [] rfl (Own.empty W W.heap.size (Nat.le_refl _)) _ _ _ bs rfl (HR0.out.bel ((Below.refl _ _).alloc (Nat.le_refl _) _)) HI.out.2.1 len (by omega) (by have := HI.out.2.2; simp; omega) (by simp) ?_; intro g gc W3 hown hc1 hd1 hb1))
  rw [List.nil_append] at hown
  have H3 : Hid (St3 w S W3 mb gb pl L rb lv pb L B k a n may x ao len cap bs g gc) := ⟨st3_start HS.out HR0.out HNA.out (((Below.refl _ W).alloc (Nat.le_refl _) _).trans hb1) hown⟩
  clear hown hc1 hd1 hb1 c5
  have c0 := H3.out.st.op.c0
  have c1 := H3.out.st.op.c1
  go_upto_region 25 with (first
    | (go_at_call 17; (with_reducible refine (HM.out _ _ _ _ H3.out).mono ?_); rintro e w1 ⟨he, h1⟩; subst he; have HS1 : Hid _ := ⟨h1⟩; have x1 := h1.st.op.c1; have x5 := h1.st.op.c5; clear h1)
    | (go_at_call 36; (with_reducible refine (HR.out _ _ _ _ HS1.out).mono ?_); rintro e w2 ⟨he, h2⟩; subst he; have HS2 : Hid _ := ⟨h2⟩; have y5 := h2.st.op.c5; clear h2))
  have q1 := HS2.out.own.conv
  have q2 := conv_row w2 ao len cap bs HS2.out.row (fun e => (HI.out.2.1 e).1)
  rw [hY] at q1 q2
  have HSp : Hid _ := ⟨HS2.out.spoil HI.out.1 HI.out.2.2⟩
  go_wp2_with (first
    | (go_at_call 18; (with_reducible refine (num_any _ _).mono ?_); rintro e wn ⟨he, hwn⟩; subst he; subst wn)
    | (go_at_call 37; (with_reducible refine HSp.out.mono ?_); rintro e w3 ⟨he, h3⟩; subst he; have HS3 : Hid _ := ⟨h3⟩; clear h3))
  go_ret
  exact ⟨rfl, by subst hSS; exact HS3.out.sx HL.out⟩
end Go.Proofs.Ytpfmnopokfiheaa
