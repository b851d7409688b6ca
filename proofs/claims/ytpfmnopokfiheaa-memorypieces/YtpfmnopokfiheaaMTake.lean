/- The contract of take. -/
import Derived.Test.YtpfmnopokfiheaaMReach
import Derived.Laws.CopyOwn
namespace Go.Proofs.Ytpfmnopokfiheaa
open Go.ChangeShapes Go.WideShapes Go.ChangeAt Go.RowKit Go.Maps Go.Shelf
attribute [local go_sem] Oper.semAt_some
set_option linter.unusedVariables false
set_option linter.unusedSimpArgs false

/-- The bytes of a piece; of pieces. -/
def byQ (q : Pz × Nat × Nat) : List Int := (q.1.B.drop q.2.1).take q.2.2
def flQ (l : List (Pz × Nat × Nat)) : List Int := l.flatMap byQ
def flP {L : List Pz} (l : List (Pc L)) : List Int := flQ (l.map (fun x => x.1))

theorem flP_snoc {L : List Pz} (l : List (Pc L)) (x : Pc L) : flP (l ++ [x]) = flP l ++ byQ x.1 := by simp [flP, flQ]
theorem flQ_len : ∀ (l : List (Pz × Nat × Nat)), (∀ q ∈ l, q.1.B.length = 4096 ∧ q.2.1 + q.2.2 ≤ 4096) → (flQ l).length = smQ l
  | [], _ => rfl
  | q :: l, h => by
    have h1 := h q (by simp)
    have h2 := flQ_len l (fun q hq => h q (by simp [hq]))
    simp only [flQ, smQ, List.flatMap_cons, List.length_append, List.map_cons, List.sum_cons] at h2 ⊢
    rw [h2]
    simp only [byQ, List.length_take, List.length_drop]
    omega

theorem pcs_sum {L : List Pz} {may : Int} : ∀ (f k fr left : Nat), smQ (pcs L may f k fr left) ≤ left
  | 0, k, fr, left => by simp [pcs, smQ]
  | f + 1, k, fr, left => by
    by_cases h0 : left = 0
    · subst h0; rw [pcs_end]; simp [smQ]
    cases hp : fnd L k with
    | none => rw [pcs_none hp]; simp [smQ]
    | some p =>
      by_cases hb : bits .and .i64 p.may may = may
      · rw [pcs_more hp hb h0]
        have h1 : min left (4096 - fr) ≤ left := Nat.min_le_left _ _
        have := pcs_sum (L := L) (may := may) f (k + 1) 0 (left - min left (4096 - fr))
        generalize min left (4096 - fr) = m at *
        simp only [smQ, List.map_cons, List.sum_cons] at this ⊢
        omega
      · rw [pcs_not hp hb]; simp [smQ]
theorem MA.grown {w w' : World} {mb gb : Nat} {pl : Nat → Nat} {L : List Pz} (h : MA w mb gb pl L) {row : Option Nat} (hg : w.grownBy w' row) (hr : ∀ r, row = some r → ¬ MS mb gb pl L r) : MA w' mb gb pl L :=
  h.turn (S := fun k => some k = row) ⟨hg.os, hg.tape, hg.output, hg.size, fun k hk hn => hg.block k hk hn⟩ (fun b hb e => hr b e.symm hb)

theorem info5' : (Try.prog.info? 5).map (·.size) = some 1 := by kernel_rfl
/-- copy. -/
theorem copy_run (W : World) (g o dLen dCap : Nat) (dp sp : Option Addr) (sLen sCap : Nat) (cur : List Value) (t : TypeId) (cs : List Value) (hg : W.heap[g]? = some (.cells cur.toArray t)) (hn : cs.length = Nat.min sLen dLen)
    (hpos : 0 < cs.length → dp = some ⟨g, o, none⟩ ∧ ∃ ad, sp = some ad ∧ ∀ j v, cs[j]? = some v → W.cell? (ad.add j) = some v) (hfit : o + cs.length ≤ cur.length) (h1 : ∀ v ∈ cs, v.oneCell' = true) :
    ∃ W2, (∀ ty, (Builtin.copy_ #[31, 31] ty #[.slice dp dLen dCap, .slice sp sLen sCap]).run Try.prog W = .ok (.int .i64 (cs.length : Int)) W2) ∧ W2.heap[g]? = some (.cells (splice cur o cs).toArray t) ∧ W.grownBy W2 (some g) := by
  by_cases h0 : cs.length = 0
  · obtain rfl : cs = [] := List.eq_nil_of_length_eq_zero h0
    refine ⟨W, fun ty => ?_, by simpa [splice] using hg, ⟨rfl, rfl, rfl, Nat.le_refl _, fun _ _ _ => rfl⟩⟩
    exact run_copy_none (P := Try.prog) W 31 31 ty 5 dp sp dLen dCap sLen sCap Try.underlying31 info5' (by simpa using hn.symm)
  · obtain ⟨rfl, ad, rfl, hsrc⟩ := hpos (by omega)
    refine ⟨_, fun ty => run_copy_row (P := Try.prog) W 31 31 ty 5 g o dLen dCap ad sLen sCap cur.toArray t cs Try.underlying31 info5' hg hn hsrc (by simpa using hfit) h1, ?_, ?_⟩
    · have := setRow_heap W g _ ((cur.toArray.toList.take o ++ cs ++ cur.toArray.toList.drop (o + cs.length)).toArray) t _ hg
      rw [this]
      simp [splice]
    · exact ⟨rfl, rfl, rfl, by simp [World.setRow], fun i hi hne => setRow_other W g i _ (fun e => hne (by rw [e]))⟩

theorem IR.lt {W : World} {mb gb : Nat} {pl : Nat → Nat} {L : List Pz} {D : DataW Value} {b1 b2 b3 b4 a n : Nat} {may : Int} (h : IR W mb gb pl L D b1 b2 b3 b4 a n may) {k : Nat} (hk : IB mb gb pl L b1 b2 b3 b4 k) : k < W.heap.size := by
  rcases hk with rfl | rfl | rfl | rfl | rfl | rfl | ⟨p, hp, rfl⟩
  · exact World.block_lt_of_cell? _ _ h.c1
  · exact World.block_lt_of_cell? _ _ h.c2
  · exact World.block_lt_of_cell? _ _ h.c3
  · exact World.block_lt_of_cell? _ _ h.c4
  · exact World.block_lt_of_cell? _ _ h.m
  · exact h.own.lt
  · exact World.block_lt_of_cell? _ _ (h.p p hp)
/-- A slice's rest. -/
theorem slice_rest (W : World) (g off n cap c : Nat) (hc : c ≤ n) (hcap : n ≤ cap) :
    ∃ dp, (Instr.slice 31 (.slice (some ⟨g, off, none⟩) n cap) (some (.int .i64 (c : Int))) none none).run Try.prog W = .ok (.slice dp (n - c) (cap - c)) W ∧ (c < n → dp = some ⟨g, off + c, none⟩) := by
  have hs := info5'
  cases hq : Try.prog.info? 5 with
  | none => rw [hq] at hs; cases hs
  | some i =>
    have hi1 : i.size = 1 := by rw [hq] at hs; simpa using hs
    have g2 : (0 : Int) ≤ (c : Int) ∧ (c : Int) ≤ (n : Int) := by omega
    refine ⟨if cap = c then some ⟨g, off, none⟩ else some ⟨g, off + c, none⟩, ?_, fun h => by rw [if_neg (by omega)]⟩
    by_cases e : cap = c
    · simp [Instr.slice, run_underlying Try.underlying31, Instr.sliceBounds, Instr.sliceBound, asIntOf, g2, sizeOf, typeInfo, hq, hi1, e, addr_add]
      omega
    · simp [Instr.slice, run_underlying Try.underlying31, Instr.sliceBounds, Instr.sliceBound, asIntOf, g2, sizeOf, typeInfo, hq, hi1, e, addr_add]
      omega

theorem splice_more {α : Type} (L cs ys : List α) (off : Nat) (h : off + cs.length ≤ L.length) : splice (splice L off cs) (off + cs.length) ys = splice L off (cs ++ ys) := by
  have h1 : (L.take off).length = off := by simp; omega
  have e1 : (splice L off cs).take (off + cs.length) = L.take off ++ cs := by
    unfold splice
    rw [← List.append_assoc, List.take_append_of_le_length (by simp; omega), List.take_of_length_le (by simp; omega)]
  have e2 : (splice L off cs).drop (off + cs.length + ys.length) = L.drop (off + cs.length + ys.length) := by
    unfold splice
    rw [← List.append_assoc, List.drop_append, List.drop_of_length_le (by simp; omega), List.nil_append, List.drop_drop]
    congr 1
    simp
    omega
  show (splice L off cs).take (off + cs.length) ++ (ys ++ (splice L off cs).drop (off + cs.length + ys.length)) = L.take off ++ ((cs ++ ys) ++ L.drop (off + (cs ++ ys).length))
  rw [e1, e2, List.length_append, ← Nat.add_assoc]
  simp [List.append_assoc]
theorem take_more (A B : List Int) (n k : Nat) (hk : min B.length (n - (A.take n).length) = k) : (A ++ B).take n = A.take n ++ B.take k := by
  rw [List.take_append]
  congr 1
  rw [List.take_eq_take_iff]
  rw [← hk]
  simp only [List.length_take]
  omega

set_option maxRecDepth 100000 in
set_option maxHeartbeats 2000000 in
theorem take_ok (mb gb a n cap g off : Nat) (pl : Nat → Nat) (L : List Pz) (may : Int) (cur : List Value) (t : TypeId) (w : World) (h : MA w mb gb pl L) (ha : a < 18446744073709551616) (hn : n ≤ 1048576) (hcap : n ≤ cap) (hcap2 : cap ≤ 9223372036854775807) (hg : w.heap[g]? = some (.cells cur.toArray t)) (hfit : off + n ≤ cur.length) (hgs : ¬ MS mb gb pl L g) :
    Calls Try.prog 46 #[.pointer (some ⟨mb, 0, none⟩), .int .u64 a, .slice (some ⟨g, off, none⟩) n cap, .int .i64 may] w fun e w' =>
      e = .returned (.int .i64 (smQ (pcsA L may a n))) ∧ w'.heap[g]? = some (.cells (splice cur off ((flQ (pcsA L may a n)).map (Value.int .u8))).toArray t) ∧ Turn (fun k => k = g) w w' := by
  refine (callsIn_wide (n := 3)).1 ?_
  refine callsIn_of_wp_marks Try.func46 rfl trivial ?_ rfl
  simp only [Try.ntmps46, List.size_toArray, List.length_cons, List.length_nil, Nat.reduceAdd, Nat.reduceSub, Array.replicate_succ, Array.replicate_zero, List.push_toArray, List.append_toArray, List.nil_append, List.cons_append]
  gi_wp2_with (refine ⟨trivial, ?_⟩; gi_at_call 60; refine (callsIn_wide.2 (walk_any _ _ _ _ _)).mono ?_; rintro e w' ⟨rfl, rfl⟩)
  obtain ⟨w1, hw1⟩ : ∃ w1, (w.alloc (.cells #[.slice (some ⟨g, off, none⟩) n cap] 31)).alloc (.cells #[.int .i64 0] 3) = w1 := ⟨_, rfl⟩
  have hs1 : w1.heap.size = w.heap.size + 2 := by rw [← hw1]; simp
  have hB1 : Below w.heap.size w w1 := by rw [← hw1]; exact ((Below.refl _ _).alloc (Nat.le_refl _) _).alloc (by simp) _
  have bB : Boxed w1 w.heap.size 31 (.slice (some ⟨g, off, none⟩) n cap) := by rw [← hw1]; exact (Boxed.new w _ _).alloc _
  have bN : Boxed w1 (w.heap.size + 1) 3 (.int .i64 0) := by
    rw [← hw1]
    have := Boxed.new (w.alloc (.cells #[.slice (some ⟨g, off, none⟩) n cap] 31)) 3 (.int .i64 0)
    rw [World.size_alloc] at this
    exact this
  rw [hw1]
  have h1 := h.below hB1
  obtain ⟨D, hD, hI⟩ := h1.own
  have hIR := ir_start h1 hD a n may
  have hBk := wk_below w1 mb a n may
  have hsk := wk_size w1 mb a n may
  have e0 : (((w1.alloc (.cells #[.pointer (some ⟨mb, 0, none⟩)] 23)).alloc (.cells #[.int .u64 (a : Int)] 30)).alloc (.cells #[.int .i64 (n : Int)] 3)).alloc (.cells #[.int .i64 may] 3) = wkW w1 mb a n may := rfl
  rw [e0]
  generalize wkW w1 mb a n may = w2 at *
  clear e0
  rw [hs1] at hIR
  have hglt : g < w.heap.size := (Array.getElem?_eq_some_iff.1 hg).1
  have bB2 : Boxed w2 w.heap.size 31 (.slice (some ⟨g, off, none⟩) n cap) := (hBk.block w.heap.size (by omega)).trans bB
  have bN2 : Boxed w2 (w.heap.size + 1) 3 (.int .i64 0) := (hBk.block (w.heap.size + 1) (by omega)).trans bN
  have hB2 : Below w.heap.size w w2 := hB1.trans (hBk.mono (by omega))
  have hall : ∀ k, IB mb gb pl L (w.heap.size + 1 + 1 + 1) (w.heap.size + 1 + 1 + 2) (w.heap.size + 1 + 1) (w.heap.size + 1 + 1 + 3) k → k < w2.heap.size ∧ k ≠ w.heap.size ∧ k ≠ w.heap.size + 1 ∧ k ≠ g := by
    have m1 := h.mlt
    have m2 := h.glt
    rintro k (rfl | rfl | rfl | rfl | rfl | rfl | ⟨p, hp, rfl⟩)
    · omega
    · omega
    · omega
    · omega
    · exact ⟨by omega, by omega, by omega, fun e => hgs (.inl e.symm)⟩
    · exact ⟨by omega, by omega, by omega, fun e => hgs (.inr (.inl e.symm))⟩
    · have := h.plt hp
      exact ⟨by omega, by omega, by omega, fun e => hgs (.inr (.inr ⟨p, hp, e.symm⟩))⟩
  refine wpIn_rangeFunc_ownG rfl (by omega) (gf := 65) (lb := #[.pointer (some ⟨w.heap.size + 1 + 1 + 1, 0, none⟩), .pointer (some ⟨w.heap.size + 1 + 1 + 2, 0, none⟩), .pointer (some ⟨w.heap.size + 1 + 1, 0, none⟩), .pointer (some ⟨w.heap.size + 1 + 1 + 3, 0, none⟩)]) rfl trivial (enters_of Try.func65 (by kernel_rfl) rfl)
    (walk_stops (3 - 1) (by omega) mb gb pl L h.mz D hI _ _ _ _ a n may ha hn w2 hIR) (fun {A B C} f g x => g (f x)) ?hKb (Below.refl _ _) (fun _ => rfl)
    (fun pre W => (Boxed W w.heap.size 31 (.slice (some ⟨g, off, none⟩) n cap) ∧ Boxed W (w.heap.size + 1) 3 (.int .i64 ((((flP pre).take n).length : Nat) : Int))) ∧ W.heap[g]? = some (.cells (splice cur off (((flP pre).take n).map (Value.int .u8))).toArray t) ∧ MA W mb gb pl L ∧ Turn (fun k => k = g) w W)
    (fun _ _ _ => False) ?hI (fun _ _ _ _ _ hs _ _ => hs) ?h0
    (fun x => { tmps := #[.pointer (some ⟨mb, 0, none⟩), .int .u64 (a : Int), .slice (some ⟨g, off, none⟩) n cap, .int .i64 may, undef, undef, .pointer (some ⟨w.heap.size, 0, none⟩), undef, .int .i64 0, .pointer (some ⟨w.heap.size + 1, 0, none⟩), .slice (some ⟨pl x.1.1.k, 1 + x.1.2.1, none⟩) x.1.2.2 (4096 - x.1.2.1), .pointer (some ⟨mb, 0, none⟩), .int .u64 (a : Int), .slice (some ⟨g, off, none⟩) n cap, .int .i64 (n : Int), .int .i64 may, .func (.func 65) #[] #[.pointer (some ⟨w.heap.size + 1 + 1 + 1, 0, none⟩), .pointer (some ⟨w.heap.size + 1 + 1 + 2, 0, none⟩), .pointer (some ⟨w.heap.size + 1 + 1, 0, none⟩), .pointer (some ⟨w.heap.size + 1 + 1 + 3, 0, none⟩)], .slice (some ⟨pl x.1.1.k, 1 + x.1.2.1, none⟩) x.1.2.2 (4096 - x.1.2.1), undef, undef, undef, undef, undef, undef, undef, undef], defers := [] })
    ?assign ?body ?done ?stop
  case hKb =>
    intro W l o o' hl ho hnc hnw hx
    exact hx.other (fun k hk => by have := hall k hk; exact (grownBy_putObj' W l o').block k (by have := (Array.getElem?_eq_some_iff.1 ho).1; omega) (by simp; omega))
  case hI =>
    refine OwnFrom.and (OwnFrom.and (Own.from (boxed_own _ _ (fun _ => _)) _) (Own.from (boxed_own _ _ (fun pre => _)) _)) ?_
    intro s A B row hs hg hr
    have hm := hs.2.1
    have hlt : ∀ r, row = some r → w2.heap.size ≤ r := fun r e => (hr r e).1
    refine ⟨?_, hm.grown hg (fun r e hms => ?_), hs.2.2.grown hg (fun k hk e => ?_)⟩
    · rw [hg.block g (by have := hs.2.2.size; omega) (fun e => by have := hlt g e.symm; omega)]; exact hs.1
    · have h1 := hlt r e
      have h2 := h.slt hms
      omega
    · have := hlt k e
      omega
  case h0 =>
    refine ⟨⟨bB2, by simpa [flP, flQ] using bN2⟩, ?_, h.below hB2, Turn.of_below hB2 _⟩
    rw [hB2.block g hglt, hg]
    simp [flP, flQ, splice]
  case assign =>
    intro l x W K hK
    unfold pcE
    gi_wp2
    exact hK
  case body =>
    rintro l pre x W ⟨⟨bx, by'⟩, hgW, hma, htu⟩ hlt
    have hcB := bx.cell
    have hcN := by'.cell
    have hfN := by'.frozen
    obtain ⟨c, hc⟩ : ∃ c, (flP pre).take n = c := ⟨_, rfl⟩
    rw [hc] at hcN hgW by'
    have hcn : c.length ≤ n := by rw [← hc]; simp; omega
    obtain ⟨dp, hsl, hdp⟩ := slice_rest (W.drew) g off n cap c.length hcn hcap
    obtain ⟨k, hk⟩ : ∃ k, min x.1.2.2 (n - c.length) = k := ⟨_, rfl⟩
    have hxv := x.2
    have hxB := (h.mz.ok x.1.1 hxv.1).len
    have hbl : (byQ x.1).length = x.1.2.2 := by
      have := hxv.2.1
      simp only [byQ, List.length_take, List.length_drop, hxB]
      omega
    obtain ⟨cs, hcs⟩ : ∃ cs, ((byQ x.1).take k).map (Value.int .u8) = cs := ⟨_, rfl⟩
    have hkle : k ≤ x.1.2.2 := by rw [← hk]; exact Nat.min_le_left _ _
    have hkn : k ≤ n - c.length := by rw [← hk]; exact Nat.min_le_right _ _
    have hcl : cs.length = k := by rw [← hcs]; simp; omega
    obtain ⟨W2, hrun, hgW2, hgr⟩ := copy_run W.drew g (off + c.length) (n - c.length) (cap - c.length) dp (some ⟨pl x.1.1.k, 1 + x.1.2.1, none⟩) x.1.2.2 (4096 - x.1.2.1) _ t cs hgW (by rw [hcl]; exact hk.symm)
      (fun hp => ⟨hdp (by omega), _, rfl, fun j v hj => by
        rw [addr_add]
        have hjl : j < k := by rw [← hcl]; exact (List.getElem?_eq_some_iff.1 hj).1
        have e1 := hma.bcell hxv.1 (i := x.1.2.1 + j) (by have := hxv.2.1; omega)
        rw [Nat.add_assoc]
        show W.cell? _ = _
        rw [e1, ← hj, ← hcs, List.getElem?_map]
        have e2 : ((byQ x.1).take k)[j]? = some (x.1.1.B.getD (x.1.2.1 + j) 0) := by
          have := hxv.2.1
          simp only [byQ]
          rw [List.getElem?_take_of_lt hjl, List.getElem?_take_of_lt (by omega), List.getElem?_drop]
          rw [List.getElem?_eq_getElem (by omega)]
          simp [List.getD, List.getElem?_eq_getElem (show x.1.2.1 + j < x.1.1.B.length by omega)]
        rw [e2]
        rfl⟩)
      (by rw [hcl, length_splice _ _ _ (by simp; omega)]; omega)
      (fun v hv => by rw [← hcs] at hv; simp only [List.mem_map] at hv; obtain ⟨y, _, rfl⟩ := hv; rfl)
    rw [hcl] at hrun
    have hne1 : w.heap.size + 1 ≠ g := by omega
    have by2 : Boxed W2 (w.heap.size + 1) 3 (.int .i64 ((c.length : Nat) : Int)) := (hgr.block _ (World.block_lt_of_cell? _ _ hcN) (by simpa using hne1)).trans by'
    have bx2 : Boxed W2 w.heap.size 31 (.slice (some ⟨g, off, none⟩) n cap) := (hgr.block _ (World.block_lt_of_cell? _ _ hcB) (by simp; omega)).trans bx
    have hcN2 := by2.cell
    have hfN2 := by2.frozen
    have hcB2 := bx2.cell
    have HX : Hid _ := ⟨hgW2⟩
    have HY : Hid _ := ⟨hgr⟩
    have hdc : W.drew.cell? ⟨w.heap.size, 0, none⟩ = some (.slice (some ⟨g, off, none⟩) n cap) := hcB
    have hdn : W.drew.cell? ⟨w.heap.size + 1, 0, none⟩ = some (.int .i64 ((c.length : Nat) : Int)) := hcN
    have q1 : (c.length : Int) + (k : Int) ≤ 1048576 := by omega
    clear hgW2 hgr
    have hwr : IntKind.i64.wrap ((c.length : Int) + (k : Int)) = (((c ++ (byQ x.1).take k).length : Nat) : Int) := by
      rw [IntKind.wrap_i64]
      simp
      omega
    have hnew : (flP (pre ++ [x])).take n = c ++ (byQ x.1).take k := by
      rw [flP_snoc, take_more _ _ n k (by rw [hc, hbl]; exact hk), hc]
    have hfin : KeepsFrom w2.heap.size W (W2.setCell ⟨w.heap.size + 1, 0, none⟩ (.int .i64 (IntKind.i64.wrap ((c.length : Int) + (k : Int))))) ∧
        (IR W mb gb pl L D (w.heap.size + 1 + 1 + 1) (w.heap.size + 1 + 1 + 2) (w.heap.size + 1 + 1) (w.heap.size + 1 + 1 + 3) a n may → IR (W2.setCell ⟨w.heap.size + 1, 0, none⟩ (.int .i64 (IntKind.i64.wrap ((c.length : Int) + (k : Int))))) mb gb pl L D (w.heap.size + 1 + 1 + 1) (w.heap.size + 1 + 1 + 2) (w.heap.size + 1 + 1) (w.heap.size + 1 + 1 + 3) a n may) ∧
        (Boxed (W2.setCell ⟨w.heap.size + 1, 0, none⟩ (.int .i64 (IntKind.i64.wrap ((c.length : Int) + (k : Int))))) w.heap.size 31 (.slice (some ⟨g, off, none⟩) n cap) ∧ Boxed (W2.setCell ⟨w.heap.size + 1, 0, none⟩ (.int .i64 (IntKind.i64.wrap ((c.length : Int) + (k : Int))))) (w.heap.size + 1) 3 (.int .i64 ((((flP (pre ++ [x])).take n).length : Nat) : Int))) ∧
        (W2.setCell ⟨w.heap.size + 1, 0, none⟩ (.int .i64 (IntKind.i64.wrap ((c.length : Int) + (k : Int))))).heap[g]? = some (.cells (splice cur off (((flP (pre ++ [x])).take n).map (Value.int .u8))).toArray t) ∧ MA (W2.setCell ⟨w.heap.size + 1, 0, none⟩ (.int .i64 (IntKind.i64.wrap ((c.length : Int) + (k : Int))))) mb gb pl L ∧ Turn (fun k => k = g) w (W2.setCell ⟨w.heap.size + 1, 0, none⟩ (.int .i64 (IntKind.i64.wrap ((c.length : Int) + (k : Int))))) := by
      rw [hwr, hnew]
      have hgr := HY.out
      have hgr' : W.grownBy W2 (some g) := ⟨hgr.os, hgr.tape, hgr.output, hgr.size, hgr.block⟩
      have htu2 : Turn (fun k => k = g) w W2 := htu.grown hgr' (fun k _ e => by cases e; rfl)
      have hsW := htu.size
      refine ⟨(KeepsFrom.of_grownBy hgr' (fun j e => by cases e; omega)).trans ((KeepsOthers.setCell _ _ _).from _), fun hx => hx.other (fun j hj => ?_), ⟨bx2.other (by omega) _, by2.set _⟩, ?_, ?_, htu2.setCell _ (.inr (by simp)) _⟩
      · have := hall j hj
        have e1 : W2.heap[j]? = W.heap[j]? := by
          exact hgr'.block j (hx.lt hj) (by simp; omega)
        rw [Below.heap_setCell _ _ _ _ (by simp; omega), e1]
      · rw [Below.heap_setCell _ _ _ _ (by simp; omega), HX.out, ← hcs]
        congr 3
        rw [List.map_append]
        have := splice_more cur (c.map (Value.int .u8)) (((byQ x.1).take k).map (Value.int .u8)) off (by simp; omega)
        rw [List.length_map] at this
        exact this
      · have hma2 : MA W2 mb gb pl L := hma.grown hgr' (fun r e => by cases e; exact hgs)
        refine hma2.turn (S := fun k => k = w.heap.size + 1) ((Turn.refl (fun k => k = w.heap.size + 1) W2).setCell ⟨w.heap.size + 1, 0, none⟩ (.inl rfl) _) (fun b hb e => ?_)
        have := h.slt hb
        omega
    have HF : Hid _ := ⟨hfin⟩
    clear hfin hnew hwr hgW hma htu bx by' by2 bx2 hc hk hcs hcl hkle hkn hbl hxB hxv HX HY hcn hdp
    have hmx : Try.prog.follows .mixedOrders = true := by kernel_rfl
    gi_wp2
    gi_region_with_o (fail)
    all_goals exact HF.out
  case done =>
    rintro DD ys W hD hys ⟨⟨bx, bn⟩, hgW, hma, htu⟩ hK
    have hfl : flP ys = flQ (pcsA L may a n) := by unfold flP; rw [hys]; rfl
    have hq : ∀ q ∈ pcsA L may a n, q.1.B.length = 4096 ∧ q.2.1 + q.2.2 ≤ 4096 := fun q hq => by
      have := pcs_vp _ _ _ _ (by omega) q hq
      exact ⟨(h.mz.ok _ this.1).len, this.2.1⟩
    have hle : (flQ (pcsA L may a n)).take n = flQ (pcsA L may a n) := List.take_of_length_le (by rw [flQ_len _ hq]; exact pcs_sum _ _ _ _)
    rw [hfl, hle] at bn hgW
    rw [flQ_len _ hq] at bn
    have hc := bn.cell
    clear hle
    gi_wp2
    refine ⟨by simp, .inl ⟨_, _, rfl, run_takeDeferred hK, ?_⟩⟩
    refine ⟨_, results_tmp rfl _ _ _, rfl, ?_, ?_⟩
    · rw [(grownBy_putObj' W DD _).block g (by have := htu.size; omega) (by simp; omega)]; exact hgW
    · exact htu.grown (grownBy_putObj' W DD _) (fun k hk e => by cases e; omega)
  case stop =>
    rintro D c pre W _ _ h _
    exact h.elim
end Go.Proofs.Ytpfmnopokfiheaa
