/- The contract of reaches. -/
import Derived.Test.YtpfmnopokfiheaaMWalk
namespace Go.Proofs.Ytpfmnopokfiheaa
open Go.ChangeShapes Go.WideShapes Go.ChangeAt Go.RowKit Go.Maps Go.Shelf
attribute [local go_sem] Oper.semAt_some
set_option linter.unusedVariables false
set_option linter.unusedSimpArgs false

/-- How many bytes pieces have. -/
def smQ (l : List (Pz × Nat × Nat)) : Nat := (l.map (fun q => q.2.2)).sum
def smP {L : List Pz} (l : List (Pc L)) : Nat := smQ (l.map (fun x => x.1))
theorem smP_snoc {L : List Pz} (l : List (Pc L)) (x : Pc L) : smP (l ++ [x]) = smP l + x.1.2.2 := by simp [smP, smQ]
theorem smP_le {L : List Pz} : ∀ (l : List (Pc L)), smP l ≤ 4096 * l.length
  | [] => by simp [smP, smQ]
  | x :: l => by
    have := smP_le l
    have h2 := x.2.2.1
    simp only [smP, smQ, List.map_cons, List.sum_cons, List.length_cons] at this ⊢
    omega
theorem pcs_vp {L : List Pz} {may : Int} : ∀ (f k fr left : Nat), fr < 4096 → ∀ q ∈ pcs L may f k fr left, Vp L q
  | 0, k, fr, left, _, q, hq => by cases hq
  | f + 1, k, fr, left, hfr, q, hq => by
    by_cases h0 : left = 0
    · subst h0; rw [pcs_end] at hq; cases hq
    cases hp : fnd L k with
    | none => rw [pcs_none hp] at hq; cases hq
    | some p =>
      by_cases hb : bits .and .i64 p.may may = may
      · rw [pcs_more hp hb h0] at hq
        rcases List.mem_cons.1 hq with rfl | hq
        · have h1 : min left (4096 - fr) ≤ 4096 - fr := Nat.min_le_right _ _
          have h2 : 1 ≤ min left (4096 - fr) := Nat.le_min.2 ⟨by omega, by omega⟩
          exact ⟨(fnd_mem hp).1, by simp only; omega, h2⟩
        · exact pcs_vp f _ _ _ (by omega) q hq
      · rw [pcs_not hp hb] at hq; cases hq
/-- The pieces of an access. -/
def pcsA (L : List Pz) (may : Int) (a n : Nat) : List (Pz × Nat × Nat) := pcs L may (n + 1) (a / 4096) (a % 4096) n
/-- The blocks that the walk reads. -/
def IB (mb gb : Nat) (pl : Nat → Nat) (L : List Pz) (b1 b2 b3 b4 k : Nat) : Prop := k = b1 ∨ k = b2 ∨ k = b3 ∨ k = b4 ∨ k = mb ∨ k = gb ∨ ∃ p ∈ L, k = pl p.k
theorem IR.other {W W' : World} {mb gb : Nat} {pl : Nat → Nat} {L : List Pz} {D : DataW Value} {b1 b2 b3 b4 a n : Nat} {may : Int} (h : IR W mb gb pl L D b1 b2 b3 b4 a n may)
    (hs : ∀ k, IB mb gb pl L b1 b2 b3 b4 k → W'.heap[k]? = W.heap[k]?) : IR W' mb gb pl L D b1 b2 b3 b4 a n may := by
  have e : ∀ {b : Nat} {v : Value}, IB mb gb pl L b1 b2 b3 b4 b → W.cell? ⟨b, 0, none⟩ = some v → W'.cell? ⟨b, 0, none⟩ = some v := fun {b v} hb hp => by
    simp only [World.cell?, hs b hb] at hp ⊢; exact hp
  obtain ⟨es, c, he, r⟩ := h.own
  exact ⟨e (.inl rfl) h.c1, e (.inr (.inl rfl)) h.c2, e (.inr (.inr (.inl rfl))) h.c3, e (.inr (.inr (.inr (.inl rfl)))) h.c4, e (.inr (.inr (.inr (.inr (.inl rfl))))) h.m,
    ⟨es, c, (hs gb (.inr (.inr (.inr (.inr (.inr (.inl rfl))))))).trans he, r⟩, fun p hp => e (.inr (.inr (.inr (.inr (.inr (.inr ⟨p, hp, rfl⟩)))))) (h.p p hp)⟩

/-- The walk's variables, behind walk. -/
def wkW (w : World) (mb a : Nat) (n : Nat) (may : Int) : World :=
  (((w.alloc (.cells #[.pointer (some ⟨mb, 0, none⟩)] 23)).alloc (.cells #[.int .u64 (a : Int)] 30)).alloc (.cells #[.int .i64 (n : Int)] 3)).alloc (.cells #[.int .i64 may] 3)
theorem wk_below (w : World) (mb a n : Nat) (may : Int) : Below w.heap.size w (wkW w mb a n may) :=
  ((((Below.refl _ _).alloc (Nat.le_refl _) _).alloc (by simp) _).alloc (by simp; omega) _).alloc (by simp; omega) _
theorem wk_size (w : World) (mb a n : Nat) (may : Int) : (wkW w mb a n may).heap.size = w.heap.size + 4 := by simp [wkW]
theorem ir_start {w : World} {mb gb : Nat} {pl : Nat → Nat} {L : List Pz} {D : DataW Value} (h : MA w mb gb pl L) (hD : w.ownsMap Try.prog 30 RV gb L.length D) (a n : Nat) (may : Int) :
    IR (wkW w mb a n may) mb gb pl L D (w.heap.size + 1) (w.heap.size + 2) w.heap.size (w.heap.size + 3) a n may := by
  have hb := wk_below w mb a n may
  have e : ∀ {p : Addr} {v : Value}, w.cell? p = some v → (wkW w mb a n may).cell? p = some v := fun {p v} hp => (hb.cell (p := p) (World.block_lt_of_cell? _ _ hp)).trans hp
  have g0 : Boxed (wkW w mb a n may) w.heap.size 23 (.pointer (some ⟨mb, 0, none⟩)) := (((Boxed.new w _ _).alloc _).alloc _).alloc _
  have g1 : Boxed (wkW w mb a n may) (w.heap.size + 1) 30 (.int .u64 (a : Int)) := by
    have := ((Boxed.new (w.alloc (.cells #[.pointer (some ⟨mb, 0, none⟩)] 23)) 30 (.int .u64 (a : Int))).alloc (.cells #[.int .i64 (n : Int)] 3)).alloc (.cells #[.int .i64 may] 3)
    rw [World.size_alloc] at this
    exact this
  have g2 : Boxed (wkW w mb a n may) (w.heap.size + 2) 3 (.int .i64 (n : Int)) := by
    have := (Boxed.new ((w.alloc (.cells #[.pointer (some ⟨mb, 0, none⟩)] 23)).alloc (.cells #[.int .u64 (a : Int)] 30)) 3 (.int .i64 (n : Int))).alloc (.cells #[.int .i64 may] 3)
    rw [World.size_alloc, World.size_alloc] at this
    exact this
  have g3 : Boxed (wkW w mb a n may) (w.heap.size + 3) 3 (.int .i64 may) := by
    have := Boxed.new (((w.alloc (.cells #[.pointer (some ⟨mb, 0, none⟩)] 23)).alloc (.cells #[.int .u64 (a : Int)] 30)).alloc (.cells #[.int .i64 (n : Int)] 3)) 3 (.int .i64 may)
    rw [World.size_alloc, World.size_alloc, World.size_alloc] at this
    exact this
  exact ⟨g1.cell, g2.cell, g0.cell, g3.cell, e h.mcell, own_below hD hb, fun p hp => e (h.pcell hp)⟩

/-- Do all bytes lie on pages with which may may be done? -/
def reachB (L : List Pz) (may : Int) (a n : Nat) : Bool := smQ (pcsA L may a n) == n

set_option maxRecDepth 100000 in
set_option maxHeartbeats 2000000 in
theorem reaches_ok (mb gb a n : Nat) (pl : Nat → Nat) (L : List Pz) (may : Int) (w : World) (h : MA w mb gb pl L) (ha : a < 18446744073709551616) (hn : n ≤ 1048576) :
    Calls Try.prog 59 #[.pointer (some ⟨mb, 0, none⟩), .int .u64 a, .int .i64 n, .int .i64 may] w fun e w' => e = .returned (.bool (reachB L may a n)) ∧ Below w.heap.size w w' := by
  refine (callsIn_wide (n := 3)).1 ?_
  refine callsIn_of_wp_marks Try.func59 rfl trivial ?_ rfl
  simp only [Try.ntmps59, List.size_toArray, List.length_cons, List.length_nil, Nat.reduceAdd, Nat.reduceSub, Array.replicate_succ, Array.replicate_zero, List.push_toArray, List.append_toArray, List.nil_append, List.cons_append]
  gi_wp2_with (refine ⟨trivial, ?_⟩; gi_at_call 60; refine (callsIn_wide.2 (walk_any _ _ _ _ _)).mono ?_; rintro e w' ⟨rfl, rfl⟩)
  obtain ⟨w1, hw1⟩ : ∃ w1, w.alloc (.cells #[.int .i64 (n : Int)] 3) = w1 := ⟨_, rfl⟩
  have hs1 : w1.heap.size = w.heap.size + 1 := by rw [← hw1]; simp
  have hB1 : Below w.heap.size w w1 := by rw [← hw1]; exact (Below.refl _ _).alloc (Nat.le_refl _) _
  have bN : Boxed w1 w.heap.size 3 (.int .i64 (n : Int)) := by rw [← hw1]; exact Boxed.new w 3 _
  rw [hw1]
  have h1 := h.below hB1
  obtain ⟨D, hD, hI⟩ := h1.own
  have hIR := ir_start h1 hD a n may
  have hBk := wk_below w1 mb a n may
  have hsk := wk_size w1 mb a n may
  have e0 : (((w1.alloc (.cells #[.pointer (some ⟨mb, 0, none⟩)] 23)).alloc (.cells #[.int .u64 (a : Int)] 30)).alloc (.cells #[.int .i64 (n : Int)] 3)).alloc (.cells #[.int .i64 may] 3) = wkW w1 mb a n may := rfl
  rw [e0]
  generalize wkW w1 mb a n may = w2 at *
  clear e0
  rw [hs1] at hIR
  have bN2 : Boxed w2 w.heap.size 3 (.int .i64 (n : Int)) := (hBk.block w.heap.size (by omega)).trans bN
  have hall : ∀ k, IB mb gb pl L (w.heap.size + 1 + 1) (w.heap.size + 1 + 2) (w.heap.size + 1) (w.heap.size + 1 + 3) k → k < w2.heap.size ∧ k ≠ w.heap.size := by
    have m1 := h.mlt
    have m2 := h.glt
    rintro k (rfl | rfl | rfl | rfl | rfl | rfl | ⟨p, hp, rfl⟩)
    · omega
    · omega
    · omega
    · omega
    · omega
    · omega
    · have := h.plt hp
      omega
  refine wpIn_rangeFunc_ownG rfl (by omega) (gf := 65) (lb := #[.pointer (some ⟨w.heap.size + 1 + 1, 0, none⟩), .pointer (some ⟨w.heap.size + 1 + 2, 0, none⟩), .pointer (some ⟨w.heap.size + 1, 0, none⟩), .pointer (some ⟨w.heap.size + 1 + 3, 0, none⟩)]) rfl trivial (enters_of Try.func65 (by kernel_rfl) rfl)
    (walk_stops (3 - 1) (by omega) mb gb pl L h.mz D hI _ _ _ _ a n may ha hn w2 hIR) (fun {A B C} f g x => g (f x)) ?hKb (Below.refl _ _) (fun _ => rfl)
    (fun pre W => Boxed W w.heap.size 3 (.int .i64 ((n : Int) - (smP pre : Int))) ∧ Below w.heap.size w W)
    (fun _ _ _ => False) ?hI (fun _ _ _ _ _ hs _ _ => hs) ?h0
    (fun x => { tmps := #[.pointer (some ⟨mb, 0, none⟩), .int .u64 (a : Int), .int .i64 (n : Int), .int .i64 may, undef, undef, .pointer (some ⟨w.heap.size, 0, none⟩), undef, .bool false, .slice (some ⟨pl x.1.1.k, 1 + x.1.2.1, none⟩) x.1.2.2 (4096 - x.1.2.1), .pointer (some ⟨mb, 0, none⟩), .int .u64 (a : Int), .int .i64 (n : Int), .int .i64 may, .func (.func 65) #[] #[.pointer (some ⟨w.heap.size + 1 + 1, 0, none⟩), .pointer (some ⟨w.heap.size + 1 + 2, 0, none⟩), .pointer (some ⟨w.heap.size + 1, 0, none⟩), .pointer (some ⟨w.heap.size + 1 + 3, 0, none⟩)], .slice (some ⟨pl x.1.1.k, 1 + x.1.2.1, none⟩) x.1.2.2 (4096 - x.1.2.1), undef, undef, undef, undef, undef, undef], defers := [] })
    ?assign ?body ?done ?stop
  case hKb =>
    intro W l o o' hl ho hnc hnw hx
    exact hx.other (fun k hk => by have := hall k hk; exact (grownBy_putObj' W l o').block k (by have := (Array.getElem?_eq_some_iff.1 ho).1; omega) (by simp; omega))
  case hI => exact OwnFrom.and (Own.from (boxed_own _ _ _) _) (ownFrom_below (Nat.le_refl _) (by omega))
  case h0 => exact ⟨by simpa [smP, smQ] using bN2, hB1.trans (hBk.mono (by omega))⟩
  case assign =>
    intro l x W K hK
    unfold pcE
    gi_wp2
    exact hK
  case body =>
    rintro l pre x W ⟨bx, hB⟩ hlt
    have hc := bx.cell
    have hf := bx.frozen
    have hl1 := smP_le pre
    have hl2 := x.2.2.1
    have hsm := smP_snoc pre x
    have q1 : -9223372036854775808 ≤ (n : Int) - (smP pre : Int) - (x.1.2.2 : Int) := by omega
    gi_wp2
    refine ⟨(KeepsOthers.setCell _ _ _).from _, fun hx => hx.other (fun k hk => Below.heap_setCell _ _ _ _ (hall k hk).2), ?_, hB.setCell (p := ⟨w.heap.size, 0, none⟩) (Nat.le_refl _) _⟩
    have := bx.set (.int .i64 ((n : Int) - (smP pre : Int) - (x.1.2.2 : Int)))
    rw [hsm, show ((n : Int) - ((smP pre + x.1.2.2 : Nat) : Int)) = (n : Int) - (smP pre : Int) - (x.1.2.2 : Int) by omega]
    exact this
  case done =>
    rintro DD ys W hD hys ⟨bx, hB⟩ hK
    have hsm : smP ys = smQ (pcsA L may a n) := by unfold smP; rw [hys]; rfl
    rw [hsm] at bx
    have hc := bx.cell
    have HB : Hid (reachB L may a n = ((n : Int) - (smQ (pcsA L may a n) : Int) == 0)) := ⟨by
      unfold reachB
      by_cases e : smQ (pcsA L may a n) = n
      · rw [e]; simp
      · rw [show (smQ (pcsA L may a n) == n) = false by simpa using e]
        symm
        simp
        omega⟩
    gi_wp2
    refine ⟨by simp, .inl ⟨_, _, rfl, run_takeDeferred hK, ?_⟩⟩
    exact ⟨_, results_tmp rfl _ _ _, by rw [HB.out]; rfl, hB.trans (belowK_b (w := w) (Nat.le_refl _) W DD _ _ (by omega) hK rfl rfl)⟩
  case stop =>
    rintro D c pre W _ _ h _
    exact h.elim
end Go.Proofs.Ytpfmnopokfiheaa
