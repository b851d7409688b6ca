/- The law's num and sample. The law's Own: a program in memory of its own. What was written is bytes; the law's Own as it is handed on; its knows. -/
import Derived.Test.YtbhdledlahbokaaLFindX
namespace Go.Proofs.Ytbhdledlahbokaa
open Go.ChangeShapes Go.WideShapes Go.ChangeAt Go.RowKit Go.Conc
set_option linter.unusedVariables false
set_option linter.unusedSimpArgs false

theorem num_any (e : Int) (w : World) : Calls Try.prog 11 #[.int .i64 e] w fun x w' => x = .returned (.int .i64 e) ∧ w' = w := by
  go_enter Try.func11, Try.ntmps11
  go_wp2
  go_ret
  exact ⟨rfl, rfl⟩
def samP : Pg := ⟨[⟨#[97, 46, 115]⟩], [⟨4096, 5, [⟨0, 1, 3, 0⟩, ⟨1, 1, 4, 0⟩]⟩]⟩
theorem sam_mem (w : World) : Bk ((((w.alloc (.cells #[.slice (some ⟨w.heap.size + 1, 0, none⟩) 1 1, .slice (some ⟨w.heap.size + 1 + 1 + 1, 0, none⟩) 1 1] 25)).alloc (.cells #[.string ⟨#[97, 46, 115]⟩] 9)).alloc (.cells #[.int .i64 0, .int .i64 1, .int .i64 3, .int .i64 0, .int .i64 1, .int .i64 1, .int .i64 4, .int .i64 0] 50)).alloc (.cells #[.int .i64 4096, .int .i64 5, .slice (some ⟨w.heap.size + 1 + 1, 0, none⟩) 2 2] 67)) w.heap.size 25 #[.slice (some ⟨w.heap.size + 1, 0, none⟩) 1 1, .slice (some ⟨w.heap.size + 1 + 1 + 1, 0, none⟩) 1 1] ∧ PgIn ((((w.alloc (.cells #[.slice (some ⟨w.heap.size + 1, 0, none⟩) 1 1, .slice (some ⟨w.heap.size + 1 + 1 + 1, 0, none⟩) 1 1] 25)).alloc (.cells #[.string ⟨#[97, 46, 115]⟩] 9)).alloc (.cells #[.int .i64 0, .int .i64 1, .int .i64 3, .int .i64 0, .int .i64 1, .int .i64 1, .int .i64 4, .int .i64 0] 50)).alloc (.cells #[.int .i64 4096, .int .i64 5, .slice (some ⟨w.heap.size + 1 + 1, 0, none⟩) 2 2] 67)) (some ⟨w.heap.size + 1, 0, none⟩) (some ⟨w.heap.size + 1 + 1 + 1, 0, none⟩) samP ∧ Below w.heap.size w ((((w.alloc (.cells #[.slice (some ⟨w.heap.size + 1, 0, none⟩) 1 1, .slice (some ⟨w.heap.size + 1 + 1 + 1, 0, none⟩) 1 1] 25)).alloc (.cells #[.string ⟨#[97, 46, 115]⟩] 9)).alloc (.cells #[.int .i64 0, .int .i64 1, .int .i64 3, .int .i64 0, .int .i64 1, .int .i64 1, .int .i64 4, .int .i64 0] 50)).alloc (.cells #[.int .i64 4096, .int .i64 5, .slice (some ⟨w.heap.size + 1 + 1, 0, none⟩) 2 2] 67)) := by
  have k0 : Bk (w.alloc (.cells #[.slice (some ⟨w.heap.size + 1, 0, none⟩) 1 1, .slice (some ⟨w.heap.size + 1 + 1 + 1, 0, none⟩) 1 1] 25)) w.heap.size 25 #[.slice (some ⟨w.heap.size + 1, 0, none⟩) 1 1, .slice (some ⟨w.heap.size + 1 + 1 + 1, 0, none⟩) 1 1] := Bk.new _ _ _
  have k1 : Bk ((w.alloc (.cells #[.slice (some ⟨w.heap.size + 1, 0, none⟩) 1 1, .slice (some ⟨w.heap.size + 1 + 1 + 1, 0, none⟩) 1 1] 25)).alloc (.cells #[.string ⟨#[97, 46, 115]⟩] 9)) (w.heap.size + 1) 9 #[.string ⟨#[97, 46, 115]⟩] := by
    have := Bk.new (w.alloc (.cells #[.slice (some ⟨w.heap.size + 1, 0, none⟩) 1 1, .slice (some ⟨w.heap.size + 1 + 1 + 1, 0, none⟩) 1 1] 25)) #[.string ⟨#[97, 46, 115]⟩] 9
    rwa [show (w.alloc (.cells #[.slice (some ⟨w.heap.size + 1, 0, none⟩) 1 1, .slice (some ⟨w.heap.size + 1 + 1 + 1, 0, none⟩) 1 1] 25)).heap.size = w.heap.size + 1 by simp] at this
  have k2 : Bk (((w.alloc (.cells #[.slice (some ⟨w.heap.size + 1, 0, none⟩) 1 1, .slice (some ⟨w.heap.size + 1 + 1 + 1, 0, none⟩) 1 1] 25)).alloc (.cells #[.string ⟨#[97, 46, 115]⟩] 9)).alloc (.cells #[.int .i64 0, .int .i64 1, .int .i64 3, .int .i64 0, .int .i64 1, .int .i64 1, .int .i64 4, .int .i64 0] 50)) (w.heap.size + 1 + 1) 50 #[.int .i64 0, .int .i64 1, .int .i64 3, .int .i64 0, .int .i64 1, .int .i64 1, .int .i64 4, .int .i64 0] := by
    have := Bk.new ((w.alloc (.cells #[.slice (some ⟨w.heap.size + 1, 0, none⟩) 1 1, .slice (some ⟨w.heap.size + 1 + 1 + 1, 0, none⟩) 1 1] 25)).alloc (.cells #[.string ⟨#[97, 46, 115]⟩] 9)) #[.int .i64 0, .int .i64 1, .int .i64 3, .int .i64 0, .int .i64 1, .int .i64 1, .int .i64 4, .int .i64 0] 50
    rwa [show ((w.alloc (.cells #[.slice (some ⟨w.heap.size + 1, 0, none⟩) 1 1, .slice (some ⟨w.heap.size + 1 + 1 + 1, 0, none⟩) 1 1] 25)).alloc (.cells #[.string ⟨#[97, 46, 115]⟩] 9)).heap.size = w.heap.size + 1 + 1 by simp] at this
  have k3 : Bk ((((w.alloc (.cells #[.slice (some ⟨w.heap.size + 1, 0, none⟩) 1 1, .slice (some ⟨w.heap.size + 1 + 1 + 1, 0, none⟩) 1 1] 25)).alloc (.cells #[.string ⟨#[97, 46, 115]⟩] 9)).alloc (.cells #[.int .i64 0, .int .i64 1, .int .i64 3, .int .i64 0, .int .i64 1, .int .i64 1, .int .i64 4, .int .i64 0] 50)).alloc (.cells #[.int .i64 4096, .int .i64 5, .slice (some ⟨w.heap.size + 1 + 1, 0, none⟩) 2 2] 67)) (w.heap.size + 1 + 1 + 1) 67 #[.int .i64 4096, .int .i64 5, .slice (some ⟨w.heap.size + 1 + 1, 0, none⟩) 2 2] := by
    have := Bk.new (((w.alloc (.cells #[.slice (some ⟨w.heap.size + 1, 0, none⟩) 1 1, .slice (some ⟨w.heap.size + 1 + 1 + 1, 0, none⟩) 1 1] 25)).alloc (.cells #[.string ⟨#[97, 46, 115]⟩] 9)).alloc (.cells #[.int .i64 0, .int .i64 1, .int .i64 3, .int .i64 0, .int .i64 1, .int .i64 1, .int .i64 4, .int .i64 0] 50)) #[.int .i64 4096, .int .i64 5, .slice (some ⟨w.heap.size + 1 + 1, 0, none⟩) 2 2] 67
    rwa [show (((w.alloc (.cells #[.slice (some ⟨w.heap.size + 1, 0, none⟩) 1 1, .slice (some ⟨w.heap.size + 1 + 1 + 1, 0, none⟩) 1 1] 25)).alloc (.cells #[.string ⟨#[97, 46, 115]⟩] 9)).alloc (.cells #[.int .i64 0, .int .i64 1, .int .i64 3, .int .i64 0, .int .i64 1, .int .i64 1, .int .i64 4, .int .i64 0] 50)).heap.size = w.heap.size + 1 + 1 + 1 by simp] at this
  have b1 : Below (w.alloc (.cells #[.slice (some ⟨w.heap.size + 1, 0, none⟩) 1 1, .slice (some ⟨w.heap.size + 1 + 1 + 1, 0, none⟩) 1 1] 25)).heap.size (w.alloc (.cells #[.slice (some ⟨w.heap.size + 1, 0, none⟩) 1 1, .slice (some ⟨w.heap.size + 1 + 1 + 1, 0, none⟩) 1 1] 25)) ((w.alloc (.cells #[.slice (some ⟨w.heap.size + 1, 0, none⟩) 1 1, .slice (some ⟨w.heap.size + 1 + 1 + 1, 0, none⟩) 1 1] 25)).alloc (.cells #[.string ⟨#[97, 46, 115]⟩] 9)) := (Below.refl _ _).alloc (Nat.le_refl _) _
  have b2 : Below ((w.alloc (.cells #[.slice (some ⟨w.heap.size + 1, 0, none⟩) 1 1, .slice (some ⟨w.heap.size + 1 + 1 + 1, 0, none⟩) 1 1] 25)).alloc (.cells #[.string ⟨#[97, 46, 115]⟩] 9)).heap.size ((w.alloc (.cells #[.slice (some ⟨w.heap.size + 1, 0, none⟩) 1 1, .slice (some ⟨w.heap.size + 1 + 1 + 1, 0, none⟩) 1 1] 25)).alloc (.cells #[.string ⟨#[97, 46, 115]⟩] 9)) (((w.alloc (.cells #[.slice (some ⟨w.heap.size + 1, 0, none⟩) 1 1, .slice (some ⟨w.heap.size + 1 + 1 + 1, 0, none⟩) 1 1] 25)).alloc (.cells #[.string ⟨#[97, 46, 115]⟩] 9)).alloc (.cells #[.int .i64 0, .int .i64 1, .int .i64 3, .int .i64 0, .int .i64 1, .int .i64 1, .int .i64 4, .int .i64 0] 50)) := (Below.refl _ _).alloc (Nat.le_refl _) _
  have b3 : Below (((w.alloc (.cells #[.slice (some ⟨w.heap.size + 1, 0, none⟩) 1 1, .slice (some ⟨w.heap.size + 1 + 1 + 1, 0, none⟩) 1 1] 25)).alloc (.cells #[.string ⟨#[97, 46, 115]⟩] 9)).alloc (.cells #[.int .i64 0, .int .i64 1, .int .i64 3, .int .i64 0, .int .i64 1, .int .i64 1, .int .i64 4, .int .i64 0] 50)).heap.size (((w.alloc (.cells #[.slice (some ⟨w.heap.size + 1, 0, none⟩) 1 1, .slice (some ⟨w.heap.size + 1 + 1 + 1, 0, none⟩) 1 1] 25)).alloc (.cells #[.string ⟨#[97, 46, 115]⟩] 9)).alloc (.cells #[.int .i64 0, .int .i64 1, .int .i64 3, .int .i64 0, .int .i64 1, .int .i64 1, .int .i64 4, .int .i64 0] 50)) ((((w.alloc (.cells #[.slice (some ⟨w.heap.size + 1, 0, none⟩) 1 1, .slice (some ⟨w.heap.size + 1 + 1 + 1, 0, none⟩) 1 1] 25)).alloc (.cells #[.string ⟨#[97, 46, 115]⟩] 9)).alloc (.cells #[.int .i64 0, .int .i64 1, .int .i64 3, .int .i64 0, .int .i64 1, .int .i64 1, .int .i64 4, .int .i64 0] 50)).alloc (.cells #[.int .i64 4096, .int .i64 5, .slice (some ⟨w.heap.size + 1 + 1, 0, none⟩) 2 2] 67)) := (Below.refl _ _).alloc (Nat.le_refl _) _
  have b0 : Below w.heap.size w (w.alloc (.cells #[.slice (some ⟨w.heap.size + 1, 0, none⟩) 1 1, .slice (some ⟨w.heap.size + 1 + 1 + 1, 0, none⟩) 1 1] 25)) := (Below.refl _ _).alloc (Nat.le_refl _) _
  have h0 := ((k0.bel b1 k0.lt).bel b2 (k0.bel b1 k0.lt).lt).bel b3 ((k0.bel b1 k0.lt).bel b2 (k0.bel b1 k0.lt).lt).lt
  have h1 := (k1.bel b2 k1.lt).bel b3 (k1.bel b2 k1.lt).lt
  have h2 := k2.bel b3 k2.lt
  refine ⟨h0, ⟨?_, ?_, by decide, by decide, ?_⟩, b0.trans ((b1.trans ((b2.trans (b3.mono b2.size)).mono b1.size)).mono b0.size)⟩
  · refine .inr ⟨w.heap.size + 1, 0, rfl, fun i hi => ?_⟩
    have : i = 0 := by simp [samP] at hi; omega
    subst this
    exact h1.cell 0 rfl
  · refine .inr ⟨w.heap.size + 1 + 1 + 1, 0, rfl, fun i hi => ?_⟩
    have : i = 0 := by simp [samP] at hi; omega
    subst this
    refine ⟨some ⟨w.heap.size + 1 + 1, 0, none⟩, 2, k3.cell 0 rfl, k3.cell 1 rfl, k3.cell 2 rfl, .inr ⟨w.heap.size + 1 + 1, 0, rfl, fun i hi => ?_⟩⟩
    have : i = 0 ∨ i = 1 := by simp [samP] at hi; omega
    rcases this with rfl | rfl
    · exact ⟨h2.cell 0 rfl, h2.cell 1 rfl, h2.cell 2 rfl, h2.cell 3 rfl⟩
    · exact ⟨h2.cell 4 rfl, h2.cell 5 rfl, h2.cell 6 rfl, h2.cell 7 rfl⟩
  · intro q hq
    simp [samP] at hq
    subst hq
    decide
theorem sizePgD : (Try.prog.info? 25).map (·.size) = some 2 := by kernel_rfl
set_option maxHeartbeats 1000000 in
theorem sample_any (w : World) : Calls Try.prog 31 #[] w fun x w' => ∃ fa sa, x = .returned (.agg #[.slice fa 1 1, .slice sa 1 1]) ∧ PgIn w' fa sa samP ∧ Below w.heap.size w w' := by
  go_enter Try.func31, Try.ntmps31
  go_wp2
  have HM := sam_mem w
  refine bodyPost_ret (v := .agg #[.slice (some ⟨w.heap.size + 1, 0, none⟩) 1 1, .slice (some ⟨w.heap.size + 1 + 1 + 1, 0, none⟩) 1 1]) ?_ rfl ⟨_, _, rfl, HM.2⟩
  exact results_cell_row (p := 0) (ty := 25) (by kernel_rfl) _ _ w.heap.size 25 _ (0, 0) _ (by kernel_rfl) HM.1.hp Try.underlying25 rfl (by rw [sizePgD]; rfl)

theorem append_names {ops : Array Oper} {rest : List Oper} {o : Oper} {a : Act} {Q : Exit → Act → World → Prop} (w : World) (hgd : o.guard = none) (s x : Operand)
    (ho : o.op = .call { callee := .builtin .append, args := #[s, x], argTypes := #[22, 22] })
    (base : Nat) (v : Value) (l : List ByteArray) (hs : a.eval s = v) (hown : OwnN w base v l) (fa : Option Addr) (c : Nat) (m : List ByteArray) (hx : a.eval x = .slice fa m.length c) (hb : Strs w fa m) (hnil : fa = none → c = 0)
    (hn : l.length + m.length ≤ 8796093022000) (hbase : base ≤ w.heap.size)
    (h : ∀ v' w', OwnN w' base v' (l ++ m) → w.grownBy w' v.ownBlock → wpList Try.prog ops Q rest (a.put o.dst v') w') :
    wpList Try.prog ops Q (o :: rest) a w := by
  obtain ⟨i0, hi, hz0, hz1, hz2⟩ := info_parts info9
  cases fa with
  | none =>
    have hm : m.length = 0 := by
      rcases hb with hb | ⟨b, off, e, _⟩
      · exact hb
      · cases e
    obtain rfl : m = [] := List.eq_nil_of_length_eq_zero hm
    have := hnil rfl
    subst this
    refine wpList_append_own_none hgd s x 22 ho base 9 i0 1 Try.underlying22 hi _ _ _ hs hown hx ?_
    exact h v w (by simpa using hown) ⟨rfl, rfl, rfl, Nat.le_refl _, fun _ _ _ => rfl⟩
  | some ad =>
    refine wpList_append_own_at w hgd s x 22 ho base 9 i0 _ 1 16 Try.underlying22 hi hz0 hz1 hz2 rfl (by decide) _ l.length _ hs hown ad m.length c (m.map Value.string) hx (by simp) ?_ ?_ (by unfold maxLen; omega) (by omega) hbase ?_
    · intro j u hj
      by_cases hjm : j < m.length
      · rcases hb with hr | ⟨b, off, e, hc⟩
        · omega
        · cases e
          rw [caddr_add, hc j hjm]
          simp [hjm] at hj
          simp [hjm, hj]
      · simp [hjm] at hj
    · intro u hu
      simp at hu
      obtain ⟨z, _, rfl⟩ := hu
      rfl
    · intro v' w' hown' hgrow hnn hbk
      refine h v' w' ?_ hgrow
      unfold OwnN
      simpa using hown'
theorem own_noN (w : World) (b : Nat) (hb : b ≤ w.heap.size) : OwnN (w.alloc (.cells #[] 9)) b (.slice (some ⟨w.heap.size, 0, none⟩) 0 0) [] :=
  ⟨rfl, .inr ⟨w.heap.size, 0, #[], rfl, hb, heap_alloc_new w _, by decide, by decide, rfl, rfl⟩⟩
theorem sizeSlR : (Try.prog.info? 61).map (·.size) = some 1 := by kernel_rfl
theorem sizeSlS : (Try.prog.info? 26).map (·.size) = some 1 := by kernel_rfl
theorem one1 {a : Option Addr} {n c : Nat} : ∀ u ∈ (Value.slice a n c).cells.toList, u.oneCell' = true := by
  intro u hu
  simp [Value.cells] at hu
  subst hu
  rfl
theorem one2 (a b : Option Addr) (n c m d : Nat) : ∀ u ∈ (Value.agg #[.slice a n c, .slice b m d]).cells.toList, u.oneCell' = true := by
  intro u hu
  simp [Value.cells] at hu
  rcases hu with rfl | rfl <;> rfl
/-- What is known at sequence i. -/
structure OG (w wr : World) (A : Array Value) (B3 : Nat) (v1 v2 : Value) (F : List ByteArray) (L : List Sq) : Prop where
  bel : Below w.heap.size w wr
  k1 : Bk wr w.heap.size 25 A
  k2 : Bk wr (w.heap.size + 1) 28 #[.slice none 0 0, .slice none 0 0]
  k3 : Bk wr B3 28 #[v1, v2]
  b3 : w.heap.size + 1 < B3
  nm : OwnN wr w.heap.size v1 F
  ts : TS wr w.heap.size v2 L
theorem OG.next {w wr wr' : World} {A : Array Value} {B3 : Nat} {v1 v2 : Value} {F : List ByteArray} {L : List Sq} (h : OG w wr A B3 v1 v2 F L) (hb : Below wr.heap.size wr wr') : OG w wr' A B3 v1 v2 F L :=
  ⟨h.bel.trans (hb.mono h.bel.size), h.k1.bel hb h.k1.lt, h.k2.bel hb h.k2.lt, h.k3.bel hb h.k3.lt, h.b3, h.nm.bel hb, h.ts.bel hb⟩
/-- A sequence was put behind, and the slice is kept. -/
theorem OG.put {w wr wr' : World} {A : Array Value} {B3 : Nat} {v1 v2 v' : Value} {F : List ByteArray} {L L' : List Sq} (h : OG w wr A B3 v1 v2 F L) (hg : wr.grownBy wr' v2.ownBlock) (ht : TS wr' w.heap.size v' L') : Bk wr' B3 28 #[v1, v2] ∧ OG w (wr'.setRow B3 #[v1, v']) A B3 v1 v' F L' := by
  have hty := h.ts.ty
  have hn : ∀ b t cs, Bk wr b t cs → t ≠ 63 → v2.ownBlock ≠ some b := fun b t cs hk ht e => by
    obtain ⟨_, _, cur, hc⟩ := hty b e
    exact hk.ne hc ht rfl
  have g1 := h.k1.grownL hg (hn _ _ _ h.k1 (by decide))
  have g2 := h.k2.grownL hg (hn _ _ _ h.k2 (by decide))
  have g3 := h.k3.grownL hg (hn _ _ _ h.k3 (by decide))
  have gn : OwnN wr' w.heap.size v1 F := h.nm.far hg (fun k hk e => by
    obtain ⟨_, _, c1, e1⟩ := h.nm.ty k hk
    exact (⟨e1⟩ : Bk wr k 9 c1).ne ((hty k e).2.2.choose_spec) (by decide) rfl)
  have gb : Below w.heap.size w wr' := h.bel.trans (bel_grownL hg (fun k hk => (hty k hk).1) h.bel.size)
  have gs := grown_set wr' B3 #[v1, v']
  have hb3 := h.b3
  refine ⟨g3, gb.trans (bel_grownL gs (fun k hk => by injection hk with hk; omega) gb.size), g1.setO (by omega) _, g2.setO (by omega) _, g3.setR _, h.b3, gn.far gs (fun k hk e => ?_), ht.far gs (fun k hk => ?_)⟩
  · injection e with e
    subst e
    obtain ⟨_, _, c1, e1⟩ := gn.ty _ hk
    exact g3.ne e1 (by decide) rfl
  · injection hk with hk
    subst hk
    exact ⟨fun cur e => g3.ne e (by decide) rfl, fun cur e => g3.ne e (by decide) rfl⟩
/-- The worlds before the loop. -/
theorem OG.start {w w4 : World} {A : Array Value} {v1 : Value} {F : List ByteArray} (hn : OwnN w4 w.heap.size v1 F) (hg : ((((w.alloc (.cells A 25)).alloc (.cells #[.slice none 0 0, .slice none 0 0] 28)).alloc (.cells #[] 9))).grownBy w4 (some (w.heap.size + 1 + 1))) : OG w (w4.alloc (.cells #[v1, .slice none 0 0] 28)) A w4.heap.size v1 (.slice none 0 0) F [] := by
  have k1 : Bk (w.alloc (.cells A 25)) w.heap.size 25 A := Bk.new _ _ _
  have k2 : Bk ((w.alloc (.cells A 25)).alloc (.cells #[.slice none 0 0, .slice none 0 0] 28)) (w.heap.size + 1) 28 #[.slice none 0 0, .slice none 0 0] := by
    have := Bk.new (w.alloc (.cells A 25)) #[.slice none 0 0, .slice none 0 0] 28
    rwa [show (w.alloc (.cells A 25)).heap.size = w.heap.size + 1 by simp] at this
  have b1 : Below (w.heap.size + 1) (w.alloc (.cells A 25)) ((w.alloc (.cells A 25)).alloc (.cells #[.slice none 0 0, .slice none 0 0] 28)) := (Below.refl _ _).alloc (by simp) _
  have b2 : Below (w.heap.size + 1 + 1) ((w.alloc (.cells A 25)).alloc (.cells #[.slice none 0 0, .slice none 0 0] 28)) (((w.alloc (.cells A 25)).alloc (.cells #[.slice none 0 0, .slice none 0 0] 28)).alloc (.cells #[] 9)) := (Below.refl _ _).alloc (by simp) _
  have b3 : Below (w.heap.size + 1 + 1) (((w.alloc (.cells A 25)).alloc (.cells #[.slice none 0 0, .slice none 0 0] 28)).alloc (.cells #[] 9)) w4 := bel_grownL hg (fun k hk => by injection hk with hk; omega) (by simp)
  have b4 : Below w4.heap.size w4 (w4.alloc (.cells #[v1, .slice none 0 0] 28)) := (Below.refl _ _).alloc (Nat.le_refl _) _
  have b0 : Below w.heap.size w (w.alloc (.cells A 25)) := (Below.refl _ _).alloc (Nat.le_refl _) _
  have hs : w.heap.size + 1 + 1 + 1 ≤ w4.heap.size := by have := hg.size; simpa using this
  have b34 : Below (w.heap.size + 1 + 1) ((w.alloc (.cells A 25)).alloc (.cells #[.slice none 0 0, .slice none 0 0] 28)) (w4.alloc (.cells #[v1, .slice none 0 0] 28)) := (b2.trans b3).trans (b4.mono (by omega))
  exact ⟨b0.trans ((b1.trans (b34.mono (by omega))).mono (by omega)), (k1.bel b1 (by omega)).bel b34 (by omega), k2.bel b34 (by omega), Bk.new _ _ _, by omega, hn.bel b4, TS.nil _ _⟩

set_option maxRecDepth 20000 in
set_option maxHeartbeats 4000000 in
theorem own_any (p : Pg) (fa sa : Option Addr) (fc sc : Nat) (w : World) (h : PgIn w fa sa p) (hf : fa = none → fc = 0) (hfl : p.files.length ≤ 1000000000000) (hsl : p.seqs.length ≤ 1000000000000) (hrl : ∀ q ∈ p.seqs, q.rows.length ≤ 1000000000000) :
    Calls Try.prog 7 #[.agg #[.slice fa p.files.length fc, .slice sa p.seqs.length sc]] w fun e w' => ∃ v1 v2, e = .returned (.agg #[v1, v2]) ∧ OwnN w' w.heap.size v1 p.files ∧ TS w' w.heap.size v2 p.seqs ∧ Below w.heap.size w w' := by
  obtain ⟨files, seqs⟩ := p
  dsimp only at *
  have HP : Hid _ := ⟨h⟩
  have HRl : Hid _ := ⟨hrl⟩
  have HF : Hid _ := ⟨hf⟩
  clear h hrl hf
  have HS3 : Hid (Strs (((w.alloc (.cells #[.slice fa files.length fc, .slice sa seqs.length sc] 25)).alloc (.cells #[.slice none 0 0, .slice none 0 0] 28)).alloc (.cells #[] 9)) fa files) := ⟨HP.out.fs.bel ((((Below.refl _ w).alloc (Nat.le_refl _) _).alloc (by simp) _).alloc (by simp; omega) _)⟩
  have HO3 : Hid (OwnN (((w.alloc (.cells #[.slice fa files.length fc, .slice sa seqs.length sc] 25)).alloc (.cells #[.slice none 0 0, .slice none 0 0] 28)).alloc (.cells #[] 9)) w.heap.size (.slice (some ⟨w.heap.size + 1 + 1, 0, none⟩) 0 0) []) := ⟨by
    have := own_noN ((w.alloc (.cells #[.slice fa files.length fc, .slice sa seqs.length sc] 25)).alloc (.cells #[.slice none 0 0, .slice none 0 0] 28)) w.heap.size (by simp; omega)
    rwa [show ((w.alloc (.cells #[.slice fa files.length fc, .slice sa seqs.length sc] 25)).alloc (.cells #[.slice none 0 0, .slice none 0 0] 28)).heap.size = w.heap.size + 1 + 1 by simp] at this⟩
  go_enter Try.func7, Try.ntmps7
  go_wp2_with (at_builtin; refine append_names (((w.alloc (.cells #[.slice fa files.length fc, .slice sa seqs.length sc] 25)).alloc (.cells #[.slice none 0 0, .slice none 0 0] 28)).alloc (.cells #[] 9)) rfl _ _ rfl w.heap.size _ [] rfl HO3.out fa fc files rfl HS3.out HF.out (by simp; omega) (by simp; omega) ?_; intro v1 w4 hn4 hg4; rw [List.nil_append] at hn4; obtain ⟨na, nc, hv1, hst⟩ := hn4.strs; subst hv1; have HN4 : Hid _ := ⟨hn4⟩; have HG4 : Hid _ := ⟨hg4⟩; clear hn4 hg4 hst)
  have HOG : Hid _ := ⟨OG.start (A := #[.slice fa files.length fc, .slice sa seqs.length sc]) HN4.out HG4.out⟩
  clear HN4 HG4 HO3 HS3
  generalize w4.alloc (.cells #[.slice na files.length nc, .slice none 0 0] 28) = V at *
  generalize w4.heap.size = B3 at *
  have hsl' : (seqs.length : Int) ≤ 1000000000000 := by omega
  go_loopw [4] (fun iv wr => ∃ i : Nat, i ≤ seqs.length ∧ iv = .int .i64 i ∧ Hid (∃ v2, OG w wr #[.slice fa files.length fc, .slice sa seqs.length sc] B3 (.slice na files.length nc) v2 files (seqs.take i))) (fun iv _ => seqs.length - (intOf iv).toNat)
  case atStart => exact ⟨0, by omega, rfl, ⟨_, HOG.out⟩⟩
  case round =>
    clear HOG
    obtain ⟨i, hi, rfl, HW⟩ := hrel
    obtain ⟨v2, hG⟩ := HW.out
    have HG : Hid _ := ⟨hG⟩
    have e1 : wr.cell? ⟨w.heap.size, 1, none⟩ = some (.slice sa seqs.length sc) := hG.k1.cell 1 rfl
    clear HW hG
    by_cases hlt : i < seqs.length
    · obtain ⟨b2, off2, rfl, hat⟩ : ∃ b off, sa = some ⟨b, off, none⟩ ∧ ∀ j, j < seqs.length → SqAt wr b (off + j * 3) (seqs.getD j Sq.zero) := by
        rcases HP.out.sq.bel HG.out.bel with h | h
        · dsimp only at h; omega
        · exact h
      have q1 : (i : Int) < (seqs.length : Int) := by omega
      have q0 : (0 : Int) ≤ (i : Int) := by omega
      obtain ⟨ra, rc, c0, c1, c2, hLr⟩ := hat i hlt
      clear hat
      have HT : Hid (seqs.take (i + 1) = seqs.take i ++ [seqs.getD i Sq.zero]) := ⟨by rw [List.take_add_one]; simp [hlt]⟩
      have hql := HRl.out _ (sq_in hlt)
      have HLr : Hid _ := ⟨hLr⟩
      clear hLr
      generalize seqs.getD i Sq.zero = q at *
      obtain ⟨st, sz, rows⟩ := q
      dsimp only at *
      go_upto_region 5 with (fail)
      have e1' : wr.drew.cell? ⟨w.heap.size, 1, none⟩ = some (.slice (some ⟨b2, off2, none⟩) seqs.length sc) := e1
      have c0' : wr.drew.cell? ⟨b2, off2 + i * 3, none⟩ = some (.int .i64 st) := c0
      have c1' : wr.drew.cell? ⟨b2, off2 + i * 3 + 1, none⟩ = some (.int .i64 sz) := c1
      go_region_held3 (fun v' => v'.cell? ⟨w.heap.size, 1, none⟩ = some (.slice (some ⟨b2, off2, none⟩) seqs.length sc) ∧ v'.cell? ⟨b2, off2 + i * 3, none⟩ = some (.int .i64 st) ∧ v'.cell? ⟨b2, off2 + i * 3 + 1, none⟩ = some (.int .i64 sz))
        ((refine ⟨?_, ?_, ?_⟩) <;> (first | (with_reducible assumption) | (refine up_belL (w := wr.drew) (by with_reducible assumption) ?_; exact (Below.refl _ _).alloc (Nat.le_refl _) _)))
        (fail)
      have HX0 : Hid (Below wr.heap.size wr (wr.alloc (.cells #[.int .i64 st, .int .i64 sz, .slice none 0 0] 63)).drew ∧ Bk (wr.alloc (.cells #[.int .i64 st, .int .i64 sz, .slice none 0 0] 63)).drew wr.heap.size 63 #[.int .i64 st, .int .i64 sz, .slice none 0 0]) := ⟨((Below.refl _ wr).alloc (Nat.le_refl _) _).drew, (Bk.new wr _ _).of rfl⟩
      clear e1' c0' c1' c0 c1
      have HE1 : Hid _ := ⟨e1⟩
      have HC2 : Hid _ := ⟨c2⟩
      clear e1 c2
      go_wp2_with fail
      generalize (wr.alloc (.cells #[.int .i64 st, .int .i64 sz, .slice none 0 0] 63)).drew = X0 at *
      generalize wr = wo at *
      have hrl : (rows.length : Int) ≤ 1000000000000 := by omega
      go_loopw [6] (fun iv wi => ∃ k : Nat, k ≤ rows.length ∧ iv = .int .i64 k ∧ Hid (Below wo.heap.size wo wi ∧ ∃ u, Bk wi wo.heap.size 63 #[.int .i64 st, .int .i64 sz, u] ∧ OwnRL wi (wo.heap.size + 1) u (rows.take k))) (fun iv _ => rows.length - (intOf iv).toNat)
      case atStart => exact ⟨0, by omega, rfl, ⟨HX0.out.1, _, HX0.out.2, OwnRL.nil _ _⟩⟩
      case round =>
        clear HX0
        obtain ⟨k, hk, rfl, HW⟩ := hrel
        obtain ⟨hb, u, hB5, hO⟩ := HW.out
        obtain ⟨ua, uc, rfl, _⟩ := hO.lrs
        have HB : Hid _ := ⟨hb⟩
        have HB5 : Hid _ := ⟨hB5⟩
        have HOw : Hid _ := ⟨hO⟩
        have e1 := up_belL HE1.out hb
        have c2 := up_belL HC2.out hb
        have f0 : wr.cell? ⟨wo.heap.size, 0, none⟩ = some (.int .i64 st) := hB5.cell 0 rfl
        have f1 : wr.cell? ⟨wo.heap.size, 1, none⟩ = some (.int .i64 sz) := hB5.cell 1 rfl
        have f2 : wr.cell? ⟨wo.heap.size, 2, none⟩ = some (.slice ua (rows.take k).length uc) := hB5.cell 2 rfl
        clear HW hb hB5 hO
        by_cases hkl : k < rows.length
        · obtain ⟨b3, off3, rfl, hat⟩ : ∃ b off, ra = some ⟨b, off, none⟩ ∧ ∀ j, j < rows.length → LrAt wr b (off + j * 4) (rows.getD j Lr.zero) := by
            rcases HLr.out.bel HB.out with h | h
            · omega
            · exact h
          have r1 : (k : Int) < (rows.length : Int) := by omega
          have r0 : (0 : Int) ≤ (k : Int) := by omega
          obtain ⟨d0, d1, d2, d3⟩ := hat k hkl
          clear hat
          have HT2 : Hid (rows.take (k + 1) = rows.take k ++ [rows.getD k Lr.zero]) := ⟨by rw [List.take_add_one]; simp [hkl]⟩
          have htl : (rows.take k).length ≤ 1000000000000 := by simp; omega
          generalize rows.getD k Lr.zero = r at *
          generalize rows.take k = R at *
          have HBa : Hid (Below wr.heap.size wr ((wr.alloc (.cells #[.int .i64 r.at', .int .i64 r.fi, .int .i64 r.li, .int .i64 r.co] 50)).alloc (.cells #[.int .i64 r.at', .int .i64 r.fi, .int .i64 r.li, .int .i64 r.co] 47))) := ⟨((Below.refl _ wr).alloc (Nat.le_refl _) _).alloc (by simp) _⟩
          have HBk : Hid (Bk ((wr.alloc (.cells #[.int .i64 r.at', .int .i64 r.fi, .int .i64 r.li, .int .i64 r.co] 50)).alloc (.cells #[.int .i64 r.at', .int .i64 r.fi, .int .i64 r.li, .int .i64 r.co] 47)) (wr.heap.size + 1) 47 #[.int .i64 r.at', .int .i64 r.fi, .int .i64 r.li, .int .i64 r.co]) := ⟨by
            have := Bk.new (wr.alloc (.cells #[.int .i64 r.at', .int .i64 r.fi, .int .i64 r.li, .int .i64 r.co] 50)) #[.int .i64 r.at', .int .i64 r.fi, .int .i64 r.li, .int .i64 r.co] 47
            rwa [show (wr.alloc (.cells #[.int .i64 r.at', .int .i64 r.fi, .int .i64 r.li, .int .i64 r.co] 50)).heap.size = wr.heap.size + 1 by simp] at this⟩
          have g2 : (wr.alloc (.cells #[.int .i64 r.at', .int .i64 r.fi, .int .i64 r.li, .int .i64 r.co] 50)).cell? ⟨wo.heap.size, 2, none⟩ = some (.slice ua R.length uc) := up_belL f2 ((Below.refl _ _).alloc (Nat.le_refl _) _)
          clear f0 f1 f2
          have HlB : Hid (wo.heap.size + 1 ≤ ((wr.alloc (.cells #[.int .i64 r.at', .int .i64 r.fi, .int .i64 r.li, .int .i64 r.co] 50)).alloc (.cells #[.int .i64 r.at', .int .i64 r.fi, .int .i64 r.li, .int .i64 r.co] 47)).heap.size) := ⟨Nat.le_trans (show wo.heap.size + 1 ≤ wr.heap.size from HB5.out.lt) HBa.out.size⟩
          go_wp2_with (first
            | (at_builtin; go_loud (refine append_row4 ((wr.alloc (.cells #[.int .i64 r.at', .int .i64 r.fi, .int .i64 r.li, .int .i64 r.co] 50)).alloc (.cells #[.int .i64 r.at', .int .i64 r.fi, .int .i64 r.li, .int .i64 r.co] 47)) rfl _ _ rfl (wo.heap.size + 1) (.slice ua R.length uc) R rfl (HOw.out.bel HBa.out) (wr.heap.size + 1) r (by simp [Act.eval, Act.put]) HBk.out (by omega) HlB.out ?_); intro v5 w5 hO5 hG5 hK5; obtain ⟨R2, hR2⟩ : ∃ R2, R ++ [r] = R2 := ⟨_, rfl⟩; rw [hR2] at hO5; have HR2 : Hid _ := ⟨hR2⟩; clear hR2; obtain ⟨va, vc, hv5, _⟩ := hO5.lrs; subst hv5; have H5 : Hid _ := ⟨hO5⟩; have HG5 : Hid _ := ⟨hG5⟩; have HB55 : Hid (Bk w5 wo.heap.size 63 #[.int .i64 st, .int .i64 sz, (.slice ua R.length uc)]) := ⟨(HB5.out.bel HBa.out HB5.out.lt).grownL hG5 (fun e => by have := ((HOw.out.bel HBa.out).ty _ e).1; omega)⟩; clear hO5 hG5 hK5)
            | (refine wpList_part (g := wo.heap.size) (off := 2) (val := .slice va R2.length vc) (new := #[.int .i64 st, .int .i64 sz, .slice va R2.length vc]) rfl rfl (by rfl) (by rfl) HB55.out (by rw [sizeSlR]; rfl) (by show 2 + 1 ≤ 3; omega) one1 rfl ?_))
          go_roundw
          case rel =>
            refine ⟨k + 1, hkl, by go_num, ⟨HB.out.trans ((HBa.out.mono HB.out.size).trans ((bel_grownL HG5.out (fun k hk => Nat.le_of_succ_le ((HOw.out.bel HBa.out).ty k hk).1) (Nat.le_of_succ_le HlB.out)).trans (bel_grownL (grown_set _ _ _) (fun k hk => by injection hk with hk; omega) ?_))), _, HB55.out.setR _, ?_⟩⟩
            · exact Nat.le_of_lt HB55.out.lt
            · rw [HT2.out, HR2.out]
              exact H5.out.far (grown_set _ _ _) (fun k hk e => by injection e with e; have := (H5.out.ty k hk).1; omega)
          case measure => simp [intOf]; omega
        · obtain rfl : k = rows.length := by omega
          rw [List.take_of_length_le (Nat.le_refl _)] at HOw HB5 f2
          have HGi : Hid _ := ⟨HG.out.next HB.out⟩
          have HGa : Hid _ := ⟨HGi.out.next (wr' := (wr.alloc (.cells #[.int .i64 st, .int .i64 sz, .slice ua rows.length uc] 63))) ((Below.refl _ _).alloc (Nat.le_refl _) _)⟩
          have hLl : (seqs.take i).length ≤ 1000000000000 := by simp; omega
          have HOa : Hid (OwnRL (wr.alloc (.cells #[.int .i64 st, .int .i64 sz, .slice ua rows.length uc] 63)) w.heap.size (.slice ua rows.length uc) rows) := ⟨(HOw.out.bel ((Below.refl _ _).alloc (Nat.le_refl _) _)).low (by have := HG.out.bel.size; omega)⟩
          clear HG HOw HLr
          generalize seqs.take i = L at *
          obtain ⟨ta, tc, hv2, _⟩ := HGi.out.ts.sqs
          subst hv2
          have f3 : wr.cell? ⟨B3, 1, none⟩ = some (.slice ta L.length tc) := HGi.out.k3.cell 1 rfl
          go_wp2_with (first
            | (at_builtin; go_loud (refine append_seq (wr.alloc (.cells #[.int .i64 st, .int .i64 sz, .slice ua rows.length uc] 63)) rfl _ _ rfl w.heap.size (.slice ta L.length tc) L rfl HGa.out.ts wr.heap.size ⟨st, sz, rows⟩ (.slice ua rows.length uc) (by simp [Act.eval, Act.put]) (Bk.new _ _ _) HOa.out (by omega) HGa.out.bel.size ?_); intro v5 w5 hT5 hG5; obtain ⟨L2, hL2⟩ : ∃ L2, L ++ [(⟨st, sz, rows⟩ : Sq)] = L2 := ⟨_, rfl⟩; rw [hL2] at hT5; have HL2 : Hid _ := ⟨hL2⟩; clear hL2; obtain ⟨va, vc, hv5, _⟩ := hT5.sqs; subst hv5; have HPt : Hid _ := ⟨HGa.out.put hG5 hT5⟩; clear hT5 hG5)
            | (refine wpList_part (g := B3) (off := 1) (val := .slice va L2.length vc) (new := #[(.slice na files.length nc), .slice va L2.length vc]) rfl rfl (by rfl) (by rfl) HPt.out.1 (by rw [sizeSlS]; rfl) (by show 1 + 1 ≤ 2; omega) one1 rfl ?_))
          go_roundw
          case rel => exact ⟨i + 1, hlt, by go_num, ⟨_, by rw [HT.out, HL2.out]; exact HPt.out.2⟩⟩
          case measure => simp [intOf]; omega
    · obtain rfl : i = seqs.length := by omega
      rw [List.take_of_length_le (Nat.le_refl _)] at HG
      obtain ⟨ta, tc, hv2, _⟩ := HG.out.ts.sqs
      subst hv2
      have f0 : wr.cell? ⟨B3, 0, none⟩ = some (.slice na files.length nc) := HG.out.k3.cell 0 rfl
      have f1 : wr.cell? ⟨B3, 1, none⟩ = some (.slice ta seqs.length tc) := HG.out.k3.cell 1 rfl
      go_wp2_with (refine wpList_part (g := w.heap.size + 1) (off := 0) (val := .agg #[(.slice na files.length nc), .slice ta seqs.length tc]) (new := #[(.slice na files.length nc), .slice ta seqs.length tc]) rfl rfl (by rfl) (by rfl) HG.out.k2 (by rw [sizePg]; rfl) (by show 0 + 2 ≤ 2; omega) (one2 _ _ _ _ _ _) rfl ?_)
      have gs := grown_set wr (w.heap.size + 1) #[(.slice na files.length nc), .slice ta seqs.length tc]
      refine bodyPost_ret (v := .agg #[(.slice na files.length nc), .slice ta seqs.length tc]) ?_ rfl ⟨_, _, rfl, HG.out.nm.far gs (fun k hk e => ?_), HG.out.ts.far gs (fun k hk => ?_), HG.out.bel.trans (bel_grownL gs (fun k hk => by injection hk with hk; omega) HG.out.bel.size)⟩
      · exact results_cell_row (p := 2) (ty := 28) (by kernel_rfl) _ _ (w.heap.size + 1) 28 _ (0, 0) _ (by kernel_rfl) (HG.out.k2.setR _).hp Try.underlying28 rfl (by rw [sizePg]; rfl)
      · injection e with e
        subst e
        obtain ⟨_, _, c1, e1⟩ := HG.out.nm.ty _ hk
        exact HG.out.k2.ne e1 (by decide) rfl
      · injection hk with hk
        subst hk
        exact ⟨fun cur e => HG.out.k2.ne e (by decide) rfl, fun cur e => HG.out.k2.ne e (by decide) rfl⟩

def ByL (l : List Int) : Prop := ∀ x ∈ l, 0 ≤ x ∧ x < 256
theorem ByL.app {l m : List Int} (h : ByL l) (g : ByL m) : ByL (l ++ m) := fun x hx => by
  rcases List.mem_append.1 hx with hx | hx
  · exact h x hx
  · exact g x hx
theorem ByL.cons {y : Int} {l : List Int} (h : 0 ≤ y ∧ y < 256) (g : ByL l) : ByL (y :: l) := fun x hx => by
  rcases List.mem_cons.1 hx with rfl | hx
  · exact h
  · exact g x hx
theorem ByL.nil : ByL [] := fun x hx => by cases hx
theorem by_ul (n : Int) : ByL (ulB n) := ul_byte _
theorem by_sl (n : Int) : ByL (sl n) := sl_byte _ n (Nat.le_refl _)
theorem by_pl (n : Int) (s : Nat) : ByL (pl n s) := fun x hx => by
  unfold pl at hx
  obtain ⟨j, _, rfl⟩ := List.mem_map.1 hx
  exact ⟨Int.emod_nonneg _ (by decide), Int.emod_lt_of_pos _ (by decide)⟩
theorem by_adv (a l : Int) (ha : 0 ≤ a) (hl : -5 ≤ l ∧ l ≤ 8) : ByL (advR a l) := by
  unfold advR
  split
  · rename_i h
    exact .cons ⟨by unfold spec; omega, by omega⟩ .nil
  · split
    · rename_i h
      exact .cons (by decide) (.cons ⟨by unfold spec; omega, by omega⟩ .nil)
    · exact .cons (by decide) ((by_ul a).app (.cons ⟨by unfold spec; omega, by unfold spec; omega⟩ .nil))
theorem by_row (s r : Lr) (h : s.at' ≤ r.at') : ByL (rowR s r) := by
  unfold rowR
  refine .app ?_ (.app ?_ ?_)
  · unfold fileR; split
    · exact .nil
    · exact .cons (by decide) (by_ul _)
  · unfold colR; split
    · exact .nil
    · exact .cons (by decide) (by_ul _)
  · unfold tailR
    split
    · rename_i h1
      exact by_adv _ _ (by omega) (inB_of h1)
    · exact .cons (by decide) ((by_sl _).app (by_adv _ _ (by omega) (by decide)))
theorem by_rows {sz n : Int} : ∀ (s : Lr) (l : List Lr), rowsF sz n s.at' l = true → ByL (rowsR s l)
  | s, [], _ => .nil
  | s, r :: t, h => by
    simp only [rowsF, rowB1, Bool.and_eq_true] at h
    exact (by_row s r (inB_of h.1.1).1).app (by_rows r t h.2)
theorem by_seq {n : Int} {q : Sq} (h : seqB n q = true) : ByL (seqR q) := by
  obtain ⟨_, _, _, h4⟩ := seq_ok h
  unfold seqR
  refine .app (fun x hx => ?_) ((by_pl _ _).app ((by_rows Lr.first q.rows h4).app (.app ?_ (fun x hx => ?_))))
  · simp at hx; omega
  · unfold restR; split
    · exact .nil
    · exact .cons (by decide) (by_ul _)
  · simp at hx; omega
theorem by_cmd {n : Int} : ∀ {l : List Sq}, l.all (seqB n) = true → ByL (cmdR l)
  | [], _ => .nil
  | q :: l, h => by
    simp only [List.all_cons, Bool.and_eq_true] at h
    simp only [cmdR, List.flatMap_cons]
    exact (by_seq h.1).app (by_cmd h.2)
theorem by_names : ∀ (l : List ByteArray), ByL (namesR l)
  | [] => .nil
  | s :: l => by
    simp only [namesR, List.flatMap_cons]
    exact (ByL.app (bts_bytes s) (.cons (by decide) .nil)).app (by_names l)
theorem by_always : ByL always := by unfold ByL always; decide
theorem by_unit {p : Pg} (h : checkB p = true) : ByL (unitR p) := by
  unfold checkB seqsB at h
  simp only [Bool.and_eq_true, decide_eq_true_eq] at h
  unfold unitR headR behindR
  exact ((by_pl _ _).app (ByL.app (fun x hx => by simp at hx; omega) ((by_pl _ _).app (by_always.app ((by_ul _).app (by_names _)))))).app (by_cmd h.2.2)
theorem unit_pos (p : Pg) : 12 ≤ (unitR p).length := by
  unfold unitR
  rw [List.length_append, headR_len]; omega

/-- Bytes of the call's own, as a place in memory. -/
theorem Own.rd {w : World} {base : Nat} {v : Value} {xs : List Int} (h : Own w base v xs) (hne : 1 ≤ xs.length) : ∃ g cap, v = .slice (some ⟨g, 0, none⟩) xs.length cap ∧ base ≤ g ∧ xs.length ≤ cap ∧ cap ≤ 9223372036854775807 ∧ ∀ i, i < xs.length → w.cell? ⟨g, 0 + i, none⟩ = some (.int .u8 (xs.getD i 0)) := by
  obtain ⟨g, cap, hv, hb, _, hc⟩ := h.lies hne
  rcases h.2 with ⟨_, e⟩ | ⟨g', cap', cur, hv', _, _, h1, h2, _⟩
  · omega
  · rw [hv] at hv'
    injection hv' with e1 e2 e3
    subst e3
    exact ⟨g, cap, hv, hb, h1, by unfold maxLen at h2; omega, fun i hi => by rw [Nat.zero_add]; exact hc i hi⟩

/-- A program that a call has made. -/
def Made (w : World) (e : Ending) (p : Pg) (w' : World) : Prop := ∃ na nc ta tc, e = .returned (.agg #[.slice na p.files.length nc, .slice ta p.seqs.length tc]) ∧ PgIn w' na ta p ∧ Below w.heap.size w w'
/-- Few enough. -/
structure Few (p : Pg) : Prop where
  f : p.files.length ≤ 1048576
  s : p.seqs.length ≤ 1048576
  r : ∀ q ∈ p.seqs, q.rows.length ≤ 1048576
theorem own_pg (p : Pg) (fa sa : Option Addr) (fc sc : Nat) (w : World) (h : PgIn w fa sa p) (hf : fa = none → fc = 0) (hw : Few p) :
    Calls Try.prog 7 #[.agg #[.slice fa p.files.length fc, .slice sa p.seqs.length sc]] w fun e w' => Made w e p w' := by
  refine (own_any p fa sa fc sc w h hf (by have := hw.f; omega) (by have := hw.s; omega) (fun q hq => by have := hw.r q hq; omega)).mono fun e w' ⟨v1, v2, he, h1, h2, hb⟩ => ?_
  obtain ⟨na, nc, rfl, hs⟩ := h1.strs
  obtain ⟨ta, tc, rfl, hq⟩ := h2.sqs
  exact ⟨na, nc, ta, tc, he, ⟨hs, hq, h.fl, h.sl, h.sh⟩, hb⟩

/-- What Write leaves of a program that can be written. -/
def WrOk (p : Pg) (w : World) (e : Ending) (w' : World) : Prop := ∃ g c v, e = .returned (.tuple #[.slice (some ⟨g, 0, none⟩) (unitR p).length c, v, .int .i64 0]) ∧ w.heap.size ≤ g ∧ (unitR p).length ≤ c ∧ c ≤ 9223372036854775807 ∧ (∀ i, i < (unitR p).length → w'.cell? ⟨g, 0 + i, none⟩ = some (.int .u8 ((unitR p).getD i 0))) ∧ Own w' w.heap.size (.slice (some ⟨g, 0, none⟩) (unitR p).length c) (unitR p) ∧ OwnI w' w.heap.size v (atsF ((headR p.files ((cmdR p.seqs).length : Int)).length : Int) p.seqs) ∧ Below w.heap.size w w'
theorem write_ok (fa sa : Option Addr) (fc sc : Nat) (p : Pg) (w : World) (h : PgIn w fa sa p) (he : wriE p = 0) :
    Calls Try.prog 8 #[.agg #[.slice fa p.files.length fc, .slice sa p.seqs.length sc]] w (WrOk p w) := by
  refine (write_any fa sa fc sc p w h).mono fun e w' ⟨v, va, h1, h2, h3, h4⟩ => ?_
  unfold wriB at h2
  unfold wriA at h3
  rw [if_pos he] at h2 h3
  rw [he] at h1
  obtain ⟨g, c, rfl, k1, k2, k3, k4⟩ := h2.rd (by have := unit_pos p; omega)
  exact ⟨g, c, va, h1, k1, k2, k3, k4, h2, h3, h4⟩
theorem wri_ok {p : Pg} (h : wriE p = 0) : checkB p = true ∧ (unitR p).length ≤ 1048576 := by
  unfold wriE bigB at h
  split at h
  · rename_i h1
    split at h
    · cases h
    · rename_i h2
      exact ⟨h1, by simpa using h2⟩
  · cases h
theorem read_unit (p : Pg) (he : wriE p = 0) (g off c : Nat) (w : World) (hr : ∀ i, i < (unitR p).length → w.cell? ⟨g, off + i, none⟩ = some (.int .u8 ((unitR p).getD i 0))) (h1 : (unitR p).length ≤ c) (h2 : c ≤ 9223372036854775807) :
    Calls Try.prog 19 #[.slice (some ⟨g, off, none⟩) (unitR p).length c] w (RdEnd p w) := by
  obtain ⟨hc, hl⟩ := wri_ok he
  refine read_ok p hc g off _ c (fun i => (unitR p).getD i 0) w hr (getD_byte (by_unit hc)) rfl hl h1 h2 ?_
  intro i hi
  show (unitR p).getD (0 + i) 0 = _
  rw [Nat.zero_add]

theorem sam_e : wriE samP = 0 := by decide +kernel
theorem sam_f (addr : Int) : Few samP := ⟨by decide, by decide, fun q hq => by simp [samP] at hq; subst hq; decide⟩
theorem sam_len : (unitR samP).length = 61 := by decide +kernel
theorem sam_find : findM [samP] 4098 = some (⟨#[97, 46, 115]⟩, ⟨1, 1, 4, 0⟩) := by rfl
theorem strs_some {w : World} {fa : Option Addr} {l : List ByteArray} (h : Strs w fa l) (hl : 1 ≤ l.length) {fc : Nat} : fa = none → fc = 0 := by
  rcases h with h | ⟨b, off, rfl, _⟩
  · omega
  · exact fun e => by cases e
theorem pgs_one {X : World} {fa sa : Option Addr} {fc sc : Nat} {p : Pg} {t : Nat} (h : PgIn X fa sa p) : Pgs (X.alloc (.cells #[.slice fa p.files.length fc, .slice sa p.seqs.length sc] t)) (some ⟨X.heap.size, 0, none⟩) [p] := by
  have k := Bk.new X #[.slice fa p.files.length fc, .slice sa p.seqs.length sc] t
  refine .inr ⟨_, 0, rfl, fun i hi => ?_⟩
  have : i = 0 := by simp at hi; omega
  subst this
  exact ⟨fa, fc, sa, sc, k.cell 0 rfl, k.cell 1 rfl, h.bel ((Below.refl _ _).alloc (Nat.le_refl _) _)⟩

set_option maxRecDepth 20000 in
set_option maxHeartbeats 2000000 in
theorem knows_any (w : World) : Calls Try.prog 15 #[] w fun e w' => e = .returned (.bool true) ∧ Below w.heap.size w w' := by
  have HOw : Hid (∀ W fa sa, PgIn W fa sa samP → Calls Try.prog 7 #[.agg #[.slice fa 1 1, .slice sa 1 1]] W fun e w' => ∃ na nc ta tc, e = .returned (.agg #[.slice na 1 nc, .slice ta 1 tc]) ∧ PgIn w' na ta samP ∧ Below W.heap.size W w') := ⟨fun W fa sa h => own_pg samP fa sa 1 1 W h (strs_some h.fs (by decide)) (sam_f 0)⟩
  have HWr : Hid (∀ W fa fc sa sc, PgIn W fa sa samP → Calls Try.prog 8 #[.agg #[.slice fa 1 fc, .slice sa 1 sc]] W fun e w' => ∃ g c aa ac, e = .returned (.tuple #[.slice (some ⟨g, 0, none⟩) 61 c, .slice aa 1 ac, .int .i64 0]) ∧ Below W.heap.size W w' ∧ Calls Try.prog 19 #[.slice (some ⟨g, 0, none⟩) 61 c] w' (fun e w'' => ∃ fa fc sa sc, e = .returned (.tuple #[.agg #[.slice fa 1 fc, .slice sa 1 sc], .int .i64 0]) ∧ PgIn w'' fa sa samP ∧ Below w'.heap.size w' w'')) := ⟨fun W fa fc sa sc h => by
    refine (write_ok fa sa fc sc samP W h sam_e).mono fun e w' ⟨g, c, v, he, h1, h2, h3, h4, h5, h6, h7⟩ => ?_
    obtain ⟨aa, ac, rfl⟩ := h6.sl
    have hR := read_unit samP sam_e g 0 c w' h4 h2 h3
    rw [sam_len] at he hR
    exact ⟨g, c, aa, ac, he, h7, hR.mono fun e w2 ⟨fa, fc, sa, sc, k1, k2, _, _, k3⟩ => ⟨fa, fc, sa, sc, k1, k2, k3⟩⟩⟩
  have HFd : Hid (∀ X fa fc sa sc, PgIn X fa sa samP → Calls Try.prog 16 #[.slice (some ⟨X.heap.size + 1, 0, none⟩) 1 1, .int .i64 4098] ((X.alloc (.cells #[.slice fa 1 fc, .slice sa 1 sc] 28)).alloc (.cells #[.slice fa 1 fc, .slice sa 1 sc] 28)) fun e w' => e = .returned (.tuple #[.string ⟨#[97, 46, 115]⟩, .agg #[.int .i64 1, .int .i64 1, .int .i64 4, .int .i64 0], .bool true]) ∧ Below X.heap.size X w') := ⟨fun X fa fc sa sc h => by
    have hb : Below X.heap.size X (X.alloc (.cells #[.slice fa 1 fc, .slice sa 1 sc] 28)) := (Below.refl _ _).alloc (Nat.le_refl _) _
    have hp := pgs_one (fc := fc) (sc := sc) (t := 28) (h.bel hb)
    rw [show (X.alloc (.cells #[.slice fa 1 fc, .slice sa 1 sc] 28)).heap.size = X.heap.size + 1 by simp] at hp
    have := find_any [samP] _ 1 4098 _ hp (by decide) (by decide) (fun p hp q hq => by
      obtain rfl := List.mem_singleton.1 hp
      simp [samP] at hq; subst hq; exact ⟨by decide, by decide, by decide⟩)
    rw [sam_find] at this
    refine this.mono fun e w' ⟨he, hb2⟩ => ⟨he, hb.trans ((((Below.refl _ _).alloc (Nat.le_refl _) _).trans (hb2.mono (by simp))).mono (by simp))⟩⟩
  go_enter Try.func15, Try.ntmps15
  go_wp2_with (first
    | (go_at_call 31; (with_reducible refine (sample_any _).mono ?_); rintro e w1 ⟨fa, sa, he, hp, hb⟩; subst he; have H1 : Hid _ := ⟨hp⟩; have B1 : Hid _ := ⟨hb⟩; clear hp hb)
    | (go_at_call 7; (with_reducible refine (HOw.out _ _ _ H1.out).mono ?_); rintro e w2 ⟨na, nc, ta, tc, he, hp, hb⟩; subst he; have H2 : Hid _ := ⟨hp⟩; have B2 : Hid _ := ⟨hb⟩; clear hp hb)
    | (go_at_call 8; (with_reducible refine (HWr.out _ _ _ _ _ H2.out).mono ?_); rintro e w3 ⟨g, c, aa, ac, he, hb, hr⟩; subst he; have H3 : Hid _ := ⟨hr⟩; have B3 : Hid _ := ⟨hb⟩; clear hr hb)
    | (go_at_call 19; (with_reducible refine H3.out.mono ?_); rintro e w4 ⟨pa, pc, qa, qc, he, hp, hb⟩; subst he; have H4 : Hid _ := ⟨hp⟩; have B4 : Hid _ := ⟨hb⟩; clear hp hb)
    | (go_at_call 16; (with_reducible refine (HFd.out _ _ _ _ _ H4.out).mono ?_); rintro e w5 ⟨he, hb⟩; subst he; have B5 : Hid _ := ⟨hb⟩; clear hb)
    | (go_at_call 11; (with_reducible refine (num_any _ _).mono ?_); rintro e wn ⟨he, hwn⟩; subst he; subst wn))
  go_ret
  refine ⟨rfl, ?_⟩
  have b12 := B1.out.trans (B2.out.mono B1.out.size)
  have b13 := b12.trans (B3.out.mono b12.size)
  have b14 := b13.trans (B4.out.mono b13.size)
  have b15 := b14.trans (B5.out.mono b14.size)
  exact b15.alloc b15.size _
end Go.Proofs.Ytbhdledlahbokaa
