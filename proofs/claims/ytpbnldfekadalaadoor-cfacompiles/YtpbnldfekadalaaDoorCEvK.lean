/- The program's compiler: its block, its table, its ops; an op is done. -/
import Derived.Test.YtpbnldfekadalaaDoorCEvN
import Derived.Test.YtpbnldfekadalaaDoorCPRows
namespace Go.Proofs.YtpbnldfekadalaaDoor
open Go.ChangeShapes Go.WideShapes Go.ChangeAt Go.RowKit
set_option linter.unusedVariables false
set_option linter.unusedSimpArgs false

theorem own_ty {w : World} {base e size n : Nat} {v : Value} {xs : List Value} (h : w.ownsRow base e size v n xs) : ∀ k, v.ownBlock = some k → ∃ cur, w.heap[k]? = some (.cells cur e (0, 0)) := by
  intro k hk
  rcases h.2 with ⟨rfl, _⟩ | ⟨g, cap, cur, rfl, e1, e2, _⟩
  · simp [Value.ownBlock] at hk
  · simp [Value.ownBlock] at hk
    subst hk
    exact ⟨cur, e2⟩
theorem own_nbk {w : World} {base e size n k t : Nat} {v : Value} {xs : List Value} {cs : Array Value} (h : w.ownsRow base e size v n xs) (hB : Bk w k t cs) (ht : t ≠ e) : v.ownBlock ≠ some k := fun e1 => by
  obtain ⟨cur, hc⟩ := own_ty h k e1
  rw [hB.hp] at hc
  simp only [Option.some.injEq, Obj.cells.injEq] at hc
  exact ht hc.2.1
theorem own_nown {w : World} {b1 b2 e1 e2 s1 s2 n1 n2 : Nat} {v1 v2 : Value} {x1 x2 : List Value} (h1 : w.ownsRow b1 e1 s1 v1 n1 x1) (h2 : w.ownsRow b2 e2 s2 v2 n2 x2) (ht : e1 ≠ e2) : ∀ k, v1.ownBlock = some k → v2.ownBlock ≠ some k := fun k hk hk2 => by
  obtain ⟨c1, h3⟩ := own_ty h1 k hk
  obtain ⟨c2, h4⟩ := own_ty h2 k hk2
  rw [h3] at h4
  simp only [Option.some.injEq, Obj.cells.injEq] at h4
  exact ht h4.2.1
theorem bk_ne {w : World} {b1 b2 t1 t2 : Nat} {c1 c2 : Array Value} (h1 : Bk w b1 t1 c1) (h2 : Bk w b2 t2 c2) (ht : t1 ≠ t2) : b1 ≠ b2 := fun e => by
  subst e
  have := h1.hp
  rw [h2.hp] at this
  simp only [Option.some.injEq, Obj.cells.injEq] at this
  exact ht this.2.1.symm
/-- A table stays as it is where other blocks turn. -/
theorem TA.far {base : Nat} {w w' : World} {tb : Nat} {bg : Bool} {t : Tb} {vr vk : Value} {row : Option Nat} (h : TA nX base w tb bg t vr vk) (hg : w.grownBy w' row) (n1 : row ≠ some tb) (n2 : vr.ownBlock = none ∨ vr.ownBlock ≠ row) (n3 : vk.ownBlock = none ∨ vk.ownBlock ≠ row) : TA nX base w' tb bg t vr vk :=
  ⟨h.bk.of (hg.block tb h.bk.lt (Ne.symm n1)), h.lo, h.L.grown hg n2, h.K.grown hg n3, h.nr, h.nk, h.rk, h.wf, Fx.nil _ _ _ _⟩
theorem ne_of {v : Value} {row : Option Nat} (h : ∀ k, row = some k → v.ownBlock ≠ some k) : v.ownBlock = none ∨ v.ownBlock ≠ row := by
  cases hv : v.ownBlock with
  | none => exact .inl rfl
  | some k => exact .inr (fun e => h k e.symm hv)

/-- Blocks of others beside the compiler. -/
structure Fy (Y : Nat → Option Obj) (w : World) (cb tb : Nat) (vr vk vo : Value) : Prop where
  fx : ∀ k c, Y k = some c → w.heap[k]? = some c
  yc : Y cb = none
  yt : Y tb = none
  yr : ∀ k, vr.ownBlock = some k → Y k = none
  yk : ∀ k, vk.ownBlock = some k → Y k = none
  yo : ∀ k, vo.ownBlock = some k → Y k = none
theorem Fy.nil (w : World) (cb tb : Nat) (vr vk vo : Value) : Fy nX w cb tb vr vk vo := ⟨fun k c h => (by cases h), rfl, rfl, fun _ _ => rfl, fun _ _ => rfl, fun _ _ => rfl⟩
/-- The compiler. -/
structure KA (Y : Nat → Option Obj) (base : Nat) (w : World) (cb tb : Nat) (s : Es) (vr vk vo : Value) : Prop where
  bk : Bk w cb 47 #[.pointer (some ⟨tb, 0, none⟩), .int .i64 s.p, vo]
  lo : base ≤ cb
  ta : TA nX base w tb true s.t vr vk
  op : OwnP w base vo s.L
  fy : Fy Y w cb tb vr vk vo
section
variable {Y : Nat → Option Obj} {base : Nat} {w w' w2 : World} {cb tb : Nat} {s : Es} {vr vk vo v2 : Value}
theorem KA.bel (h : KA Y base w cb tb s vr vk vo) (hb : Below w.heap.size w w') : KA Y base w' cb tb s vr vk vo :=
  ⟨h.bk.bel hb h.bk.lt, h.lo, h.ta.bel hb, h.op.bel hb, ⟨fun k c e => (by have e1 := h.fy.fx k c e; rw [hb.block k (lt_of_heap e1)]; exact e1), h.fy.yc, h.fy.yt, h.fy.yr, h.fy.yk, h.fy.yo⟩⟩
theorem KA.d1 (h : KA Y base w cb tb s vr vk vo) : tb ≠ cb := bk_ne h.ta.bk h.bk (by decide)
theorem KA.d2 (h : KA Y base w cb tb s vr vk vo) : vr.ownBlock ≠ some cb := own_nbk h.ta.L.2 h.bk (by decide)
theorem KA.d3 (h : KA Y base w cb tb s vr vk vo) : vk.ownBlock ≠ some cb := own_nbk h.ta.K.2 h.bk (by decide)
theorem KA.d4 (h : KA Y base w cb tb s vr vk vo) : vo.ownBlock ≠ some tb := own_nbk h.op h.ta.bk (by decide)
theorem KA.d5 (h : KA Y base w cb tb s vr vk vo) : vo.ownBlock ≠ some cb := own_nbk h.op h.bk (by decide)
theorem KA.d6 (h : KA Y base w cb tb s vr vk vo) : ∀ k, vo.ownBlock = some k → vr.ownBlock ≠ some k := own_nown h.op h.ta.L.2 (by decide)
theorem KA.d7 (h : KA Y base w cb tb s vr vk vo) : ∀ k, vo.ownBlock = some k → vk.ownBlock ≠ some k := own_nown h.op h.ta.K.2 (by decide)
/-- Other blocks are looked at. -/
theorem KA.re {Z : Nat → Option Obj} (h : KA Y base w cb tb s vr vk vo) (hz : Fy Z w cb tb vr vk vo) : KA Z base w cb tb s vr vk vo := ⟨h.bk, h.lo, h.ta, h.op, hz⟩
/-- What is beside the table. -/
def kX (w : World) (cb : Nat) (vo : Value) (Y : Nat → Option Obj) : Nat → Option Obj := fun k => if k = cb ∨ vo.ownBlock = some k then w.heap[k]? else Y k
theorem KA.x (h : KA Y base w cb tb s vr vk vo) : TA (kX w cb vo Y) base w tb true s.t vr vk :=
  ⟨h.ta.bk, h.ta.lo, h.ta.L, h.ta.K, h.ta.nr, h.ta.nk, h.ta.rk, h.ta.wf, ⟨fun k c e => by
    unfold kX at e
    split at e
    · exact e
    · exact h.fy.fx k c e, by
    unfold kX
    rw [if_neg]
    · exact h.fy.yt
    · rintro (e | e)
      · exact h.d1 e
      · exact h.d4 e, fun k hk => by
    unfold kX
    rw [if_neg]
    · exact h.fy.yr k hk
    · rintro (e | e)
      · subst e; exact h.d2 hk
      · exact h.d6 k e hk, fun k hk => by
    unfold kX
    rw [if_neg]
    · exact h.fy.yk k hk
    · rintro (e | e)
      · subst e; exact h.d3 hk
      · exact h.d7 k e hk⟩⟩
theorem KA.yx (h : KA Y base w cb tb s vr vk vo) {k : Nat} {c : Obj} (e : Y k = some c) : kX w cb vo Y k = some c := by
  unfold kX
  rw [if_neg]
  · exact e
  · rintro (e1 | e1)
    · subst e1; rw [h.fy.yc] at e; cases e
    · rw [h.fy.yo k e1] at e; cases e
theorem KA.xy (h : KA Y base w cb tb s vr vk vo) {k : Nat} (e : kX w cb vo Y k = none) : Y k = none := by
  cases hy : Y k with
  | none => rfl
  | some c => rw [h.yx hy] at e; cases e
/-- Behind a call that did an op. -/
theorem KA.after (h : KA Y base w cb tb s vr vk vo) {t' : Tb} {vr' vk' : Value} (hT : TA (kX w cb vo Y) base w' tb true t' vr' vk') : KA Y base w' cb tb ⟨t', s.p, s.L⟩ vr' vk' vo := by
  have hcb : w'.heap[cb]? = w.heap[cb]? := by
    have := hT.ff.fx cb _ (show kX w cb vo Y cb = some _ by unfold kX; rw [if_pos (.inl rfl)]; exact h.bk.hp)
    rw [this, h.bk.hp]
  refine ⟨h.bk.of hcb, h.lo, ⟨hT.bk, hT.lo, hT.L, hT.K, hT.nr, hT.nk, hT.rk, hT.wf, Fx.nil _ _ _ _⟩, ?_, ⟨fun k c e => hT.ff.fx k c (h.yx e), h.fy.yc, h.fy.yt, fun k hk => h.xy (hT.ff.xr k hk), fun k hk => h.xy (hT.ff.xk k hk), h.fy.yo⟩⟩
  rcases h.op.2 with ⟨e1, e2⟩ | ⟨g, cap, cur, e1, e2, e3, e4⟩
  · exact ⟨h.op.1, .inl ⟨e1, e2⟩⟩
  · refine ⟨h.op.1, .inr ⟨g, cap, cur, e1, e2, ?_, e4⟩⟩
    have := hT.ff.fx g _ (show kX w cb vo Y g = some _ by unfold kX; rw [if_pos (.inr (by rw [e1]; rfl))]; exact e3)
    rw [this]
/-- The compiler's own block is written anew. -/
theorem KA.put (h : KA Y base w cb tb s vr vk vo) (p : Int) : KA Y base (w.setRow cb #[.pointer (some ⟨tb, 0, none⟩), .int .i64 p, vo]) cb tb ⟨s.t, p, s.L⟩ vr vk vo := by
  refine ⟨h.bk.setR _, h.lo, h.ta.far (grown_set _ _ _) (fun e => h.d1 (by simpa using e.symm)) (ne_of fun k e => ?_) (ne_of fun k e => ?_), World.ownsRow.kept h.op (grown_set _ _ _) (.inr h.d5), ⟨fun k c e => ?_, h.fy.yc, h.fy.yt, h.fy.yr, h.fy.yk, h.fy.yo⟩⟩
  · simp at e; subst e; exact h.d2
  · simp at e; subst e; exact h.d3
  · rw [setRow_other _ _ _ _ (fun e1 => by rw [e1, h.fy.yc] at e; cases e)]
    exact h.fy.fx k c e
/-- An op more. -/
theorem KA.append {o : Oq} (h : KA Y base w cb tb s vr vk vo) (hg : w.grownBy w2 vo.ownBlock) (ho : OwnP w2 base v2 (s.L ++ [o])) (hbk : v2.ownBlock = vo.ownBlock ∨ v2.ownBlock = some w.heap.size) :
    Bk w2 cb 47 #[.pointer (some ⟨tb, 0, none⟩), .int .i64 s.p, vo] ∧ KA Y base (w2.setRow cb #[.pointer (some ⟨tb, 0, none⟩), .int .i64 s.p, v2]) cb tb ⟨s.t, s.p, s.L ++ [o]⟩ vr vk v2 := by
  have b2 := h.bk.of (hg.block cb h.bk.lt (Ne.symm h.d5))
  have t2 := h.ta.far hg h.d4 (ne_of h.d6) (ne_of h.d7)
  have y2 : Fy Y w2 cb tb vr vk v2 := ⟨fun k c e => (by
    have e1 := h.fy.fx k c e
    rw [hg.block k (lt_of_heap e1) (fun e2 => by rw [h.fy.yo k e2.symm] at e; cases e)]
    exact e1), h.fy.yc, h.fy.yt, h.fy.yr, h.fy.yk, fun k hk => by
    rcases hbk with e | e
    · exact h.fy.yo k (e ▸ hk)
    · rw [e] at hk
      simp at hk
      cases hy : Y k with
      | none => rfl
      | some c => have := lt_of_heap (h.fy.fx k c hy); omega⟩
  refine ⟨b2, b2.setR _, h.lo, t2.far (grown_set _ _ _) (fun e => h.d1 (by simpa using e.symm)) (ne_of fun k e => ?_) (ne_of fun k e => ?_), World.ownsRow.kept ho (grown_set _ _ _) (.inr (own_nbk ho b2 (by decide))), ⟨fun k c e => ?_, y2.yc, y2.yt, y2.yr, y2.yk, y2.yo⟩⟩
  · simp at e; subst e; exact h.d2
  · simp at e; subst e; exact h.d3
  · rw [setRow_other _ _ _ _ (fun e1 => by rw [e1, y2.yc] at e; cases e)]
    exact y2.fx k c e
end
end Go.Proofs.YtpbnldfekadalaaDoor
