/- The document's Compile, whole. -/
import Derived.Test.YtpbnldfekadalaaDoorCEvM
import Derived.Test.YtpbnldfekadalaaDoorCEvD
namespace Go.Proofs.YtpbnldfekadalaaDoor
open Go.ChangeShapes Go.WideShapes Go.ChangeAt Go.RowKit
set_option linter.unusedVariables false
set_option linter.unusedSimpArgs false

theorem load_evR {w : World} {b : Nat} {p : Int} {s : ByteArray} {ao : Option Addr} {n c : Nat} (h : Bk w b 26 #[.int .i64 p, .string s, .slice ao n c]) : (loadVar 26 ⟨b, 0, none⟩).run Tryd.prog w = .ok (.agg #[.int .i64 p, .string s, .slice ao n c]) w :=
  run_loadVar_row w b _ _ _ _ _ h.hp Tryd.underlying26 rfl (by rw [show (Tryd.prog.info? 26).map (·.size) = some 3 by kernel_rfl]; rfl)
theorem wp_append_opR {o : Oper} {a : Act} {w : World} {K : Act → World → Prop} {Q : Exit → Act → World → Prop} {s x : Operand} (ho : o.op = .call { callee := .builtin .append, args := #[s, x], argTypes := #[32, 32] })
    {base : Nat} {v : Value} {l : List Oq} {y : Oq} {q : Nat} (hown : OwnR w base v l) (hs : a.eval s = v) (hx : a.eval x = .slice (some ⟨q, 0, none⟩) 1 1) (hq : Bk w q 52 #[.int .i64 y.k, .int .i64 y.r, .int .i64 y.n]) (hn : l.length ≤ 100000) (hbase : base ≤ w.heap.size)
    (h : ∀ v' w', OwnR w' base v' (l ++ [y]) → w.grownBy w' v.ownBlock → (v'.ownBlock = v.ownBlock ∨ v'.ownBlock = some w.heap.size) → K (a.put o.dst v') w') : o.wp Tryd.prog a w K Q := by
  obtain ⟨i0, hi, hz0, hz1, hz2⟩ := info_parts infoR
  obtain ⟨v', w', hr, h2, h3, h4, h5⟩ := run_append_own_at (P := Tryd.prog) w base 32 o.type 52 i0 _ 3 24 Tryd.underlying32 hi hz0 hz1 hz2 rfl (by decide) v l.length _ hown ⟨q, 0, none⟩ 1 1 (Oq.cells y) rfl (fun j u hj => by rw [caddr_add]; exact hq.cell _ (by simpa [Oq.cells] using hj)) (by
    have := oqCells_one [y]
    simpa [oqCells] using this) (by unfold maxLen; omega) (by omega) hbase
  unfold Oper.wp execOp
  simp only [ho, resolve, invoke, builtin, Sem.run_bind, Sem.run_pure, Result.andThen_ok, List.map_toArray, List.map_cons, List.map_nil, hs, hx, hr]
  refine h v' w' ?_ h3 h5
  unfold OwnR
  rw [oqCells_append, List.length_append]
  simpa [oqCells] using h2
theorem wpList_appR {ops : Array Oper} {rest : List Oper} {o : Oper} {a : Act} {w : World} {Q : Exit → Act → World → Prop} {s x : Operand} (hgd : o.guard = none) (ho : o.op = .call { callee := .builtin .append, args := #[s, x], argTypes := #[32, 32] })
    {base : Nat} {v : Value} {l : List Oq} {y : Oq} {q : Nat} (hown : OwnR w base v l) (hs : a.eval s = v) (hx : a.eval x = .slice (some ⟨q, 0, none⟩) 1 1) (hq : Bk w q 52 #[.int .i64 y.k, .int .i64 y.r, .int .i64 y.n]) (hn : l.length ≤ 100000) (hbase : base ≤ w.heap.size)
    (h : ∀ v' w', OwnR w' base v' (l ++ [y]) → w.grownBy w' v.ownBlock → (v'.ownBlock = v.ownBlock ∨ v'.ownBlock = some w.heap.size) → wpList Tryd.prog ops Q rest (a.put o.dst v') w') : wpList Tryd.prog ops Q (o :: rest) a w :=
  wpList_plain hgd fun _ hK => wp_append_opR ho hown hs hx hq hn hbase (fun v' w' h1 h2 h3 => hK _ _ (h v' w' h1 h2 h3))
/-- The document's table, and its ops. -/
structure KD (Y : Nat → Option Obj) (base : Nat) (w : World) (tb : Nat) (s : Es) (vL vK vo : Value) : Prop where
  td : TD nX base w tb s.t vL vK
  op : OwnR w base vo s.L
  fy : Fy Y w tb tb vL vK vo
def dX (w : World) (vo : Value) (Y : Nat → Option Obj) : Nat → Option Obj := fun k => if vo.ownBlock = some k then w.heap[k]? else Y k
section
variable {Y : Nat → Option Obj} {base : Nat} {w w' w2 : World} {tb : Nat} {s : Es} {vL vK vo v2 : Value}
theorem TD.farD {row : Option Nat} {t : Tb} (h : TD nX base w tb t vL vK) (hg : w.grownBy w' row) (n1 : row ≠ some tb) (n2 : vL.ownBlock = none ∨ vL.ownBlock ≠ row) (n3 : vK.ownBlock = none ∨ vK.ownBlock ≠ row) : TD nX base w' tb t vL vK :=
  ⟨h.bk.of (hg.block tb h.bk.lt (Ne.symm n1)), h.lo, h.L.grown hg n2, h.K.grown hg n3, h.nr, h.nk, h.rk, h.wf, Fx.nil _ _ _ _⟩
theorem KD.bel (h : KD Y base w tb s vL vK vo) (hb : Below w.heap.size w w') : KD Y base w' tb s vL vK vo :=
  ⟨h.td.bel hb, h.op.bel hb, ⟨fun k c e => (by have e1 := h.fy.fx k c e; rw [hb.block k (lt_of_heap e1)]; exact e1), h.fy.yc, h.fy.yt, h.fy.yr, h.fy.yk, h.fy.yo⟩⟩
theorem KD.d4 (h : KD Y base w tb s vL vK vo) : vo.ownBlock ≠ some tb := own_nbk h.op h.td.bk (by decide)
theorem KD.d6 (h : KD Y base w tb s vL vK vo) : ∀ k, vo.ownBlock = some k → vL.ownBlock ≠ some k := own_nown h.op h.td.L.2 (by decide)
theorem KD.d7 (h : KD Y base w tb s vL vK vo) : ∀ k, vo.ownBlock = some k → vK.ownBlock ≠ some k := own_nown h.op h.td.K.2 (by decide)
theorem KD.re {Z : Nat → Option Obj} (h : KD Y base w tb s vL vK vo) (hz : Fy Z w tb tb vL vK vo) : KD Z base w tb s vL vK vo := ⟨h.td, h.op, hz⟩
theorem KD.none (h : KD Y base w tb s vL vK vo) : KD nX base w tb s vL vK vo := h.re (Fy.nil _ _ _ _ _ _)
theorem KD.x (h : KD Y base w tb s vL vK vo) : TD (dX w vo Y) base w tb s.t vL vK :=
  ⟨h.td.bk, h.td.lo, h.td.L, h.td.K, h.td.nr, h.td.nk, h.td.rk, h.td.wf, ⟨fun k c e => (by
    unfold dX at e
    split at e
    · exact e
    · exact h.fy.fx k c e), (by
    unfold dX
    rw [if_neg h.d4]
    exact h.fy.yt), fun k hk => (by
    unfold dX
    rw [if_neg (fun e => h.d6 k e hk)]
    exact h.fy.yr k hk), fun k hk => (by
    unfold dX
    rw [if_neg (fun e => h.d7 k e hk)]
    exact h.fy.yk k hk)⟩⟩
theorem KD.yx (h : KD Y base w tb s vL vK vo) {k : Nat} {c : Obj} (e : Y k = some c) : dX w vo Y k = some c := by
  unfold dX
  rw [if_neg (fun e1 => by rw [h.fy.yo k e1] at e; cases e)]
  exact e
theorem KD.xy (h : KD Y base w tb s vL vK vo) {k : Nat} (e : dX w vo Y k = Option.none) : Y k = Option.none := by
  cases hy : Y k with
  | none => rfl
  | some c => rw [h.yx hy] at e; cases e
theorem KD.after (h : KD Y base w tb s vL vK vo) {t' : Tb} {vL' vK' : Value} (hT : TD (dX w vo Y) base w' tb t' vL' vK') : KD Y base w' tb ⟨t', s.p, s.L⟩ vL' vK' vo := by
  refine ⟨⟨hT.bk, hT.lo, hT.L, hT.K, hT.nr, hT.nk, hT.rk, hT.wf, Fx.nil _ _ _ _⟩, ?_, ⟨fun k c e => hT.ff.fx k c (h.yx e), h.fy.yc, h.fy.yt, fun k hk => h.xy (hT.ff.xr k hk), fun k hk => h.xy (hT.ff.xk k hk), h.fy.yo⟩⟩
  rcases h.op.2 with ⟨e1, e2⟩ | ⟨g, cap, cur, e1, e2, e3, e4⟩
  · exact ⟨h.op.1, .inl ⟨e1, e2⟩⟩
  · refine ⟨h.op.1, .inr ⟨g, cap, cur, e1, e2, ?_, e4⟩⟩
    have := hT.ff.fx g _ (show dX w vo Y g = some _ by unfold dX; rw [if_pos (by rw [e1]; rfl)]; exact e3)
    rw [this]
theorem KD.append {o : Oq} (h : KD Y base w tb s vL vK vo) (hg : w.grownBy w2 vo.ownBlock) (ho : OwnR w2 base v2 (s.L ++ [o])) (hbk : v2.ownBlock = vo.ownBlock ∨ v2.ownBlock = some w.heap.size) : KD Y base w2 tb ⟨s.t, s.p, s.L ++ [o]⟩ vL vK v2 :=
  ⟨h.td.farD hg h.d4 (ne_of h.d6) (ne_of h.d7), ho, ⟨fun k c e => (by
    have e1 := h.fy.fx k c e
    rw [hg.block k (lt_of_heap e1) (fun e2 => by rw [h.fy.yo k e2.symm] at e; cases e)]
    exact e1), h.fy.yc, h.fy.yt, h.fy.yr, h.fy.yk, fun k hk => (by
    rcases hbk with e | e
    · exact h.fy.yo k (e ▸ hk)
    · rw [e] at hk
      simp at hk
      cases hy : Y k with
      | none => rfl
      | some c => have := lt_of_heap (h.fy.fx k c hy); omega)⟩⟩
end
/-- One block, two. -/
theorem KD.two {base : Nat} {w : World} {tb : Nat} {s : Es} {vL vK vo : Value} {a b : Nat} {E O : Array Value} (h : KD nX base w tb s vL vK vo) (ha : Bk w a 26 E) (hb : Bk w b 52 O) (hn : vo.ownBlock ≠ some b) : KD (yX w a b) base w tb s vL vK vo :=
  h.re ⟨fun k c e => (by unfold yX at e; split at e; exact e; cases e),
    (by unfold yX; rw [if_neg]; rintro (e | e); exact bk_ne ha h.td.bk (by decide) e.symm; exact bk_ne hb h.td.bk (by decide) e.symm),
    (by unfold yX; rw [if_neg]; rintro (e | e); exact bk_ne ha h.td.bk (by decide) e.symm; exact bk_ne hb h.td.bk (by decide) e.symm),
    fun k hk => (by unfold yX; rw [if_neg]; rintro (e | e); subst e; exact own_nbk h.td.L.2 ha (by decide) hk; subst e; exact own_nbk h.td.L.2 hb (by decide) hk),
    fun k hk => (by unfold yX; rw [if_neg]; rintro (e | e); subst e; exact own_nbk h.td.K.2 ha (by decide) hk; subst e; exact own_nbk h.td.K.2 hb (by decide) hk),
    fun k hk => (by unfold yX; rw [if_neg]; rintro (e | e); subst e; exact own_nbk h.op ha (by decide) hk; subst e; exact hn hk)⟩
theorem KD.two_a {base : Nat} {w u : World} {tb : Nat} {s : Es} {vL vK vo : Value} {a b : Nat} {E : Array Value} (h : KD (yX w a b) base u tb s vL vK vo) (ha : Bk w a 26 E) : Bk u a 26 E :=
  ⟨h.fy.fx a _ (by unfold yX; rw [if_pos (.inl rfl)]; exact ha.hp)⟩
theorem KD.two_b {base : Nat} {w u : World} {tb : Nat} {s : Es} {vL vK vo : Value} {a b : Nat} {E : Array Value} (h : KD (yX w a b) base u tb s vL vK vo) (hb : Bk w b 52 E) : Bk u b 52 E :=
  ⟨h.fy.fx b _ (by unfold yX; rw [if_pos (.inr rfl)]; exact hb.hp)⟩
theorem KD.no_new {base : Nat} {w : World} {tb : Nat} {s : Es} {vL vK vo : Value} {Y : Nat → Option Obj} (h : KD Y base w tb s vL vK vo) : ∀ k, w.heap.size ≤ k → vo.ownBlock ≠ some k := fun k hk e => by have := (h.op.lt _ e).2; omega
theorem ev_past {m : Nat} {s : Es} {v : Ev} (h : Ei m s) (hp : s.t.size < v.p) : evM s v = none := by
  unfold evM
  rw [go_far h hp]
  cases opE v.s.toList v.a s.t.now.n <;> rfl
theorem ev_on {s s1 : Es} {v : Ev} (h : goM s v.p = some s1) (hn : s1.t.now.n = s.t.now.n) : evM s v = (match opE v.s.toList v.a s1.t.now.n with | none => none | some o => (oneM false s1.t o).map (fun t2 => ⟨t2, v.p, s1.L ++ [o]⟩)) := by
  unfold evM
  rw [h, hn]
  cases opE v.s.toList v.a s.t.now.n with
  | none => rfl
  | some o =>
    dsimp only
    cases oneM false s1.t o <;> rfl
theorem rusual_any (w : World) : Calls Tryd.prog 9 #[] w fun e w' => ∃ v, e = .returned v ∧ OwnR w' w.heap.size v kI ∧ Below w.heap.size w w' := by
  go_enter Tryd.func9, Tryd.ntmps9
  go_wp2
  go_ret
  refine ⟨_, rfl, ?_, (Below.refl _ _).alloc (Nat.le_refl _) _⟩
  exact ⟨rfl, .inr ⟨w.heap.size, 2, _, rfl, Nat.le_refl _, heap_alloc_new w _, by decide, by decide, rfl, rfl⟩⟩

set_option maxRecDepth 20000 in
set_option maxHeartbeats 8000000 in
/-- One round: an event of the document's Compile. -/
theorem rcompile_any (ao : Option Addr) (c : Nat) (l : List Ev) (size : Int) (w : World) (h : Evs w ao l) (hl : l.length ≤ 140737488355328) (hok : ∀ x ∈ l, EvOk x) (hs : -9223372036854775808 ≤ size ∧ size ≤ 9223372036854775807) :
    Calls Tryd.prog 5 #[.slice ao l.length c, .int .i64 size] w fun e w' => ∃ v, e = .returned (.tuple #[v, .int .i64 (comR l size).1]) ∧ OwnR w' w.heap.size v (comR l size).2 ∧ Below w.heap.size w w' := by
  have hl' : (l.length : Int) ≤ 140737488355328 := by omega
  by_cases hz : size < 0 ∨ 1048576 < size
  · have hE : comR l size = (11, []) := by unfold comR; rw [if_pos hz]
    rw [hE]
    clear hE h hok
    by_cases hz1 : size < 0
    · go_enter Tryd.func5, Tryd.ntmps5
      go_wp2
      go_ret2
      exact ⟨_, rfl, OwnR.nil _ _, Below.refl _ _⟩
    · have hz2 : 1048576 < size := by omega
      go_enter Tryd.func5, Tryd.ntmps5
      go_wp2
      go_ret2
      exact ⟨_, rfl, OwnR.nil _ _, Below.refl _ _⟩
  have hz1 : ¬ size < 0 := by omega
  have hz2 : ¬ 1048576 < size := by omega
  by_cases hn : 4000 < l.length
  · have hE : comR l size = (6, []) := by unfold comR; rw [if_neg hz, if_pos hn]
    have g1 : (4000 : Int) < (l.length : Int) := by omega
    rw [hE]
    clear hE h hok
    go_enter Tryd.func5, Tryd.ntmps5
    go_wp2
    go_ret2
    exact ⟨_, rfl, OwnR.nil _ _, Below.refl _ _⟩
  have g1 : ¬ (4000 : Int) < (l.length : Int) := by omega
  have h0 : 0 ≤ size := by omega
  have h1 : size ≤ 1048576 := by omega
  obtain ⟨R, hR⟩ : ∃ R, evsM (esU size) l = R := ⟨_, rfl⟩
  have hE : (evsM (esU size) l = none → comR l size = (130, [])) ∧ ∀ s, evsM (esU size) l = some s → comR l size = if 4000 < s.L.length then (6, []) else (0, s.L) := ⟨comR_none hz hn, fun s h => comR_some hz hn h⟩
  obtain ⟨C, hC⟩ : ∃ C, comR l size = C := ⟨_, rfl⟩
  rw [hC]
  rw [hC] at hE
  have HE : Hid _ := ⟨hE⟩
  have HR : Hid _ := ⟨hR⟩
  have HEv : Hid _ := ⟨h⟩
  have HOk : Hid _ := ⟨hok⟩
  have HI0 : Hid _ := ⟨ei_new h0 h1⟩
  have HNew : Hid _ := ⟨rnew_any size w⟩
  have HUs : Hid _ := ⟨fun w => rusual_any w⟩
  have HBg : Hid (∀ (tb : Nat) (w2 : World) (ao : Option Addr) (c : Nat) (X : Nat → Option Obj), TD X w.heap.size w2 tb (tbNew size) (.slice none 0 0) (.slice none 0 0) → (∀ u : World, (∀ k c, X k = some c → u.heap[k]? = some c) → Oqs u ao kI) → Below w.heap.size w w2 → Calls Tryd.prog 15 #[.pointer (some ⟨tb, 0, none⟩), .slice ao kI.length c] w2 fun e w' => e = .returned (.bool true) ∧ DEnd X w.heap.size tb w2 w' (begM (tbNew size) kI)) := ⟨fun tb w2 ao c X hT hq hB => rbegin_x hT (pl_new h0 h1) ao c kI (by decide) rfl hq hB⟩
  clear hE hC hR h hok hs
  go_enter Tryd.func5, Tryd.ntmps5
  go_upto_region 6 with (go_at_call 14; (with_reducible refine HNew.out.mono ?_); rintro e w1 ⟨tb, he, hT1, hB1⟩; subst he; have HT1 : Hid _ := ⟨hT1⟩; have HB1 : Hid _ := ⟨hB1⟩; clear hT1 hB1)
  go_upto_region 7 with (first
    | (go_at_call 9; (with_reducible refine (HUs.out _).mono ?_); rintro e w2 ⟨v, he, hO2, hB2⟩; obtain ⟨uo, cap, hv, _, _, hQ2, _⟩ := hO2.any; subst hv; subst he; have HX2 : Hid (TD (rX w2 (.slice uo kI.length cap)) w.heap.size w2 tb (tbNew size) (.slice none 0 0) (.slice none 0 0) ∧ Below w.heap.size w w2 ∧ ∀ u : World, (∀ k c, rX w2 (.slice uo kI.length cap) k = some c → u.heap[k]? = some c) → Oqs u uo kI) := ⟨⟨(HT1.out.bel hB2).bk, HT1.out.lo, (HT1.out.bel hB2).L, (HT1.out.bel hB2).K, HT1.out.nr, HT1.out.nk, HT1.out.rk, HT1.out.wf, ⟨fun k c e => (by unfold rX at e; split at e; exact e; cases e), (by unfold rX; rw [if_neg (fun e => by have := (hO2.lt _ e).1; have := HT1.out.bk.lt; omega)]), fun k e => (by simp [Value.ownBlock] at e), fun k e => (by simp [Value.ownBlock] at e)⟩⟩, HB1.out.trans (hB2.mono HB1.out.size), fun u hu => (by obtain ⟨bo, d, e, _, _, q, _⟩ := (ownR_x hO2 hu).any; rw [(own_of e).1]; exact q)⟩; clear hO2 hB2 hQ2)
    | (go_at_call 15; (with_reducible refine (HBg.out _ _ _ _ _ HX2.out.1 HX2.out.2.2 HX2.out.2.1).mono ?_); rintro e w3 ⟨he, hE3⟩; subst he; obtain ⟨vL3, vK3, hT3⟩ := hE3.2 _ (usual_beg size); have HT3 : Hid (TD nX w.heap.size w3 tb (tbU size) vL3 vK3 ∧ Below w.heap.size w w3) := ⟨⟨hT3.bk, hT3.lo, hT3.L, hT3.K, hT3.nr, hT3.nk, hT3.rk, hT3.wf, Fx.nil _ _ _ _⟩, HX2.out.2.1.trans hE3.1⟩; clear hE3 hT3))
  go_wp2
  go_loopw [7, 8, 9] (fun vo lv iv wr => ∃ k : Nat, k ≤ l.length ∧ iv = .int .i64 k ∧ ∃ p : Int, lv = .int .i64 p ∧ Hid (∃ s vL vK, evsM (esU size) (l.take k) = some s ∧ s.p = p ∧ s.t.size = size ∧ Ei k s ∧ KD nX w.heap.size wr tb s vL vK vo ∧ Below w.heap.size w wr)) (fun _ _ iv _ => l.length - (intOf iv).toNat)
  case atStart => exact ⟨0, by omega, rfl, 0, rfl, ⟨esU size, vL3, vK3, rfl, rfl, rfl, HI0.out, ⟨HT3.out.1, OwnR.nil _ _, Fy.nil _ _ _ _ _ _⟩, HT3.out.2⟩⟩
  case round =>
    obtain ⟨k, hk, rfl, p, rfl, HW⟩ := hrel
    by_cases hlt : k < l.length
    rotate_left
    · obtain rfl : k = l.length := by omega
      obtain ⟨s, vL1, vK1, hM, hp, hsz, hI, hKD, hBw⟩ := HW.out
      rw [List.take_of_length_le (Nat.le_refl _), HR.out] at hM
      subst hM
      obtain ⟨oa, oc, hvo, _⟩ := hKD.op.any
      subst hvo
      have HO : Hid _ := ⟨hKD.op⟩
      have HBw : Hid _ := ⟨hBw⟩
      have hle := hI.L
      clear hI hKD hBw HW hsz hp
      by_cases h4 : 4000 < s.L.length
      · have hCe : C = (6, []) := (HE.out.2 s HR.out).trans (if_pos h4)
        have g4 : (4000 : Int) < (s.L.length : Int) := by omega
        subst hCe
        go_wp2
        go_ret2
        exact ⟨_, rfl, OwnR.nil _ _, HBw.out⟩
      · have hCe : C = (0, s.L) := (HE.out.2 s HR.out).trans (if_neg h4)
        have g4 : ¬ (4000 : Int) < (s.L.length : Int) := by omega
        subst hCe
        go_wp2
        go_ret2
        exact ⟨_, rfl, HO.out, HBw.out⟩
    have q1 : (k : Int) < (l.length : Int) := by omega
    have q0 : (0 : Int) ≤ (k : Int) := by omega
    obtain ⟨s, vL1, vK1, hM, hp, hsz, hI, hKD, hBw⟩ := HW.out
    subst hp
    obtain ⟨b, off, rfl, hat⟩ : ∃ b off, ao = some ⟨b, off, none⟩ ∧ ∀ i, i < l.length → EvAt w b (off + i * 3) (l.getD i Ev.zero) := by
      rcases HEv.out with h | h
      · omega
      · exact h
    obtain ⟨aa, ca, c0, c1, c2, hIa⟩ := hat k hlt
    replace c0 := (World.cell?_of_block (hBw.block _ (World.block_lt_of_cell? w _ c0))).trans c0
    replace c1 := (World.cell?_of_block (hBw.block _ (World.block_lt_of_cell? w _ c1))).trans c1
    replace c2 := (World.cell?_of_block (hBw.block _ (World.block_lt_of_cell? w _ c2))).trans c2
    have hv := HOk.out _ (ev_in hlt)
    have hnx := evsM_take hlt hM
    clear hat HW
    generalize l.getD k Ev.zero = v at *
    obtain ⟨⟨hv0, hv1⟩, hvl⟩ := hv
    have hs0 : 0 ≤ s.p ∧ s.p ≤ size := by have h1 := hI.at_; have h2 := hI.pl.p0; have h3 := hI.pl.p1; omega
    obtain ⟨hs0, hs1⟩ := hs0
    have BE := bel_new wr #[.int .i64 v.p, .string v.s, .slice aa v.a.length ca] 26
    have HKD : Hid _ := ⟨hKD.bel BE⟩
    have HEb : Hid _ := ⟨Bk.new wr #[.int .i64 v.p, .string v.s, .slice aa v.a.length ca] 26⟩
    have HIa : Hid _ := ⟨hIa⟩
    have HBw : Hid _ := ⟨hBw.trans (BE.mono hBw.size)⟩
    have HM : Hid _ := ⟨hnx⟩
    have HI : Hid _ := ⟨hI⟩
    have e0 := HEb.out.cell 0 rfl
    clear hM hI hKD hBw hIa hnx BE
    go_upto_region 13 with (fail)
    generalize wr.alloc (.cells #[.int .i64 v.p, .string v.s, .slice aa v.a.length ca] 26) = W1 at *
    generalize wr.heap.size = xb at *
    by_cases hbef : v.p < s.p
    · have hRn : R = none := by rw [← HR.out]; exact evsM_none (HM.out.trans (ev_before hbef))
      subst hRn
      have hCe : C = (130, []) := HE.out.1 HR.out
      subst hCe
      go_wp2
      go_ret2
      exact ⟨_, rfl, OwnR.nil _ _, HBw.out⟩
    by_cases hpast : size < v.p
    · have hRn : R = none := by rw [← HR.out]; exact evsM_none (HM.out.trans (ev_past HI.out (by omega)))
      subst hRn
      have hCe : C = (130, []) := HE.out.1 HR.out
      subst hCe
      go_wp2
      go_ret2
      exact ⟨_, rfl, OwnR.nil _ _, HBw.out⟩
    obtain ⟨bg, hbg⟩ : ∃ bg, decide (s.p < v.p) = bg := ⟨_, rfl⟩
    go_upto_if 51 with (fail)
    go_cut [7, 8, 11] from 52 to 65 (fun s7 s8 s11 wx => s8 = .int .i64 v.p ∧ ∃ vo, vo = s7 ∧ Hid (∃ s1 vL vK, goM s v.p = some s1 ∧ s1.p = v.p ∧ s1.t.now.n = s.t.now.n ∧ Pl (2 * k + 1) true s1.t ∧ s1.L.length ≤ 2 * k + 1 ∧ KD nX w.heap.size wx tb s1 vL vK vo ∧ Bk wx xb 26 #[.int .i64 v.p, .string v.s, .slice aa v.a.length ca] ∧ Below w.heap.size w wx))
    case first =>
      by_cases hgt : s.p < v.p
      · obtain rfl : bg = true := by rw [← hbg]; simpa using hgt
        obtain ⟨t', hadv, hgo, hn', hp', hsz'⟩ := go_some HI.out hgt (by omega)
        obtain ⟨d, hd⟩ : ∃ d, v.p - s.p = d := ⟨_, rfl⟩
        have hwd : IntKind.i64.wrap d = d := wrap_in (by omega) (by omega)
        rw [hd] at hadv hgo
        have HAdv : Hid _ := ⟨hadv⟩
        have HGo : Hid (goM s v.p = some ⟨t', v.p, s.L ++ [oqA d]⟩ ∧ t'.now.n = s.t.now.n) := ⟨hgo, hn'⟩
        clear hadv hgo hn' hp' hsz'
        go_upto_region 17 with (fail)
        have BO := bel_new W1 #[.int .i64 1, .int .i64 0, .int .i64 d] 52
        have HKo : Hid _ := ⟨HKD.out.bel BO⟩
        have HOb : Hid _ := ⟨Bk.new W1 #[.int .i64 1, .int .i64 0, .int .i64 d] 52⟩
        have HEo : Hid _ := ⟨HEb.out.bel BO HEb.out.lt⟩
        have HBo : Hid _ := ⟨HBw.out.trans (BO.mono HBw.out.size)⟩
        have HNo : Hid _ := ⟨HKD.out.no_new W1.heap.size (Nat.le_refl _)⟩
        have o0 := HOb.out.cell 0 rfl
        have o1 := HOb.out.cell 1 rfl
        have o2 := HOb.out.cell 2 rfl
        clear BO
        generalize W1.alloc (.cells #[.int .i64 1, .int .i64 0, .int .i64 d] 52) = W2 at *
        generalize W1.heap.size = ob at *
        have HK2 : Hid _ := ⟨HKo.out.two HEo.out HOb.out HNo.out⟩
        have BN := bel_new W2 #[.int .i64 1, .int .i64 0, .int .i64 d] 52
        have HK3 : Hid _ := ⟨HK2.out.bel BN⟩
        have NB := Bk.new W2 #[.int .i64 1, .int .i64 0, .int .i64 d] 52
        have HB3 : Hid _ := ⟨HBo.out.trans (BN.mono HBo.out.size)⟩
        have hlen : s.L.length ≤ 100000 := by have := HI.out.L; omega
        go_upto_region 18 with (refine wpList_appR (y := ⟨1, 0, d⟩) rfl rfl HK3.out.op (by rfl) (by rfl) NB hlen HB3.out.size ?_; intro v6 w6 ho6 hg6 hb6; have H6 : Hid _ := ⟨And.intro ho6 (And.intro hg6 hb6)⟩; clear ho6 hg6 hb6)
        have hg6 := H6.out.2.1
        have HK6 : Hid _ := ⟨HK3.out.append H6.out.2.1 H6.out.1 H6.out.2.2⟩
        have HB6 : Hid (Below w.heap.size w w6) := ⟨HB3.out.trans (bel_grown hg6 (fun k hk => (HK3.out.op.lt k hk).1) HB3.out.size)⟩
        have HO6 : Hid _ := ⟨HK6.out.two_b HOb.out⟩
        have HE6 : Hid _ := ⟨HK6.out.two_a HEo.out⟩
        clear BN NB hg6 H6 HK3 HB3 o0 o1 o2 e0
        have o0 := HO6.out.cell 0 rfl
        have o1 := HO6.out.cell 1 rfl
        have o2 := HO6.out.cell 2 rfl
        have HD : Hid (Calls Tryd.prog 16 #[.pointer (some ⟨tb, 0, none⟩), .agg #[.int .i64 1, .int .i64 0, .int .i64 d], .bool false] w6 fun e w' => e = .returned (.bool (oneM false s.t (oqA d)).isSome) ∧ DEnd (dX w6 v6 (yX W2 xb ob)) w.heap.size tb w6 w' (oneM false s.t (oqA d))) := ⟨rone_any HK6.out.x false HI.out.pl (by omega) (oqA d)⟩
        rw [HAdv.out] at HD
        go_upto_region 19 with (go_at_call 16; (with_reducible refine HD.out.mono ?_); rintro e w7 ⟨he, hE⟩; subst he; obtain ⟨vL7, vK7, hT7⟩ := hE.2 t' rfl; have HK7 : Hid _ := ⟨HK6.out.after hT7⟩; have HB7 : Hid _ := ⟨HB6.out.trans hE.1⟩; clear hE hT7)
        have HE7 : Hid _ := ⟨HK7.out.two_a HEo.out⟩
        have e7 := HE7.out.cell 0 rfl
        have HPl : Hid _ := ⟨oneM_pl HI.out.pl HAdv.out⟩
        have HL : Hid ((s.L ++ [oqA d]).length ≤ 2 * k + 1) := ⟨by have := HI.out.L; simp; omega⟩
        go_wp2
        go_meet
        exact ⟨rfl, _, rfl, ⟨⟨t', v.p, s.L ++ [oqA d]⟩, vL7, vK7, HGo.out.1, rfl, HGo.out.2, HPl.out, HL.out, ⟨HK7.out.td, HK7.out.op, Fy.nil _ _ _ _ _ _⟩, HE7.out, HB7.out⟩⟩
      · obtain rfl : bg = false := by rw [← hbg]; simpa using hgt
        have hpe : v.p = s.p := by omega
        have HPl : Hid (Pl (2 * k + 1) true s.t) := ⟨by have p1 := HI.out.pl; exact ⟨p1.p0, p1.p1, p1.s, Nat.le_trans p1.L (by omega), p1.K, p1.k0, p1.r, p1.kr⟩⟩
        have HGo : Hid (goM s v.p = some s) := ⟨by unfold goM; rw [if_neg (by omega), if_neg (by omega)]⟩
        have HL : Hid (s.L.length ≤ 2 * k + 1) := ⟨by have := HI.out.L; omega⟩
        have HPe : Hid _ := ⟨hpe⟩
        clear hpe hgt hbef hpast
        go_wp2
        go_meet
        exact ⟨by rw [HPe.out], _, rfl, ⟨s, vL1, vK1, HGo.out, HPe.out.symm, rfl, HPl.out, HL.out, HKD.out, HEb.out, HBw.out⟩⟩
    case rest =>
    obtain ⟨rfl, vo, rfl, HX⟩ := hcut
    obtain ⟨s1, vL2, vK2, hgo, hp1, hn1, hpl, hL1, hKD1, hE1, hB1⟩ := HX.out
    obtain ⟨W3, hW3⟩ : ∃ W3, W3 = wc := ⟨_, rfl⟩
    subst hW3
    have hev := ev_on hgo hn1
    rw [hev] at HM
    have HK1 : Hid _ := ⟨hKD1⟩
    have HE1 : Hid _ := ⟨hE1⟩
    have HB1 : Hid _ := ⟨hB1⟩
    have HPl : Hid _ := ⟨hpl⟩
    have HEvM : Hid _ := ⟨hev⟩
    clear hgo hn1 hpl hKD1 hE1 hB1 HX hev HKD HEb hp1
    have HEd : Hid _ := ⟨HE1.out.bel ((Below.refl _ W3).drew) HE1.out.lt⟩
    have HKd : Hid _ := ⟨HK1.out.bel ((Below.refl _ W3).drew)⟩
    have HBd : Hid (Below w.heap.size w W3.drew) := ⟨HB1.out.trans (((Below.refl _ W3).drew).mono HB1.out.size)⟩
    have HId : Hid _ := ⟨HIa.out.bel HBd.out⟩
    have HNo : Hid _ := ⟨HKd.out.no_new⟩
    clear HE1 HK1 HB1
    go_upto_region 20 with (fail)
    go_cut [12, 13] from 66 to 75 (fun s12 s13 wx => ∃ (bq : Nat) (q : Oq), s12 = .pointer (some ⟨bq, 0, none⟩) ∧ s13 = .bool (opE v.s.toList v.a s1.t.now.n).isSome ∧ Hid (Bk wx bq 52 #[.int .i64 q.k, .int .i64 q.r, .int .i64 q.n] ∧ KD nX w.heap.size wx tb s1 vL2 vK2 vo ∧ Bk wx xb 26 #[.int .i64 v.p, .string v.s, .slice aa v.a.length ca] ∧ Below w.heap.size w wx ∧ (∀ x, opE v.s.toList v.a s1.t.now.n = some x → q = x) ∧ vo.ownBlock ≠ some bq))
    case first =>
      refine wp_region_held_drew (S := fun u => Bk u xb 26 #[.int .i64 v.p, .string v.s, .slice aa v.a.length ca] ∧ u.cell? ⟨tb, 3, none⟩ = some (.int .i64 s1.t.now.n)) (by kernel_rfl) ⟨HEd.out, HKd.out.td.n⟩ (fun hS => ?_)
      generalize W3.drew = V at *
      refine wpAnyH_take (i := 0) (v := .agg #[.int .i64 v.p, .string v.s, .slice aa v.a.length ca]) rfl (by kernel_rfl) (by kernel_rfl) (by kernel_rfl) (fun _ _ _ h => h) (Or.inl ⟨by kernel_rfl, fun u hu => exec_loadV (t := 26) (p := ⟨xb, 0, none⟩) rfl (by kernel_rfl) (load_evR hu.1)⟩) hS ?_
      simp only [Act.put, List.getElem_toArray, List.getElem_cons_succ, List.getElem_cons_zero, List.setIfInBounds_toArray, List.set_cons_zero, List.set_cons_succ]
      refine wpAnyH_take (i := 1) (v := .pointer (some ⟨tb, 0, none⟩)) rfl (by kernel_rfl) (by kernel_rfl) (by kernel_rfl) (fun _ _ _ h => h) (Or.inl ⟨by kernel_rfl, fun u hu => by kernel_rfl⟩) hS ?_
      simp only [Act.put, List.getElem_toArray, List.getElem_cons_succ, List.getElem_cons_zero, List.setIfInBounds_toArray, List.set_cons_zero, List.set_cons_succ]
      refine wpAnyH_take (i := 2) (v := .pointer (some ⟨tb, 0, none⟩)) rfl (by kernel_rfl) (by kernel_rfl) (by kernel_rfl) (fun _ _ _ h => h) (Or.inl ⟨by kernel_rfl, fun u hu => by kernel_rfl⟩) hS ?_
      simp only [Act.put, List.getElem_toArray, List.getElem_cons_succ, List.getElem_cons_zero, List.setIfInBounds_toArray, List.set_cons_zero, List.set_cons_succ]
      refine wpAnyH_take (i := 3) (v := .pointer (some ⟨tb, 1, none⟩)) rfl (by kernel_rfl) (by kernel_rfl) (by kernel_rfl) (fun _ _ _ h => h) (Or.inl ⟨by kernel_rfl, fun u hu => by kernel_rfl⟩) hS ?_
      simp only [Act.put, List.getElem_toArray, List.getElem_cons_succ, List.getElem_cons_zero, List.setIfInBounds_toArray, List.set_cons_zero, List.set_cons_succ]
      refine wpAnyH_take (i := 4) (v := .pointer (some ⟨tb, 3, none⟩)) rfl (by kernel_rfl) (by kernel_rfl) (by kernel_rfl) (fun _ _ _ h => h) (Or.inl ⟨by kernel_rfl, fun u hu => by kernel_rfl⟩) hS ?_
      simp only [Act.put, List.getElem_toArray, List.getElem_cons_succ, List.getElem_cons_zero, List.setIfInBounds_toArray, List.set_cons_zero, List.set_cons_succ]
      refine wpAnyH_take (i := 5) (v := .int .i64 s1.t.now.n) rfl (by kernel_rfl) (by kernel_rfl) (by kernel_rfl) (fun _ _ _ h => h) (Or.inl ⟨by kernel_rfl, fun u hu => exec_loadV (t := 3) (p := ⟨tb, 3, none⟩) rfl (by kernel_rfl) (load_i64 hu.2)⟩) hS ?_
      simp only [Act.put, List.getElem_toArray, List.getElem_cons_succ, List.getElem_cons_zero, List.setIfInBounds_toArray, List.set_cons_zero, List.set_cons_succ]
      have HS0 : Hid _ := ⟨hS⟩
      refine wpAnyH_ready (rs := [6, 10]) (by kernel_rfl) (by simp) ?_
      refine AllReadyH.cons rfl (fun K hK => ?_) (AllReadyH.cons rfl (fun K hK => ?_) AllReadyH.nil)
      · simp only [List.getElem_toArray, List.getElem_cons_succ, List.getElem_cons_zero]
        refine wp_if (by kernel_rfl) ?_
        refine wp_enter (f := 17) (args := #[.agg #[.int .i64 v.p, .string v.s, .slice aa v.a.length ca], .int .i64 s1.t.now.n]) (by kernel_rfl) (rop_any v.p v.s aa ca v.a s1.t.now.n V HId.out hvl) ?_
        rintro e u ⟨q, he, hq, hb⟩
        subst he
        refine ⟨_, rfl, ?_⟩
        refine hK.out _ _ ⟨hS.1.bel hb hS.1.lt, up_belI hS.2 hb⟩ (fun hS => ?_)
        clear hK
        simp only [Act.put, List.getElem_toArray, List.getElem_cons_succ, List.getElem_cons_zero, List.setIfInBounds_toArray, List.set_cons_zero, List.set_cons_succ]
        refine wpAnyH_take (i := 7) (v := .tuple #[q.val, .bool (opE v.s.toList v.a s1.t.now.n).isSome]) rfl (by kernel_rfl) (by kernel_rfl) (by kernel_rfl) (fun _ _ _ h => h) (Or.inl ⟨by kernel_rfl, fun u hu => by kernel_rfl⟩) hS ?_
        simp only [Act.put, List.getElem_toArray, List.getElem_cons_succ, List.getElem_cons_zero, List.setIfInBounds_toArray, List.set_cons_zero, List.set_cons_succ]
        refine wpAnyH_take (i := 8) (v := q.val) rfl (by kernel_rfl) (by kernel_rfl) (by kernel_rfl) (fun _ _ _ h => h) (Or.inl ⟨by kernel_rfl, fun u hu => by kernel_rfl⟩) hS ?_
        simp only [Act.put, List.getElem_toArray, List.getElem_cons_succ, List.getElem_cons_zero, List.setIfInBounds_toArray, List.set_cons_zero, List.set_cons_succ]
        refine wpAnyH_take (i := 9) (v := .bool (opE v.s.toList v.a s1.t.now.n).isSome) rfl (by kernel_rfl) (by kernel_rfl) (by kernel_rfl) (fun _ _ _ h => h) (Or.inl ⟨by kernel_rfl, fun u hu => by kernel_rfl⟩) hS ?_
        simp only [Act.put, List.getElem_toArray, List.getElem_cons_succ, List.getElem_cons_zero, List.setIfInBounds_toArray, List.set_cons_zero, List.set_cons_succ]
        refine wpAnyH_ready (rs := [10]) (by kernel_rfl) (by simp) ?_
        refine AllReadyH.cons rfl (fun K hK => ?_) AllReadyH.nil
        simp only [List.getElem_toArray, List.getElem_cons_succ, List.getElem_cons_zero]
        refine wp_if (by kernel_rfl) ?_
        refine wp_val (v := .pointer (some ⟨u.heap.size, 0, none⟩)) (w' := u.alloc (.cells zeroO 52)) (by kernel_rfl) ?_
        have BU : Below u.heap.size u ((u.alloc (.cells zeroO 52)).setRow u.heap.size #[.int .i64 q.k, .int .i64 q.r, .int .i64 q.n]) := (bel_new _ _ _).trans (below_set _ _ _ (Nat.le_refl _))
        have BV : Below V.heap.size V ((u.alloc (.cells zeroO 52)).setRow u.heap.size #[.int .i64 q.k, .int .i64 q.r, .int .i64 q.n]) := hb.trans (BU.mono hb.size)
        have N2 := Bk.new u zeroO 52
        refine hK.out _ _ ⟨hS.1.bel (bel_new _ _ _) hS.1.lt, up_belI hS.2 (bel_new _ _ _)⟩ (fun hS => ?_)
        clear hK
        simp only [Act.put, List.getElem_toArray, List.getElem_cons_succ, List.getElem_cons_zero, List.setIfInBounds_toArray, List.set_cons_zero, List.set_cons_succ]
        refine wpAnyH_ready (rs := [11]) (by kernel_rfl) (by simp) ?_
        refine AllReadyH.cons rfl (fun K hK => ?_) AllReadyH.nil
        simp only [List.getElem_toArray, List.getElem_cons_succ, List.getElem_cons_zero]
        refine wp_if (by kernel_rfl) ?_
        refine wp_part (g := u.heap.size) (off := 0) (val := q.val) (new := #[.int .i64 q.k, .int .i64 q.r, .int .i64 q.n]) rfl (by kernel_rfl) (by kernel_rfl) N2 (by rw [sizeOpR]; rfl) (by show 0 + 3 ≤ 3; omega) (val_one _) rfl ?_
        refine hK.out _ _ ⟨HS0.out.1.bel BV HS0.out.1.lt, up_belI HS0.out.2 BV⟩ (fun hS => ?_)
        clear hK
        simp only [Act.put, List.getElem_toArray, List.getElem_cons_succ, List.getElem_cons_zero, List.setIfInBounds_toArray, List.set_cons_zero, List.set_cons_succ]
        refine wpAnyH_take (i := 12) (v := .bool (opE v.s.toList v.a s1.t.now.n).isSome) rfl (by kernel_rfl) (by kernel_rfl) (by kernel_rfl) (fun _ _ _ h => h) (Or.inl ⟨by kernel_rfl, fun u hu => by kernel_rfl⟩) hS ?_
        simp only [Act.put, List.getElem_toArray, List.getElem_cons_succ, List.getElem_cons_zero, List.setIfInBounds_toArray, List.set_cons_zero, List.set_cons_succ]
        refine wpAnyH_done (by kernel_rfl) ?_ _
        go_wp2_with fail
        go_meet
        exact ⟨u.heap.size, q, rfl, rfl, ⟨N2.setR _, HKd.out.bel BV, HEd.out.bel BV HEd.out.lt, HBd.out.trans (BV.mono HBd.out.size), hq, HNo.out _ hb.size⟩⟩
      · simp only [List.getElem_toArray, List.getElem_cons_succ, List.getElem_cons_zero]
        refine wp_if (by kernel_rfl) ?_
        refine wp_val (v := .pointer (some ⟨V.heap.size, 0, none⟩)) (w' := V.alloc (.cells zeroO 52)) (by kernel_rfl) ?_
        refine hK.out _ _ ⟨hS.1.bel (bel_new _ _ _) hS.1.lt, up_belI hS.2 (bel_new _ _ _)⟩ (fun hS => ?_)
        clear hK
        simp only [Act.put, List.getElem_toArray, List.getElem_cons_succ, List.getElem_cons_zero, List.setIfInBounds_toArray, List.set_cons_zero, List.set_cons_succ]
        refine wpAnyH_ready (rs := [6]) (by kernel_rfl) (by simp) ?_
        refine AllReadyH.cons rfl (fun K hK => ?_) AllReadyH.nil
        simp only [List.getElem_toArray, List.getElem_cons_succ, List.getElem_cons_zero]
        refine wp_if (by kernel_rfl) ?_
        refine wp_enter (f := 17) (args := #[.agg #[.int .i64 v.p, .string v.s, .slice aa v.a.length ca], .int .i64 s1.t.now.n]) (by kernel_rfl) (rop_any v.p v.s aa ca v.a s1.t.now.n (V.alloc (.cells zeroO 52)) (HId.out.bel (bel_new _ _ _)) hvl) ?_
        rintro e u ⟨q, he, hq, hb⟩
        subst he
        refine ⟨_, rfl, ?_⟩
        have N2 := (Bk.new V zeroO 52).bel hb (Bk.new V zeroO 52).lt
        have B0 : Below V.heap.size V u := (bel_new V zeroO 52).trans (hb.mono (bel_new V zeroO 52).size)
        have BV : Below V.heap.size V (u.setRow V.heap.size #[.int .i64 q.k, .int .i64 q.r, .int .i64 q.n]) := B0.trans (below_set _ _ _ (Nat.le_refl _))
        refine hK.out _ _ ⟨HS0.out.1.bel B0 HS0.out.1.lt, up_belI HS0.out.2 B0⟩ (fun hS => ?_)
        clear hK
        simp only [Act.put, List.getElem_toArray, List.getElem_cons_succ, List.getElem_cons_zero, List.setIfInBounds_toArray, List.set_cons_zero, List.set_cons_succ]
        refine wpAnyH_take (i := 7) (v := .tuple #[q.val, .bool (opE v.s.toList v.a s1.t.now.n).isSome]) rfl (by kernel_rfl) (by kernel_rfl) (by kernel_rfl) (fun _ _ _ h => h) (Or.inl ⟨by kernel_rfl, fun u hu => by kernel_rfl⟩) hS ?_
        simp only [Act.put, List.getElem_toArray, List.getElem_cons_succ, List.getElem_cons_zero, List.setIfInBounds_toArray, List.set_cons_zero, List.set_cons_succ]
        refine wpAnyH_take (i := 8) (v := q.val) rfl (by kernel_rfl) (by kernel_rfl) (by kernel_rfl) (fun _ _ _ h => h) (Or.inl ⟨by kernel_rfl, fun u hu => by kernel_rfl⟩) hS ?_
        simp only [Act.put, List.getElem_toArray, List.getElem_cons_succ, List.getElem_cons_zero, List.setIfInBounds_toArray, List.set_cons_zero, List.set_cons_succ]
        refine wpAnyH_take (i := 9) (v := .bool (opE v.s.toList v.a s1.t.now.n).isSome) rfl (by kernel_rfl) (by kernel_rfl) (by kernel_rfl) (fun _ _ _ h => h) (Or.inl ⟨by kernel_rfl, fun u hu => by kernel_rfl⟩) hS ?_
        simp only [Act.put, List.getElem_toArray, List.getElem_cons_succ, List.getElem_cons_zero, List.setIfInBounds_toArray, List.set_cons_zero, List.set_cons_succ]
        refine wpAnyH_ready (rs := [11]) (by kernel_rfl) (by simp) ?_
        refine AllReadyH.cons rfl (fun K hK => ?_) AllReadyH.nil
        simp only [List.getElem_toArray, List.getElem_cons_succ, List.getElem_cons_zero]
        refine wp_if (by kernel_rfl) ?_
        refine wp_part (g := V.heap.size) (off := 0) (val := q.val) (new := #[.int .i64 q.k, .int .i64 q.r, .int .i64 q.n]) rfl (by kernel_rfl) (by kernel_rfl) N2 (by rw [sizeOpR]; rfl) (by show 0 + 3 ≤ 3; omega) (val_one _) rfl ?_
        refine hK.out _ _ ⟨HS0.out.1.bel BV HS0.out.1.lt, up_belI HS0.out.2 BV⟩ (fun hS => ?_)
        clear hK
        simp only [Act.put, List.getElem_toArray, List.getElem_cons_succ, List.getElem_cons_zero, List.setIfInBounds_toArray, List.set_cons_zero, List.set_cons_succ]
        refine wpAnyH_take (i := 12) (v := .bool (opE v.s.toList v.a s1.t.now.n).isSome) rfl (by kernel_rfl) (by kernel_rfl) (by kernel_rfl) (fun _ _ _ h => h) (Or.inl ⟨by kernel_rfl, fun u hu => by kernel_rfl⟩) hS ?_
        simp only [Act.put, List.getElem_toArray, List.getElem_cons_succ, List.getElem_cons_zero, List.setIfInBounds_toArray, List.set_cons_zero, List.set_cons_succ]
        refine wpAnyH_done (by kernel_rfl) ?_ _
        go_wp2_with fail
        go_meet
        exact ⟨V.heap.size, q, rfl, rfl, ⟨N2.setR _, HKd.out.bel BV, HEd.out.bel BV HEd.out.lt, HBd.out.trans (BV.mono HBd.out.size), hq, HNo.out _ (Nat.le_refl _)⟩⟩
    case rest =>
    obtain ⟨bq, q, rfl, rfl, HC⟩ := hcut
    obtain ⟨W4, hW4⟩ : ∃ W4, W4 = wc := ⟨_, rfl⟩
    subst hW4
    have HBc : Hid (Below w.heap.size w W4) := ⟨HC.out.2.2.2.1⟩
    clear HEd HKd HBd HId HNo
    obtain ⟨B, hB⟩ : ∃ B, (opE v.s.toList v.a s1.t.now.n).isSome = B := ⟨_, rfl⟩
    rw [hB]
    cases B
    · have ho : opE v.s.toList v.a s1.t.now.n = none := by
        cases ho : opE v.s.toList v.a s1.t.now.n with
        | none => rfl
        | some o => rw [ho] at hB; cases hB
      rw [ho] at HM
      have hRn : R = none := by rw [← HR.out]; exact evsM_none HM.out
      subst hRn
      have hCe : C = (130, []) := HE.out.1 HR.out
      subst hCe
      clear hB ho
      go_wp2
      go_ret2
      exact ⟨_, rfl, OwnR.nil _ _, HBc.out⟩
    obtain ⟨o, ho⟩ : ∃ o, opE v.s.toList v.a s1.t.now.n = some o := by
      cases ho : opE v.s.toList v.a s1.t.now.n with
      | none => rw [ho] at hB; cases hB
      | some o => exact ⟨o, rfl⟩
    have hqo := HC.out.2.2.2.2.1 o ho
    subst hqo
    rw [ho] at HM HEvM
    dsimp only at HM HEvM
    have HY : Hid _ := ⟨HC.out.2.1.two HC.out.2.2.1 HC.out.1 HC.out.2.2.2.2.2⟩
    have HD : Hid (Calls Tryd.prog 16 #[.pointer (some ⟨tb, 0, none⟩), .agg #[.int .i64 q.k, .int .i64 q.r, .int .i64 q.n], .bool false] W4 fun e w' => e = .returned (.bool (oneM false s1.t q).isSome) ∧ DEnd (dX W4 vo (yX W4 xb bq)) w.heap.size tb W4 w' (oneM false s1.t q)) := ⟨rone_any HY.out.x false HPl.out (by omega) q⟩
    have q0' := HC.out.1.cell 0 rfl
    have q1' := HC.out.1.cell 1 rfl
    have q2' := HC.out.1.cell 2 rfl
    clear hB ho
    cases h2 : oneM false s1.t q with
    | none =>
      rw [h2] at HD HM
      have hRn : R = none := by rw [← HR.out]; exact evsM_none HM.out
      subst hRn
      have hCe : C = (130, []) := HE.out.1 HR.out
      subst hCe
      clear h2
      go_wp2_with (go_at_call 16; (with_reducible refine HD.out.mono ?_); rintro e u ⟨he, hE⟩; subst he; have HU : Hid (Below w.heap.size w u) := ⟨HBc.out.trans hE.1⟩; clear hE)
      go_ret2
      exact ⟨_, rfl, OwnR.nil _ _, HU.out⟩
    | some t2 =>
      rw [h2] at HD HM HEvM
      have HEi : Hid _ := ⟨ev_ei HI.out HEvM.out⟩
      clear h2
      go_upto_region 23 with (go_at_call 16; (with_reducible refine HD.out.mono ?_); rintro e u ⟨he, hE⟩; subst he; obtain ⟨vL7, vK7, hT7⟩ := hE.2 t2 rfl; have HK7 : Hid _ := ⟨HY.out.after hT7⟩; have HB7 : Hid (Below w.heap.size w u) := ⟨HBc.out.trans hE.1⟩; clear hE hT7)
      have HO7 : Hid _ := ⟨HK7.out.two_b HC.out.1⟩
      clear q0' q1' q2'
      have q0' := HO7.out.cell 0 rfl
      have q1' := HO7.out.cell 1 rfl
      have q2' := HO7.out.cell 2 rfl
      have BN := bel_new u #[.int .i64 q.k, .int .i64 q.r, .int .i64 q.n] 52
      have HK8 : Hid _ := ⟨HK7.out.bel BN⟩
      have NB := Bk.new u #[.int .i64 q.k, .int .i64 q.r, .int .i64 q.n] 52
      have HB8 : Hid _ := ⟨HB7.out.trans (BN.mono HB7.out.size)⟩
      have hlen : s1.L.length ≤ 100000 := by omega
      clear BN
      go_wp2_with (refine wpList_appR (y := q) rfl rfl HK8.out.op (by rfl) (by rfl) NB hlen HB8.out.size ?_; intro v9 w9 ho9 hg9 hb9; have H9 : Hid _ := ⟨And.intro ho9 (And.intro hg9 hb9)⟩; clear ho9 hg9 hb9)
      have hg9 := H9.out.2.1
      have HK9 : Hid _ := ⟨(HK8.out.append H9.out.2.1 H9.out.1 H9.out.2.2).none⟩
      have HB9 : Hid (Below w.heap.size w w9) := ⟨HB8.out.trans (bel_grown hg9 (fun k hk => (HK8.out.op.lt k hk).1) HB8.out.size)⟩
      clear hg9 H9
      go_roundw
      case rel => exact ⟨k + 1, hlt, by go_num, v.p, rfl, ⟨⟨t2, v.p, s1.L ++ [q]⟩, vL7, vK7, HM.out, rfl, HEi.out.2.trans hsz, HEi.out.1, ⟨HK9.out.td, HK9.out.op, HK9.out.fy⟩, HB9.out⟩⟩
      case measure => simp [intOf]; omega
end Go.Proofs.YtpbnldfekadalaaDoor
