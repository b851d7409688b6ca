/- The law CfaKept, walked. -/
import Derived.Test.YtgldijohpfihaabDoorCFind
import Derived.Test.YtgldijohpfihaabDoorCJoin
namespace Go.Proofs.YtgldijohpfihaabDoor
open Go.ChangeShapes Go.WideShapes Go.ChangeAt Go.RowKit
set_option linter.unusedVariables false
set_option linter.unusedSimpArgs false

theorem kknows : PKnows := cknows_any prows pfind pusual
/-- append of one op: nothing but the row's block has turned. -/
theorem append_opK {ops : Array Oper} {rest : List Oper} {o : Oper} {a : Act} {Q : Exit → Act → World → Prop} (w : World) (hgd : o.guard = none) (s x : Operand)
    (ho : o.op = .call { callee := .builtin .append, args := #[s, x], argTypes := #[27, 27] })
    (base : Nat) (v : Value) (l : List Oq) (y : Oq) (hown : OwnP w base v l) (hs : a.eval s = v) (q : Nat) (hx : a.eval x = .slice (some ⟨q, 0, none⟩) 1 1) (hq : q = w.heap.size)
    (hn : l.length + 1 ≤ 5864062014805) (hbase : base ≤ w.heap.size)
    (h : ∀ v' w', OwnP w' base v' (l ++ [y]) → Below base w w' → (w.alloc (.cells #[.int .i64 y.k, .int .i64 y.r, .int .i64 y.n] 30)).grownBy w' v.ownBlock → wpList Tryd.prog ops Q rest (a.put o.dst v') w') :
    wpList Tryd.prog ops Q (o :: rest) a (w.alloc (.cells #[.int .i64 y.k, .int .i64 y.r, .int .i64 y.n] 30)) := by
  subst hq
  obtain ⟨i0, hi, hz0, hz1', hz2⟩ := info_parts infoP
  refine wpList_append_own _ hgd s x 27 ho base 30 i0 (.agg zeroO) 3 24 Tryd.underlying27 hi hz0 hz1' hz2 rfl (by decide) v l.length _ hs (World.ownsRow.alloc hown _) ⟨w.heap.size, 0, none⟩ 1 1 (Oq.cells y) hx rfl ?_ (by
    have := oqCells_one [y]
    simpa [oqCells] using this) (by unfold maxLen; omega) (by omega) (by simp; omega) ?_
  · intro j u hj
    rw [caddr_add]
    simp only [World.cell?]
    rw [heap_alloc_new, Nat.zero_add]
    simpa [Oq.cells] using hj
  · intro v' w' hown' hgrow _
    refine h v' w' ?_ (((Below.refl base w).alloc hbase _).grown hgrow (by simp; omega) (own_block hown)) hgrow
    unfold OwnP
    rw [oqCells_append]
    simpa [oqCells] using hown'
def notK (o : Oq) : Bool := o.k != 9 && o.k != 10
def keptF (l : List Oq) : List Oq := ⟨9, 0, 0⟩ :: l.filter notK
def keptL (l : List Oq) : List Oq := keptF l ++ [⟨10, 0, 0⟩]
theorem kept_ok {i l : List Oq} {size : Int} (h : rowsE i (keptL l) size = 0) : rowsE i [] size = 0 ∧ ∃ x A y, rowsL i [] size = [x] ∧ rowsL i (keptL l) size = A ++ [y] ∧ Alike x y := by
  obtain ⟨t, ht, hr, hs, hi, hl⟩ := rows_ok h
  have ht' : tabM i (⟨9, 0, 0⟩ :: (l.filter notK ++ [⟨10, 0, 0⟩])) size = some t := by simpa [keptL, keptF] using ht
  obtain ⟨t0, h0, hL, hA⟩ := kept_back (fun o ho => by
    have := (List.mem_filter.1 ho).2
    simpa [notK] using this) ht' hs.1
  refine ⟨?_, t0.now, t.L, t.now, ?_, hr, hA⟩
  · unfold rowsE
    rw [if_neg (by omega), if_neg (by simp; omega), h0]
  · unfold rowsL
    rw [if_neg (by omega), if_neg (by simp; omega), h0]
    dsimp only
    rw [hL]
    rfl
theorem eq_rules {z : List (Int × Int)} (hz : ∀ q ∈ z, (Lit.int .i64 q.1).wf = true ∧ (Lit.int .i64 q.2).wf = true) (hl : z.length = 17) (W : World) : (binOp .eql 36 (.agg (zc z).toArray) (.agg (zc z).toArray)).run Tryd.prog W = .ok (.bool true) W := by
  have fx : (Value.agg (zc z).toArray).formed Tryd.prog 36 = true := by
    simp [Value.formed, Tryd.underlying36, cellsRules, zc_len, hl]
  have hk := lits_rules hz hl
  obtain ⟨r, hr, hiff⟩ := run_equalIn_deep (P := Tryd.prog) 9997 3 36 (by kernel_rfl) W 3 3 _ _ _ _ fx fx hk hk
  have he : (Op.equal 36 (.agg (zc z).toArray) (.agg (zc z).toArray)).run Tryd.prog W = .ok r W := hr
  have hd : r = true := hiff.2 rfl
  subst hd
  simp only [binOp]
  simp [he]
theorem guard_eql (x y : Operand) (C1 C2 : Array Value) (w : World) : (eqGuard .eql 36 x y (.agg C1) (.agg C2)).run Tryd.prog w = .ok () w := by kernel_rfl
theorem load_rules {w : World} {b o : Nat} {z : List (Int × Int)} (hz : z.length = 17) (h : w.rangeAt b o (zc z)) : (loadVar 36 ⟨b, o, none⟩).run Tryd.prog w = .ok (.agg (zc z).toArray) w :=
  run_loadVar_mid w b o _ _ _ h Tryd.underlying36 rfl (by rw [show (Tryd.prog.info? 36).map (·.size) = some 34 by kernel_rfl, zc_len, hz])

theorem exec_eqr {w : World} {a : Act} {o : Oper} {t' : TypeId} {x y : Operand} {C1 C2 : Array Value} {v : Value} (ho : o.op = .binOp .eql 36 x y t') (hx : a.eval x = .agg C1) (hy : a.eval y = .agg C2) (hl : (binOp .eql 36 (.agg C1) (.agg C2)).run Tryd.prog w = .ok v w) : (execOp a.eval o).run Tryd.prog w = .ok (.value v) w := by
  unfold execOp
  simp only [ho, hx, hy]
  simp [hl, guard_eql]
theorem eql_same {w : World} {a : Act} {o : Oper} {x y : Operand} {n : Int} (ho : o.op = .binOp .eql 3 x y 3) (hx : a.eval x = .int .i64 n) (hy : a.eval y = .int .i64 n) : (execOp a.eval o).run Tryd.prog w = .ok (.value (.bool true)) w := by
  unfold execOp
  simp only [ho, hx, hy]
  simp [go_sem, binOp]
theorem sub_one {w : World} {a : Act} {o : Oper} {x : Operand} {n m : Nat} (ho : o.op = .binOp .sub 3 x (.const (.int .i64 1)) 3) (hx : a.eval x = .int .i64 (n : Int)) (hc : a.eval (.const (.int .i64 1)) = .int .i64 1) (hn : n = m + 1) (h1 : n ≤ 9000) : (execOp a.eval o).run Tryd.prog w = .ok (.value (.int .i64 (m : Int))) w := by
  have := exec_sub (w := w) ho hx hc (by omega) (by omega)
  rwa [show (n : Int) - 1 = (m : Int) by omega] at this
theorem own_apart {w w' : World} {base : Nat} {v u : Value} {l m : List Oq} (h : OwnP w w'.heap.size v l) (hu : OwnP w' base u m) : v.ownBlock = none ∨ v.ownBlock ≠ u.ownBlock := by
  cases hv : v.ownBlock with
  | none => exact .inl rfl
  | some k =>
    refine .inr fun e => ?_
    have h1 := (h.lt k hv).1
    have h2 := (hu.lt k e.symm).2
    omega
theorem rws_range {w : World} {ao : Option Addr} {l : List Rw} (h : Rws w ao l) (hw : ∀ x ∈ l, Wf x) (h0 : 0 < l.length) : ∃ b off, ao = some ⟨b, off, none⟩ ∧ (∀ k, k < l.length → w.rangeAt b (off + k * 37) (l.getD k Rw.zero).cells) ∧ True := by
  rcases h with h | ⟨b, off, e, hat⟩
  · rw [h] at h0; simp at h0
  · refine ⟨b, off, e, fun k hk j v hv => ?_, trivial⟩
    have hq : Wf (l.getD k Rw.zero) := hw _ (row_in hk)
    have hj : j < 37 := by have := (List.getElem?_eq_some_iff.1 hv).1; rw [Rw.cells_len hq] at this; exact this
    exact (hat k hk j hj).trans hv

set_option maxRecDepth 10000 in
set_option maxHeartbeats 4000000 in
theorem cfaKept_wk (a1 : Option Addr) (c1 : Nat) (i : List Oq) (a2 : Option Addr) (c2 : Nat) (l : List Oq) (size : Int) (w : World) (hI1 : IsOq w a1 c1 i) (h1 : i.length ≤ 5864062014634) (hI2 : IsOq w a2 c2 l) (h2 : l.length ≤ 5864062014634) (hs : (Lit.int .i64 size).wf = true) (hf : Fz w) :
    Calls Tryd.prog 3 #[.slice a1 i.length c1, .slice a2 l.length c2, .int .i64 size] w fun e w' => e = .returned (.bool true) ∧ Below w.heap.size w w' := by
  have hsz : -9223372036854775808 ≤ size ∧ size ≤ 9223372036854775807 := by
    simp [Lit.wf, IntKind.min, IntKind.max, IntKind.signed, IntKind.bits] at hs
    omega
  have HKk : Hid (∀ W : World, Below w.heap.size w W → Calls Tryd.prog 8 #[] W fun e w' => e = .returned (.bool true) ∧ Below W.heap.size W w') := ⟨fun W hb => kknows W (hf.bel hb hf.z)⟩
  have HO1 : Hid (∀ w1, Below w.heap.size w w1 → Calls Tryd.prog 6 #[.slice a1 i.length c1] w1 fun e w' => ∃ v, e = .returned v ∧ OwnP w' w1.heap.size v i ∧ Below w1.heap.size w1 w') := ⟨fun w1 hb => ops_any a1 c1 i w1 h1 (hI1.ops.bel hb)⟩
  have HPr : Hid (∀ (v1 : Value) (w1 : World) (b1 : Nat), OwnP w1 b1 v1 i → Below w.heap.size w w1 → Calls Tryd.prog 5 #[v1, .slice none 0 0, .int .i64 size] w1 fun e w' => ∃ v, e = .returned (.tuple #[v, .int .i64 (rowsE i [] size)]) ∧ OwnW w' w1.heap.size v (rowsL i [] size) ∧ Below w1.heap.size w1 w') := ⟨fun v1 w1 b1 ho1 hbw => by
    obtain ⟨d1, e1, rfl, hi1⟩ := ho1.is
    exact prows d1 e1 i none 0 [] size w1 h1 (by simp) hsz hi1 ⟨.inl rfl, fun _ => ⟨rfl, rfl⟩, Nat.le_refl _, by omega⟩ (hf.bel hbw hf.z)⟩
  have HPq : Hid (∀ (v1 v2 : Value) (w1 : World) (b1 b2 : Nat), OwnP w1 b1 v1 i → OwnP w1 b2 v2 (keptL l) → Below w.heap.size w w1 → Calls Tryd.prog 5 #[v1, v2, .int .i64 size] w1 fun e w' => ∃ v, e = .returned (.tuple #[v, .int .i64 (rowsE i (keptL l) size)]) ∧ OwnW w' w1.heap.size v (rowsL i (keptL l) size) ∧ Below w1.heap.size w1 w') := ⟨fun v1 v2 w1 b1 b2 ho1 ho2 hbw => by
    obtain ⟨d1, e1, rfl, hi1⟩ := ho1.is
    obtain ⟨d2, e2, rfl, hi2⟩ := ho2.is
    have hle : (keptL l).length ≤ l.length + 2 := by
      have := List.length_filter_le notK l
      simp [keptL, keptF]
      omega
    exact prows d1 e1 i d2 e2 (keptL l) size w1 h1 (by omega) hsz hi1 hi2 (hf.bel hbw hf.z)⟩
  have HTg : Hid (rowsE i (keptL l) size = 0 → (rowsE i [] size = 0 ∧ ∃ x A y, rowsL i [] size = [x] ∧ rowsL i (keptL l) size = A ++ [y] ∧ Alike x y) ∧ (∀ x ∈ rowsL i [] size, Rk x) ∧ (rowsL i (keptL l) size).length ≤ 4001) := ⟨fun e => ⟨kept_ok e, rk_rows (kept_ok e).1, rows_len e⟩⟩
  have HI2 : Hid _ := ⟨hI2.ops⟩
  have HL2 : Hid (l.length ≤ 5864062014634) := ⟨h2⟩
  clear hI1 hI2 h1 h2 hs hsz hf
  obtain ⟨E1, hE1⟩ : ∃ E, rowsE i [] size = E := ⟨_, rfl⟩
  obtain ⟨E2, hE2⟩ : ∃ E, rowsE i (keptL l) size = E := ⟨_, rfl⟩
  obtain ⟨R1, hR1⟩ : ∃ R, rowsL i [] size = R := ⟨_, rfl⟩
  obtain ⟨R2, hR2⟩ : ∃ R, rowsL i (keptL l) size = R := ⟨_, rfl⟩
  rw [hE1, hR1] at HPr
  rw [hE2, hR2] at HPq
  rw [hE1, hE2, hR1, hR2] at HTg
  clear hE1 hE2 hR1 hR2
  obtain ⟨i0, hi, hz0, hz1, hz2⟩ := info_parts infoP
  have HI : Hid (_ ∧ _ ∧ _ ∧ _) := ⟨hi, hz0, hz1, hz2⟩
  clear hi hz0 hz1 hz2
  go_enter Tryd.func3, Tryd.ntmps3
  go_upto_region 3 with (first
    | (go_at_call 6; (with_reducible refine (HO1.out _ (Below.refl _ _)).mono ?_); rintro e w1 ⟨v1, he, ho1, hb1⟩; subst he; have H1 : Hid _ := ⟨ho1⟩; have HB1 : Hid _ := ⟨hb1⟩; clear ho1 hb1)
    | (go_at_call 5; (with_reducible refine (HPr.out _ _ _ H1.out HB1.out).mono ?_); rintro e w3 ⟨v3, he, ho3, hb3⟩; subst he; have H3 : Hid _ := ⟨ho3⟩; have HB3 : Hid (Below w.heap.size w w3) := ⟨HB1.out.trans (hb3.mono HB1.out.size)⟩; clear ho3 hb3))
  go_upto_region 5 with (at_builtin; refine append_opK w3 rfl _ _ rfl w3.heap.size (.slice none 0 0) [] ⟨9, 0, 0⟩ (OwnP.nil _ _) rfl _ rfl rfl (by simp) (Nat.le_refl _) ?_; intro v4 w4 ho4 hb4 hg4; have H4 : Hid (OwnP w4 w3.heap.size v4 (keptF [])) := ⟨ho4⟩; have HB4 : Hid _ := ⟨hb4⟩; clear ho4 hb4 hg4)
  go_loopw [10, 9] (fun iv u wr => ∃ k : Nat, k ≤ l.length ∧ iv = .int .i64 k ∧ Hid (OwnP wr w3.heap.size u (keptF (l.take k)) ∧ Below w3.heap.size w3 wr)) (fun iv _ _ => l.length - (intOf iv).toNat)
  case atStart => exact ⟨0, by omega, rfl, ⟨H4.out, HB4.out⟩⟩
  case round =>
    obtain ⟨k, hk, rfl, HW⟩ := hrel
    by_cases hlt : k < l.length
    · obtain ⟨b, off, rfl, hat⟩ : ∃ b off, a2 = some ⟨b, off, none⟩ ∧ ∀ j, j < l.length → OqAt wr b (off + j * 3) (l.getD j Oq.none) := by
        rcases HI2.out.below (HB3.out.trans (HW.out.2.mono HB3.out.size)) (Nat.le_refl _) with h | h
        · rw [h] at hlt; simp at hlt
        · exact h
      obtain ⟨c0, c1', c2'⟩ := hat k hlt
      have hlti : (k : Int) < (l.length : Int) := by omega
      have hlI : (l.length : Int) ≤ 5864062014634 := by have := HL2.out; omega
      have hk0 : (0 : Int) ≤ (k : Int) := by omega
      have hget : l.getD k Oq.none = l[k] := by simp [hlt]
      have HT : Hid (l.take (k + 1) = l.take k ++ [l.getD k Oq.none]) := ⟨by rw [hget]; exact List.take_succ_eq_append_getElem hlt⟩
      have hbw : b < w3.heap.size := by
        rcases HI2.out with h | ⟨b', off', e, h⟩
        · rw [h] at hlt; simp at hlt
        · simp only [Option.some.injEq, Addr.mk.injEq] at e
          obtain ⟨rfl, _⟩ := e
          have h1 : b < w.heap.size := World.block_lt_of_cell? w _ (h k hlt).k
          have := HB3.out.size
          omega
      have hfl := List.length_filter_le notK (l.take k)
      have htl : (l.take k).length = k := by rw [List.length_take]; omega
      have HFl : Hid ((keptF (l.take k)).length + 1 ≤ 5864062014805) := ⟨by have := HL2.out; simp [keptF]; omega⟩
      clear hat hget hfl htl
      generalize l.getD k Oq.none = p at *
      obtain ⟨pk, pr, pn⟩ := p
      dsimp only at c0 c1' c2'
      by_cases h9 : pk = 9
      · have g9 : (pk != 9) = false := by simpa using h9
        have HN : Hid (keptF (l.take (k + 1)) = keptF (l.take k)) := ⟨by rw [HT.out]; simp [keptF, notK, h9]⟩
        go_wp2
        go_roundw
        case rel => exact ⟨k + 1, hlt, by go_num, ⟨by rw [HN.out]; exact HW.out.1, HW.out.2⟩⟩
        case measure => simp [intOf]; omega
      have g9 : (pk != 9) = true := by simpa using h9
      by_cases h10 : pk = 10
      · have g10 : (pk != 10) = false := by simpa using h10
        have HN : Hid (keptF (l.take (k + 1)) = keptF (l.take k)) := ⟨by rw [HT.out]; simp [keptF, notK, h10]⟩
        go_wp2
        go_roundw
        case rel => exact ⟨k + 1, hlt, by go_num, ⟨by rw [HN.out]; exact HW.out.1, HW.out.2⟩⟩
        case measure => simp [intOf]; omega
      have g10 : (pk != 10) = true := by simpa using h10
      have HN : Hid (keptF (l.take (k + 1)) = keptF (l.take k) ++ [⟨pk, pr, pn⟩]) := ⟨by rw [HT.out]; simp [keptF, notK, h9, h10]⟩
      have hbl : b < wr.heap.size := World.block_lt_of_cell? wr _ c0
      have hbs := HW.out.2.size
      have hS : wr.drew.cell? ⟨b, off + k * 3, none⟩ = some (.int .i64 pk) ∧ wr.drew.cell? ⟨b, off + k * 3 + 1, none⟩ = some (.int .i64 pr) ∧ wr.drew.cell? ⟨b, off + k * 3 + 2, none⟩ = some (.int .i64 pn) := ⟨c0, c1', c2'⟩
      have hne : ¬ wr.heap.size = b := by omega
      have A0 : (wr.alloc (.cells #[.int .i64 pk, .int .i64 pr, .int .i64 pn] 30)).cell? ⟨b, off + k * 3, none⟩ = some (.int .i64 pk) := ((Below.refl wr.heap.size wr).alloc (Nat.le_refl _) (.cells #[.int .i64 pk, .int .i64 pr, .int .i64 pn] 30) |>.cell (p := ⟨b, off + k * 3, none⟩) hbl).trans c0
      have A1 : (wr.alloc (.cells #[.int .i64 pk, .int .i64 pr, .int .i64 pn] 30)).cell? ⟨b, off + k * 3 + 1, none⟩ = some (.int .i64 pr) := ((Below.refl wr.heap.size wr).alloc (Nat.le_refl _) (.cells #[.int .i64 pk, .int .i64 pr, .int .i64 pn] 30) |>.cell (p := ⟨b, off + k * 3 + 1, none⟩) hbl).trans c1'
      have A2 : (wr.alloc (.cells #[.int .i64 pk, .int .i64 pr, .int .i64 pn] 30)).cell? ⟨b, off + k * 3 + 2, none⟩ = some (.int .i64 pn) := ((Below.refl wr.heap.size wr).alloc (Nat.le_refl _) (.cells #[.int .i64 pk, .int .i64 pr, .int .i64 pn] 30) |>.cell (p := ⟨b, off + k * 3 + 2, none⟩) hbl).trans c2'
      have hvb : u9.ownBlock ≠ some b := fun e => by have := own_block HW.out.1 b e; omega
      obtain ⟨Ln, hLn⟩ : ∃ Ln, (keptF (l.take k)).length = Ln := ⟨_, rfl⟩
      have HLn : Hid ((keptF (l.take k)).length = Ln) := ⟨hLn⟩
      clear hLn h9 h10
      go_upto_region 8 with fail
      go_region_held_law (fun v' => v'.cell? ⟨b, off + k * 3, none⟩ = some (.int .i64 pk) ∧ v'.cell? ⟨b, off + k * 3 + 1, none⟩ = some (.int .i64 pr) ∧ v'.cell? ⟨b, off + k * 3 + 2, none⟩ = some (.int .i64 pn))
        (first | go_keep | assumption | exact ⟨(hgrow.cell_far _ (by simp; omega) (Ne.symm hvb)).trans A0, (hgrow.cell_far _ (by simp; omega) (Ne.symm hvb)).trans A1, (hgrow.cell_far _ (by simp; omega) (Ne.symm hvb)).trans A2⟩)
        ((refine step_append_lies _ (by rfl) _ _ _ (by rfl) w3.heap.size 30 i0 (.agg zeroO) 3 24 Tryd.underlying27 HI.out.1 HI.out.2.1 HI.out.2.2.1 HI.out.2.2.2 rfl (by decide) _ (keptF (l.take k)).length (oqCells (keptF (l.take k))) (by rfl) (World.ownsRow.alloc HW.out.1 _) ⟨wr.heap.size, 0, none⟩ 1 1 (Oq.cells ⟨pk, pr, pn⟩) (by rfl) rfl (World.news_of_block (heap_alloc_new wr _)) (by have := oqCells_one [⟨pk, pr, pn⟩]; simpa [oqCells] using this) (by omega) (by have := HFl.out; unfold maxLen; omega) (by have := HFl.out; omega) (by simp; omega) (wr.heap.size + 1) (by simp) ?_; intro g cap w1' hown1 hgrow hat hlt2))
      have hO : OwnP w1' w3.heap.size (.slice (some ⟨g, 0, none⟩) ((keptF (l.take k)).length + 1) cap) (keptF (l.take (k + 1))) := by
        rw [HN.out]
        unfold OwnP
        rw [oqCells_append, List.length_append]
        simpa [oqCells] using hown1
      have hB : Below w3.heap.size w3 w1' := HW.out.2.trans ((((Below.refl w3.heap.size wr).alloc hbs _).drew).grown hgrow (by simp; omega) (own_block HW.out.1))
      have HO : Hid _ := ⟨hO⟩
      have HBB : Hid _ := ⟨hB⟩
      clear hO hB hown1 hgrow
      go_wp2
      go_roundw
      case rel => exact ⟨k + 1, hlt, by go_num, ⟨HO.out, HBB.out⟩⟩
      case measure => simp [intOf]; omega
    · obtain rfl : k = l.length := by omega
      have hout : OwnP wr w3.heap.size u9 (keptF l) := by have := HW.out.1; rwa [List.take_of_length_le (Nat.le_refl _)] at this
      have HOut : Hid _ := ⟨hout⟩
      have HBw : Hid (Below w.heap.size w wr ∧ Below w3.heap.size w3 wr) := ⟨HB3.out.trans (HW.out.2.mono HB3.out.size), HW.out.2⟩
      have HKl : Hid ((keptF l).length + 1 ≤ 5864062014805) := ⟨by have := List.length_filter_le notK l; have := HL2.out; simp [keptF]; omega⟩
      clear hout
      go_upto_region 10 with (first
        | (go_at_call 6; (with_reducible refine (HO1.out _ HBw.out.1).mono ?_); rintro e w5 ⟨v5, he, ho5, hb5⟩; subst he; have H5 : Hid (OwnP w5 wr.heap.size v5 i ∧ OwnP w5 w3.heap.size u9 (keptF l) ∧ Below w.heap.size w w5 ∧ Below w3.heap.size w3 w5) := ⟨ho5, HOut.out.bel hb5, HBw.out.1.trans (hb5.mono HBw.out.1.size), HBw.out.2.trans (hb5.mono HBw.out.2.size)⟩; clear ho5 hb5)
        | (at_builtin; refine append_opK w5 rfl _ _ rfl w3.heap.size _ (keptF l) ⟨10, 0, 0⟩ H5.out.2.1 rfl _ rfl rfl HKl.out H5.out.2.2.2.size ?_; intro v7 w7 ho7 hb7 hg7; have H7 : Hid (OwnP w7 w3.heap.size v7 (keptL l) ∧ OwnP w7 wr.heap.size v5 i ∧ Below w3.heap.size w5 w7) := ⟨ho7, World.ownsRow.kept (World.ownsRow.alloc H5.out.1 _) hg7 (own_apart H5.out.1 HOut.out), hb7⟩; clear ho7 hb7 hg7)
        | (go_at_call 5; (with_reducible refine (HPq.out _ _ _ _ _ H7.out.2.1 H7.out.1 (H5.out.2.2.1.trans (H7.out.2.2.mono HB3.out.size))).mono ?_); rintro e w8 ⟨v8, he, ho8, hb8⟩; subst he; have H8 : Hid _ := ⟨ho8⟩; have HB8 : Hid (Below w3.heap.size w3 w8 ∧ Below w.heap.size w w8) := ⟨(H5.out.2.2.2.trans H7.out.2.2).trans (hb8.mono (Nat.le_trans H5.out.2.2.2.size H7.out.2.2.size)), (H5.out.2.2.1.trans (H7.out.2.2.mono HB3.out.size)).trans (hb8.mono (Nat.le_trans H5.out.2.2.1.size H7.out.2.2.size))⟩; clear ho8 hb8))
      by_cases e2 : E2 = 0
      rotate_left
      · have g3 : (E2 != 0) = true := by simpa using e2
        by_cases e1 : E1 = 0
        · subst e1
          go_wp2_with (first
            | (go_at_call 7; (with_reducible refine (cnum_any _ _).mono ?_); rintro e wn ⟨he, hwn⟩; subst he; subst wn)
            | (go_at_call 8; (with_reducible refine (HKk.out _ HB8.out.2).mono ?_); rintro e w9 ⟨he, hb9⟩; subst he; have HB9 : Hid (Below w.heap.size w w9) := ⟨HB8.out.2.trans (hb9.mono HB8.out.2.size)⟩; clear hb9))
          go_ret
          exact ⟨rfl, HB9.out⟩
        · have g1 : (E1 != 0) = true := by simpa using e1
          have g2 : (E1 == 0) = false := by simpa using e1
          go_wp2_with (first
            | (go_at_call 7; (with_reducible refine (cnum_any _ _).mono ?_); rintro e wn ⟨he, hwn⟩; subst he; subst wn)
            | (go_at_call 8; (with_reducible refine (HKk.out _ HB8.out.2).mono ?_); rintro e w9 ⟨he, hb9⟩; subst he; have HB9 : Hid (Below w.heap.size w w9) := ⟨HB8.out.2.trans (hb9.mono HB8.out.2.size)⟩; clear hb9))
          go_ret
          exact ⟨rfl, HB9.out⟩
      subst e2
      obtain ⟨⟨e1, x, A, y, hr1, hr2, hal⟩, hrk, hl2⟩ := HTg.out (by first | rfl | trivial)
      subst e1
      go_upto_region 12 with (first
        | (go_at_call 7; (with_reducible refine (cnum_any _ _).mono ?_); rintro e wn ⟨he, hwn⟩; subst he; subst wn)
        | (go_at_call 8; (with_reducible refine (HKk.out _ HB8.out.2).mono ?_); rintro e w9 ⟨he, hb9⟩; subst he; have HB9 : Hid (Below w.heap.size w w9 ∧ Below w3.heap.size w3 w9 ∧ Below w8.heap.size w8 w9) := ⟨HB8.out.2.trans (hb9.mono HB8.out.2.size), HB8.out.1.trans (hb9.mono HB8.out.1.size), hb9⟩; clear hb9))
      have o1 := H3.out.bel HB9.out.2.1
      have o2 := H8.out.bel HB9.out.2.2
      have hw1 := o1.1
      have hw2 := o2.1
      obtain ⟨q1, f1, hv3, _, _, hrw1, _⟩ := o1.any
      obtain ⟨q2, f2, hv8, _, _, hrw2, _⟩ := o2.any
      have hn1 : R1.length = 1 := by rw [hr1]; rfl
      have hn2 : R2.length = A.length + 1 := by rw [hr2]; simp
      have hx : R1.getD 0 Rw.zero = x := by rw [hr1]; rfl
      have hy : R2.getD A.length Rw.zero = y := by rw [hr2]; simp
      have hwx : Wf x := hw1 x (by rw [hr1]; simp)
      have hwy : Wf y := hw2 y (by rw [hr2]; simp)
      have hkx : Rk x := hrk x (by rw [hr1]; simp)
      obtain ⟨d1, s1, rfl, hg1, _⟩ := rws_range hrw1 hw1 (by omega)
      obtain ⟨d2, s2, rfl, hg2, _⟩ := rws_range hrw2 hw2 (by omega)
      have r1 := hg1 0 (by omega)
      have r2 := hg2 A.length (by omega)
      rw [hx] at r1
      rw [hy] at r2
      subst hv3 hv8
      rw [hn1, hn2]
      have hA4 : A.length ≤ 4000 := by omega
      generalize A.length = na at *
      clear hg1 hg2 hrw1 hrw2 o1 o2 hw1 hw2 hr1 hr2 hrk hl2 hn1 hn2 hx hy HTg HPr HPq
      obtain ⟨xp, xr, xn, xz⟩ := x
      obtain ⟨yp, yr, yn, yz⟩ := y
      obtain ⟨rfl, rfl, rfl⟩ : xr = yr ∧ xn = yn ∧ xz = yz := hal
      iterate 1 go_step
      refine wpList_val (v := .slice (some ⟨d1, s1, none⟩) 1 f1) (w' := w9) (by kernel_rfl) (by kernel_rfl) ?_
      simp only [Act.put, List.getElem_toArray, List.getElem_cons_succ, List.getElem_cons_zero, List.setIfInBounds_toArray, List.set_cons_zero, List.set_cons_succ]
      refine wpList_val (v := .slice (some ⟨d1, s1, none⟩) 1 f1) (w' := w9) (by kernel_rfl) (by kernel_rfl) ?_
      simp only [Act.put, List.getElem_toArray, List.getElem_cons_succ, List.getElem_cons_zero, List.setIfInBounds_toArray, List.set_cons_zero, List.set_cons_succ]
      refine wpList_val (v := .int .i64 ((1 : Nat) : Int)) (w' := w9) (by kernel_rfl) (by kernel_rfl) ?_
      simp only [Act.put, List.getElem_toArray, List.getElem_cons_succ, List.getElem_cons_zero, List.setIfInBounds_toArray, List.set_cons_zero, List.set_cons_succ]
      refine wpList_val (v := .int .i64 ((0 : Nat) : Int)) (w' := w9) (by kernel_rfl) (sub_one (n := 1) (m := 0) rfl (by kernel_rfl) (by kernel_rfl) (by omega) (by omega)) ?_
      simp only [Act.put, List.getElem_toArray, List.getElem_cons_succ, List.getElem_cons_zero, List.setIfInBounds_toArray, List.set_cons_zero, List.set_cons_succ]
      refine wpList_val (v := .pointer (some ⟨d1, s1 + 0 * 37, none⟩)) (w' := w9) (by kernel_rfl) (exec_ix rfl (by kernel_rfl) (by kernel_rfl) (ix_rowo d1 s1 (1) f1 0 (by omega) w9)) ?_
      simp only [Act.put, List.getElem_toArray, List.getElem_cons_succ, List.getElem_cons_zero, List.setIfInBounds_toArray, List.set_cons_zero, List.set_cons_succ]
      refine wpList_val (v := .agg (⟨xp, xr, xn, xz⟩ : Rw).cells.toArray) (w' := w9) (by kernel_rfl) (exec_loadV (t := 38) (p := ⟨d1, s1 + 0 * 37, none⟩) rfl (by kernel_rfl) (load_row hwx r1)) ?_
      simp only [Act.put, List.getElem_toArray, List.getElem_cons_succ, List.getElem_cons_zero, List.setIfInBounds_toArray, List.set_cons_zero, List.set_cons_succ]
      refine wpList_val (v := .pointer (some ⟨w9.heap.size, 0, none⟩)) (w' := w9.alloc (.cells Z37 38)) (by kernel_rfl) (by kernel_rfl) ?_
      simp only [Act.put, List.getElem_toArray, List.getElem_cons_succ, List.getElem_cons_zero, List.setIfInBounds_toArray, List.set_cons_zero, List.set_cons_succ]
      have N := Bk.new w9 Z37 38
      refine wpList_part (g := w9.heap.size) (off := 0) (val := .agg (⟨xp, xr, xn, xz⟩ : Rw).cells.toArray) (new := (⟨xp, xr, xn, xz⟩ : Rw).cells.toArray) rfl rfl (by kernel_rfl) (by kernel_rfl) N (by rw [sizeRow]; simp [Value.cells, Rw.cells_len hwx]) (by simp [Value.cells, Rw.cells_len hwx, Z37]) (by simpa [Value.cells] using rw_one (⟨xp, xr, xn, xz⟩ : Rw)) (by have := putAt_mid Z37.toList (⟨xp, xr, xn, xz⟩ : Rw).cells [] [] (by rw [Rw.cells_len hwx]; rfl); simpa [Value.cells] using this) ?_
      simp only [Act.put, List.getElem_toArray, List.getElem_cons_succ, List.getElem_cons_zero, List.setIfInBounds_toArray, List.set_cons_zero, List.set_cons_succ]
      have NX := N.setR (⟨xp, xr, xn, xz⟩ : Rw).cells.toArray
      have B10 : Below w9.heap.size w9 ((w9.alloc (.cells Z37 38)).setRow w9.heap.size (⟨xp, xr, xn, xz⟩ : Rw).cells.toArray) := ((Below.refl _ _).alloc (Nat.le_refl _) _).trans (below_set _ _ _ (Nat.le_refl _))
      have r3 : ((w9.alloc (.cells Z37 38)).setRow w9.heap.size (⟨xp, xr, xn, xz⟩ : Rw).cells.toArray).rangeAt d2 (s2 + na * 37) (⟨yp, xr, xn, xz⟩ : Rw).cells := fun j v hv => (B10.cell (p := ⟨d2, s2 + na * 37 + j, none⟩) (World.block_lt_of_cell? _ _ (r2 j v hv))).trans (r2 j v hv)
      have HBX := HB9.out.1.trans (B10.mono HB9.out.1.size)
      generalize (w9.alloc (.cells Z37 38)).setRow w9.heap.size (⟨xp, xr, xn, xz⟩ : Rw).cells.toArray = W10 at *
      generalize w9.heap.size = gx at *
      clear N r1 r2 B10
      refine wpList_nil ?_
      go_upto_region 13 with fail
      iterate 1 go_step
      refine wpList_val (v := .slice (some ⟨d2, s2, none⟩) (na + 1) f2) (w' := W10) (by kernel_rfl) (by kernel_rfl) ?_
      simp only [Act.put, List.getElem_toArray, List.getElem_cons_succ, List.getElem_cons_zero, List.setIfInBounds_toArray, List.set_cons_zero, List.set_cons_succ]
      refine wpList_val (v := .slice (some ⟨d2, s2, none⟩) (na + 1) f2) (w' := W10) (by kernel_rfl) (by kernel_rfl) ?_
      simp only [Act.put, List.getElem_toArray, List.getElem_cons_succ, List.getElem_cons_zero, List.setIfInBounds_toArray, List.set_cons_zero, List.set_cons_succ]
      refine wpList_val (v := .int .i64 ((na + 1 : Nat) : Int)) (w' := W10) (by kernel_rfl) (by kernel_rfl) ?_
      simp only [Act.put, List.getElem_toArray, List.getElem_cons_succ, List.getElem_cons_zero, List.setIfInBounds_toArray, List.set_cons_zero, List.set_cons_succ]
      refine wpList_val (v := .int .i64 ((na : Nat) : Int)) (w' := W10) (by kernel_rfl) (sub_one (n := na + 1) (m := na) rfl (by kernel_rfl) (by kernel_rfl) (by omega) (by omega)) ?_
      simp only [Act.put, List.getElem_toArray, List.getElem_cons_succ, List.getElem_cons_zero, List.setIfInBounds_toArray, List.set_cons_zero, List.set_cons_succ]
      refine wpList_val (v := .pointer (some ⟨d2, s2 + na * 37, none⟩)) (w' := W10) (by kernel_rfl) (exec_ix rfl (by kernel_rfl) (by kernel_rfl) (ix_rowo d2 s2 (na + 1) f2 na (by omega) W10)) ?_
      simp only [Act.put, List.getElem_toArray, List.getElem_cons_succ, List.getElem_cons_zero, List.setIfInBounds_toArray, List.set_cons_zero, List.set_cons_succ]
      refine wpList_val (v := .agg (⟨yp, xr, xn, xz⟩ : Rw).cells.toArray) (w' := W10) (by kernel_rfl) (exec_loadV (t := 38) (p := ⟨d2, s2 + na * 37, none⟩) rfl (by kernel_rfl) (load_row hwy r3)) ?_
      simp only [Act.put, List.getElem_toArray, List.getElem_cons_succ, List.getElem_cons_zero, List.setIfInBounds_toArray, List.set_cons_zero, List.set_cons_succ]
      refine wpList_val (v := .pointer (some ⟨W10.heap.size, 0, none⟩)) (w' := W10.alloc (.cells Z37 38)) (by kernel_rfl) (by kernel_rfl) ?_
      simp only [Act.put, List.getElem_toArray, List.getElem_cons_succ, List.getElem_cons_zero, List.setIfInBounds_toArray, List.set_cons_zero, List.set_cons_succ]
      have N := Bk.new W10 Z37 38
      refine wpList_part (g := W10.heap.size) (off := 0) (val := .agg (⟨yp, xr, xn, xz⟩ : Rw).cells.toArray) (new := (⟨yp, xr, xn, xz⟩ : Rw).cells.toArray) rfl rfl (by kernel_rfl) (by kernel_rfl) N (by rw [sizeRow]; simp [Value.cells, Rw.cells_len hwy]) (by simp [Value.cells, Rw.cells_len hwy, Z37]) (by simpa [Value.cells] using rw_one (⟨yp, xr, xn, xz⟩ : Rw)) (by have := putAt_mid Z37.toList (⟨yp, xr, xn, xz⟩ : Rw).cells [] [] (by rw [Rw.cells_len hwy]; rfl); simpa [Value.cells] using this) ?_
      simp only [Act.put, List.getElem_toArray, List.getElem_cons_succ, List.getElem_cons_zero, List.setIfInBounds_toArray, List.set_cons_zero, List.set_cons_succ]
      have NY := N.setR (⟨yp, xr, xn, xz⟩ : Rw).cells.toArray
      have B11 : Below W10.heap.size W10 ((W10.alloc (.cells Z37 38)).setRow W10.heap.size (⟨yp, xr, xn, xz⟩ : Rw).cells.toArray) := ((Below.refl _ _).alloc (Nat.le_refl _) _).trans (below_set _ _ _ (Nat.le_refl _))
      have NX := NX.bel B11 NX.lt
      have HBZ := HBX.trans (B11.mono HBX.size)
      generalize (W10.alloc (.cells Z37 38)).setRow W10.heap.size (⟨yp, xr, xn, xz⟩ : Rw).cells.toArray = W11 at *
      generalize W10.heap.size = gy at *
      clear N r3 B11
      refine wpList_nil ?_
      go_upto_region 14 with fail
      iterate 1 go_step
      refine wpList_val (v := .slice (some ⟨d1, s1, none⟩) 1 f1) (w' := W11) (by kernel_rfl) (by kernel_rfl) ?_
      simp only [Act.put, List.getElem_toArray, List.getElem_cons_succ, List.getElem_cons_zero, List.setIfInBounds_toArray, List.set_cons_zero, List.set_cons_succ]
      refine wpList_val (v := .int .i64 1) (w' := W11) (by kernel_rfl) (by kernel_rfl) ?_
      simp only [Act.put, List.getElem_toArray, List.getElem_cons_succ, List.getElem_cons_zero, List.setIfInBounds_toArray, List.set_cons_zero, List.set_cons_succ]
      refine wpList_val (v := .bool true) (w' := W11) (by kernel_rfl) (by kernel_rfl) ?_
      simp only [Act.put, List.getElem_toArray, List.getElem_cons_succ, List.getElem_cons_zero, List.setIfInBounds_toArray, List.set_cons_zero, List.set_cons_succ]
      refine wpList_val (v := .bool true) (w' := W11) (by kernel_rfl) (by kernel_rfl) ?_
      simp only [Act.put, List.getElem_toArray, List.getElem_cons_succ, List.getElem_cons_zero, List.setIfInBounds_toArray, List.set_cons_zero, List.set_cons_succ]
      refine wpList_val (v := .pointer (some ⟨gx, 1, none⟩)) (w' := W11) (by kernel_rfl) (by kernel_rfl) ?_
      simp only [Act.put, List.getElem_toArray, List.getElem_cons_succ, List.getElem_cons_zero, List.setIfInBounds_toArray, List.set_cons_zero, List.set_cons_succ]
      refine wpList_val (v := .int .i64 xr) (w' := W11) (by kernel_rfl) (exec_loadV (t := 3) (p := ⟨gx, 1, none⟩) rfl (by kernel_rfl) (load_i64 (NX.cell 1 rfl))) ?_
      simp only [Act.put, List.getElem_toArray, List.getElem_cons_succ, List.getElem_cons_zero, List.setIfInBounds_toArray, List.set_cons_zero, List.set_cons_succ]
      refine wpList_val (v := .pointer (some ⟨gy, 1, none⟩)) (w' := W11) (by kernel_rfl) (by kernel_rfl) ?_
      simp only [Act.put, List.getElem_toArray, List.getElem_cons_succ, List.getElem_cons_zero, List.setIfInBounds_toArray, List.set_cons_zero, List.set_cons_succ]
      refine wpList_val (v := .int .i64 xr) (w' := W11) (by kernel_rfl) (exec_loadV (t := 3) (p := ⟨gy, 1, none⟩) rfl (by kernel_rfl) (load_i64 (NY.cell 1 rfl))) ?_
      simp only [Act.put, List.getElem_toArray, List.getElem_cons_succ, List.getElem_cons_zero, List.setIfInBounds_toArray, List.set_cons_zero, List.set_cons_succ]
      refine wpList_val (v := .bool true) (w' := W11) (by kernel_rfl) (eql_same (n := xr) rfl (by kernel_rfl) (by kernel_rfl)) ?_
      simp only [Act.put, List.getElem_toArray, List.getElem_cons_succ, List.getElem_cons_zero, List.setIfInBounds_toArray, List.set_cons_zero, List.set_cons_succ]
      refine wpList_val (v := .bool true) (w' := W11) (by kernel_rfl) (by kernel_rfl) ?_
      simp only [Act.put, List.getElem_toArray, List.getElem_cons_succ, List.getElem_cons_zero, List.setIfInBounds_toArray, List.set_cons_zero, List.set_cons_succ]
      refine wpList_val (v := .bool true) (w' := W11) (by kernel_rfl) (by kernel_rfl) ?_
      simp only [Act.put, List.getElem_toArray, List.getElem_cons_succ, List.getElem_cons_zero, List.setIfInBounds_toArray, List.set_cons_zero, List.set_cons_succ]
      refine wpList_val (v := .pointer (some ⟨gx, 2, none⟩)) (w' := W11) (by kernel_rfl) (by kernel_rfl) ?_
      simp only [Act.put, List.getElem_toArray, List.getElem_cons_succ, List.getElem_cons_zero, List.setIfInBounds_toArray, List.set_cons_zero, List.set_cons_succ]
      refine wpList_val (v := .int .i64 xn) (w' := W11) (by kernel_rfl) (exec_loadV (t := 3) (p := ⟨gx, 2, none⟩) rfl (by kernel_rfl) (load_i64 (NX.cell 2 rfl))) ?_
      simp only [Act.put, List.getElem_toArray, List.getElem_cons_succ, List.getElem_cons_zero, List.setIfInBounds_toArray, List.set_cons_zero, List.set_cons_succ]
      refine wpList_val (v := .pointer (some ⟨gy, 2, none⟩)) (w' := W11) (by kernel_rfl) (by kernel_rfl) ?_
      simp only [Act.put, List.getElem_toArray, List.getElem_cons_succ, List.getElem_cons_zero, List.setIfInBounds_toArray, List.set_cons_zero, List.set_cons_succ]
      refine wpList_val (v := .int .i64 xn) (w' := W11) (by kernel_rfl) (exec_loadV (t := 3) (p := ⟨gy, 2, none⟩) rfl (by kernel_rfl) (load_i64 (NY.cell 2 rfl))) ?_
      simp only [Act.put, List.getElem_toArray, List.getElem_cons_succ, List.getElem_cons_zero, List.setIfInBounds_toArray, List.set_cons_zero, List.set_cons_succ]
      refine wpList_val (v := .bool true) (w' := W11) (by kernel_rfl) (eql_same (n := xn) rfl (by kernel_rfl) (by kernel_rfl)) ?_
      simp only [Act.put, List.getElem_toArray, List.getElem_cons_succ, List.getElem_cons_zero, List.setIfInBounds_toArray, List.set_cons_zero, List.set_cons_succ]
      refine wpList_val (v := .bool true) (w' := W11) (by kernel_rfl) (by kernel_rfl) ?_
      simp only [Act.put, List.getElem_toArray, List.getElem_cons_succ, List.getElem_cons_zero, List.setIfInBounds_toArray, List.set_cons_zero, List.set_cons_succ]
      refine wpList_val (v := .bool true) (w' := W11) (by kernel_rfl) (by kernel_rfl) ?_
      simp only [Act.put, List.getElem_toArray, List.getElem_cons_succ, List.getElem_cons_zero, List.setIfInBounds_toArray, List.set_cons_zero, List.set_cons_succ]
      refine wpList_val (v := .pointer (some ⟨gx, 3, none⟩)) (w' := W11) (by kernel_rfl) (by kernel_rfl) ?_
      simp only [Act.put, List.getElem_toArray, List.getElem_cons_succ, List.getElem_cons_zero, List.setIfInBounds_toArray, List.set_cons_zero, List.set_cons_succ]
      refine wpList_val (v := .agg (zc xz).toArray) (w' := W11) (by kernel_rfl) (exec_loadV (t := 36) (p := ⟨gx, 3, none⟩) rfl (by kernel_rfl) (load_rules hwx (NX.range 3 _ (fun j v hv => by rw [show 3 + j = j + 1 + 1 + 1 by omega]; simpa [Rw.cells] using hv)))) ?_
      simp only [Act.put, List.getElem_toArray, List.getElem_cons_succ, List.getElem_cons_zero, List.setIfInBounds_toArray, List.set_cons_zero, List.set_cons_succ]
      refine wpList_val (v := .pointer (some ⟨gy, 3, none⟩)) (w' := W11) (by kernel_rfl) (by kernel_rfl) ?_
      simp only [Act.put, List.getElem_toArray, List.getElem_cons_succ, List.getElem_cons_zero, List.setIfInBounds_toArray, List.set_cons_zero, List.set_cons_succ]
      refine wpList_val (v := .agg (zc xz).toArray) (w' := W11) (by kernel_rfl) (exec_loadV (t := 36) (p := ⟨gy, 3, none⟩) rfl (by kernel_rfl) (load_rules hwx (NY.range 3 _ (fun j v hv => by rw [show 3 + j = j + 1 + 1 + 1 by omega]; simpa [Rw.cells] using hv)))) ?_
      simp only [Act.put, List.getElem_toArray, List.getElem_cons_succ, List.getElem_cons_zero, List.setIfInBounds_toArray, List.set_cons_zero, List.set_cons_succ]
      refine wpList_val (v := .bool true) (w' := W11) (by kernel_rfl) (exec_eqr rfl (by kernel_rfl) (by kernel_rfl) (eq_rules (fun q hq => hkx.z q hq) hwx W11)) ?_
      simp only [Act.put, List.getElem_toArray, List.getElem_cons_succ, List.getElem_cons_zero, List.setIfInBounds_toArray, List.set_cons_zero, List.set_cons_succ]
      refine wpList_val (v := .bool true) (w' := W11) (by kernel_rfl) (by kernel_rfl) ?_
      simp only [Act.put, List.getElem_toArray, List.getElem_cons_succ, List.getElem_cons_zero, List.setIfInBounds_toArray, List.set_cons_zero, List.set_cons_succ]
      refine wpList_val (v := .bool true) (w' := W11) (by kernel_rfl) (by kernel_rfl) ?_
      simp only [Act.put, List.getElem_toArray, List.getElem_cons_succ, List.getElem_cons_zero, List.setIfInBounds_toArray, List.set_cons_zero, List.set_cons_succ]
      refine wpList_nil ?_
      go_wp2_with fail
      go_ret
      exact ⟨rfl, HBZ⟩
end Go.Proofs.YtgldijohpfihaabDoor
