/- Ops are done in a row; the whole table; Rows and Check. The whole table; Rows, Check, Usual. -/
import Derived.Test.YtpbnldfekadalaaDoorCDoX
import Derived.Test.YtpbnldfekadalaaDoorCKnowsX
namespace Go.Proofs.YtpbnldfekadalaaDoor
open Go.ChangeShapes Go.WideShapes Go.ChangeAt Go.RowKit
set_option linter.unusedVariables false
set_option linter.unusedSimpArgs false
variable {X : Nat → Option Obj}

theorem ops_take {b : Bool} {t : Tb} {l : List Oq} {k : Nat} (hk : k < l.length) {tk : Tb} (h : opsM b t (l.take k) = some tk) : opsM b t (l.take (k + 1)) = oneM b tk (l.getD k Oq.none) := by
  have e : l.take (k + 1) = l.take k ++ [l.getD k Oq.none] := by
    have hget : l.getD k Oq.none = l[k] := by simp [hk]
    rw [hget]; exact List.take_succ_eq_append_getElem hk
  rw [e, opsM_append, h]
  simp only [opsM]
  cases oneM b tk (l.getD k Oq.none) <;> rfl
theorem ops_none {b : Bool} {t : Tb} {l : List Oq} {k : Nat} (h : opsM b t (l.take k) = none) : opsM b t l = none := by
  have e : l = l.take k ++ l.drop k := (List.take_append_drop k l).symm
  rw [e, opsM_append, h]
theorem ix_op (b off n c k : Nat) (hk : k < n) (W : World) : (Instr.indexAt 28 (.slice (some ⟨b, off, none⟩) n c) (.int .i64 (k : Int))).run Tryd.prog W = .ok (.pointer (some ⟨b, off + k * 3, none⟩)) W := by
  have hs := sizeOp
  cases hq : Tryd.prog.info? 64 with
  | none => rw [hq] at hs; cases hs
  | some i =>
    have hi1 : i.size = 3 := by rw [hq] at hs; simpa using hs
    simp [Instr.indexAt, run_underlying Tryd.underlying28, asIntOf, sizeOf, typeInfo, hq, hi1, caddr_add]
    omega
theorem OqAt.range {w : World} {b o : Nat} {p : Oq} (h : OqAt w b o p) : w.rangeAt b o p.cells := fun j v hv => by
  have hj : j = 0 ∨ j = 1 ∨ j = 2 := by have := (List.getElem?_eq_some_iff.1 hv).1; simp [Oq.cells] at this; omega
  rcases hj with rfl | rfl | rfl
  · simp [Oq.cells] at hv; subst hv; exact h.k
  · simp [Oq.cells] at hv; subst hv; exact h.r
  · simp [Oq.cells] at hv; subst hv; exact h.n
theorem load_opm {w : World} {b o : Nat} {p : Oq} (h : OqAt w b o p) : (loadVar 64 ⟨b, o, none⟩).run Tryd.prog w = .ok p.val w :=
  run_loadVar_mid w b o _ _ _ h.range Tryd.underlying64 rfl (by rw [sizeOp]; rfl)

set_option maxRecDepth 10000 in
set_option maxHeartbeats 1000000 in
/-- Ops, one behind the other. -/
theorem doAll_any {base tb m : Nat} {w0 w : World} {bg : Bool} {t : Tb} {vr vk : Value} (h : TA X base w tb bg t vr vk) (hp : Pl m bg t) (ao : Option Addr) (c : Nat) (l : List Oq) (hm : m + l.length ≤ 90000) (hf : Fz w0) (hb : base = w0.heap.size) (hq : Oqs w0 ao l) (hB : Below base w0 w) :
    Calls Tryd.prog 22 #[.pointer (some ⟨tb, 0, none⟩), .slice ao l.length c] w fun e w' => e = .returned (.bool (opsM (!bg) t l).isSome) ∧ TEnd X base tb bg w w' (opsM (!bg) t l) := by
  subst hb
  obtain ⟨R, hR⟩ : ∃ R, opsM (!bg) t l = R := ⟨_, rfl⟩
  obtain ⟨r, hr⟩ : ∃ r, R.isSome = r := ⟨_, rfl⟩
  rw [hR, hr]
  have HX : Hid (opsM (!bg) t l = R ∧ R.isSome = r) := ⟨hR, hr⟩
  have HH : Hid _ := ⟨h⟩
  have HP : Hid _ := ⟨hp⟩
  have HQ : Hid _ := ⟨hq⟩
  have HBB : Hid _ := ⟨hB⟩
  have HF : Hid _ := ⟨hf⟩
  clear hR hr h hp hq hB hf
  go_enter Tryd.func22, Tryd.ntmps22
  go_wp2
  go_loopw [9] (fun iv wr => ∃ k : Nat, k ≤ l.length ∧ iv = .int .i64 k ∧ Hid (∃ tk vr vk, opsM (!bg) t (l.take k) = some tk ∧ TA X w0.heap.size wr tb bg tk vr vk ∧ Pl (m + k) bg tk ∧ Below w0.heap.size w wr)) (fun iv _ => l.length - (intOf iv).toNat)
  case atStart => exact ⟨0, by omega, rfl, ⟨t, vr, vk, rfl, HH.out, HP.out, Below.refl _ _⟩⟩
  case round =>
    obtain ⟨k, hk, rfl, HW⟩ := hrel
    by_cases hlt : k < l.length
    · have hlti : (k : Int) < (l.length : Int) := by omega
      obtain ⟨tk, vr1, vk1, hops, hT, hPl, hBw⟩ := HW.out
      obtain ⟨b, off, rfl, hat⟩ : ∃ b off, ao = some ⟨b, off, none⟩ ∧ ∀ i, i < l.length → OqAt wr b (off + i * 3) (l.getD i Oq.none) := by
        rcases HQ.out.below (HBB.out.trans hBw) (Nat.le_refl _) with h | h
        · rw [h] at hlt; simp at hlt
        · exact h
      have ho := hat k hlt
      have hnext := ops_take hlt hops
      have hfw : Fz wr := HF.out.bel (HBB.out.trans hBw) HF.out.z
      have hz0 := HF.out.z
      clear hat HW
      generalize l.getD k Oq.none = o at *
      have HN : Hid _ := ⟨hnext⟩
      have HOp : Hid _ := ⟨hops⟩
      clear hnext hops
      go_upto_region 3 with fail
      iterate 1 go_step
      refine wpList_val (v := .pointer (some ⟨b, off + k * 3, none⟩)) (w' := wr) (by kernel_rfl) (exec_ix rfl (by kernel_rfl) (by kernel_rfl) (ix_op b off l.length c k hlt wr)) ?_
      simp only [Act.put, List.getElem_toArray, List.getElem_cons_succ, List.getElem_cons_zero, List.setIfInBounds_toArray, List.set_cons_zero, List.set_cons_succ]
      refine wpList_val (v := o.val) (w' := wr) (by kernel_rfl) (exec_loadV (t := 64) (p := ⟨b, off + k * 3, none⟩) rfl (by kernel_rfl) (load_opm ho)) ?_
      simp only [Act.put, List.getElem_toArray, List.getElem_cons_succ, List.getElem_cons_zero, List.setIfInBounds_toArray, List.set_cons_zero, List.set_cons_succ]
      refine wpList_val (v := .pointer (some ⟨wr.heap.size, 0, none⟩)) (w' := wr.alloc (.cells zeroO 64)) (by kernel_rfl) (by kernel_rfl) ?_
      simp only [Act.put, List.getElem_toArray, List.getElem_cons_succ, List.getElem_cons_zero, List.setIfInBounds_toArray, List.set_cons_zero, List.set_cons_succ]
      have B2 : Below wr.heap.size wr (wr.alloc (.cells zeroO 64)) := (Below.refl _ _).alloc (Nat.le_refl _) _
      have N2 : Bk (wr.alloc (.cells zeroO 64)) wr.heap.size 64 zeroO := Bk.new _ _ _
      refine wpList_part (g := wr.heap.size) (off := 0) (val := o.val) (new := #[.int .i64 o.k, .int .i64 o.r, .int .i64 o.n]) rfl rfl (by kernel_rfl) (by kernel_rfl) N2 (by rw [sizeOp]; rfl) (by show 0 + 3 ≤ 3; omega) (by intro u hu; simp [Value.cells] at hu; rcases hu with rfl | rfl | rfl <;> rfl) rfl ?_
      simp only [Act.put, List.getElem_toArray, List.getElem_cons_succ, List.getElem_cons_zero, List.setIfInBounds_toArray, List.set_cons_zero, List.set_cons_succ]
      have N3 := N2.setR #[.int .i64 o.k, .int .i64 o.r, .int .i64 o.n]
      have B3 : Below wr.heap.size wr ((wr.alloc (.cells zeroO 64)).setRow wr.heap.size #[.int .i64 o.k, .int .i64 o.r, .int .i64 o.n]) := B2.trans (below_set _ _ _ (Nat.le_refl _))
      have H3 := hT.bel B3
      have hb3 : w0.heap.size ≤ wr.heap.size := Nat.le_trans HBB.out.size hBw.size
      have Bw3 := hBw.trans (B3.mono hb3)
      have F3 := hfw.bel B3 hfw.z
      generalize (wr.alloc (.cells zeroO 64)).setRow wr.heap.size #[.int .i64 o.k, .int .i64 o.r, .int .i64 o.n] = W3 at *
      generalize wr.heap.size = sb at *
      have d0 := N3.cell 0 rfl
      have d1 := N3.cell 1 rfl
      have d2 := N3.cell 2 rfl
      have HD : Hid _ := ⟨do_tb H3 o hPl (by omega) F3 hz0⟩
      have HBw : Hid _ := ⟨Bw3⟩
      have HPl : Hid _ := ⟨hPl⟩
      clear hT hPl hBw ho B2 N2 N3 B3 H3 Bw3 F3 hfw hz0 hb3
      refine wpList_nil ?_
      cases hone : oneM (!bg) tk o with
      | none =>
        rw [hone] at HD HN
        have hRn : R = none := by rw [← HX.out.1]; exact ops_none HN.out
        obtain rfl : r = false := by rw [← HX.out.2, hRn]; rfl
        subst hRn
        clear hone
        go_wp2_with (go_at_call 28; (with_reducible refine HD.out.mono ?_); rintro e w4 ⟨he, hb4⟩; subst he; have HB4 : Hid _ := ⟨hb4⟩; clear hb4)
        go_ret
        exact ⟨rfl, HBw.out.trans HB4.out.1, fun t' ht => by cases ht⟩
      | some t2 =>
        rw [hone] at HD HN
        have hd2 : Pl (m + k + 1) bg t2 := pl_do HPl.out (oneM_some hone).1 (by rw [← oneM_d (oneM_some hone).1]; exact hone)
        have HP2 : Hid _ := ⟨hd2⟩
        clear hone hd2
        go_wp2_with (go_at_call 28; (with_reducible refine HD.out.mono ?_); rintro e w4 ⟨he, hb4⟩; subst he; have HB4 : Hid _ := ⟨hb4⟩; clear hb4)
        go_roundw
        case rel =>
          obtain ⟨v1, v2, hT4⟩ := HB4.out.2 t2 rfl
          exact ⟨k + 1, hlt, by go_num, ⟨t2, v1, v2, HN.out, hT4, HP2.out, HBw.out.trans HB4.out.1⟩⟩
        case measure => simp [intOf]; omega
    · obtain rfl : k = l.length := by omega
      obtain ⟨tk, vr1, vk1, hops, hT, hPl, hBw⟩ := HW.out
      rw [List.take_of_length_le (Nat.le_refl _), HX.out.1] at hops
      subst hops
      obtain rfl : r = true := HX.out.2.symm
      have HT : Hid _ := ⟨hT⟩
      have HBw : Hid _ := ⟨hBw⟩
      clear hT hPl hBw HW
      go_wp2
      go_ret
      refine ⟨rfl, HBw.out, fun t' ht => ?_⟩
      cases ht
      exact ⟨vr1, vk1, HT.out⟩

theorem pl_new {size : Int} (h0 : 0 ≤ size) (h1 : size ≤ 1048576) : Pl 0 false (tbNew size) := ⟨Int.le_refl 0, h0, h1, Nat.le_refl 0, Nat.zero_le _, fun _ => rfl, .inl rfl, fun q hq => by cases hq⟩
theorem pl_ops {bg : Bool} : ∀ {l : List Oq} {m : Nat} {t t' : Tb}, Pl m bg t → opsM (!bg) t l = some t' → Pl (m + l.length) bg t'
  | [], m, t, t', h, hd => by cases hd; exact h
  | o :: l, m, t, t', h, hd => by
    simp only [opsM] at hd
    cases ho : oneM (!bg) t o with
    | none => rw [ho] at hd; cases hd
    | some t1 =>
      rw [ho] at hd
      have h1 := pl_do h (oneM_some ho).1 (by rw [← oneM_d (oneM_some ho).1]; exact ho)
      have := pl_ops h1 hd
      rw [show m + (o :: l).length = m + 1 + l.length by simp; omega]
      exact this
/-- What built leaves. -/
structure BE (i l : List Oq) (size : Int) (w w' : World) (v : Value) : Prop where
  bel : Below w.heap.size w w'
  ok : rowsE i l size = 0 → ∃ tb t vr vk, v = .pointer (some ⟨tb, 0, none⟩) ∧ tabM i l size = some t ∧ TA nX w.heap.size w' tb true t vr vk ∧ t.L.length ≤ 8000
theorem rowsE_tab {i l : List Oq} {size : Int} (h1 : ¬ (size < 0 ∨ 1048576 < size)) (h2 : ¬ (4000 < i.length ∨ 4000 < l.length)) : rowsE i l size = (match tabM i l size with | none => 130 | some _ => 0) := by
  unfold rowsE
  rw [if_neg h1, if_neg h2]
  cases tabM i l size <;> rfl

set_option maxRecDepth 10000 in
set_option maxHeartbeats 1000000 in
theorem built_any (a1 : Option Addr) (c1 : Nat) (i : List Oq) (a2 : Option Addr) (c2 : Nat) (l : List Oq) (size : Int) (w : World) (hi1 : i.length ≤ 5864062014634) (hl1 : l.length ≤ 11728124029268) (hs : -9223372036854775808 ≤ size ∧ size ≤ 9223372036854775807) (hI : Oqs w a1 i) (hL : Oqs w a2 l) (hf : Fz w) :
    Calls Tryd.prog 27 #[.slice a1 i.length c1, .slice a2 l.length c2, .int .i64 size] w fun e w' => ∃ v, e = .returned (.tuple #[v, .int .i64 (rowsE i l size)]) ∧ BE i l size w w' v := by
  have HS : Hid _ := ⟨isSize_any size w⟩
  by_cases hz : size < 0 ∨ 1048576 < size
  · have hE : rowsE i l size = 11 := by unfold rowsE; rw [if_pos hz]
    have hd : (decide (0 ≤ size) && decide (size ≤ 1048576)) = false := by simp; omega
    rw [hd] at HS
    rw [hE]
    clear hd
    go_enter Tryd.func27, Tryd.ntmps27
    go_wp2_with (go_at_call 11; (with_reducible refine HS.out.mono ?_); rintro e wn ⟨he, hwn⟩; subst he; subst wn)
    go_ret2
    exact ⟨_, rfl, Below.refl _ _, fun e => by rw [hE] at e; cases e⟩
  have hd : (decide (0 ≤ size) && decide (size ≤ 1048576)) = true := by simp; omega
  rw [hd] at HS
  clear hd
  by_cases hn : 4000 < i.length ∨ 4000 < l.length
  · have hE : rowsE i l size = 6 := by unfold rowsE; rw [if_neg hz, if_pos hn]
    rw [hE]
    by_cases hn1 : 4000 < i.length
    · have g1 : (4000 : Int) < (i.length : Int) := by omega
      go_enter Tryd.func27, Tryd.ntmps27
      go_wp2_with (go_at_call 11; (with_reducible refine HS.out.mono ?_); rintro e wn ⟨he, hwn⟩; subst he; subst wn)
      go_ret2
      exact ⟨_, rfl, Below.refl _ _, fun e => by rw [hE] at e; cases e⟩
    · have g1 : ¬ (4000 : Int) < (i.length : Int) := by omega
      have g2 : (4000 : Int) < (l.length : Int) := by omega
      go_enter Tryd.func27, Tryd.ntmps27
      go_wp2_with (go_at_call 11; (with_reducible refine HS.out.mono ?_); rintro e wn ⟨he, hwn⟩; subst he; subst wn)
      go_ret2
      exact ⟨_, rfl, Below.refl _ _, fun e => by rw [hE] at e; cases e⟩
  have g1 : ¬ (4000 : Int) < (i.length : Int) := by omega
  have g2 : ¬ (4000 : Int) < (l.length : Int) := by omega
  have hE := rowsE_tab hz hn
  have HNew : Hid _ := ⟨newTable_any size w⟩
  have HA : Hid (∀ (tb : Nat) (w1 : World), TA nX w.heap.size w1 tb false (tbNew size) (.slice none 0 0) (.slice none 0 0) → Below w.heap.size w w1 → Calls Tryd.prog 22 #[.pointer (some ⟨tb, 0, none⟩), .slice a1 i.length c1] w1 fun e w' => e = .returned (.bool (opsM true (tbNew size) i).isSome) ∧ TEnd nX w.heap.size tb false w1 w' (opsM true (tbNew size) i)) := ⟨fun tb w1 hT hB => doAll_any hT (pl_new (by omega) (by omega)) a1 c1 i (by omega) hf rfl hI hB⟩
  have tk : True := trivial
  cases ho1 : opsM true (tbNew size) i with
  | none =>
    have hT : tabM i l size = none := by unfold tabM begM; rw [ho1]
    rw [hT] at hE
    dsimp only at hE
    rw [ho1] at HA
    rw [hE]
    clear ho1
    go_enter Tryd.func27, Tryd.ntmps27
    go_wp2_with (first
      | (go_at_call 11; (with_reducible refine HS.out.mono ?_); rintro e wn ⟨he, hwn⟩; subst he; subst wn)
      | (go_at_call 21; (with_reducible refine HNew.out.mono ?_); rintro e w1 ⟨tb, he, hT1, hB1⟩; subst he; have HT1 : Hid _ := ⟨hT1⟩; have HB1 : Hid _ := ⟨hB1⟩; clear hT1 hB1)
      | (go_at_call 22; (with_reducible refine (HA.out _ _ HT1.out HB1.out).mono ?_); rintro e w2 ⟨he, hE2⟩; subst he; have HE2 : Hid _ := ⟨hE2⟩; clear hE2))
    go_ret2
    exact ⟨_, rfl, HB1.out.trans HE2.out.1, fun e => by rw [hE] at e; cases e⟩
  | some t1 =>
    rw [ho1] at HA
    have hP1 : Pl i.length false t1 := by have := pl_ops (pl_new (by omega) (by omega)) ho1; rwa [Nat.zero_add] at this
    have HBg : Hid (∀ (tb : Nat) (vr vk : Value) (w2 : World), TA nX w.heap.size w2 tb false t1 vr vk → Calls Tryd.prog 23 #[.pointer (some ⟨tb, 0, none⟩)] w2 fun e w' => e = .returned (.bool (t1.now.r != -1)) ∧ TA nX w.heap.size w' tb true ⟨t1.L, t1.now, t1.now, t1.kept, t1.size⟩ vr vk ∧ Below w.heap.size w2 w') := ⟨fun tb vr vk w2 hT => begin_any hT⟩
    have hr1 := hP1.r
    by_cases hr : 0 ≤ t1.now.r
    rotate_left
    · have hT : tabM i l size = none := by unfold tabM begM; rw [ho1]; simp [hr]
      have hb : (t1.now.r != -1) = false := by simp; omega
      rw [hT] at hE
      dsimp only at hE
      rw [hb] at HBg
      rw [hE]
      clear ho1 hb hr1 hP1
      go_enter Tryd.func27, Tryd.ntmps27
      go_wp2_with (first
        | (go_at_call 11; (with_reducible refine HS.out.mono ?_); rintro e wn ⟨he, hwn⟩; subst he; subst wn)
        | (go_at_call 21; (with_reducible refine HNew.out.mono ?_); rintro e w1 ⟨tb, he, hT1, hB1⟩; subst he; have HT1 : Hid _ := ⟨hT1⟩; have HB1 : Hid _ := ⟨hB1⟩; clear hT1 hB1)
        | (go_at_call 22; (with_reducible refine (HA.out _ _ HT1.out HB1.out).mono ?_); rintro e w2 ⟨he, hE2⟩; subst he; obtain ⟨vr2, vk2, hT2⟩ := hE2.2 t1 rfl; have HT2 : Hid _ := ⟨hT2⟩; have HE2 : Hid _ := ⟨hE2.1⟩; clear hE2 hT2)
        | (go_at_call 23; (with_reducible refine (HBg.out _ _ _ _ HT2.out).mono ?_); rintro e w3 ⟨he, hT3, hB3⟩; subst he; have HB3 : Hid _ := ⟨hB3⟩; clear hT3 hB3))
      go_ret2
      exact ⟨_, rfl, (HB1.out.trans HE2.out).trans HB3.out, fun e => by rw [hE] at e; cases e⟩
    · have hb : (t1.now.r != -1) = true := by simp; omega
      rw [hb] at HBg
      obtain ⟨t2, ht2⟩ : ∃ t2 : Tb, t2 = ⟨t1.L, t1.now, t1.now, t1.kept, t1.size⟩ := ⟨_, rfl⟩
      rw [← ht2] at HBg
      have hP2 : Pl i.length true t2 := by rw [ht2]; exact ⟨hP1.p0, hP1.p1, hP1.s, hP1.L, hP1.K, (fun e => by cases e), hP1.r, hP1.kr⟩
      have hT : tabM i l size = opsM false t2 l := by unfold tabM begM; rw [ho1]; simp [hr, ht2]
      have HC : Hid (∀ (tb : Nat) (vr vk : Value) (w3 : World), TA nX w.heap.size w3 tb true t2 vr vk → Below w.heap.size w w3 → Calls Tryd.prog 22 #[.pointer (some ⟨tb, 0, none⟩), .slice a2 l.length c2] w3 fun e w' => e = .returned (.bool (opsM false t2 l).isSome) ∧ TEnd nX w.heap.size tb true w3 w' (opsM false t2 l)) := ⟨fun tb vr vk w3 hT hB => doAll_any hT hP2 a2 c2 l (by omega) hf rfl hL hB⟩
      have HPl : Hid (∀ t3, opsM false t2 l = some t3 → t3.L.length ≤ 8000) := ⟨fun t3 h3 => by have := (pl_ops hP2 h3).L; omega⟩
      rw [hT] at hE
      clear ho1 hb hr1 hP1 hP2 ht2 hr
      cases ho2 : opsM false t2 l with
      | none =>
        rw [ho2] at HC hE hT
        dsimp only at hE
        rw [hE]
        clear ho2
        go_enter Tryd.func27, Tryd.ntmps27
        go_wp2_with (first
          | (go_at_call 11; (with_reducible refine HS.out.mono ?_); rintro e wn ⟨he, hwn⟩; subst he; subst wn)
          | (go_at_call 21; (with_reducible refine HNew.out.mono ?_); rintro e w1 ⟨tb, he, hT1, hB1⟩; subst he; have HT1 : Hid _ := ⟨hT1⟩; have HB1 : Hid _ := ⟨hB1⟩; clear hT1 hB1)
          | (go_at_call 22; have _t := tk; (with_reducible refine (HA.out _ _ HT1.out HB1.out).mono ?_); rintro e w2 ⟨he, hE2⟩; subst he; obtain ⟨vr2, vk2, hT2⟩ := hE2.2 t1 rfl; have HT2 : Hid _ := ⟨hT2⟩; have HE2 : Hid _ := ⟨hE2.1⟩; clear hE2 hT2 tk _t)
          | (go_at_call 23; (with_reducible refine (HBg.out _ _ _ _ HT2.out).mono ?_); rintro e w3 ⟨he, hT3, hB3⟩; subst he; have HT3 : Hid _ := ⟨hT3⟩; have HB3 : Hid (Below w.heap.size w w3) := ⟨(HB1.out.trans HE2.out).trans hB3⟩; clear hT3 hB3)
          | (go_at_call 22; (with_reducible refine (HC.out _ _ _ _ HT3.out HB3.out).mono ?_); rintro e w4 ⟨he, hE4⟩; subst he; have HE4 : Hid _ := ⟨hE4⟩; clear hE4))
        go_ret2
        exact ⟨_, rfl, HB3.out.trans HE4.out.1, fun e => by rw [hE] at e; cases e⟩
      | some t3 =>
        rw [ho2] at HC hE hT
        dsimp only at hE
        rw [hE]
        have h8 := HPl.out t3 ho2
        clear ho2
        go_enter Tryd.func27, Tryd.ntmps27
        go_wp2_with (first
          | (go_at_call 11; (with_reducible refine HS.out.mono ?_); rintro e wn ⟨he, hwn⟩; subst he; subst wn)
          | (go_at_call 21; (with_reducible refine HNew.out.mono ?_); rintro e w1 ⟨tb, he, hT1, hB1⟩; subst he; have HT1 : Hid _ := ⟨hT1⟩; have HB1 : Hid _ := ⟨hB1⟩; clear hT1 hB1)
          | (go_at_call 22; have _t := tk; (with_reducible refine (HA.out _ _ HT1.out HB1.out).mono ?_); rintro e w2 ⟨he, hE2⟩; subst he; obtain ⟨vr2, vk2, hT2⟩ := hE2.2 t1 rfl; have HT2 : Hid _ := ⟨hT2⟩; have HE2 : Hid _ := ⟨hE2.1⟩; clear hE2 hT2 tk _t)
          | (go_at_call 23; (with_reducible refine (HBg.out _ _ _ _ HT2.out).mono ?_); rintro e w3 ⟨he, hT3, hB3⟩; subst he; have HT3 : Hid _ := ⟨hT3⟩; have HB3 : Hid (Below w.heap.size w w3) := ⟨(HB1.out.trans HE2.out).trans hB3⟩; clear hT3 hB3)
          | (go_at_call 22; (with_reducible refine (HC.out _ _ _ _ HT3.out HB3.out).mono ?_); rintro e w4 ⟨he, hE4⟩; subst he; obtain ⟨vr4, vk4, hT4⟩ := hE4.2 t3 rfl; have HT4 : Hid _ := ⟨hT4⟩; have HE4 : Hid _ := ⟨hE4.1⟩; clear hE4 hT4))
        go_ret2
        exact ⟨_, rfl, HB3.out.trans HE4.out, fun _ => ⟨_, t3, vr4, vk4, rfl, hT, HT4.out, h8⟩⟩
end Go.Proofs.YtpbnldfekadalaaDoor
