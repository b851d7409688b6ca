/- What the program reads as an op is what the document reads, plainly. The program's Read, whole. -/
import Derived.Test.YtgldijohpfihaaaDoorCPR4
import Derived.Test.YtgldijohpfihaaaDoorCLaws
import Derived.WalkMore
namespace Go.Proofs.YtgldijohpfihaaaDoor
open Go.ChangeShapes Go.WideShapes Go.ChangeAt Go.RowKit
set_option linter.unusedVariables false
set_option linter.unusedSimpArgs false

/-- What is asked: the document's op m, and the program's x. -/
def Sm (m : Option (Oq × Nat)) (x : LO) : Prop := match m with
  | none => okP x = false
  | some (o, e) => okP x = mayB o ∧ (mayB o = true → x.o = o ∧ x.t = e ∧ x.bad = false)
theorem Sm.bad {m : Option (Oq × Nat)} {x : LO} (h : okP x = false) (hm : ∀ o e, m = some (o, e) → mayB o = false) : Sm m x := by
  cases m with
  | none => exact h
  | some p => exact ⟨by rw [h, hm p.1 p.2 rfl], fun e => by rw [hm p.1 p.2 rfl] at e; cases e⟩
theorem Sm.ok (o : Oq) (e : Nat) : Sm (some (o, e)) ⟨o, true, e, false⟩ := ⟨by simp [okP], fun _ => ⟨rfl, rfl, rfl⟩⟩
theorem ok_bad (o : Oq) (k : Bool) (t : Nat) : okP ⟨o, k, t, true⟩ = false := by simp [okP]
theorem ok_may {o : Oq} (h : mayB o = false) (k : Bool) (t : Nat) (b : Bool) : okP ⟨o, k, t, b⟩ = false := by simp [okP, h]
theorem ok_unk (o : Oq) (t : Nat) (b : Bool) : okP ⟨o, false, t, b⟩ = false := by simp [okP]
theorem may_r {k r n : Int} (hr : r < 0) (hk : k = 2 ∨ k = 4 ∨ k = 5 ∨ k = 6 ∨ k = 7 ∨ k = 8) : mayB ⟨k, r, n⟩ = false := by
  have h : decide (0 ≤ r) = false := by simp; omega
  rcases hk with rfl | rfl | rfl | rfl | rfl | rfl <;> simp [mayB, regB, h]
theorem may_n {k r n : Int} (hn : n < 0) (hk : k = 2 ∨ k = 3) : mayB ⟨k, r, n⟩ = false := by
  have h : decide (0 ≤ n) = false := by simp; omega
  rcases hk with rfl | rfl <;> simp [mayB, farB, h]
theorem may_5 {r n : Int} (hn : n < -2147483648 ∨ 2147483648 ≤ n) : mayB ⟨5, r, n⟩ = false := by
  rcases hn with h | h
  · have h' : decide (-2147483648 ≤ n) = false := by simp; omega
    simp [mayB, h']
  · have h' : decide (n < 2147483648) = false := by simp; omega
    simp [mayB, h']
theorem fits_s (n : Int) : fitsB n 32 true = (decide (-2147483648 ≤ n) && decide (n < 2147483648)) := by
  unfold fitsB
  simp
section
variable (len : Nat) (bs : Nat → Int) (t : Nat)
theorem u_cases (bad : Bool) : (uN len bs t = none ∧ nP (uR len bs t) t bad = (0, t, true)) ∨ (∃ n e, n < 0 ∧ uN len bs t = none ∧ nP (uR len bs t) t bad = (n, e, bad)) ∨ ∃ n e, 0 ≤ n ∧ uN len bs t = some (n, e) ∧ nP (uR len bs t) t bad = (n, e, bad) := by
  unfold uN
  cases h : uR len bs t with
  | none => exact .inl ⟨rfl, rfl⟩
  | some p =>
    obtain ⟨n, e⟩ := p
    by_cases hn : 0 ≤ n
    · exact .inr (.inr ⟨n, e, hn, by simp [hn], rfl⟩)
    · exact .inr (.inl ⟨n, e, by omega, by simp [hn], rfl⟩)
theorem s_cases (bad : Bool) : (sR len bs t = none ∧ nP (sR len bs t) t bad = (0, t, true)) ∨ ∃ n e, sR len bs t = some (n, e) ∧ nP (sR len bs t) t bad = (n, e, bad) := by
  cases h : sR len bs t with
  | none => exact .inl ⟨rfl, rfl⟩
  | some p => exact .inr ⟨p.1, p.2, rfl, rfl⟩
theorem g_cases (s : Nat) : (gN len bs t s = none ∧ nP (gN len bs t s) t false = (0, t, true)) ∨ ∃ n e, gN len bs t s = some (n, e) ∧ nP (gN len bs t s) t false = (n, e, false) := by
  cases h : gN len bs t s with
  | none => exact .inl ⟨rfl, rfl⟩
  | some p => exact .inr ⟨p.1, p.2, rfl, rfl⟩
end
theorem oP_true (n : Int) : (oP n true).2 = true := by unfold oP; split <;> rfl
/-- Eights, behind a register. -/
theorem fac_same (r n : Int) (e : Nat) : Sm (match facM n with | none => none | some m => some (⟨5, r, m⟩, e)) ⟨⟨5, r, (oP n false).1⟩, true, e, (oP n false).2⟩ := by
  by_cases h : -2147483648 ≤ n ∧ n < 2147483648
  · have ho : oP n false = (-8 * n, false) := by
      unfold oP
      rw [fits_s, if_pos (by simpa using h)]
    have hf : facM n = some (-8 * n) := by
      unfold facM
      rw [if_neg (by omega)]
    rw [ho, hf]
    exact Sm.ok _ _
  · have ho : oP n false = (0, true) := by
      unfold oP
      rw [fits_s, if_neg (by simp; omega)]
    rw [ho]
    refine Sm.bad (ok_bad _ _ _) ?_
    intro o e' he
    unfold facM at he
    by_cases hf : 1099511627776 < n ∨ n < -1099511627776
    · rw [if_pos hf] at he; cases he
    · rw [if_neg hf] at he
      cases he
      exact may_5 (by omega)
theorem uo_bad (len : Nat) (bs : Nat → Int) (t : Nat) : (uoP len bs t true).2.2 = true := by
  have h : (nP (uR len bs t) t true).2.2 = true := by
    unfold nP
    cases uR len bs t <;> rfl
  show (oP (nP (uR len bs t) t true).1 ((nP (uR len bs t) t true).2.2 || decide ((nP (uR len bs t) t true).1 < 0))).2 = true
  rw [h]
  exact oP_true _
theorem so_bad (len : Nat) (bs : Nat → Int) (t : Nat) : (soP len bs t true).2.2 = true := by
  have h : (nP (sR len bs t) t true).2.2 = true := by
    unfold nP
    cases sR len bs t <;> rfl
  show (oP (nP (sR len bs t) t true).1 (nP (sR len bs t) t true).2.2).2 = true
  rw [h]
  exact oP_true _
theorem ux_bad (len : Nat) (bs : Nat → Int) (t : Nat) : (uX len bs t true).2.2 = true := by
  unfold uX nP
  cases uR len bs t <;> rfl
theorem ok_bd {o : Oq} {k : Bool} {t : Nat} {b : Bool} (h : b = true) : okP ⟨o, k, t, b⟩ = false := by subst h; exact ok_bad _ _ _
/-- Eights without a sign. -/
theorem uo_same (len : Nat) (bs : Nat → Int) (t : Nat) (r : Int) :
    Sm (match uN len bs t with | none => none | some (n, e) => match facM n with | none => none | some m => some (⟨5, r, m⟩, e)) ⟨⟨5, r, (uoP len bs t false).1⟩, true, (uoP len bs t false).2.1, (uoP len bs t false).2.2⟩ := by
  unfold uoP
  rcases u_cases len bs t false with ⟨h1, h2⟩ | ⟨n, e, hn, h1, h2⟩ | ⟨n, e, hn, h1, h2⟩
  · rw [h1, h2]
    exact Sm.bad (ok_bd (oP_true _)) (fun o e h => by cases h)
  · rw [h1, h2]
    have : decide (n < 0) = true := by simpa using hn
    simp only [this, Bool.or_true]
    exact Sm.bad (ok_bd (oP_true _)) (fun o e h => by cases h)
  · rw [h1, h2]
    have : decide (n < 0) = false := by simp; omega
    simp only [this, Bool.or_false]
    exact fac_same r n e
theorem so_same (len : Nat) (bs : Nat → Int) (t : Nat) (r : Int) :
    Sm (match sR len bs t with | none => none | some (n, e) => match facM n with | none => none | some m => some (⟨5, r, m⟩, e)) ⟨⟨5, r, (soP len bs t false).1⟩, true, (soP len bs t false).2.1, (soP len bs t false).2.2⟩ := by
  unfold soP
  rcases s_cases len bs t false with ⟨h1, h2⟩ | ⟨n, e, h1, h2⟩
  · rw [h2, h1]
    exact Sm.bad (ok_bd (oP_true _)) (fun o e h => by cases h)
  · rw [h2, h1]
    exact fac_same r n e
theorem one_same (len : Nat) (bs : Nat → Int) (t : Nat) (k : Int) (hk : k = 2 ∨ k = 4 ∨ k = 5 ∨ k = 6 ∨ k = 7 ∨ k = 8) :
    Sm (match uN len bs t with | none => none | some (n, e) => some (⟨k, n, 0⟩, e)) ⟨⟨k, (nP (uR len bs t) t false).1, 0⟩, true, (nP (uR len bs t) t false).2.1, (nP (uR len bs t) t false).2.2⟩ := by
  rcases u_cases len bs t false with ⟨h1, h2⟩ | ⟨n, e, hn, h1, h2⟩ | ⟨n, e, hn, h1, h2⟩
  · rw [h1, h2]; exact ok_bad _ _ _
  · rw [h1, h2]; exact ok_may (may_r hn hk) _ _ _
  · rw [h1, h2]; exact Sm.ok _ _
theorem num_same (len : Nat) (bs : Nat → Int) (t : Nat) :
    Sm (match uN len bs t with | none => none | some (n, e) => some (⟨3, 0, n⟩, e)) ⟨⟨3, 0, (nP (uR len bs t) t false).1⟩, true, (nP (uR len bs t) t false).2.1, (nP (uR len bs t) t false).2.2⟩ := by
  rcases u_cases len bs t false with ⟨h1, h2⟩ | ⟨n, e, hn, h1, h2⟩ | ⟨n, e, hn, h1, h2⟩
  · rw [h1, h2]; exact ok_bad _ _ _
  · rw [h1, h2]; exact ok_may (may_n hn (.inr rfl)) _ _ _
  · rw [h1, h2]; exact Sm.ok _ _
theorem fix_same (len : Nat) (bs : Nat → Int) (t s : Nat) :
    Sm (match gN len bs t s with | none => none | some (n, e) => some (⟨1, 0, n⟩, e)) ⟨⟨1, 0, (nP (gN len bs t s) t false).1⟩, true, (nP (gN len bs t s) t false).2.1, (nP (gN len bs t s) t false).2.2⟩ := by
  rcases g_cases len bs t s with ⟨h1, h2⟩ | ⟨n, e, h1, h2⟩
  · rw [h2, h1]; exact ok_bad _ _ _
  · rw [h2, h1]; exact Sm.ok _ _
theorem op_same (len : Nat) (bs : Nat → Int) (t : Nat) : Sm (opR len bs (bs t) (t + 1)) (opP len bs t) := by
  unfold opR opP
  generalize bs t = c
  generalize t + 1 = u
  by_cases k1 : 192 ≤ c
  · rw [if_pos k1, if_pos k1]; exact Sm.ok _ _
  rw [if_neg k1, if_neg k1]
  by_cases k2 : 128 ≤ c
  · rw [if_pos k2, if_pos k2]; exact uo_same len bs u (c - 128)
  rw [if_neg k2, if_neg k2]
  by_cases k3 : 64 ≤ c
  · rw [if_pos k3, if_pos k3]; exact Sm.ok _ _
  rw [if_neg k3, if_neg k3]
  unfold lowP
  by_cases c0 : c = 0
  · rw [if_pos c0, if_pos c0]; exact Sm.ok _ _
  rw [if_neg c0, if_neg c0]
  by_cases c2 : c = 2
  · rw [if_pos c2, if_pos c2]; exact fix_same len bs u 1
  rw [if_neg c2, if_neg c2]
  by_cases c3 : c = 3
  · rw [if_pos c3, if_pos c3]; exact fix_same len bs u 2
  rw [if_neg c3, if_neg c3]
  by_cases c4 : c = 4
  · rw [if_pos c4, if_pos c4]; exact fix_same len bs u 4
  rw [if_neg c4, if_neg c4]
  by_cases c5 : c = 5
  · rw [if_pos c5, if_pos c5]
    rcases u_cases len bs u false with ⟨h1, h2⟩ | ⟨n, e, hn, h1, h2⟩ | ⟨n, e, hn, h1, h2⟩
    · rw [h1, h2]; exact ok_bd (uo_bad _ _ _)
    · rw [h1, h2]; exact ok_may (may_r hn (.inr (.inr (.inl rfl)))) _ _ _
    · rw [h1, h2]; exact uo_same len bs e n
  rw [if_neg c5, if_neg c5]
  by_cases c6 : c = 6
  · rw [if_pos c6, if_pos c6]; exact one_same len bs u 6 (by omega)
  rw [if_neg c6, if_neg c6]
  by_cases c7 : c = 7
  · rw [if_pos c7, if_pos c7]; exact one_same len bs u 7 (by omega)
  rw [if_neg c7, if_neg c7]
  by_cases c8 : c = 8
  · rw [if_pos c8, if_pos c8]; exact one_same len bs u 8 (by omega)
  rw [if_neg c8, if_neg c8]
  by_cases c10 : c = 10
  · rw [if_pos c10, if_pos c10]; exact Sm.ok _ _
  rw [if_neg c10, if_neg c10]
  by_cases c11 : c = 11
  · rw [if_pos c11, if_pos c11]; exact Sm.ok _ _
  rw [if_neg c11, if_neg c11]
  by_cases c12 : c = 12
  · rw [if_pos c12, if_pos c12]
    rcases u_cases len bs u false with ⟨h1, h2⟩ | ⟨n, e, hn, h1, h2⟩ | ⟨n, e, hn, h1, h2⟩
    · rw [h1, h2]; exact ok_bd (ux_bad _ _ _)
    · rw [h1, h2]; exact ok_may (may_r hn (.inl rfl)) _ _ _
    · rw [h1, h2]
      unfold uX
      dsimp only
      rcases u_cases len bs e false with ⟨g1, g2⟩ | ⟨n2, e2, hn2, g1, g2⟩ | ⟨n2, e2, hn2, g1, g2⟩
      · rw [g1, g2]; exact ok_bad _ _ _
      · rw [g1, g2]; exact ok_may (may_n hn2 (.inl rfl)) _ _ _
      · rw [g1, g2]; exact Sm.ok _ _
  rw [if_neg c12, if_neg c12]
  by_cases c13 : c = 13
  · rw [if_pos c13, if_pos c13]; exact one_same len bs u 4 (by omega)
  rw [if_neg c13, if_neg c13]
  by_cases c14 : c = 14
  · rw [if_pos c14, if_pos c14]; exact num_same len bs u
  rw [if_neg c14, if_neg c14]
  by_cases c17 : c = 17
  · rw [if_pos c17, if_pos c17]
    rcases u_cases len bs u false with ⟨h1, h2⟩ | ⟨n, e, hn, h1, h2⟩ | ⟨n, e, hn, h1, h2⟩
    · rw [h1, h2]; exact ok_bd (so_bad _ _ _)
    · rw [h1, h2]; exact ok_may (may_r hn (.inr (.inr (.inl rfl)))) _ _ _
    · rw [h1, h2]; exact so_same len bs e n
  rw [if_neg c17, if_neg c17]
  exact ok_unk _ _ _

theorem pd_at {w : World} {rb : Nat} {v : Value} {t : Nat} {b : Bool} (h : PD w rb v (t : Int) b) : rdT w rb = t := by
  unfold rdT
  rw [h.cell 1 rfl]
  simp
/-- While ops are read: the reader, its bytes, the ops so far. -/
structure PL (w wr : World) (rb : Nat) (ao : Option Addr) (len cap : Nat) (bs : Nat → Int) (t : Nat) (v : Value) (l : List Oq) : Prop where
  rd : PD wr rb (.slice ao len cap) (t : Int) false
  row : Row wr ao len bs
  own : OwnP wr (rb + 1) v l
  bel : Below w.heap.size w wr
  new : w.heap.size ≤ rb
  le : t ≤ len
  few : l.length ≤ 4000
theorem ownP_low {w : World} {b b' : Nat} {v : Value} {l : List Oq} (h : OwnP w b v l) (hb : b' ≤ b) : OwnP w b' v l := by
  refine ⟨h.1, ?_⟩
  rcases h.2 with hv | ⟨g', c', cur, hv, h2, h3⟩
  · exact .inl hv
  · exact .inr ⟨g', c', cur, hv, by omega, h3⟩
theorem ownP_turn {w w' : World} {b rb : Nat} {v : Value} {l : List Oq} (h : OwnP w b v l) (ht : Turn (fun k => k = rb) w w') (hb : rb < b) : OwnP w' b v l :=
  ht.row h (fun k hk e => by have := own_block h k hk; omega)

set_option maxHeartbeats 4000000 in
set_option maxRecDepth 10000 in
theorem pread : PRead := by
  intro ao len cap bs w hl hI hf
  have hr := hI.row
  have hbs := hI.byte
  by_cases h4 : 1048576 < len
  · have HE : Hid (readE len bs = 6 ∧ readL len bs = []) := ⟨by unfold readE; rw [if_pos h4], by unfold readL; rw [if_pos h4]⟩
    have h4' : (1048576 : Int) < (len : Int) := by omega
    clear hr hbs
    go_enter Tryd.func25, Tryd.ntmps25
    go_wp2
    go_step3
    go_wp2
    (try rw [Exit.noGoto_ret])
    go_ret2
    exact ⟨_, by rw [HE.out.1]; rfl, by rw [HE.out.2]; exact OwnP.nil _ _, Below.refl _ _⟩
  have h4' : ¬ (1048576 : Int) < (len : Int) := by omega
  have HE : Hid (readE len bs = exE (rdM len bs (len + 1) 0 []) ∧ readL len bs = exL (rdM len bs (len + 1) 0 [])) := ⟨by unfold readE; rw [if_neg h4], by unfold readL; rw [if_neg h4]⟩
  have HB : Hid ((∀ i, 0 ≤ bs i ∧ bs i < 256) ∧ len ≤ 1048576) := ⟨hbs, by omega⟩
  have HF : Hid _ := ⟨hf⟩
  have HNA : Hid (0 < len → ∀ b off, ao = some ⟨b, off, none⟩ → b < w.heap.size) := ⟨row_ne hr⟩
  have HRow : Hid _ := ⟨hr⟩
  have hlen : (len : Int) ≤ 1048576 := by omega
  obtain ⟨E, hE⟩ : ∃ E, readE len bs = E := ⟨_, rfl⟩
  obtain ⟨X, hX⟩ : ∃ X, readL len bs = X := ⟨_, rfl⟩
  rw [hE, hX]
  rw [hE, hX] at HE
  clear hr hbs hl hI hE hX hf
  go_enter Tryd.func25, Tryd.ntmps25
  go_wp2
  go_step3
  go_upto_region 3 with fail
  iterate 1 go_step
  refine wpList_val (v := .slice ao len cap) (w' := w) (by kernel_rfl) (by kernel_rfl) ?_
  simp only [Act.put, List.getElem_toArray, List.getElem_cons_succ, List.getElem_cons_zero, List.setIfInBounds_toArray, List.set_cons_zero, List.set_cons_succ]
  refine wpList_val (v := .agg (rdC (.slice ao len cap) 0 false)) (w' := w) (by kernel_rfl) (by kernel_rfl) ?_
  simp only [Act.put, List.getElem_toArray, List.getElem_cons_succ, List.getElem_cons_zero, List.setIfInBounds_toArray, List.set_cons_zero, List.set_cons_succ]
  refine wpList_val (v := .pointer (some ⟨w.heap.size, 0, none⟩)) (w' := w.alloc (.cells (rdC (.slice none 0 0) 0 false) 99)) (by kernel_rfl) (by kernel_rfl) ?_
  simp only [Act.put, List.getElem_toArray, List.getElem_cons_succ, List.getElem_cons_zero, List.setIfInBounds_toArray, List.set_cons_zero, List.set_cons_succ]
  refine wpList_part (g := w.heap.size) (off := 0) (val := .agg (rdC (.slice ao len cap) 0 false)) (new := rdC (.slice ao len cap) 0 false) rfl rfl (by kernel_rfl) (by kernel_rfl) (Bk.new w _ _) (by rw [show (Tryd.prog.info? 99).map (·.size) = some 3 by kernel_rfl]; rfl) (by show 0 + 3 ≤ 3; omega) (by intro u hu; simp [Value.cells] at hu; rcases hu with rfl | rfl | rfl <;> rfl) rfl ?_
  simp only [Act.put, List.getElem_toArray, List.getElem_cons_succ, List.getElem_cons_zero, List.setIfInBounds_toArray, List.set_cons_zero, List.set_cons_succ]
  have BW : Below w.heap.size w ((w.alloc (.cells (rdC (.slice none 0 0) 0 false) 99)).setRow w.heap.size (rdC (.slice ao len cap) 0 false)) := ((Below.refl _ _).alloc (Nat.le_refl _) _).trans (below_set _ _ _ (Nat.le_refl _))
  have DW : PD ((w.alloc (.cells (rdC (.slice none 0 0) 0 false) 99)).setRow w.heap.size (rdC (.slice ao len cap) 0 false)) w.heap.size (.slice ao len cap) 0 false := (Bk.new w _ _).setR _
  refine wpList_nil ?_
  have HS : Hid (PL w ((w.alloc (.cells (rdC (.slice none 0 0) 0 false) 99)).setRow w.heap.size (rdC (.slice ao len cap) 0 false)) w.heap.size ao len cap bs 0 (.slice none 0 0) []) := ⟨⟨DW, HRow.out.below BW (Nat.le_refl _), OwnP.nil _ _, BW, Nat.le_refl _, Nat.zero_le _, by simp⟩⟩
  clear BW DW HRow
  obtain ⟨rb, hrb⟩ : ∃ rb, w.heap.size = rb := ⟨_, rfl⟩
  have HRB : Hid (w.heap.size = rb) := ⟨hrb⟩
  generalize (w.alloc (.cells (rdC (.slice none 0 0) 0 false) 99)).setRow w.heap.size (rdC (.slice ao len cap) 0 false) = W at *
  rw [hrb] at HS ⊢
  clear hrb
  go_wp2
  go_step3
  go_wp2
  go_loopw [5, 6] (fun v ev wr => ∃ (t : Nat) (l : List Oq), ev = .int .i64 0 ∧ Hid (PL w wr rb ao len cap bs t v l ∧ rdM len bs (len + 1 - t) t l = rdM len bs (len + 1) 0 [])) (fun _ _ wr => len - rdT wr rb)
  case atStart => exact ⟨0, [], rfl, ⟨HS.out, rfl⟩⟩
  case round =>
    obtain ⟨t, l, rfl, HW⟩ := hrel
    have hR := HW.out.1
    have c1 := hR.rd.cell 1 rfl
    have ht := hR.le
    by_cases hlt : t < len
    · have q1 : (t : Int) < (len : Int) := by omega
      have hrb0 : 0 < rb := by have := HRB.out; have := HF.out.z; omega
      have hfr : Fz wr := HF.out.bel hR.bel HF.out.z
      have HOP : Hid _ := ⟨pop_any rb ao len cap t bs wr hR.rd hR.row (fun h0 b off e => by have := HNA.out h0 b off e; have := HRB.out; omega) HB.out.1 HB.out.2 hlt hfr hrb0⟩
      have HSm : Hid _ := ⟨op_same len bs t⟩
      have HBW : Hid (∀ w2, Turn (fun k => k = rb) wr w2 → Below w.heap.size w w2) := ⟨fun w2 h => hR.bel.trans (h.below hR.bel.size (fun k hk => by rw [hk]; exact hR.new))⟩
      have HFl : Hid (len + 1 - t = (len - t) + 1) := ⟨by omega⟩
      have HRL : Hid _ := ⟨hR⟩
      clear hR hfr
      generalize opP len bs t = x at *
      obtain ⟨⟨xk, xr, xn⟩, xkn, xt, xb⟩ := x
      obtain ⟨ok, hok⟩ : ∃ ok, okP ⟨⟨xk, xr, xn⟩, xkn, xt, xb⟩ = ok := ⟨_, rfl⟩
      unfold OE at HOP
      dsimp only at HOP
      rw [hok] at HOP
      cases ok with
      | false =>
        have HV : Hid (E = 130 ∧ X = []) := ⟨by
          have hS := HSm.out
          unfold Sm at hS
          cases ho : opR len bs (bs t) (t + 1) with
          | none => exact ⟨by rw [HE.out.1, ← HW.out.2, HFl.out, rdM_none hlt ho]; rfl, by rw [HE.out.2, ← HW.out.2, HFl.out, rdM_none hlt ho]; rfl⟩
          | some p =>
            obtain ⟨o, e1⟩ := p
            rw [ho] at hS
            have hm : mayB o = false := by rw [← hS.1]; exact hok
            exact ⟨by rw [HE.out.1, ← HW.out.2, HFl.out, rdM_may hlt ho hm]; rfl, by rw [HE.out.2, ← HW.out.2, HFl.out, rdM_may hlt ho hm]; rfl⟩⟩
        obtain ⟨rfl, rfl⟩ := HV.out
        clear HW HSm hok
        go_upto_region 8 with (first
          | (go_at_call 39; (with_reducible refine HOP.out.mono ?_); rintro e w2 ⟨he, he2, he3⟩; subst he; have HR2 : Hid _ := ⟨he2⟩; have HT2 : Hid _ := ⟨he3⟩; clear he2 he3)
          | (refine wpList_part (g := w2.heap.size) (off := 0) (val := .agg (oqA xk xr xn)) (new := oqA xk xr xn) rfl rfl (by rfl) (by rfl) (Bk.new w2 zeroO 75) (by rw [sizeOp]; rfl) (by show 0 + 3 ≤ 3; omega) (oqA_one _ _ _) rfl ?_))
        change Code.wp _ _ _ _ ((w2.alloc (.cells zeroO 75)).setRow w2.heap.size (oqA xk xr xn))
        have B2 : Below w2.heap.size w2 ((w2.alloc (.cells zeroO 75)).setRow w2.heap.size (oqA xk xr xn)) := ((Below.refl _ _).alloc (Nat.le_refl _) _).trans (below_set _ _ _ (Nat.le_refl _))
        have N2 : Bk ((w2.alloc (.cells zeroO 75)).setRow w2.heap.size (oqA xk xr xn)) w2.heap.size 75 (oqA xk xr xn) := (Bk.new w2 zeroO _).setR _
        have HR3 : Hid _ := ⟨HR2.out.bel B2 HR2.out.lt⟩
        have HT3 : Hid (Turn (fun k => k = rb) wr ((w2.alloc (.cells zeroO 75)).setRow w2.heap.size (oqA xk xr xn))) := ⟨HT2.out.trans (Turn.of_below B2 _)⟩
        have HBB : Hid (Below w.heap.size w ((w2.alloc (.cells zeroO 75)).setRow w2.heap.size (oqA xk xr xn))) := ⟨(HBW.out _ HT2.out).trans (B2.mono (HBW.out _ HT2.out).size)⟩
        have x0 := N2.cell 0 rfl
        have x1 := N2.cell 1 rfl
        have x2 := N2.cell 2 rfl
        clear B2 N2
        generalize (w2.alloc (.cells zeroO 75)).setRow w2.heap.size (oqA xk xr xn) = W3 at *
        generalize w2.heap.size = g3 at *
        go_wp2_with fail
        (try rw [Exit.noGoto_ret])
        go_ret2
        exact ⟨_, rfl, OwnP.nil _ _, HBB.out⟩
      | true =>
        obtain ⟨e1, ho, hm, hxt, hxb⟩ : ∃ e1, opR len bs (bs t) (t + 1) = some (⟨xk, xr, xn⟩, e1) ∧ mayB ⟨xk, xr, xn⟩ = true ∧ xt = e1 ∧ xb = false := by
          have hS := HSm.out
          unfold Sm at hS
          cases ho : opR len bs (bs t) (t + 1) with
          | none => rw [ho] at hS; rw [hok] at hS; cases hS
          | some p =>
            obtain ⟨o, e1⟩ := p
            rw [ho] at hS
            have hm : mayB o = true := by rw [← hS.1]; exact hok
            obtain ⟨h1, h2, h3⟩ := hS.2 hm
            dsimp only at h1 h2 h3
            subst h1
            exact ⟨e1, rfl, hm, h2, h3⟩
        subst hxt hxb
        have hle := opR_le (by omega) ho
        have HLen : Hid (∃ a c', u5 = .slice a l.length c') := ⟨by obtain ⟨a, c', h, _⟩ := HRL.out.own.any; exact ⟨a, c', h⟩⟩
        have HV6 : Hid (l.length = 4000 → E = 6 ∧ X = []) := ⟨fun h => ⟨by rw [HE.out.1, ← HW.out.2, HFl.out, rdM_many hlt ho hm h]; rfl, by rw [HE.out.2, ← HW.out.2, HFl.out, rdM_many hlt ho hm h]; rfl⟩⟩
        have HVm : Hid (¬ l.length = 4000 → rdM len bs (len + 1 - xt) xt (l ++ [⟨xk, xr, xn⟩]) = rdM len bs (len + 1) 0 []) := ⟨fun h => by rw [← HW.out.2, HFl.out, rdM_more hlt ho hm h]; exact rdM_fuel len bs _ _ xt _ (by omega) (by omega) hle.2⟩
        have HOwn : Hid _ := ⟨HRL.out.own⟩
        have HFew : Hid (l.length ≤ 4000 ∧ w.heap.size ≤ rb) := ⟨HRL.out.few, HRL.out.new⟩
        have HRw : Hid (∀ w', Turn (fun k => k = rb) wr w' → Row w' ao len bs) := ⟨fun w' h => HRL.out.row.turn h fun h0 b' off' e hk => by have := HNA.out h0 b' off' e; have := HRB.out; omega⟩
        have hmt : rdT wr rb = t := pd_at HRL.out.rd
        obtain ⟨a5, c5, hu5⟩ := HLen.out
        subst hu5
        clear HW HSm hok hm ho HRL
        go_upto_region 8 with (first
          | (go_at_call 39; (with_reducible refine HOP.out.mono ?_); rintro e w2 ⟨he, he2, he3⟩; subst he; have HR2 : Hid _ := ⟨he2⟩; have HT2 : Hid _ := ⟨he3⟩; clear he2 he3)
          | (refine wpList_part (g := w2.heap.size) (off := 0) (val := .agg (oqA xk xr xn)) (new := oqA xk xr xn) rfl rfl (by rfl) (by rfl) (Bk.new w2 zeroO 75) (by rw [sizeOp]; rfl) (by show 0 + 3 ≤ 3; omega) (oqA_one _ _ _) rfl ?_))
        change Code.wp _ _ _ _ ((w2.alloc (.cells zeroO 75)).setRow w2.heap.size (oqA xk xr xn))
        have B2 : Below w2.heap.size w2 ((w2.alloc (.cells zeroO 75)).setRow w2.heap.size (oqA xk xr xn)) := ((Below.refl _ _).alloc (Nat.le_refl _) _).trans (below_set _ _ _ (Nat.le_refl _))
        have N2 : Bk ((w2.alloc (.cells zeroO 75)).setRow w2.heap.size (oqA xk xr xn)) w2.heap.size 75 (oqA xk xr xn) := (Bk.new w2 zeroO _).setR _
        have HR3 : Hid _ := ⟨HR2.out.bel B2 HR2.out.lt⟩
        have HT3 : Hid (Turn (fun k => k = rb) wr ((w2.alloc (.cells zeroO 75)).setRow w2.heap.size (oqA xk xr xn))) := ⟨HT2.out.trans (Turn.of_below B2 _)⟩
        have HBB : Hid (Below w.heap.size w ((w2.alloc (.cells zeroO 75)).setRow w2.heap.size (oqA xk xr xn))) := ⟨(HBW.out _ HT2.out).trans (B2.mono (HBW.out _ HT2.out).size)⟩
        have x0 := N2.cell 0 rfl
        have x1 := N2.cell 1 rfl
        have x2 := N2.cell 2 rfl
        clear B2 N2
        generalize (w2.alloc (.cells zeroO 75)).setRow w2.heap.size (oqA xk xr xn) = W3 at *
        generalize w2.heap.size = g3 at *
        by_cases h6 : l.length = 4000
        · have h6' : ((l.length : Int) == 4000) = true := by simp; omega
          obtain ⟨rfl, rfl⟩ := HV6.out h6
          go_wp2_with fail
          (try rw [Exit.noGoto_ret])
          go_ret2
          exact ⟨_, rfl, OwnP.nil _ _, HBB.out⟩
        · have h6' : ((l.length : Int) == 4000) = false := by simp; omega
          have HV : Hid _ := ⟨HVm.out h6⟩
          have HO3 : Hid (OwnP W3 (rb + 1) (.slice a5 l.length c5) l) := ⟨ownP_turn HOwn.out HT3.out (by omega)⟩
          have HRw3 : Hid _ := ⟨HRw.out _ HT3.out⟩
          have HSz : Hid (rb + 1 ≤ W3.heap.size) := ⟨HR3.out.lt⟩
          have HFw : Hid (l.length + 1 ≤ 4000) := ⟨by have := HFew.out.1; omega⟩
          generalize hll : l.length = nl at *
          go_wp2_with (at_builtin; refine append_opP W3 rfl _ _ rfl (rb + 1) _ l ⟨xk, xr, xn⟩ HO3.out rfl _ rfl rfl (by have := HFw.out; omega) HSz.out ?_; intro v5 w5 ho5 hb5; have HO5 : Hid _ := ⟨ho5⟩; have HB5 : Hid _ := ⟨hb5⟩; clear ho5 hb5)
          have hd5 : PD w5 rb (.slice ao len cap) (xt : Int) false := HR3.out.bel HB5.out (by omega)
          refine ⟨⟨xt, l ++ [⟨xk, xr, xn⟩], rfl, ⟨⟨hd5, ?_, HO5.out, ?_, HFew.out.2, hle.2, ?_⟩, HV.out⟩⟩, ?_⟩
          · rcases HRw3.out with h | ⟨b', off', e, h⟩
            · exact .inl h
            · refine .inr ⟨b', off', e, fun i hi => ?_⟩
              have hlt2 : b' < rb + 1 := by have := HNA.out (by omega) b' off' e; have := HRB.out; omega
              exact (HB5.out.cell (p := ⟨b', off' + i, none⟩) hlt2).trans (h i hi)
          · exact HBB.out.trans (HB5.out.mono (by have := HFew.out.2; omega))
          · have := HFw.out
            simp
            omega
          · rw [pd_at hd5, hmt]
            omega
    · have HV : Hid (E = 0 ∧ X = l) := ⟨by rw [HE.out.1, ← HW.out.2, rdM_end hlt]; rfl, by rw [HE.out.2, ← HW.out.2, rdM_end hlt]; rfl⟩
      obtain ⟨rfl, rfl⟩ := HV.out
      have q1 : ¬ (t : Int) < (len : Int) := by omega
      have HRL : Hid _ := ⟨hR⟩
      clear hR HW
      go_wp2
      (try rw [Exit.noGoto_ret])
      go_ret2
      exact ⟨_, rfl, ownP_low HRL.out.own (by have := HRL.out.new; omega), HRL.out.bel⟩
end Go.Proofs.YtgldijohpfihaaaDoor
