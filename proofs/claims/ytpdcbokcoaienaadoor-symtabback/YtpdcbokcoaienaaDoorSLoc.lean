/- Rows of symbols of the call's own; the contract of localsFirst. -/
import Derived.Test.YtpdcbokcoaienaaDoorSNum
namespace Go.Proofs.YtpdcbokcoaienaaDoor
open Go.ChangeShapes Go.WideShapes Go.ChangeAt Go.RowKit Go.Maps
set_option linter.unusedVariables false
set_option linter.unusedSimpArgs false

def symCells (l : List Sym) : List Value := l.flatMap Sym.cells
theorem symCells_len (l : List Sym) : (symCells l).length = l.length * 6 := by
  induction l with
  | nil => rfl
  | cons s l ih =>
    show (s.cells ++ symCells l).length = _
    rw [List.length_append, ih]
    simp [Sym.cells]; omega
theorem symCells_append (l m : List Sym) : symCells (l ++ m) = symCells l ++ symCells m := by simp [symCells]
theorem symCells_one (l : List Sym) : ∀ u ∈ symCells l, u.oneCell' = true := by
  intro u hu
  simp only [symCells, List.mem_flatMap] at hu
  obtain ⟨s, _, hs⟩ := hu
  simp only [Sym.cells, List.mem_cons, List.not_mem_nil, or_false] at hs
  rcases hs with rfl | rfl | rfl | rfl | rfl | rfl <;> rfl
theorem symCells_at : ∀ (l : List Sym) (i j : Nat), i < l.length → j < 6 → (symCells l)[i * 6 + j]? = (l.getD i Sym.none).cells[j]?
  | [], i, j, hi, _ => by simp at hi
  | s :: l, 0, j, _, hj => by
    show (s.cells ++ symCells l)[0 * 6 + j]? = _
    rw [List.getElem?_append_left (by simp [Sym.cells]; omega)]
    simp
  | s :: l, i + 1, j, hi, hj => by
    show (s.cells ++ symCells l)[(i + 1) * 6 + j]? = _
    have hl : s.cells.length = 6 := rfl
    rw [List.getElem?_append_right (by omega), hl, show (i + 1) * 6 + j - 6 = i * 6 + j by omega, symCells_at l i j (by simpa using hi) hj]
    rfl

/-- A row of symbols of the call's own. -/
def OwnY (w : World) (base : Nat) (v : Value) (l : List Sym) : Prop := w.ownsRow base 43 6 v l.length (symCells l)
theorem OwnY.nil (w : World) (base : Nat) : OwnY w base (.slice none 0 0) [] := World.ownsRow_nil _ _ _ _

theorem OwnY.any {w : World} {base : Nat} {v : Value} {l : List Sym} (h : OwnY w base v l) :
    ∃ ao cap, v = .slice ao l.length cap ∧ l.length ≤ cap ∧ cap ≤ 9223372036854775807 ∧ Syms w ao l ∧ (ao = none → l = [] ∧ cap = 0) := by
  rcases h.2 with ⟨hv, hn⟩ | ⟨g, cap, cur, hv, _, hg, h1, h2, _⟩
  · have hl : l = [] := List.eq_nil_of_length_eq_zero hn
    subst hl
    exact ⟨none, 0, hv, Nat.le_refl _, by omega, .inl rfl, fun _ => ⟨rfl, rfl⟩⟩
  · refine ⟨_, cap, hv, h1, by unfold maxLen at h2; omega, ?_, (fun e => by cases e)⟩
    right
    refine ⟨g, 0, rfl, fun i hi => ?_⟩
    subst hv
    have hc : ∀ j, j < 6 → w.cell? ⟨g, 0 + i * 6 + j, none⟩ = (l.getD i Sym.none).cells[j]? := fun j hj => by
      have := h.cellAt (i * 6 + j) (by omega)
      rw [Nat.zero_add, this, symCells_at l i j hi hj]
    exact ⟨hc 0 (by omega), hc 1 (by omega), hc 2 (by omega), hc 3 (by omega), hc 4 (by omega), hc 5 (by omega)⟩

def symZ : Array Value := #[.string ⟨#[]⟩, .string ⟨#[]⟩, .int .i64 0, .int .i64 0, .int .i64 0, .int .i64 0]
theorem infoY : (Tryd.prog.info? 43).map (fun i => (i.zero, i.size, i.bytes)) = some (some (.agg symZ), 6, 64) := by kernel_rfl

/-- append of one symbol. -/
theorem append_sym {ops : Array Oper} {rest : List Oper} {o : Oper} {a : Act} {Q : Exit → Act → World → Prop} (w : World) (hgd : o.guard = none) (s x : Operand)
    (ho : o.op = .call { callee := .builtin .append, args := #[s, x], argTypes := #[22, 22] })
    (base : Nat) (v : Value) (l : List Sym) (hs : a.eval s = v) (hown : OwnY w base v l) (y : Sym) (q : Nat) (hx : a.eval x = .slice (some ⟨q, 0, none⟩) 1 1) (hq : q = w.heap.size)
    (hn : l.length + 1 ≤ 2199023255552) (hbase : base ≤ w.heap.size)
    (h : ∀ v' w', OwnY w' base v' (l ++ [y]) → Step w w' v v' → wpList Tryd.prog ops Q rest (a.put o.dst v') w') :
    wpList Tryd.prog ops Q (o :: rest) a (w.alloc (.cells #[.string y.nm, .string y.sc, .int .i64 y.v, .int .i64 y.z, .int .i64 y.b, .int .i64 y.t] 43)) := by
  subst hq
  obtain ⟨i0, hi, hz0, hz1', hz2⟩ := info_parts infoY
  refine wpList_append_own_at _ hgd s x 22 ho base 43 i0 (.agg symZ) 6 64 Tryd.underlying22 hi hz0 hz1' hz2 rfl (by decide) v l.length _ hs (hown.alloc _) ⟨w.heap.size, 0, none⟩ 1 1 y.cells hx rfl ?_ (by
    have := symCells_one [y]
    simpa [symCells] using this) (by unfold maxLen; omega) (by omega) (by simp; omega) ?_
  · intro j u hj
    rw [addr_add]
    simp only [World.cell?]
    have hh : (w.alloc (.cells #[.string y.nm, .string y.sc, .int .i64 y.v, .int .i64 y.z, .int .i64 y.b, .int .i64 y.t] 43)).heap[w.heap.size]? = some (.cells #[.string y.nm, .string y.sc, .int .i64 y.v, .int .i64 y.z, .int .i64 y.b, .int .i64 y.t] 43) := by
      show (w.heap.push _)[w.heap.size]? = _
      simp
    rw [hh, Nat.zero_add]
    simpa [Sym.cells] using hj
  · intro v' w' hown' hgrow _ hat
    refine h v' w' ?_ ⟨((Turn.refl _ w).alloc _).grown hgrow (fun k _ e => e), fun k hk => ?_⟩
    · unfold OwnY
      rw [symCells_append]
      simpa [symCells] using hown'
    · rcases hat with e | e
      · rw [e] at hk; exact .inl hk
      · rw [e] at hk
        simp at hk
        right; omega

/-- Symbols, copied behind a row of the call's own. -/
theorem append_syms {ops : Array Oper} {rest : List Oper} {o : Oper} {a : Act} {Q : Exit → Act → World → Prop} (w : World) (hgd : o.guard = none) (s x : Operand)
    (ho : o.op = .call { callee := .builtin .append, args := #[s, x], argTypes := #[22, 22] })
    (base : Nat) (v : Value) (l : List Sym) (hs : a.eval s = v) (hown : OwnY w base v l) (ao : Option Addr) (c : Nat) (m : List Sym) (hx : a.eval x = .slice ao m.length c) (hr : Syms w ao m) (hnil : ao = none → m = [] ∧ c = 0)
    (hn : l.length + m.length ≤ 2199023255552) (hbase : base ≤ w.heap.size)
    (h : ∀ v' w', OwnY w' base v' (l ++ m) → Below base w w' → wpList Tryd.prog ops Q rest (a.put o.dst v') w') :
    wpList Tryd.prog ops Q (o :: rest) a w := by
  obtain ⟨i0, hi, hz0, hz1, hz2⟩ := info_parts infoY
  cases ao with
  | none =>
    obtain ⟨rfl, rfl⟩ := hnil rfl
    refine wpList_append_own_none hgd s x 22 ho base 43 i0 6 Tryd.underlying22 hi _ _ _ hs hown hx ?_
    exact h v w (by simpa using hown) (Below.refl _ _)
  | some ad =>
    refine wpList_append_own _ hgd s x 22 ho base 43 i0 (.agg symZ) 6 64 Tryd.underlying22 hi hz0 hz1 hz2 rfl (by decide) _ l.length _ hs hown ad m.length c (symCells m) hx (symCells_len m) ?_ (symCells_one m) (by unfold maxLen; omega) (by omega) hbase ?_
    · intro j u hj
      have hjl : j < m.length * 6 := by
        have := (List.getElem?_eq_some_iff.1 hj).1
        rwa [symCells_len] at this
      rcases hr with hr | ⟨b, off, e, hc⟩
      · subst hr; simp at hjl
      · cases e
        have hi : j / 6 < m.length := by omega
        have hA := hc (j / 6) hi
        have e6 : j = j / 6 * 6 + j % 6 := by omega
        have hm6 : j % 6 < 6 := by omega
        rw [e6, symCells_at m (j / 6) (j % 6) hi hm6] at hj
        rw [addr_add, e6]
        have hcase : j % 6 = 0 ∨ j % 6 = 1 ∨ j % 6 = 2 ∨ j % 6 = 3 ∨ j % 6 = 4 ∨ j % 6 = 5 := by omega
        generalize j / 6 = i at *
        rcases hcase with h6 | h6 | h6 | h6 | h6 | h6
        all_goals
          rw [h6] at hj ⊢
          simp [Sym.cells] at hj
          subst hj
          first | exact hA.nm | exact hA.sc | exact hA.v | exact hA.z | exact hA.b' | exact hA.t
    · intro v' w' hown' hgrow hnn
      refine h v' w' ?_ ((Below.refl base w).grown hgrow hbase (own_block hown))
      unfold OwnY
      rw [symCells_append, List.length_append]
      exact hown'

def locs (l : List Sym) : List Sym := l.filter (fun s => s.b == 0)
def oths (l : List Sym) : List Sym := l.filter (fun s => !(s.b == 0))
/-- Local ones first. -/
def ordL (l : List Sym) : List Sym := locs l ++ oths l

theorem locs_snoc (l : List Sym) (s : Sym) : locs (l ++ [s]) = if s.b == 0 then locs l ++ [s] else locs l := by
  unfold locs
  rw [List.filter_append]
  cases h : (s.b == 0) <;> simp [h]
theorem oths_snoc (l : List Sym) (s : Sym) : oths (l ++ [s]) = if s.b == 0 then oths l else oths l ++ [s] := by
  unfold oths
  rw [List.filter_append]
  cases h : (s.b == 0) <;> simp [h]

set_option maxHeartbeats 2000000 in
set_option maxRecDepth 10000 in
theorem localsFirst_any (ao : Option Addr) (c : Nat) (l : List Sym) (w : World) (hl : l.length ≤ 2000) (hr : Syms w ao l) :
    Calls Tryd.prog 16 #[.slice ao l.length c] w fun e w' => ∃ v, e = .returned (.tuple #[v, .int .i64 (locs l).length]) ∧ OwnY w' w.heap.size v (ordL l) ∧ Below w.heap.size w w' := by
  have HR : Hid _ := ⟨hr⟩
  clear hr
  go_enter Tryd.func16, Tryd.ntmps16
  go_wp2
  go_loopw [9, 2, 4] (fun i v u wr => ∃ k : Nat, k ≤ l.length ∧ i = .int .i64 k ∧ Hid (OwnY wr w.heap.size v (locs (l.take k)) ∧ OwnY wr w.heap.size u (oths (l.take k)) ∧ Apart v u ∧ Below w.heap.size w wr)) (fun i _ _ _ => l.length - (intOf i).toNat)
  case atStart => exact ⟨0, by omega, rfl, ⟨OwnY.nil _ _, OwnY.nil _ _, Apart.nil _, Below.refl _ _⟩⟩
  case round =>
    obtain ⟨k, hk, rfl, HW⟩ := hrel
    obtain ⟨o1, o2, hap, hbel⟩ := HW.out
    have hf1 : (locs (l.take k)).length ≤ k := Nat.le_trans (List.length_filter_le _ _) (by simp; omega)
    have hf2 : (oths (l.take k)).length ≤ k := Nat.le_trans (List.length_filter_le _ _) (by simp; omega)
    by_cases hlt : k < l.length
    · obtain ⟨b, off, rfl, hcell⟩ : ∃ b off, ao = some ⟨b, off, none⟩ ∧ ∀ i, i < l.length → SymAt wr b (off + i * 6) (l.getD i Sym.none) := by
        rcases HR.out.below hbel (Nat.le_refl _) with h | h
        · subst h; simp at hlt
        · exact h
      obtain ⟨c0, c1, c2, c3, c4, c5⟩ := hcell k hlt
      have hget : l.getD k Sym.none = l[k] := by simp [hlt]
      rw [hget] at c0 c1 c2 c3 c4 c5
      have T1 := locs_snoc (l.take k) l[k]
      have T2 := oths_snoc (l.take k) l[k]
      rw [← List.take_succ_eq_append_getElem hlt] at T1 T2
      generalize l[k] = s at *
      have hbs := hbel.size
      have b2 := hbel.alloc hbel.size (.cells #[.string s.nm, .string s.sc, .int .i64 s.v, .int .i64 s.z, .int .i64 s.b, .int .i64 s.t] 43)
      have p1 : OwnY _ w.heap.size _ (locs (l.take k)) := World.ownsRow.alloc o1 (.cells #[.string s.nm, .string s.sc, .int .i64 s.v, .int .i64 s.z, .int .i64 s.b, .int .i64 s.t] 43)
      have p2 : OwnY _ w.heap.size _ (oths (l.take k)) := World.ownsRow.alloc o2 (.cells #[.string s.nm, .string s.sc, .int .i64 s.v, .int .i64 s.z, .int .i64 s.b, .int .i64 s.t] 43)
      have HB2 : Hid _ := ⟨b2⟩
      have HP1 : Hid _ := ⟨p1⟩
      have HP2 : Hid _ := ⟨p2⟩
      have HAP : Hid _ := ⟨hap⟩
      clear o1 o2 hap hbel b2 p1 p2 hcell hget HW
      cases hb0 : (s.b == 0)
      · rw [hb0] at T1 T2
        have HT1 : Hid _ := ⟨T1⟩
        have HT2 : Hid _ := ⟨T2⟩
        clear T1 T2
        go_wp2_with (at_builtin; refine append_sym _ rfl _ _ rfl w.heap.size _ _ rfl HP2.out s _ rfl (by simp) (by omega) (by simp; omega) ?_; intro v1 w1 hr1 hs1)
        go_roundw
        case rel => exact ⟨k + 1, hlt, by go_num, ⟨by rw [HT1.out]; exact (hs1.keep HP1.out HAP.out).1, by rw [HT2.out]; exact hr1, (hs1.keep HP1.out HAP.out).2, HB2.out.trans (hs1.below HP2.out HB2.out.size)⟩⟩
        case measure => simp [intOf]; omega
      · rw [hb0] at T1 T2
        have HT1 : Hid _ := ⟨T1⟩
        have HT2 : Hid _ := ⟨T2⟩
        clear T1 T2
        go_wp2_with (at_builtin; refine append_sym _ rfl _ _ rfl w.heap.size _ _ rfl HP1.out s _ rfl (by simp) (by omega) (by simp; omega) ?_; intro v1 w1 hr1 hs1)
        go_roundw
        case rel => exact ⟨k + 1, hlt, by go_num, ⟨by rw [HT1.out]; exact hr1, by rw [HT2.out]; exact (hs1.keep HP2.out HAP.out.symm).1, (hs1.keep HP2.out HAP.out.symm).2.symm, HB2.out.trans (hs1.below HP1.out HB2.out.size)⟩⟩
        case measure => simp [intOf]; omega
    · obtain rfl : k = l.length := by omega
      rw [List.take_of_length_le (Nat.le_refl _)] at o1 o2 hf1 hf2
      obtain ⟨a1, c1, hv1, _, _, _, _⟩ := o1.any
      obtain ⟨a2, c2, hv2, _, _, hs2, hn2⟩ := o2.any
      subst hv1
      subst hv2
      have HP1 : Hid _ := ⟨o1⟩
      have HS2 : Hid _ := ⟨hs2⟩
      have HN2 : Hid _ := ⟨hn2⟩
      have HB2 : Hid _ := ⟨hbel⟩
      have hbs := hbel.size
      clear o1 o2 hap hbel hs2 hn2 HW
      go_wp2_with (at_builtin; refine append_syms _ rfl _ _ rfl w.heap.size _ _ rfl HP1.out _ _ _ rfl HS2.out HN2.out (by omega) hbs ?_; intro v1 w1 hr1 hs1)
      go_ret2
      exact ⟨_, rfl, hr1, HB2.out.trans hs1⟩
end Go.Proofs.YtpdcbokcoaienaaDoor
