/- The contract of the document's Map. -/
import Derived.Test.YtpfmnopokfiheaaDUnmap
import Derived.Test.YtpfmnopokfiheaaMMap
import Derived.Test.YtpfmnopokfiheaaMAcc
namespace Go.Proofs.Ytpfmnopokfiheaa
open Go.ChangeShapes Go.WideShapes Go.ChangeAt Go.RowKit Go.Maps
set_option linter.unusedVariables false
set_option linter.unusedSimpArgs false

theorem cut_at {L : List Pz} (hu : L.Pairwise (fun p q => p.k < q.k)) {f s : Nat} (hs : s ≤ L.length) (h1 : ∀ i (hi : i < L.length), i < s → L[i].k < f) (h2 : ∀ h : s < L.length, f ≤ L[s].k) :
    L.filter (fun p => decide (p.k < f)) = L.take s ∧ L.filter (fun p => decide (f ≤ p.k)) = L.drop s := by
  have hd : ∀ p ∈ L.drop s, f ≤ p.k := fun p hp => by
    obtain ⟨i, hi, rfl⟩ := List.getElem_of_mem hp
    rw [List.length_drop] at hi
    rw [List.getElem_drop]
    have h3 := h2 (by omega)
    by_cases c : i = 0
    · subst c; simpa using h3
    · have := up_at hu (i := s) (j := s + i) (by omega) (by omega) (by omega); omega
  have ht : ∀ p ∈ L.take s, p.k < f := fun p hp => by
    obtain ⟨i, hi, rfl⟩ := List.getElem_of_mem hp
    rw [List.length_take] at hi
    rw [List.getElem_take]
    exact h1 i (by omega) (by omega)
  constructor
  · rw [← List.take_append_drop s L, List.filter_append, List.filter_eq_self.2 (fun p hp => by simpa using ht p hp), List.filter_eq_nil_iff.2 (fun p hp => by have := hd p hp; simp; omega), List.append_nil, List.take_append_drop]
  · rw [← List.take_append_drop s L, List.filter_append, List.filter_eq_nil_iff.2 (fun p hp => by have := ht p hp; simp; omega), List.filter_eq_self.2 (fun p hp => by simpa using hd p hp), List.nil_append, List.take_append_drop]

theorem inN_ne {L : List Pz} (hu : L.Pairwise (fun p q => p.k < q.k)) {f n s : Nat} (h1 : ∀ i (hi : i < L.length), i < s → L[i].k < f) (h2 : ∀ h : s < L.length, f ≤ L[s].k) :
    inN L f (f + n) ≠ 0 ↔ ∃ h : s < L.length, L[s].k < f + n := by
  constructor
  · intro h
    refine Classical.byContradiction fun c => h ?_
    unfold inN
    rw [List.length_eq_zero_iff, List.filter_eq_nil_iff]
    intro p hp
    obtain ⟨i, hi, rfl⟩ := List.getElem_of_mem hp
    by_cases e : i < s
    · have := h1 i hi e
      simp [inB]; omega
    · have hs : s < L.length := by omega
      have c2 : ¬ L[s].k < f + n := fun x => c ⟨hs, x⟩
      by_cases e2 : i = s
      · subst e2; simp [inB]; omega
      · have := up_at hu hs hi (by omega)
        simp [inB]; omega
  · rintro ⟨h, hk⟩ e
    have := inN_zero e L[s] (List.getElem_mem h) (h2 h)
    omega

/-- The pages that come anew. -/
def newP (f n : Nat) (may : Int) : List Pz := (List.range n).map (fun i => (⟨f + i, may, zeroB⟩ : Pz))
theorem newP_succ (f n : Nat) (may : Int) : newP f (n + 1) may = newP f n may ++ [⟨f + n, may, zeroB⟩] := by
  unfold newP
  rw [List.range_succ, List.map_append]
  rfl
theorem newP_len (f n : Nat) (may : Int) : (newP f n may).length = n := by simp [newP]
theorem newP_mem {f n : Nat} {may : Int} {p : Pz} (h : p ∈ newP f n may) : ∃ i, i < n ∧ p = ⟨f + i, may, zeroB⟩ := by
  unfold newP at h
  obtain ⟨i, hi, rfl⟩ := List.mem_map.1 h
  exact ⟨i, by simpa using hi, rfl⟩

/-- append of one page. -/
theorem append_pg {ops : Array Oper} {rest : List Oper} {o : Oper} {a : Act} {Q : Exit → Act → World → Prop} (w : World) (hgd : o.guard = none) (s x : Operand)
    (ho : o.op = .call { callee := .builtin .append, args := #[s, x], argTypes := #[26, 26] })
    (base : Nat) (v : Value) (pb : Nat → Nat) (l : List Pz) (hs : a.eval s = v) (hown : OwnP w base v pb l) (y : Pz) (g q : Nat) (ad : Int) (hx : a.eval x = .slice (some ⟨q, 0, none⟩) 1 1) (hq : q = w.heap.size)
    (hy : ad = ((y.k * 4096 : Nat) : Int)) (hk : ∀ p ∈ l, p.k ≠ y.k)
    (hn : l.length + 1 ≤ 1048576) (hbase : base ≤ w.heap.size)
    (h : ∀ v' w', OwnP w' base v' (upd pb y.k g) (l ++ [y]) → Turn (fun k => v.ownBlock = some k) w w' → wpList Try.prog ops Q rest (a.put o.dst v') w') :
    wpList Try.prog ops Q (o :: rest) a (w.alloc (.cells #[.int .u64 ad, .int .i64 y.may, .slice (some ⟨g, 0, none⟩) 4096 4096] 78)) := by
  subst hq
  subst hy
  obtain ⟨i0, hi, hz0, hz1', hz2⟩ := info_parts infoP3
  have hcy : y.cells (upd pb y.k g) = [.int .u64 ((y.k * 4096 : Nat) : Int), .int .i64 y.may, .slice (some ⟨g, 0, none⟩) 4096 4096] := by simp [Pz.cells, upd]
  refine wpList_append_own_at _ hgd s x 26 ho base 78 i0 _ 3 40 Try.underlying26 hi hz0 hz1' hz2 rfl (by decide) v l.length _ hs (hown.alloc _) ⟨w.heap.size, 0, none⟩ 1 1 (y.cells (upd pb y.k g)) hx rfl ?_ (by
    have := pzs_one (upd pb y.k g) [y]
    simpa [pzs] using this) (by unfold maxLen; omega) (by omega) (by simp; omega) ?_
  · intro j u hj
    rw [addr_add]
    simp only [World.cell?]
    rw [heap_last w _, Nat.zero_add]
    rw [hcy] at hj
    simpa using hj
  · intro v' w' hown' hgrow _ hat
    refine h v' w' ?_ (((Turn.refl _ w).alloc _).grown hgrow (fun k _ e => e))
    unfold OwnP
    rw [pzs_append, List.length_append, ← pzs_congr (pb := pb) (fun p hp => by simp [upd, hk p hp])]
    have e1 : pzs (upd pb y.k g) [y] = y.cells (upd pb y.k g) := by simp [pzs]
    rw [e1]
    exact hown'

/-- A new list, laid by, with new pages in it. -/
theorem RA.renew2 {w w1 : World} {rb : Nat} {lv v : Value} {pb pb' : Nat → Nat} {L L' : List Pz} (h : RA w rb lv pb L) (hb : Below w.heap.size w w1) (ho : OwnP w1 w.heap.size v pb' L')
    (hB : ∀ p ∈ L', w1.heap[pb' p.k]? = some (.cells (p.B.map (Value.int .u8)).toArray 5) ∧ ((p ∈ L ∧ pb' p.k = pb p.k) ∨ w.heap.size ≤ pb' p.k)) (hi : ∀ p ∈ L', ∀ q ∈ L', pb' p.k = pb' q.k → p.k = q.k) (hz : Mz L') :
    RX w (w1.setCell ⟨rb, 0, none⟩ v) rb lv pb L L' := by
  have hr := h.rlt
  have hc1 : w1.heap[rb]? = some (.cells #[lv] 28) := by rw [hb.block rb hr]; exact h.cells
  have hne : ∀ c, c ≠ rb → (w1.setCell ⟨rb, 0, none⟩ v).heap[c]? = w1.heap[c]? := fun c hne => Below.heap_setCell _ _ _ _ (by simpa using hne)
  refine ⟨v, pb', ⟨?_, ?_, fun p hp => ?_, hi, hz⟩, (Turn.of_below hb _).setCell _ (.inl (.inl rfl)) _, fun b hb' => ?_⟩
  · rw [setCell_eq_setRow w1 rb 0 _ _ _ v hc1, setRow_heap w1 rb _ _ _ _ hc1]
    rfl
  · have := ownsRow_setCell_below ho (a := ⟨rb, 0, none⟩) hr v
    refine ⟨this.1, ?_⟩
    rcases this.2 with hn | ⟨g, cap, cur, e1, e2, rest⟩
    · exact .inl hn
    · exact .inr ⟨g, cap, cur, e1, Nat.zero_le _, rest⟩
  · obtain ⟨h1, h2⟩ := hB p hp
    have hnr : pb' p.k ≠ rb := by
      rcases h2 with ⟨h3, h4⟩ | h3
      · rw [h4]; exact h.brb h3
      · omega
    rw [hne _ hnr]
    exact h1
  · rcases hb' with rfl | hb' | ⟨p, hp, rfl⟩
    · exact .inl (.inl rfl)
    · exact .inr (ho.lt b hb').1
    · rcases (hB p hp).2 with ⟨h3, h4⟩ | h3
      · exact .inl (.inr (.inr ⟨p, h3, h4⟩))
      · exact .inr h3

theorem rmap_named (rb a : Nat) (lv : Value) (pages may : Int) (w : World) (ha : a < 18446744073709551616) (hp : -9223372036854775808 ≤ pages ∧ pages ≤ 9223372036854775807) (hN : namE a pages may ≠ 0) :
    Calls Try.prog 29 #[.pointer (some ⟨rb, 0, none⟩), .int .u64 a, .int .i64 pages, .int .i64 may] w fun e w' => e = .returned (.int .i64 (namE a pages may)) ∧ w' = w := by
  have HN := wrong_any a pages may w ha hp
  generalize namE a pages may = q at *
  have q1 : (q == 0) = false := by simpa using hN
  have q2 : (q != 0) = true := by simpa using hN
  clear hN
  go_enter Try.func29, Try.ntmps29
  go_wp2_with (go_at_call 52; with_reducible refine HN.mono ?_; rintro e w1 ⟨he, hw⟩; subst he; subst hw)
  go_ret
  exact ⟨rfl, rfl⟩
end Go.Proofs.Ytpfmnopokfiheaa
