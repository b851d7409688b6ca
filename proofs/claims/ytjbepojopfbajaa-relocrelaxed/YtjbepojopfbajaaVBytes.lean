/- Rows of bytes: that came in, of the call's own, appended, as strings. Rows of other kinds of the call's own. -/
import Derived.Test.YtjbepojopfbajaaVVal
import Derived.OwnWalk
import Derived.Laws.OwnMore
import Derived.Laws.AppendOwnNone
import Derived.Deep.QuietTactic
import Derived.BigQuiet
namespace Go.Proofs.Ytjbepojopfbajaa
open Go.ChangeShapes Go.WideShapes Go.ChangeAt Go.RowKit
set_option linter.unusedVariables false
set_option linter.unusedSimpArgs false

theorem info5 : (Try.prog.info? 5).map (fun i => (i.zero, i.size, i.bytes)) = some (some (.int .u8 0), 1, 1) := by kernel_rfl

/-- Bytes that lie in memory. -/
def Row (w : World) (ao : Option Addr) (len : Nat) (bs : Nat → Int) : Prop :=
  len = 0 ∨ ∃ b off, ao = some ⟨b, off, none⟩ ∧ ∀ i, i < len → w.cell? ⟨b, off + i, none⟩ = some (.int .u8 (bs i))

theorem Row.below {w w' : World} {ao : Option Addr} {len : Nat} {bs : Nat → Int} (h : Row w ao len bs) {B : Nat} (hb : Below B w w') (hB : w.heap.size ≤ B) : Row w' ao len bs := by
  rcases h with h | ⟨b, off, e, h⟩
  · exact .inl h
  · refine .inr ⟨b, off, e, fun i hi => ?_⟩
    have h1 := h i hi
    rw [hb.cell (p := ⟨b, off + i, none⟩) (Nat.lt_of_lt_of_le (World.block_lt_of_cell? w ⟨b, off + i, none⟩ h1) hB)]
    exact h1

theorem Row.alloc {w : World} {ao : Option Addr} {len : Nat} {bs : Nat → Int} (h : Row w ao len bs) (o : Obj) : Row (w.alloc o) ao len bs :=
  h.below ((Below.refl _ _).alloc (Nat.le_refl _) o) (Nat.le_refl _)

theorem getD_byte {l : List Int} (h : ∀ x ∈ l, 0 ≤ x ∧ x < 256) (i : Nat) : 0 ≤ l.getD i 0 ∧ l.getD i 0 < 256 := by
  by_cases hi : i < l.length
  · have : l.getD i 0 = l[i] := by simp [hi]
    rw [this]; exact h _ (List.getElem_mem hi)
  · have : l.getD i 0 = 0 := by simp [List.getD, List.getElem?_eq_none (show l.length ≤ i by omega)]
    rw [this]; omega

/-- A row of bytes of the call's own, from block base on. -/
def Own (w : World) (base : Nat) (v : Value) (xs : List Int) : Prop := w.ownsRow base 5 1 v xs.length (xs.map (Value.int .u8))

theorem Own.nil (w : World) (base : Nat) : Own w base (.slice none 0 0) [] := World.ownsRow_nil _ _ _ _

theorem Own.block {w : World} {base : Nat} {v : Value} {xs : List Int} (h : Own w base v xs) : ∀ k, v.ownBlock = some k → base ≤ k := by
  intro k hk
  rcases h.2 with ⟨hv, _⟩ | ⟨g, cap, cur, hv, hb, _⟩
  · subst hv; cases hk
  · subst hv; simp [Value.ownBlock] at hk; omega

theorem append_byte {ops : Array Oper} {rest : List Oper} {o : Oper} {a : Act} {Q : Exit → Act → World → Prop} (w : World) (hgd : o.guard = none) (s x : Operand)
    (ho : o.op = .call { callee := .builtin .append, args := #[s, x], argTypes := #[44, 44] })
    (base : Nat) (v : Value) (xs : List Int) (hs : a.eval s = v) (hown : Own w base v xs) (b : Int) (hx : a.eval x = .slice (some ⟨w.heap.size, 0, none⟩) 1 1)
    (hn : xs.length + 1 ≤ 140737488355328) (hbase : base ≤ w.heap.size)
    (h : ∀ v' w', Own w' base v' (xs ++ [b]) → Below base w w' → wpList Try.prog ops Q rest (a.put o.dst v') w') :
    wpList Try.prog ops Q (o :: rest) a (w.alloc (.cells #[.int .u8 b] 5)) := by
  obtain ⟨i0, hi, hz0, hz1, hz2⟩ := info_parts info5
  refine wpList_append_own _ hgd s x 44 ho base 5 i0 (.int .u8 0) 1 1 Try.underlying44 hi hz0 hz1 hz2 rfl (by decide) v xs.length _ hs (hown.alloc _) ⟨w.heap.size, 0, none⟩ 1 1 [.int .u8 b] hx rfl ?_ ?_ (by unfold maxLen; omega) (by omega) (by simp; omega) ?_
  · intro j u hj
    match j, hj with
    | 0, hj => simp at hj; subst hj; simp [Addr.add]
  · intro u hu; simp at hu; subst hu; rfl
  · intro v' w' hown' hgrow _
    refine h v' w' ?_ (((Below.refl base w).alloc hbase _).grown hgrow (by simp; omega) hown.block)
    unfold Own
    simpa using hown'

/-- What a row of the call's own reads as: its address, and each byte's cell. -/
theorem Own.lies {w : World} {base : Nat} {v : Value} {xs : List Int} (h : Own w base v xs) (hne : 1 ≤ xs.length) :
    ∃ g cap, v = .slice (some ⟨g, 0, none⟩) xs.length cap ∧ base ≤ g ∧ g < w.heap.size ∧ ∀ i, i < xs.length → w.cell? ⟨g, i, none⟩ = some (.int .u8 (xs.getD i 0)) := by
  rcases h.2 with ⟨_, hn⟩ | ⟨g, cap, cur, hv, hb, hg, _⟩
  · omega
  · refine ⟨g, cap, hv, hb, ?_, ?_⟩
    · apply Classical.byContradiction
      intro hn
      rw [Array.getElem?_eq_none (by omega)] at hg
      cases hg
    · intro i hi
      subst hv
      have := h.cellAt i (by omega)
      rw [this]
      simp [hi]

theorem i64_bounds {a : Int} (h : (Lit.int .i64 a).wf = true) : -9223372036854775808 ≤ a ∧ a ≤ 9223372036854775807 := by
  simpa [Lit.wf, IntKind.min, IntKind.max, IntKind.signed, IntKind.bits] using h
theorem u8_bounds {a : Int} (h : (Lit.int .u8 a).wf = true) : 0 ≤ a ∧ a < 256 := by
  have : 0 ≤ a ∧ a ≤ 255 := by simpa [Lit.wf, IntKind.min, IntKind.max, IntKind.signed, IntKind.bits] using h
  omega

/-- A slice of bytes that came in: its bytes lie in memory, each is a byte. -/
structure IsRow (w : World) (ao : Option Addr) (len cap : Nat) (bs : Nat → Int) : Prop where
  row : Row w ao len bs
  byte : ∀ i, 0 ≤ bs i ∧ bs i < 256
  fit : len ≤ cap
  top : cap ≤ 9223372036854775807
  nil : ao = none → len = 0 ∧ cap = 0

theorem IsRow.none (w : World) : IsRow w Option.none 0 0 (fun _ => 0) := ⟨.inl rfl, fun _ => by omega, by omega, by omega, fun _ => ⟨rfl, rfl⟩⟩

theorem IsRow.some {w : World} {x : Addr} {len cap : Nat} {zs : List Int} {s : Bool} (hl : len ≤ cap) (hm : cap ≤ maxLen) (hz : zs.length = (if s = true then cap else len))
    (hcell : ∀ i, i < zs.length → w.cell? (x.add i) = Option.some (.int .u8 (zs.getD i 0))) (hwz : ∀ n ∈ zs, (Lit.int .u8 n).wf = true) : IsRow w (Option.some x) len cap (fun i => zs.getD i 0) := by
  have hlen : len ≤ zs.length := by rw [hz]; split <;> omega
  refine ⟨?_, fun i => getD_byte (fun n hn => u8_bounds (hwz n hn)) i, hl, by unfold maxLen at hm; omega, fun e => by cases e⟩
  by_cases h0 : len = 0
  · exact .inl h0
  · right
    obtain ⟨b, off, spot⟩ := x
    have hc := hcell 0 (by omega)
    have hspot : spot = Option.none := by simpa [Addr.add] using World.cell?_spot hc
    subst hspot
    refine ⟨b, off, rfl, fun i hi => ?_⟩
    have h1 := hcell i (by omega)
    have h2 : (⟨b, off, Option.none⟩ : Addr).add i = ⟨b, off + i, Option.none⟩ := by unfold Addr.add; split <;> simp_all
    rw [h2] at h1
    exact h1

/-- A written row: where it lies, in every later world. -/
theorem Own.row {w : World} {base : Nat} {v : Value} {xs : List Int} (h : Own w base v xs) (hne : 1 ≤ xs.length) :
    ∃ g cap, v = .slice (some ⟨g, 0, none⟩) xs.length cap ∧ xs.length ≤ cap ∧ cap ≤ 9223372036854775807 ∧ ∀ W, Below w.heap.size w W → Row W (some ⟨g, 0, none⟩) xs.length (fun i => xs.getD i 0) := by
  obtain ⟨g, cap, hv, _, hg, hc⟩ := h.lies hne
  have hcap : xs.length ≤ cap ∧ cap ≤ maxLen := by
    rcases h.2 with ⟨_, hn⟩ | ⟨g', cap', cur, hv', _, _, h1, h2, _⟩
    · omega
    · rw [hv] at hv'; cases hv'; exact ⟨h1, h2⟩
  refine ⟨g, cap, hv, hcap.1, by have := hcap.2; unfold maxLen at this; omega, fun W hb => .inr ⟨g, 0, rfl, fun i hi => ?_⟩⟩
  rw [Nat.zero_add, hb.cell (p := ⟨g, i, none⟩) hg]
  exact hc i hi

theorem Row.front {w : World} {ao : Option Addr} {len : Nat} {bs : Nat → Int} (h : Row w ao len bs) {m : Nat} (hm : m ≤ len) : Row w ao m bs := by
  rcases h with h | ⟨b, off, e, h⟩
  · exact .inl (by omega)
  · exact .inr ⟨b, off, e, fun i hi => h i (by omega)⟩

/-- The first m bytes, as a list. -/
def lst (bs : Nat → Int) (m : Nat) : List Int := (List.range m).map bs

theorem lst_len (bs : Nat → Int) (m : Nat) : (lst bs m).length = m := by simp [lst]
theorem lst_at (bs : Nat → Int) (m i : Nat) (h : i < m) : (lst bs m).getD i 0 = bs i := by simp [lst, h]
theorem lst_at? (bs : Nat → Int) (m i : Nat) (h : i < m) : (lst bs m)[i]? = some (bs i) := by simp [lst, h]

theorem addr_add (b off i : Nat) : (⟨b, off, none⟩ : Addr).add i = ⟨b, off + i, none⟩ := by unfold Addr.add; split <;> simp_all

theorem append_row {ops : Array Oper} {rest : List Oper} {o : Oper} {a : Act} {Q : Exit → Act → World → Prop} (w : World) (hgd : o.guard = none) (s x : Operand)
    (ho : o.op = .call { callee := .builtin .append, args := #[s, x], argTypes := #[44, 44] })
    (base g0 n0 cap0 : Nat) (xs : List Int) (hs : a.eval s = .slice (some ⟨g0, 0, none⟩) n0 cap0) (hown : Own w base (.slice (some ⟨g0, 0, none⟩) n0 cap0) xs)
    (ao : Option Addr) (m c : Nat) (bs : Nat → Int) (hx : a.eval x = .slice ao m c) (hr : Row w ao m bs) (hnil : ao = none → m = 0 ∧ c = 0)
    (k : Nat) (hk : k = n0 + m) (hn : xs.length + m ≤ 140737488355328) (hbase : base ≤ w.heap.size)
    (h : ∀ g cap w', Own w' base (.slice (some ⟨g, 0, none⟩) k cap) (xs ++ lst bs m) → k ≤ cap → cap ≤ 9223372036854775807 → Below base w w' → wpList Try.prog ops Q rest (a.put o.dst (.slice (some ⟨g, 0, none⟩) k cap)) w') :
    wpList Try.prog ops Q (o :: rest) a w := by
  obtain ⟨i0, hi, hz0, hz1, hz2⟩ := info_parts info5
  have hn0 : n0 = xs.length ∧ n0 ≤ cap0 ∧ cap0 ≤ maxLen := by
    rcases hown.2 with ⟨hv, _⟩ | ⟨g, cap, cur, hv, _, _, h1, h2, _⟩
    · cases hv
    · cases hv; exact ⟨rfl, h1, h2⟩
  cases ao with
  | none =>
    obtain ⟨rfl, rfl⟩ := hnil rfl
    refine wpList_append_own_none hgd s x 44 ho base 5 i0 1 Try.underlying44 hi _ _ _ hs hown hx ?_
    have := hn0.2.2
    unfold maxLen at this
    have hk' : k = n0 := by omega
    subst hk'
    exact h g0 cap0 w (by simpa [lst] using hown) (by omega) (by omega) (Below.refl _ _)
  | some ad =>
    refine wpList_append_own _ hgd s x 44 ho base 5 i0 (.int .u8 0) 1 1 Try.underlying44 hi hz0 hz1 hz2 rfl (by decide) _ xs.length _ hs hown ad m c ((lst bs m).map (Value.int .u8)) hx (by simp [lst]) ?_ ?_ (by unfold maxLen; omega) (by omega) hbase ?_
    · intro j u hj
      by_cases hjm : j < m
      · rcases hr with hr | ⟨b, off, e, hc⟩
        · omega
        · cases e
          rw [addr_add, hc j hjm]
          simp [lst_at? bs m j hjm] at hj
          rw [hj]
      · simp [lst, hjm] at hj
    · intro u hu
      simp at hu
      obtain ⟨z, _, rfl⟩ := hu
      rfl
    · intro v' w' hown' hgrow hnn
      have hown2 : Own w' base v' (xs ++ lst bs m) := by
        unfold Own
        simpa [lst_len] using hown'
      rcases hown2.2 with ⟨hv, _⟩ | ⟨g, cap, cur, hv, hb, hg, h1, h2, _⟩
      · have := hnn.1 hv; simp at this
      · rw [List.length_append, lst_len] at hv h1
        have hk' : xs.length + m = k := by omega
        rw [hk'] at hv h1
        unfold maxLen at h2
        subst hv
        exact h g cap w' hown2 h1 (by omega) ((Below.refl base w).grown hgrow hbase hown.block)

theorem Own.empty (w : World) (base : Nat) (hb : base ≤ w.heap.size) : Own (w.alloc (.cells #[] 5)) base (.slice (some ⟨w.heap.size, 0, none⟩) 0 0) [] := by
  refine ⟨rfl, .inr ⟨w.heap.size, 0, #[], rfl, hb, ?_, Nat.le_refl _, by unfold maxLen; omega, rfl, rfl⟩⟩
  show (w.heap.push _)[w.heap.size]? = _
  simp

/-- A row, turned into a string. -/
theorem conv_row (w : World) (ao : Option Addr) (m c : Nat) (bs : Nat → Int) (hr : Row w ao m bs) (hnil : ao = none → m = 0) :
    Sem.run Try.prog (convert 44 9 (.slice ao m c)) w = .ok (.string (strOfNums (lst bs m))) w := by
  cases ao with
  | none =>
    obtain rfl := hnil rfl
    exact run_convert_bytes_nil (P := Try.prog) w 44 5 Try.underlying44 Try.underlying5 0 c 9 Try.underlying9
  | some ad =>
    by_cases h0 : m = 0
    · subst h0
      rw [run_convert_bytes_string w _ 9 5 _ 0 c Try.underlying44 Try.underlying5 Try.underlying9,
        run_bytesToString w ad 0 c [] (run_loadCells_list (P := Try.prog) w ad [] (by intro j v hj; simp at hj))]
      rfl
    · rcases hr with hr | ⟨b, off, e, hc⟩
      · exact absurd hr h0
      · cases e
        exact run_convert_bytes_arg (P := Try.prog) w 44 5 Try.underlying44 Try.underlying5 b off m c (lst bs m) (lst_len bs m) (fun i hi => by rw [hc i hi, lst_at bs m i hi]) 9 Try.underlying9


end Go.Proofs.Ytjbepojopfbajaa
