/- The document's Lines and All. -/
import Derived.Test.YtljmbgflcidokaaGreatDoorLxLine
namespace Go.Proofs.YtljmbgflcidokaaGreatDoor
open Go.ChangeShapes Go.WideShapes Go.ChangeAt Go.RowKit
set_option linter.unusedVariables false
set_option linter.unusedSimpArgs false

/-- Strings that lie in memory. -/
def Strs (w : World) (ao : Option Addr) (l : List ByteArray) : Prop :=
  l = [] ∨ ∃ b off, ao = some ⟨b, off, none⟩ ∧ ∀ i, i < l.length → w.cell? ⟨b, off + i, none⟩ = some (.string (l.getD i ByteArray.empty))
theorem Strs.below {w w' : World} {ao : Option Addr} {l : List ByteArray} (h : Strs w ao l) {B : Nat} (hb : Below B w w') (hB : w.heap.size ≤ B) : Strs w' ao l := by
  rcases h with h | ⟨b, off, e, h⟩
  · exact .inl h
  · refine .inr ⟨b, off, e, fun i hi => ?_⟩
    have h1 := h i hi
    rw [hb.cell (p := ⟨b, off + i, none⟩) (Nat.lt_of_lt_of_le (World.block_lt_of_cell? w ⟨b, off + i, none⟩ h1) hB)]
    exact h1
/-- A row of strings of the call's own. -/
def OwnS (w : World) (base : Nat) (v : Value) (l : List ByteArray) : Prop := w.ownsRow base 9 1 v l.length (l.map Value.string)
theorem OwnS.nil (w : World) (base : Nat) : OwnS w base (.slice none 0 0) [] := World.ownsRow_nil _ _ _ _
theorem OwnS.any {w : World} {base : Nat} {v : Value} {l : List ByteArray} (h : OwnS w base v l) : ∃ ao cap, v = .slice ao l.length cap ∧ Strs w ao l := by
  rcases h.2 with ⟨hv, hn⟩ | ⟨g, cap, cur, hv, _, hg, h1, h2, _⟩
  · obtain rfl : l = [] := List.eq_nil_of_length_eq_zero hn
    exact ⟨none, 0, hv, .inl rfl⟩
  · refine ⟨_, cap, hv, .inr ⟨g, 0, rfl, fun i hi => ?_⟩⟩
    subst hv
    have := h.cellAt i (by omega)
    rw [Nat.zero_add, this]
    simp [hi]
theorem infoS : (Tryz.prog.info? 9).map (fun i => (i.zero, i.size, i.bytes)) = some (some (.string ⟨#[]⟩), 1, 16) := by kernel_rfl
theorem append_s {ops : Array Oper} {rest : List Oper} {o : Oper} {a : Act} {Q : Exit → Act → World → Prop} (w : World) (hgd : o.guard = none) (s x : Operand)
    (ho : o.op = .call { callee := .builtin .append, args := #[s, x], argTypes := #[57, 57] })
    (base : Nat) (v : Value) (l : List ByteArray) (hs : a.eval s = v) (hown : OwnS w base v l) (b : ByteArray) (hx : a.eval x = .slice (some ⟨w.heap.size, 0, none⟩) 1 1)
    (hn : l.length + 1 ≤ 8796093022208) (hbase : base ≤ w.heap.size)
    (h : ∀ v' w', OwnS w' base v' (l ++ [b]) → Below base w w' → wpList Tryz.prog ops Q rest (a.put o.dst v') w') :
    wpList Tryz.prog ops Q (o :: rest) a (w.alloc (.cells #[.string b] 9)) := by
  obtain ⟨i0, hi, hz0, hz1, hz2⟩ := info_parts infoS
  refine wpList_append_own _ hgd s x 57 ho base 9 i0 (.string ⟨#[]⟩) 1 16 Tryz.underlying57 hi hz0 hz1 hz2 rfl (by decide) v l.length _ hs (World.ownsRow.alloc hown _) ⟨w.heap.size, 0, none⟩ 1 1 [.string b] hx rfl ?_ ?_ (by unfold maxLen; omega) (by omega) (by simp; omega) ?_
  · intro j u hj
    match j, hj with
    | 0, hj => simp at hj; subst hj; simp [Addr.add]
  · intro u hu; simp at hu; subst hu; rfl
  · intro v' w' hown' hgrow _
    refine h v' w' ?_ (((Below.refl base w).alloc hbase _).grown hgrow (by simp; omega) (own_block hown))
    unfold OwnS
    simpa using hown'

theorem OwnT.lower {w : World} {base base' : Nat} {v : Value} {l : List TL} (h : OwnT w base v l) (hb : base' ≤ base) : OwnT w base' v l := by
  rcases h with ⟨h1, h2⟩
  refine ⟨h1, ?_⟩
  rcases h2 with h | ⟨g, cap, cur, h3, h4, h5⟩
  · exact .inl h
  · exact .inr ⟨g, cap, cur, h3, Nat.le_trans hb h4, h5⟩
/-- So far: these lines, and the rest from i on, behind acc. -/
theorem lines_all (l : List UInt8) : ∀ (acc : List UInt8), (linesF l acc).length ≤ l.length + 1 ∧ ∀ s ∈ linesF l acc, s.length ≤ acc.length + l.length := by
  induction l with
  | nil =>
    intro acc
    unfold linesF
    split
    · simp
    · simp
  | cons c r ih =>
    intro acc
    unfold linesF
    split
    · have := ih []
      refine ⟨by simp; omega, fun s hs => ?_⟩
      rcases List.mem_cons.1 hs with rfl | hs
      · simp
      · have := this.2 s hs
        simp at this ⊢; omega
    · have := ih (acc ++ [c])
      refine ⟨by simp; omega, fun s hs => ?_⟩
      have := this.2 s hs
      simp at this ⊢; omega

theorem sub_snoc (s : ByteArray) (f i : Nat) (hf : f ≤ i) (hi : i < s.size) : ((lo s).drop f).take (i + 1 - f) = ((lo s).drop f).take (i - f) ++ [s[i]] := by
  have h' : i - f < ((lo s).drop f).length := by rw [List.length_drop, lo_len]; omega
  rw [show i + 1 - f = (i - f) + 1 by omega, List.take_succ_eq_append_getElem h', List.getElem_drop]
  congr 2
  have : f + (i - f) = i := by omega
  simp only [this]; rfl

theorem lineF_len : ∀ (n : Nat) (l : List UInt8) (ts : List Tok), lineF n l = some ts → ts.length ≤ l.length
  | 0, l, ts, h => by cases h; simp
  | n + 1, [], ts, h => by cases h; simp
  | n + 1, c :: r, ts, h => by
    unfold lineF at h
    split at h
    · cases h; simp
    · split at h
      · have := lineF_len n r ts h
        simp; omega
      · split at h
        · cases h
        · rename_i t k ho
          simp only [Option.map_eq_some_iff] at h
          obtain ⟨ts', h', rfl⟩ := h
          have := lineF_len n _ ts' h'
          have hk := one_len ho
          rw [List.length_drop] at this
          simp only [List.length_cons] at this hk ⊢
          omega
theorem line_len {l : List UInt8} {ts : List Tok} (h : lineM l = some ts) : ts.length ≤ l.length + 1 := by
  unfold lineM at h
  simp only [Option.map_eq_some_iff] at h
  obtain ⟨ts', h', rfl⟩ := h
  have := lineF_len _ _ _ h'
  split
  · simp
  · simp; omega

/-- How All ends. -/
def AEnds (m : Except (Int × Int) (List TL)) (w : World) (e : Ending) (w' : World) : Prop :=
  match m with
  | .error p => e = .returned (.tuple #[.slice none 0 0, .int .i64 p.1, .int .i64 p.2]) ∧ Below w.heap.size w w'
  | .ok ts => ∃ v, e = .returned (.tuple #[v, .int .i64 0, .int .i64 0]) ∧ OwnT w' w.heap.size v ts ∧ Below w.heap.size w w'
theorem aends_err {M : Except (Int × Int) (List TL)} {k x a b : Int} (h : M = .error (k, x)) (ha : a = k) (hx : b = x) {w w' : World} (hw : Below w.heap.size w w') : AEnds M w (.returned (.tuple #[.slice none 0 0, .int .i64 a, .int .i64 b])) w' := by
  subst h; subst ha; subst hx; exact ⟨rfl, hw⟩

def CFar (L : List (List UInt8)) (C : Except Int (List TL)) (j : Nat) (acc : List TL) : Prop := C = cutF (L.drop j) (j + 1) acc

end Go.Proofs.YtljmbgflcidokaaGreatDoor
