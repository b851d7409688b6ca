/- Several rows of the call's own, that grow one by one. -/
import Derived.Test.YtojiomkinhnodaaSTable
import Derived.Test.YtojiomkinhnodaaSLaw
import Derived.Maps.AppendAt
namespace Go.Proofs.Ytojiomkinhnodaa
open Go.ChangeShapes Go.WideShapes Go.ChangeAt Go.RowKit
set_option linter.unusedVariables false
set_option linter.unusedSimpArgs false

/-- Two rows that lie in blocks of their own. -/
def Apart (u v : Value) : Prop := ∀ k, u.ownBlock = some k → v.ownBlock ≠ some k
theorem Apart.symm {u v : Value} (h : Apart u v) : Apart v u := fun k h1 h2 => h k h2 h1
theorem Apart.nil (v : Value) : Apart (.slice none 0 0) v := fun k h => by cases h

/-- One row has grown: from v to v'. -/
structure Step (w w' : World) (v v' : Value) : Prop where
  turn : Turn (fun k => v.ownBlock = some k) w w'
  at' : ∀ k, v'.ownBlock = some k → v.ownBlock = some k ∨ w.heap.size ≤ k

theorem Step.keep {w w' : World} {v v' : Value} (st : Step w w' v v') {B e s n : Nat} {u : Value} {xs : List Value} (hr : w.ownsRow B e s u n xs) (ha : Apart u v) : w'.ownsRow B e s u n xs ∧ Apart u v' :=
  ⟨st.turn.row hr (fun k hk => ha k hk), fun k hk hv => by
    rcases st.at' k hv with h | h
    · exact ha k hk h
    · have := (hr.lt k hk).2
      omega⟩
theorem Step.below {w w' : World} {v v' : Value} (st : Step w w' v v') {base e s n : Nat} {xs : List Value} (hr : w.ownsRow base e s v n xs) (hb : base ≤ w.heap.size) : Below base w w' :=
  st.turn.below hb (fun k hk => (hr.lt k hk).1)

theorem own_apart' {w : World} {base base' e e' s s' n m : Nat} {v u : Value} {xs ys : List Value} (hne : e ≠ e') (h : w.ownsRow base e s v n xs) (g : w.ownsRow base' e' s' u m ys) : Apart u v := by
  intro k hu hv
  rcases own_apart hne h g with h1 | h1
  · rw [h1] at hu; cases hu
  · exact h1 (by rw [hu, hv])

/-- append of one value onto a row of the call's own. -/
theorem append_g {ops : Array Oper} {rest : List Oper} {o : Oper} {a : Act} {Q : Exit → Act → World → Prop} (w : World) (hgd : o.guard = none) (s x : Operand) (t e : TypeId) (z : Value) (bytes : Nat)
    (ho : o.op = .call { callee := .builtin .append, args := #[s, x], argTypes := #[t, t] }) (ht : Try.prog.underlying t = some (.slice e))
    (hinf : (Try.prog.info? e).map (fun i => (i.zero, i.size, i.bytes)) = some (some z, 1, bytes)) (hz1 : z.cells.size = 1)
    (base : Nat) (v : Value) (n : Nat) (xs : List Value) (hs : a.eval s = v) (hown : w.ownsRow base e 1 v n xs) (y : Value) (hy : y.oneCell' = true) (hx : a.eval x = .slice (some ⟨w.heap.size, 0, none⟩) 1 1)
    (hn : n + 1 ≤ maxLen) (hb : (n + 1) * bytes ≤ 140737488355328) (hbase : base ≤ w.heap.size)
    (h : ∀ v' w', w'.ownsRow base e 1 v' (n + 1) (xs ++ [y]) → Step w w' v v' → wpList Try.prog ops Q rest (a.put o.dst v') w') :
    wpList Try.prog ops Q (o :: rest) a (w.alloc (.cells #[y] e)) := by
  obtain ⟨i0, hi, hz0, hz1', hz2⟩ := info_parts hinf
  refine wpList_append_own_at _ hgd s x t ho base e i0 z 1 bytes ht hi hz0 hz1' hz2 hz1 (by decide) v n xs hs (hown.alloc _) ⟨w.heap.size, 0, none⟩ 1 1 [y] hx rfl (cell_one_new w y e) (fun u hu => by simp at hu; subst hu; exact hy) hn hb (by simp; omega) ?_
  intro v' w' hown' hgrow _ hat
  refine h v' w' hown' ⟨((Turn.refl _ w).alloc _).grown hgrow (fun k _ e => e), fun k hk => ?_⟩
  rcases hat with e | e
  · rw [e] at hk; exact .inl hk
  · rw [e] at hk
    simp at hk
    right; omega

theorem info9 : (Try.prog.info? 9).map (fun i => (i.zero, i.size, i.bytes)) = some (some (.string ⟨#[]⟩), 1, 16) := by kernel_rfl

/-- A row of names of the call's own. -/
def OwnS (w : World) (base : Nat) (v : Value) (l : List ByteArray) : Prop := w.ownsRow base 9 1 v l.length (l.map Value.string)
theorem OwnS.nil (w : World) (base : Nat) : OwnS w base (.slice none 0 0) [] := World.ownsRow_nil _ _ _ _
theorem OwnS.any {w : World} {base : Nat} {v : Value} {l : List ByteArray} (h : OwnS w base v l) :
    ∃ ao cap, v = .slice ao l.length cap ∧ l.length ≤ cap ∧ cap ≤ 9223372036854775807 ∧ Strs w ao l ∧ (ao = none → l = [] ∧ cap = 0) := by
  rcases h.2 with ⟨hv, hn⟩ | ⟨g, cap, cur, hv, _, hg, h1, h2, _⟩
  · have hl : l = [] := List.eq_nil_of_length_eq_zero hn
    subst hl
    exact ⟨none, 0, hv, Nat.le_refl _, by omega, .inl rfl, fun _ => ⟨rfl, rfl⟩⟩
  · refine ⟨_, cap, hv, h1, by unfold maxLen at h2; omega, ?_, (fun e => by cases e)⟩
    right
    refine ⟨g, 0, rfl, fun i hi => ?_⟩
    subst hv
    have := h.cellAt i (by omega)
    rw [Nat.zero_add, this]
    simp [hi]

/-- append of one name, of one int. -/
theorem append_name {ops : Array Oper} {rest : List Oper} {o : Oper} {a : Act} {Q : Exit → Act → World → Prop} (w : World) (hgd : o.guard = none) (s x : Operand)
    (ho : o.op = .call { callee := .builtin .append, args := #[s, x], argTypes := #[67, 67] })
    (base : Nat) (v : Value) (l : List ByteArray) (hs : a.eval s = v) (hown : OwnS w base v l) (y : ByteArray) (hx : a.eval x = .slice (some ⟨w.heap.size, 0, none⟩) 1 1)
    (hn : l.length + 1 ≤ 8796093022208) (hbase : base ≤ w.heap.size)
    (h : ∀ v' w', OwnS w' base v' (l ++ [y]) → Step w w' v v' → wpList Try.prog ops Q rest (a.put o.dst v') w') :
    wpList Try.prog ops Q (o :: rest) a (w.alloc (.cells #[.string y] 9)) := by
  refine append_g w hgd s x 67 9 _ 16 ho Try.underlying67 info9 rfl base v _ _ hs hown (.string y) rfl hx (by unfold maxLen; omega) (by omega) hbase ?_
  intro v' w' h1 h2
  refine h v' w' ?_ h2
  unfold OwnS
  simpa using h1

theorem append_int {ops : Array Oper} {rest : List Oper} {o : Oper} {a : Act} {Q : Exit → Act → World → Prop} (w : World) (hgd : o.guard = none) (s x : Operand)
    (ho : o.op = .call { callee := .builtin .append, args := #[s, x], argTypes := #[48, 48] })
    (base : Nat) (v : Value) (xs : List Int) (hs : a.eval s = v) (hown : OwnI w base v xs) (k : Int) (hx : a.eval x = .slice (some ⟨w.heap.size, 0, none⟩) 1 1)
    (hn : xs.length + 1 ≤ 17592186044416) (hbase : base ≤ w.heap.size)
    (h : ∀ v' w', OwnI w' base v' (xs ++ [k]) → Step w w' v v' → wpList Try.prog ops Q rest (a.put o.dst v') w') :
    wpList Try.prog ops Q (o :: rest) a (w.alloc (.cells #[.int .i64 k] 3)) := by
  refine append_g w hgd s x 48 3 _ 8 ho Try.underlying48 info3 rfl base v _ _ hs hown (.int .i64 k) rfl hx (by unfold maxLen; omega) (by omega) hbase ?_
  intro v' w' h1 h2
  refine h v' w' ?_ h2
  unfold OwnI
  simpa using h1

/-- Names that came in, copied behind a row of the call's own. -/
theorem append_names {ops : Array Oper} {rest : List Oper} {o : Oper} {a : Act} {Q : Exit → Act → World → Prop} (w : World) (hgd : o.guard = none) (s x : Operand)
    (ho : o.op = .call { callee := .builtin .append, args := #[s, x], argTypes := #[67, 67] })
    (base : Nat) (v : Value) (l : List ByteArray) (hs : a.eval s = v) (hown : OwnS w base v l) (ao : Option Addr) (c : Nat) (m : List ByteArray) (hx : a.eval x = .slice ao m.length c) (hr : Strs w ao m) (hnil : ao = none → m = [] ∧ c = 0)
    (hn : l.length + m.length ≤ 8796093022208) (hbase : base ≤ w.heap.size)
    (h : ∀ v' w', OwnS w' base v' (l ++ m) → Below base w w' → wpList Try.prog ops Q rest (a.put o.dst v') w') :
    wpList Try.prog ops Q (o :: rest) a w := by
  obtain ⟨i0, hi, hz0, hz1, hz2⟩ := info_parts info9
  cases ao with
  | none =>
    obtain ⟨rfl, rfl⟩ := hnil rfl
    refine wpList_append_own_none hgd s x 67 ho base 9 i0 1 Try.underlying67 hi _ _ _ hs hown hx ?_
    exact h v w (by simpa using hown) (Below.refl _ _)
  | some ad =>
    refine wpList_append_own _ hgd s x 67 ho base 9 i0 _ 1 16 Try.underlying67 hi hz0 hz1 hz2 rfl (by decide) _ l.length _ hs hown ad m.length c (m.map Value.string) hx (by simp) ?_ ?_ (by unfold maxLen; omega) (by omega) hbase ?_
    · intro j u hj
      by_cases hjm : j < m.length
      · rcases hr with hr | ⟨b, off, e, hc⟩
        · subst hr; simp at hjm
        · cases e
          rw [addr_add, hc j hjm]
          simp [hjm] at hj
          simp [hjm, hj]
      · simp [hjm] at hj
    · intro u hu
      simp at hu
      obtain ⟨z, _, rfl⟩ := hu
      rfl
    · intro v' w' hown' hgrow hnn
      refine h v' w' ?_ ((Below.refl base w).grown hgrow hbase (own_block hown))
      unfold OwnS
      simpa using hown'
end Go.Proofs.Ytojiomkinhnodaa
