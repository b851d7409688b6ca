/- What a map that a call makes holds, by what was stored. -/
import Derived.Test.YtdgejingoamfeaaDoorItoa
import Derived.Maps.OwnSet
import Derived.Maps.OwnOps
namespace Go.Proofs.YtdgejingoamfeaaDoor
open Go.ChangeShapes Go.WideShapes Go.ChangeAt Go.RowKit Go.Maps
set_option linter.unusedVariables false
set_option linter.unusedSimpArgs false

/-- An element reads as itself. -/
def RV (v : Value) : Option (DataW Value × List MemPlace) := some (.held v, [])
/-- A key's reading. -/
def kl (s : ByteArray) : Lit := .string s.data.toList
theorem kl_inj {s t : ByteArray} (h : kl s = kl t) : s = t := by
  unfold kl at h
  injection h with h
  exact ByteArray.ext (Array.toList_inj.1 h)
theorem kl_key (s : ByteArray) : WideAt.IsKeyLit (kl s) := trivial
theorem law9 : Keyed Tryd.prog 9 := string_keyed Tryd.underlying9
theorem key9 {s : ByteArray} (h : s.size ≤ 1000000) : keyOf Tryd.prog 9 (.string s) = some (kl s) := WideMaps.keyOf_string_mk Tryd.underlying9 (by unfold maxLen; omega)

/-- The map D holds just what E says. -/
structure Inv (D : DataW Value) (E : ByteArray → Value → Prop) : Prop where
  m : IsMap D
  snd : ∀ t z, has D (kl t) = true → ∃ v, E t v ∧ D.atKey (kl t) z = .held v
  cmp : ∀ t v, E t v → has D (kl t) = true

theorem Inv.none {E : ByteArray → Value → Prop} (h : ∀ t v, ¬ E t v) : Inv (.map []) E :=
  ⟨isMap_empty, fun t z ht => absurd ht (by simp [has]), fun t v e => absurd e (h t v)⟩

theorem Inv.put {D : DataW Value} {E E' : ByteArray → Value → Prop} (h : Inv D E) (s : ByteArray) (v : Value) (hE : ∀ t u, E' t u ↔ E t u ∨ (t = s ∧ u = v)) : Inv (D.put (kl s) (.held v)) E' := by
  refine ⟨h.m.put _ _, fun t z ht => ?_, fun t u e => ?_⟩
  · by_cases e : kl t = kl s
    · rw [e, atKey_put_same h.m (kl_key s)]
      exact ⟨v, (hE t v).2 (.inr ⟨kl_inj e, rfl⟩), rfl⟩
    · rw [has_put_other e] at ht
      rw [atKey_put_other e]
      obtain ⟨u, hu, hv⟩ := h.snd t z ht
      exact ⟨u, (hE t u).2 (.inl hu), hv⟩
  · rcases (hE t u).1 e with e | ⟨rfl, rfl⟩
    · by_cases e' : kl t = kl s
      · rw [e', has_put_same h.m (kl_key s)]
      · rw [has_put_other e']; exact h.cmp t u e
    · exact has_put_same h.m (kl_key _) _

theorem Inv.congr {D : DataW Value} {E E' : ByteArray → Value → Prop} (h : Inv D E) (hE : ∀ t u, E t u ↔ E' t u) : Inv D E' :=
  ⟨h.m, fun t z ht => (h.snd t z ht).imp fun v hv => ⟨(hE t v).1 hv.1, hv.2⟩, fun t v e => h.cmp t v ((hE t v).2 e)⟩

theorem held_inj {v u : Value} {d : DataW Value} {ps : List MemPlace} (h : RV v = some (d, ps)) (hu : d = .held u) : v = u := by
  subst hu
  have h1 := congrArg Prod.fst (Option.some.inj h)
  exact DataW.held.inj h1

/-- A look-up whose answer is known. -/
theorem wpList_look_held {ops : Array Oper} {rest : List Oper} {o : Oper} {a : Act} {w : World} {Q : Exit → Act → World → Prop} (hg : o.guard = none) (m x : Operand) (t : TypeId) (hop : o.op = Op.lookup t m x true)
    (e : TypeId) (ht : Tryd.prog.underlying t = some (.map 9 e)) {z : Value} (hz : (zeroValue e).run Tryd.prog w = .ok z w) (b n : Nat) (D : DataW Value)
    (hm : a.eval m = .map (some b)) (hown : w.ownsMap Tryd.prog 9 RV b n D) (s : ByteArray) (hx : a.eval x = .string s) (hs : s.size ≤ maxLen) (q : Bool) (u : Value) (hq : has D (kl s) = q) (hu : D.atKey (kl s) (.held z) = .held u)
    (hK : wpList Tryd.prog ops Q rest (a.put o.dst (.tuple #[u, .bool q])) w) :
    wpList Tryd.prog ops Q (o :: rest) a w :=
  wpList_lookup_own_ok w hg m x t hop 9 e law9 ht RV hz (.held z) [] rfl b n D hm hown (.string s) (kl s) hx (WideMaps.keyOf_string_mk Tryd.underlying9 hs) (fun v ps hv => by
    have : v = u := held_inj hv hu
    subst this
    rw [hq]
    exact hK)
end Go.Proofs.YtdgejingoamfeaaDoor
