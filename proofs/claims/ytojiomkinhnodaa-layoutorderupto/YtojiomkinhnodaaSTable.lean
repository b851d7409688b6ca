/- A table of names: what lies in memory; the contracts of newTable and place. -/
import Derived.Test.YtojiomkinhnodaaSBytes
import Derived.Test.YtojiomkinhnodaaSNames
import Derived.Maps.OwnSet
import Derived.Maps.OwnOps
namespace Go.Proofs.Ytojiomkinhnodaa
open Go.ChangeShapes Go.WideShapes Go.ChangeAt Go.RowKit Go.Maps
set_option linter.unusedVariables false
set_option linter.unusedSimpArgs false

/-- An element reads as itself. -/
def RV (v : Value) : Option (DataW Value × List MemPlace) := some (.held v, [])
/-- A key's reading. -/
def kl (s : ByteArray) : Lit := .string s.data.toList
theorem kl_inj {s t : ByteArray} (h : kl s = kl t) : s = t := by
  unfold kl at h
  injection h with h
  exact ByteArray.ext (Array.toList_inj.1 h)
theorem kl_key (s : ByteArray) : WideAt.IsKeyLit (kl s) := trivial
theorem law9 : Keyed Try.prog 9 := string_keyed Try.underlying9
theorem key9 {s : ByteArray} (h : s.size ≤ maxLen) : keyOf Try.prog 9 (.string s) = some (kl s) := WideMaps.keyOf_string_mk Try.underlying9 h

/-- The map D holds just what m says. -/
structure Inv (D : DataW Value) (m : ByteArray → Option Int) : Prop where
  is : IsMap D
  at' : ∀ t, has D (kl t) = (m t).isSome ∧ D.atKey (kl t) (.held (.int .i64 0)) = .held (.int .i64 ((m t).getD 0))

def mput (m : ByteArray → Option Int) (s : ByteArray) (p : Int) (t : ByteArray) : Option Int := if t = s then some p else m t

theorem Inv.none : Inv (.map []) (fun _ => Option.none) :=
  ⟨isMap_empty, fun t => ⟨by simp [has], by rw [atKey_of_not_has (by simp [has])]; rfl⟩⟩

theorem Inv.put {D : DataW Value} {m : ByteArray → Option Int} (h : Inv D m) (s : ByteArray) (p : Int) : Inv (D.put (kl s) (.held (.int .i64 p))) (mput m s p) := by
  refine ⟨h.is.put _ _, fun t => ?_⟩
  unfold mput
  by_cases e : t = s
  · subst e
    rw [if_pos rfl, has_put_same h.is (kl_key _), atKey_put_same h.is (kl_key _)]
    exact ⟨rfl, rfl⟩
  · have e' : kl t ≠ kl s := fun h => e (kl_inj h)
    rw [if_neg e, has_put_other e', atKey_put_other e']
    exact h.at' t

theorem held_inj {v u : Value} {d : DataW Value} {ps : List MemPlace} (h : RV v = some (d, ps)) (hu : d = .held u) : v = u := by
  subst hu
  have h1 := congrArg Prod.fst (Option.some.inj h)
  exact DataW.held.inj h1

/-- A look-up whose answer is known. -/
theorem wpList_look_held {ops : Array Oper} {rest : List Oper} {o : Oper} {a : Act} {w : World} {Q : Exit → Act → World → Prop} (hg : o.guard = none) (m x : Operand) (t : TypeId) (hop : o.op = Op.lookup t m x true)
    (e : TypeId) (ht : Try.prog.underlying t = some (.map 9 e)) {z : Value} (hz : (zeroValue e).run Try.prog w = .ok z w) (b n : Nat) (D : DataW Value)
    (hm : a.eval m = .map (some b)) (hown : w.ownsMap Try.prog 9 RV b n D) (s : ByteArray) (hx : a.eval x = .string s) (hs : s.size ≤ maxLen) (q : Bool) (u : Value) (hq : has D (kl s) = q) (hu : D.atKey (kl s) (.held z) = .held u)
    (hK : wpList Try.prog ops Q rest (a.put o.dst (.tuple #[u, .bool q])) w) :
    wpList Try.prog ops Q (o :: rest) a w :=
  wpList_lookup_own_ok w hg m x t hop 9 e law9 ht RV hz (.held z) [] rfl b n D hm hown (.string s) (kl s) hx (WideMaps.keyOf_string_mk Try.underlying9 hs) (fun v ps hv => by
    have : v = u := held_inj hv hu
    subst this
    rw [hq]
    exact hK)

/-- An entry of a map that is written out. -/
theorem wpList_insert_own {H : Type} {P : Program} (w : World) {ops : Array Oper} {rest : List Oper} {o : Oper} {a : Act} {Q : Exit → Act → World → Prop}
    (hg : o.guard = none) (m x v : Operand) (t : TypeId) (hop : o.op = Op.insert t m x v)
    (k e : TypeId) (K : Keyed P k) (ht : P.underlying t = some (.map k e)) (R : Value → Option (DataW H × List MemPlace)) (b n : Nat) (D : DataW H)
    (hm : a.eval m = .map (some b)) (hown : w.ownsMap P k R b n D) (hn : n < maxLen) (key val : Value) (kl : Lit) (hx : a.eval x = key) (hv : a.eval v = val) (hkey : keyOf P k key = some kl)
    (d : DataW H) (ps : List MemPlace) (hval : R val = some (d, ps))
    (hK : ∀ w', w'.ownsMap P k R b (n + 1) (D.put kl d) → w.grownBy w' (some b) → wpList P ops Q rest (a.put o.dst undef) w') :
    wpList P ops Q (o :: rest) a w := by
  refine wpList_plain hg fun K' hK' => ?_
  obtain ⟨w', hrun, r1, r2⟩ := hown.update K ht hn hkey hval
  unfold Oper.wp
  simp [execOp, hop, hm, hx, hv, hrun, Result.andThen]
  exact hK' _ _ (hK w' r1 r2)

/-- What has turned: the blocks of S, and none that was there beside them. -/
structure Turn (S : Nat → Prop) (w w' : World) : Prop where
  os : w'.os = w.os
  tape : w'.tape = w.tape
  output : w'.output = w.output
  size : w.heap.size ≤ w'.heap.size
  block : ∀ k, k < w.heap.size → ¬ S k → w'.heap[k]? = w.heap[k]?

theorem Turn.refl (S : Nat → Prop) (w : World) : Turn S w w := ⟨rfl, rfl, rfl, Nat.le_refl _, fun _ _ _ => rfl⟩
theorem Turn.trans {S : Nat → Prop} {a b c : World} (h : Turn S a b) (k : Turn S b c) : Turn S a c :=
  ⟨k.os.trans h.os, k.tape.trans h.tape, k.output.trans h.output, Nat.le_trans h.size k.size, fun i hi hs => (k.block i (Nat.lt_of_lt_of_le hi h.size) hs).trans (h.block i hi hs)⟩
/-- What turns anew may be of the call's own, too. -/
theorem Turn.trans' {S S' : Nat → Prop} {a b c : World} (h : Turn S a b) (k : Turn S' b c) (hs : ∀ i, i < a.heap.size → S' i → S i) : Turn S a c :=
  ⟨k.os.trans h.os, k.tape.trans h.tape, k.output.trans h.output, Nat.le_trans h.size k.size, fun i hi hn => (k.block i (Nat.lt_of_lt_of_le hi h.size) (fun e => hn (hs i hi e))).trans (h.block i hi hn)⟩
theorem Turn.mono {S S' : Nat → Prop} {w w' : World} (h : Turn S w w') (hs : ∀ k, k < w.heap.size → S k → S' k) : Turn S' w w' :=
  ⟨h.os, h.tape, h.output, h.size, fun k hk hn => h.block k hk (fun e => hn (hs k hk e))⟩
theorem Turn.grown {S : Nat → Prop} {a w w' : World} {row : Option Nat} (h : Turn S a w) (hg : w.grownBy w' row) (hr : ∀ k, k < a.heap.size → row = some k → S k) : Turn S a w' :=
  ⟨hg.os.trans h.os, hg.tape.trans h.tape, hg.output.trans h.output, Nat.le_trans h.size hg.size, fun k hk hn => (hg.block k (Nat.lt_of_lt_of_le hk h.size) (fun e => hn (hr k hk e.symm))).trans (h.block k hk hn)⟩
theorem Turn.alloc {S : Nat → Prop} {a w : World} (h : Turn S a w) (o : Obj) : Turn S a (w.alloc o) :=
  h.grown (World.grownBy_alloc w o none) (fun _ _ e => by cases e)
theorem Turn.setCell {S : Nat → Prop} {a w : World} (h : Turn S a w) (p : Addr) (hp : S p.block) (u : Value) : Turn S a (w.setCell p u) :=
  ⟨h.os, h.tape, h.output, by have := h.size; simpa [World.setCell] using this, fun k hk hn => by
    have hne : k ≠ p.block := fun e => hn (by rw [e]; exact hp)
    rw [Below.heap_setCell _ _ _ _ hne]; exact h.block k hk hn⟩
theorem Turn.below {S : Nat → Prop} {w w' : World} (h : Turn S w w') {B : Nat} (hB : B ≤ w.heap.size) (hs : ∀ k, S k → B ≤ k) : Below B w w' :=
  ⟨h.os, h.tape, h.output, h.size, fun k hk => h.block k (by omega) (fun e => by have := hs k e; omega)⟩
theorem Turn.of_below {w w' : World} (h : Below w.heap.size w w') (S : Nat → Prop) : Turn S w w' :=
  ⟨h.os, h.tape, h.output, h.size, fun k hk _ => h.block k hk⟩
theorem Turn.row {S : Nat → Prop} {w w' : World} (h : Turn S w w') {base e s n : Nat} {v : Value} {xs : List Value} (hr : w.ownsRow base e s v n xs) (hs : ∀ k, v.ownBlock = some k → ¬ S k) : w'.ownsRow base e s v n xs := by
  refine ⟨hr.1, ?_⟩
  rcases hr.2 with hn | ⟨g, cap, cur, rfl, hb, hgg, rest⟩
  · exact .inl hn
  · refine .inr ⟨g, cap, cur, rfl, hb, ?_, rest⟩
    rw [h.block g (Array.getElem?_eq_some_iff.1 hgg).1 (hs g rfl)]
    exact hgg

/-- A table: its bytes, and where names begin. -/
structure TB where
  b : List Int
  m : ByteArray → Option Int

def T0 : TB := ⟨[0], mput (fun _ => none) ByteArray.empty 0⟩
def TB.at' (T : TB) (s : ByteArray) : Int := (T.m s).getD T.b.length
def TB.put (T : TB) (s : ByteArray) : TB := if (T.m s).isSome then T else ⟨T.b ++ bts s ++ [0], mput T.m s T.b.length⟩

/-- The blocks that a table may turn. -/
def TS (w : World) (base tp mb : Nat) (k : Nat) : Prop := k = tp ∨ k = mb ∨ (base ≤ k ∧ ∃ cur fz, w.heap[k]? = some (.cells cur 5 fz))

theorem own_nm {w : World} {base mb n : Nat} {v : Value} {xs : List Int} {D : DataW Value} (h : Own w base v xs) (hm : w.ownsMap Try.prog 9 RV mb n D) : some mb ≠ v.ownBlock := by
  intro e
  obtain ⟨es, clock, hb, _⟩ := hm
  rcases h.2 with ⟨hv, _⟩ | ⟨g1, c1, cur1, hv, _, hg1, _⟩
  · rw [hv] at e; cases e
  · rw [hv] at e
    simp only [Value.ownBlock, Option.some.injEq] at e
    subst e
    rw [hg1] at hb
    cases hb
theorem own_five {w : World} {base k : Nat} {v : Value} {xs : List Int} (h : Own w base v xs) (hk : v.ownBlock = some k) : base ≤ k ∧ ∃ cur fz, w.heap[k]? = some (.cells cur 5 fz) := by
  rcases h.2 with ⟨hv, _⟩ | ⟨g1, c1, cur1, hv, hb, hg1, _⟩
  · rw [hv] at hk; cases hk
  · rw [hv] at hk
    simp only [Value.ownBlock, Option.some.injEq] at hk
    subst hk
    exact ⟨hb, _, _, hg1⟩

end Go.Proofs.Ytojiomkinhnodaa
