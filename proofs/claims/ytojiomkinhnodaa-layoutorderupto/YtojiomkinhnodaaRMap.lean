/- A map of names to structs, in memory; rows of structs of the call's own. -/
import Derived.Test.YtojiomkinhnodaaRPlain
import Derived.Maps.RangeWalk
import Derived.Sort.KeysCollected
import Derived.Sort.OwnSorted
import Derived.Maps.AppendAt
namespace Go.Proofs.Ytojiomkinhnodaa
open Go.ChangeShapes Go.WideShapes Go.ChangeAt Go.RowKit Go.Maps
set_option linter.unusedVariables false
set_option linter.unusedSimpArgs false

/-- The map D holds just what m says. -/
structure InvV {α : Type} (val : α → Value) (D : DataW Value) (m : ByteArray → Option α) : Prop where
  is : IsMap D
  has' : ∀ t, has D (kl t) = (m t).isSome
  at' : ∀ t v, m t = some v → ∀ z, D.atKey (kl t) z = .held (val v)
theorem InvV.none {α : Type} (val : α → Value) : InvV val (.map []) (fun _ => Option.none) :=
  ⟨isMap_empty, fun t => by simp [has], fun t v h => by cases h⟩
theorem InvV.put {α : Type} {val : α → Value} {D : DataW Value} {m : ByteArray → Option α} (h : InvV val D m) (s : ByteArray) (v : α) : InvV val (D.put (kl s) (.held (val v))) (putN m s v) := by
  refine ⟨h.is.put _ _, fun t => ?_, fun t u hu z => ?_⟩
  · unfold putN
    by_cases e : t = s
    · subst e
      rw [if_pos rfl, has_put_same h.is (kl_key _)]; rfl
    · have e' : kl t ≠ kl s := fun h => e (kl_inj h)
      rw [if_neg e, has_put_other e', h.has' t]
  · unfold putN at hu
    by_cases e : t = s
    · subst e
      rw [if_pos rfl] at hu
      cases hu
      exact atKey_put_same h.is (kl_key _) _ _
    · have e' : kl t ≠ kl s := fun h => e (kl_inj h)
      rw [if_neg e] at hu
      rw [atKey_put_other e']
      exact h.at' t u hu z
theorem InvV.get {α : Type} {val : α → Value} {D : DataW Value} {m : ByteArray → Option α} (h : InvV val D m) (s : ByteArray) (z : α) : D.atKey (kl s) (.held (val z)) = .held (val ((m s).getD z)) := by
  cases hm : m s with
  | none => rw [atKey_of_not_has (by rw [h.has' s, hm]; rfl)]; rfl
  | some v => exact h.at' s v hm _

/-- The map of block b says what m says; at most L names. -/
structure Mp {α : Type} (val : α → Value) (w : World) (b L : Nat) (m : ByteArray → Option α) : Prop where
  own : ∃ n D, n ≤ L ∧ w.ownsMap Try.prog 9 RV b n D ∧ InvV val D m
section
variable {α : Type} {val : α → Value} {w w' : World} {b L : Nat} {m : ByteArray → Option α}
theorem Mp.new (w : World) : Mp val (w.alloc (.map #[] 0)) w.heap.size 0 (fun _ => none) := ⟨0, .map [], Nat.le_refl _, World.ownsMap_made _ _ _ _, InvV.none val⟩
theorem Mp.lt (h : Mp val w b L m) : b < w.heap.size := by obtain ⟨n, D, _, h, _⟩ := h.own; exact h.lt
theorem Mp.kept {row : Option Nat} (h : Mp val w b L m) (hg : w.grownBy w' row) (hne : some b ≠ row) : Mp val w' b L m := by
  obtain ⟨n, D, h1, h2, h3⟩ := h.own
  exact ⟨n, D, h1, h2.kept hg hne, h3⟩
theorem Mp.turn {S : Nat → Prop} (h : Mp val w b L m) (ht : Turn S w w') (hs : ¬ S b) : Mp val w' b L m := by
  obtain ⟨n, D, h1, ⟨es, clock, hb, r⟩, h3⟩ := h.own
  exact ⟨n, D, h1, ⟨es, clock, (ht.block b (Array.getElem?_eq_some_iff.1 hb).1 hs).trans hb, r⟩, h3⟩
theorem Mp.below {B : Nat} (h : Mp val w b L m) (hb : Below B w w') (hB : b < B) : Mp val w' b L m := by
  obtain ⟨n, D, h1, ⟨es, clock, hc, r⟩, h3⟩ := h.own
  exact ⟨n, D, h1, ⟨es, clock, (hb.block b hB).trans hc, r⟩, h3⟩
theorem Mp.alloc (h : Mp val w b L m) (o : Obj) : Mp val (w.alloc o) b L m := h.kept (World.grownBy_alloc w o none) (by simp)
theorem Mp.mono (h : Mp val w b L m) {L' : Nat} (hl : L ≤ L') : Mp val w b L' m := by
  obtain ⟨n, D, h1, h2, h3⟩ := h.own
  exact ⟨n, D, by omega, h2, h3⟩

/-- m[s], without 'ok'. -/
theorem wpList_lookV {ops : Array Oper} {rest : List Oper} {o : Oper} {a : Act} {Q : Exit → Act → World → Prop} (hg : o.guard = none) (x y : Operand) (t : TypeId) (hop : o.op = Op.lookup t x y false)
    (e : TypeId) (ht : Try.prog.underlying t = some (.map 9 e)) {z : α} (hz : (zeroValue e).run Try.prog w = .ok (val z) w) (hm : a.eval x = .map (some b)) (hM : Mp val w b L m) {s : ByteArray} (hx : a.eval y = .string s) (hs : s.size ≤ maxLen)
    (hK : wpList Try.prog ops Q rest (a.put o.dst (val ((m s).getD z))) w) : wpList Try.prog ops Q (o :: rest) a w := by
  obtain ⟨n, D, _, hown, hI⟩ := hM.own
  refine wpList_plain hg fun K' hK' => ?_
  obtain ⟨v, ps, hrun, hv⟩ := hown.lookup law9 ht hz (show RV (val z) = some (.held (val z), []) from rfl) (key9 hs)
  have e : v = val ((m s).getD z) := held_inj hv (hI.get s z)
  subst e
  unfold Oper.wp
  simp [execOp, hop, hm, hx, hrun, Result.andThen]
  exact hK' _ _ hK
/-- m[s] = v. -/
theorem wpList_putV {ops : Array Oper} {rest : List Oper} {o : Oper} {a : Act} {Q : Exit → Act → World → Prop} (hg : o.guard = none) (x y v : Operand) (t : TypeId) (hop : o.op = Op.mapUpdate t x y v)
    (e : TypeId) (ht : Try.prog.underlying t = some (.map 9 e)) (hm : a.eval x = .map (some b)) (hM : Mp val w b L m) (hL : L < maxLen) {s : ByteArray} (hx : a.eval y = .string s) (hs : s.size ≤ maxLen) {u : α} (hv : a.eval v = val u)
    (hK : ∀ w', Mp val w' b (L + 1) (putN m s u) → w.grownBy w' (some b) → wpList Try.prog ops Q rest (a.put o.dst undef) w') : wpList Try.prog ops Q (o :: rest) a w := by
  obtain ⟨n, D, hn, hown, hI⟩ := hM.own
  refine wpList_mapUpdate_own w hg x y v t hop 9 e law9 ht RV b n D hm hown (by omega) _ _ (kl s) hx hv (key9 hs) (.held (val u)) [] rfl ?_
  intro w' h1 h2
  exact hK w' ⟨n + 1, _, by omega, h1, hI.put s u⟩ h2
end

/-- The rows met so far. -/
structure Coll {α : Type} (m : ByteArray → Option α) (left : Lit → Bool) (ss : List (ByteArray × α)) : Prop where
  nd : (ss.map (·.1)).Nodup
  mem : ∀ t v, (t, v) ∈ ss ↔ m t = some v ∧ left (kl t) = false
theorem Coll.start {α : Type} {val : α → Value} {D : DataW Value} {m : ByteArray → Option α} (h : InvV val D m) : Coll m (has D) [] :=
  ⟨by simp, fun t v => by simp [h.has' t]; intro e; simp [e]⟩
theorem Coll.step {α : Type} {val : α → Value} {D : DataW Value} {m : ByteArray → Option α} {left : Lit → Bool} {ss : List (ByteArray × α)} (h : InvV val D m) (hC : Coll m left ss) {t : ByteArray} {c : Value} (hl : left (kl t) = true) (hat : ∀ zd, D.atKey (kl t) zd = .held c) :
    ∃ v, m t = some v ∧ c = val v ∧ Coll m (fun z => left z && !z.sameKey (kl t)) (ss ++ [(t, v)]) := by
  have hh : has D (kl t) = true := has_true_of_atKey hat
  rw [h.has' t] at hh
  obtain ⟨v, hv⟩ := Option.isSome_iff_exists.1 hh
  have e := (h.at' t v hv (.held c)).symm.trans (hat _)
  injection e with e
  refine ⟨v, hv, e.symm, ?_, fun s u => ?_⟩
  · rw [List.map_append]
    refine List.nodup_append.2 ⟨hC.nd, by simp, fun a ha b hb => ?_⟩
    simp at hb
    subst hb
    rintro rfl
    obtain ⟨⟨x, y⟩, hx, rfl⟩ := List.mem_map.1 ha
    have := ((hC.mem x y).1 hx).2
    rw [hl] at this
    cases this
  · rw [List.mem_append, hC.mem s u]
    by_cases e : s = t
    · subst e
      have : (kl s).sameKey (kl s) = true := WideAt.sameKey_self (kl_key s)
      simp [hl, hv, this]
      exact eq_comm
    · have : (kl s).sameKey (kl t) = false := by
        cases h : (kl s).sameKey (kl t)
        · rfl
        · exact absurd (kl_inj (WideAt.sameKey_eq h)) e
      simp [this, e]

/-- Rows of structs of k cells, of the call's own. -/
def OwnR {α : Type} (e k : Nat) (enc : α → List Value) (w : World) (base : Nat) (v : Value) (l : List α) : Prop := w.ownsRow base e k v l.length (l.flatMap enc)
section
variable {α : Type} {e k : Nat} {enc : α → List Value} {w : World} {base : Nat} {v : Value} {l : List α}
theorem flat_len (hk : ∀ x, (enc x).length = k) : ∀ l : List α, (l.flatMap enc).length = l.length * k
  | [] => by simp
  | x :: r => by rw [List.flatMap_cons, List.length_append, flat_len hk r, hk, List.length_cons, Nat.add_mul]; omega
theorem flat_at (hk : ∀ x, (enc x).length = k) : ∀ (l : List α) (i j : Nat) (hi : i < l.length), j < k → (l.flatMap enc)[i * k + j]? = (enc l[i])[j]?
  | x :: r, 0, j, _, hj => by
    rw [List.flatMap_cons, List.getElem?_append_left (by rw [hk]; omega)]
    simp
  | x :: r, i + 1, j, hi, hj => by
    rw [List.flatMap_cons, List.getElem?_append_right (by rw [hk, Nat.add_mul]; omega), hk]
    have : (i + 1) * k + j - k = i * k + j := by rw [Nat.add_mul]; omega
    rw [this, flat_at hk r i j (by simpa using hi) hj]
    simp
theorem OwnR.nil (w : World) (base : Nat) : OwnR e k enc w base (.slice none 0 0) [] := World.ownsRow_nil _ _ _ _
/-- What a row of the call's own reads as. -/
theorem OwnR.any (hk : ∀ x, (enc x).length = k) (h : OwnR e k enc w base v l) :
    ∃ ao cap, v = .slice ao l.length cap ∧ l.length ≤ cap ∧ cap ≤ 9223372036854775807 ∧ (ao = none → l = [] ∧ cap = 0) ∧ (l = [] ∨ ∃ g, ao = some ⟨g, 0, none⟩ ∧ base ≤ g ∧ g < w.heap.size ∧ ∀ i (hi : i < l.length), ∀ j, j < k → w.cell? ⟨g, i * k + j, none⟩ = (enc l[i])[j]?) := by
  rcases h.2 with ⟨hv, hn⟩ | ⟨g, cap, cur, hv, hb, hg, h1, h2, h3⟩
  · have hl : l = [] := List.eq_nil_of_length_eq_zero hn
    subst hl
    exact ⟨none, 0, hv, Nat.le_refl _, by omega, fun _ => ⟨rfl, rfl⟩, .inl rfl⟩
  · refine ⟨_, cap, hv, h1, by unfold maxLen at h2; omega, (fun e => by cases e), ?_⟩
    right
    refine ⟨g, rfl, hb, (Array.getElem?_eq_some_iff.1 hg).1, fun i hi j hj => ?_⟩
    subst hv
    have hlt : i * k + j < l.length * k := by
      have := Nat.mul_le_mul_right k (show i + 1 ≤ l.length from hi)
      rw [Nat.add_mul, Nat.one_mul] at this
      omega
    rw [h.cellAt _ hlt]
    exact flat_at hk l i j hi hj
/-- append of one struct. -/
theorem append_R {ops : Array Oper} {rest : List Oper} {o : Oper} {a : Act} {Q : Exit → Act → World → Prop} (hgd : o.guard = none) (s x : Operand) (t : TypeId) (z : Value) (bytes : Nat)
    (ho : o.op = .call { callee := .builtin .append, args := #[s, x], argTypes := #[t, t] }) (ht : Try.prog.underlying t = some (.slice e)) (hinf : (Try.prog.info? e).map (fun i => (i.zero, i.size, i.bytes)) = some (some z, k, bytes)) (hz1 : z.cells.size = k) (hk0 : 0 < k) (hk : ∀ x, (enc x).length = k) (h1 : ∀ x, ∀ v ∈ enc x, v.oneCell' = true)
    (hs : a.eval s = v) (hown : OwnR e k enc w base v l) (y : α) {q : Nat} (hx : a.eval x = .slice (some ⟨q, 0, none⟩) 1 1) (hq : q = w.heap.size) {cs : Array Value} (hcs : cs = (enc y).toArray)
    (hn : l.length + 1 ≤ maxLen) (hb : (l.length + 1) * bytes ≤ 140737488355328) (hbase : base ≤ w.heap.size)
    (h : ∀ v' w', OwnR e k enc w' base v' (l ++ [y]) → Step w w' v v' → wpList Try.prog ops Q rest (a.put o.dst v') w') :
    wpList Try.prog ops Q (o :: rest) a (w.alloc (.cells cs e)) := by
  subst hq hcs
  obtain ⟨i0, hi, hz0, hz1', hz2⟩ := info_parts hinf
  refine wpList_append_own_at _ hgd s x t ho base e i0 z k bytes ht hi hz0 hz1' hz2 hz1 hk0 v l.length _ hs (hown.alloc _) ⟨w.heap.size, 0, none⟩ 1 1 (enc y) hx (by rw [hk]; omega) ?_ (h1 y) hn hb (by simp; omega) ?_
  · intro j u hj
    have hjk : j < (enc y).length := (List.getElem?_eq_some_iff.1 hj).1
    rw [addr_add, Nat.zero_add]
    simp only [World.cell?, heap_alloc_new]
    simpa using hj
  · intro v' w' hown' hgrow _ hat
    refine h v' w' ?_ ⟨((Turn.refl _ w).alloc _).grown hgrow (fun k _ e => e), fun k hk => ?_⟩
    · unfold OwnR
      rw [List.flatMap_append]
      simpa using hown'
    · rcases hat with e | e
      · rw [e] at hk; exact .inl hk
      · rw [e] at hk
        simp at hk
        right; omega
end
end Go.Proofs.Ytojiomkinhnodaa
